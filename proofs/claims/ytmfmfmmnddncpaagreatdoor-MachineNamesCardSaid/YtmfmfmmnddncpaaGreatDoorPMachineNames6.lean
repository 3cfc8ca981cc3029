/-
  Parts of the run of viewportlaw18.MachineNames, in order: what each of these calls, and loops from a state on, gives, for each memory that holds what it looks at. No condition.
-/
import Derived.Test.YtmfmfmmnddncpaaGreatDoorAx9
import Derived.Test.YtmfmfmmnddncpaaGreatDoorKeys
import Derived.Test.YtmfmfmmnddncpaaGreatDoorTabsMachineNames
import Derived.Test.YtmfmfmmnddncpaaGreatDoorProg
import Derived.KernelRfl
import Derived.Test.YtmfmfmmnddncpaaGreatDoorPMachineNames1
import Derived.Test.YtmfmfmmnddncpaaGreatDoorPMachineNames3
import Derived.Test.YtmfmfmmnddncpaaGreatDoorPMachineNames4
import Derived.Test.YtmfmfmmnddncpaaGreatDoorPMachineNames5
set_option linter.unusedSimpArgs false
set_option linter.unusedVariables false
namespace Go.Proofs.YtmfmfmmnddncpaaGreatDoor.machineNames
open Go.Proofs Go.Proofs.YtmfmfmmnddncpaaGreatDoor Ax

noncomputable def b6_0 : LBlk := ⟨1, .cells 101 [(.string ⟨#[119, 111, 114, 100]⟩), (.string ⟨#[91, 97, 45, 122, 93, 43]⟩), F, (.string ⟨#[103, 97, 112]⟩), (.string ⟨#[91, 32, 93, 43]⟩), T]⟩
noncomputable def e3438 : Entry := ⟨101, [(.agg #[(S 11136 0 768 1180591620717411303425), (S 8078 0 3 1180591620717411303425)])], [b2_6, ⟨8078, .cells 3 [O, (I 1), (I 0)]⟩], 11138, (.tuple #[(.agg #[(S 12754 0 768 1180591620717411303425), (S 12241 0 3 1180591620717411303425)]), (I 0)]), [b5_2, ⟨12241, .cells 3 [O, (I 1), (I 0)]⟩], 12755⟩
set_option maxRecDepth 1000000 in
theorem o3438 : EntryOK Tryz.prog e3438 := Ax.partCQ (ql := quiets) (K := sks) (l := []) (m := [g3502, g4280, g4994, g5598, g7158]) mixed quiets_ok sks_ok trivial ⟨h3502, h4280, h4994, h5598, h7158, trivial⟩ (by kernel_rfl)
noncomputable def e234 : Entry := ⟨64, [(S 183 0 2 1180591620717411303425)], [⟨90, .cells 3 [(I 0)]⟩, ⟨102, .cells 291 [(I 2), (.int .u64 (.ofNat 0)), (.int .u64 (.ofNat 576460743713488896)), (.int .u64 (.ofNat 0)), (.int .u64 (.ofNat 0)), (.slice none 0 0), (I 6), (.int .u64 (.ofNat 0)), (.int .u64 (.ofNat 0)), (.int .u64 (.ofNat 0)), (.int .u64 (.ofNat 0)), (S 90 0 1 1)]⟩, ⟨154, .cells 3 [(I 0)]⟩, ⟨166, .cells 291 [(I 2), (.int .u64 (.ofNat 4294967296)), (.int .u64 (.ofNat 0)), (.int .u64 (.ofNat 0)), (.int .u64 (.ofNat 0)), (.slice none 0 0), (I 6), (.int .u64 (.ofNat 0)), (.int .u64 (.ofNat 0)), (.int .u64 (.ofNat 0)), (.int .u64 (.ofNat 0)), (S 154 0 1 1)]⟩, ⟨183, .cells 142 [(S 102 0 2 1180591620717411303430), (S 166 0 2 1180591620717411303430)]⟩], 186, (.tuple #[(.agg #[(S 12754 0 768 1180591620717411303425), (S 12241 0 3 1180591620717411303425)]), (I 0)]), [b5_2, ⟨12241, .cells 3 [O, (I 1), (I 0)]⟩], 12755⟩
set_option maxRecDepth 1000000 in
theorem o234 : EntryOK Tryz.prog e234 := Ax.partCQ (ql := quiets) (K := sks) (l := [e398, e3438]) (m := [g367, g379, g384, g396]) mixed quiets_ok sks_ok ⟨o398, o3438, trivial⟩ ⟨h367, h379, h384, h396, trivial⟩ (by kernel_rfl)
noncomputable def e4 : Entry := ⟨32, [(S 1 0 2 2)], [b6_0], 5, (.tuple #[(.agg #[(S 12754 0 768 1180591620717411303425), (S 12241 0 3 1180591620717411303425), (S 185 0 2 1180591620717411303425), (I 1)]), (I 2), (I 0)]), [b5_2, ⟨12241, .cells 3 [O, (I 1), (I 0)]⟩, ⟨185, .cells 3 [(I 0), O]⟩], 12755⟩
set_option maxRecDepth 1000000 in
theorem o4 : EntryOK Tryz.prog e4 := Ax.partCQ (ql := quiets) (K := sks) (l := [e234]) (m := [g14, g93, g155, g182]) mixed quiets_ok sks_ok ⟨o234, trivial⟩ ⟨h14, h93, h155, h182, trivial⟩ (by kernel_rfl)
noncomputable def e8459 : Entry := ⟨74, [(.agg #[(I 1), (I 1), (I 1), (S 3 0 2 2)])], [⟨2, .cells 3 [(I 0), (I 1)]⟩, ⟨3, .cells 103 [(I 0), (S 2 0 2 2), (I 0), (.slice none 0 0)]⟩], 12963, (S 13086 0 1 1), [⟨13087, .cells 9 [(.string ⟨#[255]⟩)]⟩, ⟨13086, .cells 156 [(S 13087 0 1 1)]⟩], 13139⟩
set_option maxRecDepth 1000000 in
theorem o8459 : EntryOK Tryz.prog e8459 := Ax.partCQ (ql := quiets) (K := sks) (l := []) (m := []) mixed quiets_ok sks_ok trivial trivial (by kernel_rfl)
noncomputable def e8108 : Entry := ⟨68, [(.agg #[(I 1), (I 1), (I 1), (S 3 0 2 2)])], [⟨2, .cells 3 [(I 0), (I 1)]⟩, ⟨3, .cells 103 [(I 0), (S 2 0 2 2), (I 0), (.slice none 0 0)]⟩], 12833, (.tuple #[(.agg #[(I 0), (I 0), (I 0), (.string ⟨#[]⟩)]), T]), [], 13229⟩
set_option maxRecDepth 1000000 in
theorem o8108 : EntryOK Tryz.prog e8108 := Ax.partCQ (ql := quiets) (K := sks) (l := [e8459]) (m := []) mixed quiets_ok sks_ok ⟨o8459, trivial⟩ trivial (by kernel_rfl)
noncomputable def e9593 : Entry := ⟨74, [(.agg #[(I 1), (I 1), (I 1), (S 3 0 2 2)])], [⟨2, .cells 3 [(I 0), (I 1)]⟩, ⟨3, .cells 103 [(I 0), (S 2 0 2 2), (I 0), (.slice none 0 0)]⟩], 13440, (S 13563 0 1 1), [⟨13564, .cells 9 [(.string ⟨#[255]⟩)]⟩, ⟨13563, .cells 156 [(S 13564 0 1 1)]⟩], 13616⟩
set_option maxRecDepth 1000000 in
theorem o9593 : EntryOK Tryz.prog e9593 := Ax.partCQ (ql := quiets) (K := sks) (l := []) (m := []) mixed quiets_ok sks_ok trivial trivial (by kernel_rfl)

end Go.Proofs.YtmfmfmmnddncpaaGreatDoor.machineNames
