/-
  Parts of the run of viewportlaw18.MachineNil, in order: what each of these calls, and loops from a state on, gives, for each memory that holds what it looks at. No condition.
-/
import Derived.Test.YtmfmfmmnddncpaaGreatDoorAx9
import Derived.Test.YtmfmfmmnddncpaaGreatDoorKeys
import Derived.Test.YtmfmfmmnddncpaaGreatDoorTabsMachineNil
import Derived.Test.YtmfmfmmnddncpaaGreatDoorProg
import Derived.KernelRfl
import Derived.Test.YtmfmfmmnddncpaaGreatDoorPMachineNil1
import Derived.Test.YtmfmfmmnddncpaaGreatDoorPMachineNil3
import Derived.Test.YtmfmfmmnddncpaaGreatDoorPMachineNil4
import Derived.Test.YtmfmfmmnddncpaaGreatDoorPMachineNil5
set_option linter.unusedSimpArgs false
set_option linter.unusedVariables false
namespace Go.Proofs.YtmfmfmmnddncpaaGreatDoor.machineNil
open Go.Proofs Go.Proofs.YtmfmfmmnddncpaaGreatDoor Ax

noncomputable def e3439 : Entry := ⟨101, [(.agg #[(S 11137 0 768 1180591620717411303425), (S 8079 0 3 1180591620717411303425)])], [b2_6, ⟨8079, .cells 3 [O, (I 1), (I 0)]⟩], 11139, (.tuple #[(.agg #[(S 12755 0 768 1180591620717411303425), (S 12242 0 3 1180591620717411303425)]), (I 0)]), [b5_2, ⟨12242, .cells 3 [O, (I 1), (I 0)]⟩], 12756⟩
set_option maxRecDepth 1000000 in
theorem o3439 : EntryOK Tryz.prog e3439 := Ax.partCQ (ql := quiets) (K := sks) (l := []) (m := [g3503, g4281, g4995, g5599, g7159]) mixed quiets_ok sks_ok trivial ⟨h3503, h4281, h4995, h5599, h7159, trivial⟩ (by kernel_rfl)
noncomputable def e235 : Entry := ⟨64, [(S 184 0 2 1180591620717411303425)], [⟨91, .cells 3 [(I 0)]⟩, ⟨103, .cells 291 [(I 2), (.int .u64 (.ofNat 0)), (.int .u64 (.ofNat 576460743713488896)), (.int .u64 (.ofNat 0)), (.int .u64 (.ofNat 0)), (.slice none 0 0), (I 6), (.int .u64 (.ofNat 0)), (.int .u64 (.ofNat 0)), (.int .u64 (.ofNat 0)), (.int .u64 (.ofNat 0)), (S 91 0 1 1)]⟩, ⟨155, .cells 3 [(I 0)]⟩, ⟨167, .cells 291 [(I 2), (.int .u64 (.ofNat 4294967296)), (.int .u64 (.ofNat 0)), (.int .u64 (.ofNat 0)), (.int .u64 (.ofNat 0)), (.slice none 0 0), (I 6), (.int .u64 (.ofNat 0)), (.int .u64 (.ofNat 0)), (.int .u64 (.ofNat 0)), (.int .u64 (.ofNat 0)), (S 155 0 1 1)]⟩, ⟨184, .cells 142 [(S 103 0 2 1180591620717411303430), (S 167 0 2 1180591620717411303430)]⟩], 187, (.tuple #[(.agg #[(S 12755 0 768 1180591620717411303425), (S 12242 0 3 1180591620717411303425)]), (I 0)]), [b5_2, ⟨12242, .cells 3 [O, (I 1), (I 0)]⟩], 12756⟩
set_option maxRecDepth 1000000 in
theorem o235 : EntryOK Tryz.prog e235 := Ax.partCQ (ql := quiets) (K := sks) (l := [e399, e3439]) (m := [g368, g380, g385, g397]) mixed quiets_ok sks_ok ⟨o399, o3439, trivial⟩ ⟨h368, h380, h385, h397, trivial⟩ (by kernel_rfl)
noncomputable def e5 : Entry := ⟨32, [(S 2 0 2 2)], [⟨2, .cells 101 [(.string ⟨#[119, 111, 114, 100]⟩), (.string ⟨#[91, 97, 45, 122, 93, 43]⟩), F, (.string ⟨#[103, 97, 112]⟩), (.string ⟨#[91, 32, 93, 43]⟩), T]⟩], 6, (.tuple #[(.agg #[(S 12755 0 768 1180591620717411303425), (S 12242 0 3 1180591620717411303425), (S 186 0 2 1180591620717411303425), (I 1)]), (I 2), (I 0)]), [b5_2, ⟨12242, .cells 3 [O, (I 1), (I 0)]⟩, ⟨186, .cells 3 [(I 0), O]⟩], 12756⟩
set_option maxRecDepth 1000000 in
theorem o5 : EntryOK Tryz.prog e5 := Ax.partCQ (ql := quiets) (K := sks) (l := [e235]) (m := [g15, g94, g156, g183]) mixed quiets_ok sks_ok ⟨o235, trivial⟩ ⟨h15, h94, h156, h183, trivial⟩ (by kernel_rfl)
noncomputable def e8460 : Entry := ⟨74, [(.agg #[(I 1), (I 1), (I 1), (S 4 0 2 2)])], [⟨3, .cells 3 [(I 0), (I 1)]⟩, ⟨4, .cells 103 [(I 0), (S 3 0 2 2), (I 0), (.slice none 0 0)]⟩], 12964, (S 13087 0 1 1), [⟨13088, .cells 9 [(.string ⟨#[255]⟩)]⟩, ⟨13087, .cells 156 [(S 13088 0 1 1)]⟩], 13140⟩
set_option maxRecDepth 1000000 in
theorem o8460 : EntryOK Tryz.prog e8460 := Ax.partCQ (ql := quiets) (K := sks) (l := []) (m := []) mixed quiets_ok sks_ok trivial trivial (by kernel_rfl)
noncomputable def e8109 : Entry := ⟨68, [(.agg #[(I 1), (I 1), (I 1), (S 4 0 2 2)])], [⟨3, .cells 3 [(I 0), (I 1)]⟩, ⟨4, .cells 103 [(I 0), (S 3 0 2 2), (I 0), (.slice none 0 0)]⟩], 12834, (.tuple #[(.agg #[(I 0), (I 0), (I 0), (.string ⟨#[]⟩)]), T]), [], 13230⟩
set_option maxRecDepth 1000000 in
theorem o8109 : EntryOK Tryz.prog e8109 := Ax.partCQ (ql := quiets) (K := sks) (l := [e8460]) (m := []) mixed quiets_ok sks_ok ⟨o8460, trivial⟩ trivial (by kernel_rfl)
noncomputable def e9594 : Entry := ⟨74, [(.agg #[(I 1), (I 1), (I 1), (S 4 0 2 2)])], [⟨3, .cells 3 [(I 0), (I 1)]⟩, ⟨4, .cells 103 [(I 0), (S 3 0 2 2), (I 0), (.slice none 0 0)]⟩], 13441, (S 13564 0 1 1), [⟨13565, .cells 9 [(.string ⟨#[255]⟩)]⟩, ⟨13564, .cells 156 [(S 13565 0 1 1)]⟩], 13617⟩
set_option maxRecDepth 1000000 in
theorem o9594 : EntryOK Tryz.prog e9594 := Ax.partCQ (ql := quiets) (K := sks) (l := []) (m := []) mixed quiets_ok sks_ok trivial trivial (by kernel_rfl)

end Go.Proofs.YtmfmfmmnddncpaaGreatDoor.machineNil
