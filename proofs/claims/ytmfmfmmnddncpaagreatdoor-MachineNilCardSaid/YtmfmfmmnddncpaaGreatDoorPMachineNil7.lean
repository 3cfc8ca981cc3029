/-
  Parts of the run of viewportlaw18.MachineNil, in order: what each of these calls, and loops from a state on, gives, for each memory that holds what it looks at. No condition.
-/
import Derived.Test.YtmfmfmmnddncpaaGreatDoorAx9
import Derived.Test.YtmfmfmmnddncpaaGreatDoorKeys
import Derived.Test.YtmfmfmmnddncpaaGreatDoorTabsMachineNil
import Derived.Test.YtmfmfmmnddncpaaGreatDoorProg
import Derived.KernelRfl
import Derived.Test.YtmfmfmmnddncpaaGreatDoorPMachineNil6
set_option linter.unusedSimpArgs false
set_option linter.unusedVariables false
namespace Go.Proofs.YtmfmfmmnddncpaaGreatDoor.machineNil
open Go.Proofs Go.Proofs.YtmfmfmmnddncpaaGreatDoor Ax

noncomputable def b7_0 : LBlk := ⟨14143, .cells 156 [(S 14110 0 1 1180591620717411303425), (S 14142 0 1 1180591620717411303425)]⟩
noncomputable def e9243 : Entry := ⟨68, [(.agg #[(I 1), (I 1), (I 1), (S 4 0 2 2)])], [⟨3, .cells 3 [(I 0), (I 1)]⟩, ⟨4, .cells 103 [(I 0), (S 3 0 2 2), (I 0), (.slice none 0 0)]⟩], 13311, (.tuple #[(.agg #[(I 0), (I 0), (I 0), (.string ⟨#[]⟩)]), T]), [], 13707⟩
set_option maxRecDepth 1000000 in
theorem o9243 : EntryOK Tryz.prog e9243 := Ax.partCQ (ql := quiets) (K := sks) (l := [e9594]) (m := []) mixed quiets_ok sks_ok ⟨o9594, trivial⟩ trivial (by kernel_rfl)
noncomputable def e9068 : Entry := ⟨34, [(.agg #[(I 1), (I 1), (I 1), (S 4 0 2 2)])], [⟨3, .cells 3 [(I 0), (I 1)]⟩, ⟨4, .cells 103 [(I 0), (S 3 0 2 2), (I 0), (.slice none 0 0)]⟩], 13231, (.tuple #[(I 37448), T]), [], 13765⟩
set_option maxRecDepth 1000000 in
theorem o9068 : EntryOK Tryz.prog e9068 := Ax.partCQ (ql := quiets) (K := sks) (l := [e9243]) (m := []) mixed quiets_ok sks_ok ⟨o9243, trivial⟩ trivial (by kernel_rfl)
noncomputable def e10668 : Entry := ⟨74, [(.agg #[(I 1), (I 1), (I 1), (S 4 0 2 2)])], [⟨3, .cells 3 [(I 0), (I 1)]⟩, ⟨4, .cells 103 [(I 0), (S 3 0 2 2), (I 0), (.slice none 0 0)]⟩], 13893, (S 14016 0 1 1), [⟨14017, .cells 9 [(.string ⟨#[255]⟩)]⟩, ⟨14016, .cells 156 [(S 14017 0 1 1)]⟩], 14069⟩
set_option maxRecDepth 1000000 in
theorem o10668 : EntryOK Tryz.prog e10668 := Ax.partCQ (ql := quiets) (K := sks) (l := []) (m := []) mixed quiets_ok sks_ok trivial trivial (by kernel_rfl)
noncomputable def e10318 : Entry := ⟨35, [(.agg #[(I 1), (I 1), (I 1), (S 4 0 2 2)])], [⟨3, .cells 3 [(I 0), (I 1)]⟩, ⟨4, .cells 103 [(I 0), (S 3 0 2 2), (I 0), (.slice none 0 0)]⟩], 13765, (.tuple #[(.agg #[(S 14143 0 2 1180591620717411303425)]), (.agg #[(I 0), (I 0), (I 0), (.string ⟨#[]⟩)]), (I 0)]), [⟨14110, .cells 9 [(.string ⟨#[0]⟩)]⟩, ⟨14142, .cells 9 [(.string ⟨#[255]⟩)]⟩, b7_0], 14158⟩
set_option maxRecDepth 1000000 in
theorem o10318 : EntryOK Tryz.prog e10318 := Ax.partCQ (ql := quiets) (K := sks) (l := [e10668]) (m := []) mixed quiets_ok sks_ok ⟨o10668, trivial⟩ trivial (by kernel_rfl)
noncomputable def e11282 : Entry := ⟨37, [(.agg #[(I 1), (I 1), (I 1), (S 4 0 2 2)])], [⟨3, .cells 3 [(I 0), (I 1)]⟩, ⟨4, .cells 103 [(I 0), (S 3 0 2 2), (I 0), (.slice none 0 0)]⟩], 14176, (S 14355 0 1 1180591620717411303425), [⟨14353, .cells 4 [F, T]⟩, ⟨14355, .cells 157 [(S 14353 0 2 2)]⟩], 14356⟩
set_option maxRecDepth 1000000 in
theorem o11282 : EntryOK Tryz.prog e11282 := Ax.partCQ (ql := quiets) (K := sks) (l := []) (m := []) mixed quiets_ok sks_ok trivial trivial (by kernel_rfl)

end Go.Proofs.YtmfmfmmnddncpaaGreatDoor.machineNil
