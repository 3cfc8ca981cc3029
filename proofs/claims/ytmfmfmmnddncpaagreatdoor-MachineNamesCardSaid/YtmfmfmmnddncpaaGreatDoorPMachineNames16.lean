/-
  Parts of the run of viewportlaw18.MachineNames, in order: what each of these calls, and loops from a state on, gives, for each memory that holds what it looks at. No condition.
-/
import Derived.Test.YtmfmfmmnddncpaaGreatDoorAx9
import Derived.Test.YtmfmfmmnddncpaaGreatDoorKeys
import Derived.Test.YtmfmfmmnddncpaaGreatDoorTabsMachineNames
import Derived.Test.YtmfmfmmnddncpaaGreatDoorProg
import Derived.KernelRfl
import Derived.Test.YtmfmfmmnddncpaaGreatDoorPMachineNames13
import Derived.Test.YtmfmfmmnddncpaaGreatDoorPMachineNames14
import Derived.Test.YtmfmfmmnddncpaaGreatDoorPMachineNames15
set_option linter.unusedSimpArgs false
set_option linter.unusedVariables false
namespace Go.Proofs.YtmfmfmmnddncpaaGreatDoor.machineNames
open Go.Proofs Go.Proofs.YtmfmfmmnddncpaaGreatDoor Ax

noncomputable def g25631 : LEntry := ⟨194, [false, true, false, true, true], 11, [(S 27109 0 768 1180591620717411303425), (I 3), U, U, F, O, (I 2), U, O, (S 27109 0 768 1180591620717411303425), (I 768), (I 411), T, (A 27109 410), O, O, O, O, (I 2), O, (I 2), (I 411), U, U, U, U, U, U, U], [], [b12_2], 28905, (.exit 0), [(S 27109 0 768 1180591620717411303425), (I 3), U, U, F, O, (I 2), U, O, (S 27109 0 768 1180591620717411303425), (I 768), (I 768), F, (A 27109 767), O, O, O, O, (I 2), O, (I 2), (I 768), U, U, U, U, U, U, U], [b12_2], 28905, 28905⟩
set_option maxRecDepth 1000000 in
theorem h25631 : LOK Tryz.prog g25631 := Ax.partLQ (ql := quiets) (K := sks) (l := []) (m := []) mixed quiets_ok sks_ok trivial trivial (by kernel_rfl)
noncomputable def g25281 : LEntry := ⟨194, [false, true, false, true, true], 11, [(S 27109 0 768 1180591620717411303425), (I 3), U, U, F, O, (I 1), U, O, (S 27109 0 768 1180591620717411303425), (I 768), (I 61), T, (A 27109 60), O, O, O, O, (I 1), O, (I 1), (I 61), U, U, U, U, U, U, U], [], [b12_2], 28905, (.exit 0), [(S 27109 0 768 1180591620717411303425), (I 3), U, U, F, O, (I 2), U, O, (S 27109 0 768 1180591620717411303425), (I 768), (I 768), F, (A 27109 767), O, O, O, O, (I 2), O, (I 2), (I 768), U, U, U, U, U, U, U], [b12_2], 28905, 28905⟩
set_option maxRecDepth 1000000 in
theorem h25281 : LOK Tryz.prog g25281 := Ax.partLQ (ql := quiets) (K := sks) (l := []) (m := [g25631]) mixed quiets_ok sks_ok trivial ⟨h25631, trivial⟩ (by kernel_rfl)
noncomputable def e23497 : Entry := ⟨15, [(A 28522 0), (.string ⟨#[97]⟩), (I 0), (I 0), (.slice none 0 0)], [b12_2, ⟨26596, .cells 3 [O, (I 1), (I 0)]⟩, ⟨14540, .cells 3 [(I 0), O]⟩, ⟨28528, .cells 3 [(I 0), (I 1)]⟩, b15_1, ⟨28464, .cells 9 [(.string ⟨#[0]⟩)]⟩, ⟨28496, .cells 9 [(.string ⟨#[255]⟩)]⟩, b14_0, ⟨28707, .cells 4 [F, T]⟩, ⟨28709, .cells 157 [(S 28707 0 2 2)]⟩, b15_3], 28710, (.tuple #[(S 28950 0 5 1180591620717411303426), (S 28976 0 3 1180591620717411303432), (I 0)]), [⟨28950, .cells 53 [(I 2), (I 2), (I 1), (I 2), (I 1), (I 2), (I 1), (I 2), (I 1), (I 2)]⟩, ⟨28889, .cells 3 [(I 1), (I 2)]⟩, ⟨28976, .cells 57 [(I 1), (I 2), (I 0), (I 0), (I 1), (I 2), (S 28889 0 2 1180591620717411303425), (.int .u64 (.ofNat 0)), (I 0), (I 3), (I 0), (I 0), (I 1), (I 2), (.slice none 0 0), (.int .u64 (.ofNat 0)), (I 1), (I 2), (I 1), (I 1), (I 1), (I 2), (.slice none 0 0), (.int .u64 (.ofNat 0))]⟩], 28977⟩
set_option maxRecDepth 1000000 in
theorem o23497 : EntryOK Tryz.prog e23497 := Ax.partCQ (ql := quiets) (K := sks) (l := [e23552]) (m := [g25281]) mixed quiets_ok sks_ok ⟨o23552, trivial⟩ ⟨h25281, trivial⟩ (by kernel_rfl)
noncomputable def e11749 : Entry := ⟨5, [], [], 14355, T, [], 28983⟩
set_option maxRecDepth 1000000 in
theorem o11749 : EntryOK Tryz.prog e11749 := Ax.partCQ (ql := quiets) (K := sks) (l := [e11752, e19856, e20815, e22065, e23029, e23497]) (m := []) mixed quiets_ok sks_ok ⟨o11752, o19856, o20815, o22065, o23029, o23497, trivial⟩ trivial (by kernel_rfl)
noncomputable def g26549 : LEntry := ⟨194, [false, true, false, true, true], 11, [(S 12754 0 768 1180591620717411303425), (I 3), U, U, F, O, (I 2), U, O, (S 12754 0 768 1180591620717411303425), (I 768), (I 411), T, (A 12754 410), O, O, O, O, (I 2), O, (I 2), (I 411), U, U, U, U, U, U, U], [], [b5_2], 29040, (.exit 0), [(S 12754 0 768 1180591620717411303425), (I 3), U, U, F, O, (I 2), U, O, (S 12754 0 768 1180591620717411303425), (I 768), (I 768), F, (A 12754 767), O, O, O, O, (I 2), O, (I 2), (I 768), U, U, U, U, U, U, U], [b5_2], 29040, 29040⟩
set_option maxRecDepth 1000000 in
theorem h26549 : LOK Tryz.prog g26549 := Ax.partLQ (ql := quiets) (K := sks) (l := []) (m := []) mixed quiets_ok sks_ok trivial trivial (by kernel_rfl)

end Go.Proofs.YtmfmfmmnddncpaaGreatDoor.machineNames
