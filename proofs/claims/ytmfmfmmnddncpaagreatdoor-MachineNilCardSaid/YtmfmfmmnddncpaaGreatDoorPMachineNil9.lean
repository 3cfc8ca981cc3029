/-
  Parts of the run of viewportlaw18.MachineNil, in order: what each of these calls, and loops from a state on, gives, for each memory that holds what it looks at. No condition.
-/
import Derived.Test.YtmfmfmmnddncpaaGreatDoorAx9
import Derived.Test.YtmfmfmmnddncpaaGreatDoorKeys
import Derived.Test.YtmfmfmmnddncpaaGreatDoorTabsMachineNil
import Derived.Test.YtmfmfmmnddncpaaGreatDoorProg
import Derived.KernelRfl
import Derived.Test.YtmfmfmmnddncpaaGreatDoorPMachineNil8
set_option linter.unusedSimpArgs false
set_option linter.unusedVariables false
namespace Go.Proofs.YtmfmfmmnddncpaaGreatDoor.machineNil
open Go.Proofs Go.Proofs.YtmfmfmmnddncpaaGreatDoor Ax

noncomputable def g13884 : LEntry := ⟨194, [false, true, false, true, true], 11, [(S 12755 0 768 1180591620717411303425), (I 3), U, U, F, O, (I 2), U, O, (S 12755 0 768 1180591620717411303425), (I 768), (I 411), T, (A 12755 410), O, O, O, O, (I 2), O, (I 2), (I 411), U, U, U, U, U, U, U], [], [b8_0], 14551, (.exit 0), [(S 12755 0 768 1180591620717411303425), (I 3), U, U, F, O, (I 2), U, O, (S 12755 0 768 1180591620717411303425), (I 768), (I 768), F, (A 12755 767), O, O, O, O, (I 2), O, (I 2), (I 768), U, U, U, U, U, U, U], [b8_0], 14551, 14551⟩
set_option maxRecDepth 1000000 in
theorem h13884 : LOK Tryz.prog g13884 := Ax.partLQ (ql := quiets) (K := sks) (l := []) (m := []) mixed quiets_ok sks_ok trivial trivial (by kernel_rfl)
noncomputable def g13534 : LEntry := ⟨194, [false, true, false, true, true], 11, [(S 12755 0 768 1180591620717411303425), (I 3), U, U, F, O, (I 1), U, O, (S 12755 0 768 1180591620717411303425), (I 768), (I 61), T, (A 12755 60), O, O, O, O, (I 1), O, (I 1), (I 61), U, U, U, U, U, U, U], [], [b8_0], 14551, (.exit 0), [(S 12755 0 768 1180591620717411303425), (I 3), U, U, F, O, (I 2), U, O, (S 12755 0 768 1180591620717411303425), (I 768), (I 768), F, (A 12755 767), O, O, O, O, (I 2), O, (I 2), (I 768), U, U, U, U, U, U, U], [b8_0], 14551, 14551⟩
set_option maxRecDepth 1000000 in
theorem h13534 : LOK Tryz.prog g13534 := Ax.partLQ (ql := quiets) (K := sks) (l := []) (m := [g13884]) mixed quiets_ok sks_ok trivial ⟨h13884, trivial⟩ (by kernel_rfl)
noncomputable def e11750 : Entry := ⟨15, [(A 14168 0), (.string ⟨#[97]⟩), (I 0), (I 0), (.slice none 0 0)], [b8_0, ⟨12242, .cells 3 [O, (I 1), (I 0)]⟩, ⟨186, .cells 3 [(I 0), O]⟩, ⟨14174, .cells 3 [(I 0), (I 1)]⟩, b8_1, ⟨14110, .cells 9 [(.string ⟨#[0]⟩)]⟩, ⟨14142, .cells 9 [(.string ⟨#[255]⟩)]⟩, b8_2, ⟨14353, .cells 4 [F, T]⟩, ⟨14355, .cells 157 [(S 14353 0 2 2)]⟩, b8_3], 14356, (.tuple #[(S 14596 0 5 1180591620717411303426), (S 14622 0 3 1180591620717411303432), (I 0)]), [⟨14596, .cells 53 [(I 2), (I 2), (I 1), (I 2), (I 1), (I 2), (I 1), (I 2), (I 1), (I 2)]⟩, ⟨14535, .cells 3 [(I 1), (I 2)]⟩, ⟨14622, .cells 57 [(I 1), (I 2), (I 0), (I 0), (I 1), (I 2), (S 14535 0 2 1180591620717411303425), (.int .u64 (.ofNat 0)), (I 0), (I 3), (I 0), (I 0), (I 1), (I 2), (.slice none 0 0), (.int .u64 (.ofNat 0)), (I 1), (I 2), (I 1), (I 1), (I 1), (I 2), (.slice none 0 0), (.int .u64 (.ofNat 0))]⟩], 14623⟩
set_option maxRecDepth 1000000 in
theorem o11750 : EntryOK Tryz.prog e11750 := Ax.partCQ (ql := quiets) (K := sks) (l := [e11805]) (m := [g13534]) mixed quiets_ok sks_ok ⟨o11805, trivial⟩ ⟨h13534, trivial⟩ (by kernel_rfl)

end Go.Proofs.YtmfmfmmnddncpaaGreatDoor.machineNil
