/-
  Parts of the run of viewportlaw19.MarksNames, in order: what each of these calls, and loops from a state on, gives, for each memory that holds what it looks at. No condition.
-/
import Derived.Test.YthomkiindjhdmaaGreatDoorBx9
import Derived.Test.YthomkiindjhdmaaGreatDoorBKeys
import Derived.Test.YthomkiindjhdmaaGreatDoorTabsMarksNames
import Derived.Test.YthomkiindjhdmaaGreatDoorProg
import Derived.KernelRfl
set_option linter.unusedSimpArgs false
set_option linter.unusedVariables false
namespace Go.Proofs.YthomkiindjhdmaaGreatDoor.marksNames
open Go.Proofs Go.Proofs.YthomkiindjhdmaaGreatDoor Ax

noncomputable def b18_0 : LBlk := ⟨29995, .cells 58 [(M 2), (I 1), (I 0), (I 0), (I 3), (I 1), (S 29957 0 2 1180591620717411303425), (.int .u64 (.ofNat 0)), (I 1), (I 2), (I 0), (I 0), (I 3), (I 2), (S 29790 0 2 1180591620717411303425), (.int .u64 (.ofNat 0)), (I 0), (I 3), (I 0), (I 0), (I 1), (I 2), (.slice none 0 0), (.int .u64 (.ofNat 0)), (I 1), (I 2), (I 1), (I 1), (I 3), (I 4), (S 29877 0 2 1180591620717411303425), (.int .u64 (.ofNat 0)), (I 0), (I 3), (I 1), (I 2), (I 3), (I 4), (.slice none 0 0), (.int .u64 (.ofNat 0)), (I 1), (I 2), (I 3), (I 3), (I 3), (I 4), (.slice none 0 0), (.int .u64 (.ofNat 0)), (M 1), (I 6), (I 3), (I 3), (I 3), (I 4), (.slice none 0 0), (.int .u64 (.ofNat 0))]⟩
noncomputable def b18_1 : LBlk := ⟨29995, .cells 58 [(M 2), (I 1), (I 0), (I 0), (I 3), (I 1), (S 29957 0 2 1180591620717411303425), (.int .u64 (.ofNat 0)), (I 1), (I 2), (I 0), (I 0), (I 3), (I 2), (S 29790 0 2 1180591620717411303425), (.int .u64 (.ofNat 0)), (I 0), (I 3), (I 0), (I 0), (I 1), (I 2), (.slice none 0 0), (.int .u64 (.ofNat 0)), (I 1), (I 2), (I 1), (I 1), (I 3), (I 4), (S 29877 0 2 1180591620717411303425), (.int .u64 (.ofNat 0)), (I 0), (I 3), (I 1), (I 2), (I 3), (I 4), (.slice none 0 0), (.int .u64 (.ofNat 1)), (I 1), (I 2), (I 3), (I 3), (I 3), (I 4), (.slice none 0 0), (.int .u64 (.ofNat 0)), (M 1), (I 6), (I 3), (I 3), (I 3), (I 4), (.slice none 0 0), (.int .u64 (.ofNat 0))]⟩
noncomputable def e27889 : Entry := ⟨16, [(S 29995 0 7 1180591620717411303432), (I 1), O], [⟨29957, .cells 3 [(I 1), (I 6)]⟩, ⟨29790, .cells 3 [(I 2), (I 3)]⟩, ⟨29877, .cells 3 [(I 4), (I 5)]⟩, b18_0], 29996, (S 30131 0 7 7), [⟨30131, .cells 3 [(I 3), (I 3), (I 3), (I 3), (I 3), (I 3), (I 3)]⟩], 30166⟩
set_option maxRecDepth 1000000 in
theorem o27889 : EntryOK Tryz.prog e27889 := Ax.partCQ (ql := quiets) (K := sks) (l := []) (m := []) mixed quiets_ok sks_ok trivial trivial (by kernel_rfl)
noncomputable def e28126 : Entry := ⟨17, [(S 29995 0 7 1180591620717411303432), (I 1)], [⟨29957, .cells 3 [(I 1), (I 6)]⟩, ⟨29790, .cells 3 [(I 2), (I 3)]⟩, ⟨29877, .cells 3 [(I 4), (I 5)]⟩, b18_0], 30166, (S 30199 0 7 7), [⟨30199, .cells 3 [(I 0), (I 0), (I 4), (I 0), (I 4), (I 0), (I 4)]⟩], 30255⟩
set_option maxRecDepth 1000000 in
theorem o28126 : EntryOK Tryz.prog e28126 := Ax.partCQ (ql := quiets) (K := sks) (l := []) (m := []) mixed quiets_ok sks_ok trivial trivial (by kernel_rfl)
noncomputable def e28227 : Entry := ⟨16, [(S 29995 0 7 1180591620717411303432), (I 1), (I 2)], [⟨29957, .cells 3 [(I 1), (I 6)]⟩, ⟨29790, .cells 3 [(I 2), (I 3)]⟩, ⟨29877, .cells 3 [(I 4), (I 5)]⟩, b18_1], 30255, (S 30390 0 7 7), [⟨30390, .cells 3 [(I 1), (I 1), (I 2), (I 1), (I 1), (I 2), (I 2)]⟩], 30425⟩
set_option maxRecDepth 1000000 in
theorem o28227 : EntryOK Tryz.prog e28227 := Ax.partCQ (ql := quiets) (K := sks) (l := []) (m := []) mixed quiets_ok sks_ok trivial trivial (by kernel_rfl)
noncomputable def e28447 : Entry := ⟨17, [(S 29995 0 7 1180591620717411303432), (I 0)], [⟨29957, .cells 3 [(I 1), (I 6)]⟩, ⟨29790, .cells 3 [(I 2), (I 3)]⟩, ⟨29877, .cells 3 [(I 4), (I 5)]⟩, b18_1], 30425, (S 30458 0 7 7), [⟨30458, .cells 3 [(I 0), (I 0), (I 2), (I 0), (I 4), (I 0), (I 4)]⟩], 30510⟩
set_option maxRecDepth 1000000 in
theorem o28447 : EntryOK Tryz.prog e28447 := Ax.partCQ (ql := quiets) (K := sks) (l := []) (m := []) mixed quiets_ok sks_ok trivial trivial (by kernel_rfl)

end Go.Proofs.YthomkiindjhdmaaGreatDoor.marksNames
