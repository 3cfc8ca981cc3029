/-
  Parts of the run of viewportlaw25.TargetNames, in order: what each of these calls, and loops from a state on, gives, for each memory that holds what it looks at. No condition.
-/
import Derived.Test.YtkkjpmalkoiklaaGreatAx5
import Derived.Test.YtkkjpmalkoiklaaGreatKeys
import Derived.Test.YtkkjpmalkoiklaaGreatProg
import Derived.KernelRfl
import Derived.Test.YtkkjpmalkoiklaaGreatPTargetNames14
import Derived.Test.YtkkjpmalkoiklaaGreatPTargetNames15
import Derived.Test.YtkkjpmalkoiklaaGreatPTargetNames21
set_option linter.unusedSimpArgs false
set_option linter.unusedVariables false
namespace Go.Proofs.YtkkjpmalkoiklaaGreat.targetNames
open Go.Proofs Go.Proofs.YtkkjpmalkoiklaaGreat Ax

noncomputable def b22_0 : LBlk := ⟨11531, .cells 34 [(M 2), (I 1), (I 0), (I 0), (I 3), (I 1), (S 11529 0 2 1180591620717411303425), (.int .u64 (.ofNat 0)), (I 1), (I 2), (I 0), (I 0), (I 3), (I 2), (S 11475 0 2 1180591620717411303425), (.int .u64 (.ofNat 0)), (I 0), (I 3), (I 0), (I 0), (I 1), (I 2), (.slice none 0 0), (.int .u64 (.ofNat 0)), (I 1), (I 2), (I 1), (I 1), (I 3), (I 4), (S 11507 0 2 1180591620717411303425), (.int .u64 (.ofNat 0)), (I 0), (I 3), (I 1), (I 2), (I 3), (I 4), (.slice none 0 0), (.int .u64 (.ofNat 2)), (I 1), (I 2), (I 3), (I 3), (I 3), (I 4), (.slice none 0 0), (.int .u64 (.ofNat 0)), (M 1), (I 6), (I 3), (I 3), (I 3), (I 4), (.slice none 0 0), (.int .u64 (.ofNat 0))]⟩
noncomputable def e31131 : Entry := ⟨7, [], [], 11748, T, [], 23384⟩
set_option maxRecDepth 1000000 in
theorem o31131 : EntryOK Tryz.prog e31131 := Ax.partCQ (K := sks) (l := [e31135, e43626, e44837, e46703, e47918]) (m := []) mixed sks_ok ⟨o31135, o43626, o44837, o46703, o47918, trivial⟩ trivial (by kernel_rfl)
noncomputable def e62265 : Entry := ⟨8, [(S 11531 0 7 1180591620717411303432), (.agg #[(I 1), (I 2), (I 2), (I 0), (I 1)]), (I 3)], [⟨11529, .cells 3 [(I 1), (I 6)]⟩, ⟨11475, .cells 3 [(I 2), (I 3)]⟩, ⟨11507, .cells 3 [(I 4), (I 5)]⟩, b22_0], 23562, (I 1), [], 23741⟩
set_option maxRecDepth 1000000 in
theorem o62265 : EntryOK Tryz.prog e62265 := Ax.partCQ (K := sks) (l := []) (m := []) mixed sks_ok trivial trivial (by kernel_rfl)
noncomputable def e62398 : Entry := ⟨8, [(S 11531 0 7 1180591620717411303432), (.agg #[(I 1), (I 2), (I 2), (I 0), (I 2)]), (I 3)], [⟨11529, .cells 3 [(I 1), (I 6)]⟩, ⟨11475, .cells 3 [(I 2), (I 3)]⟩, ⟨11507, .cells 3 [(I 4), (I 5)]⟩, b22_0], 23741, (I 0), [], 23921⟩
set_option maxRecDepth 1000000 in
theorem o62398 : EntryOK Tryz.prog e62398 := Ax.partCQ (K := sks) (l := []) (m := []) mixed sks_ok trivial trivial (by kernel_rfl)

end Go.Proofs.YtkkjpmalkoiklaaGreat.targetNames
