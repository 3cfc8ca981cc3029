/-
  Parts of the run of viewportlaw25.TargetNames, in order: what each of these calls, and loops from a state on, gives, for each memory that holds what it looks at. No condition.
-/
import Derived.Test.YtkkjpmalkoiklaaGreatAx5
import Derived.Test.YtkkjpmalkoiklaaGreatKeys
import Derived.Test.YtkkjpmalkoiklaaGreatProg
import Derived.KernelRfl
set_option linter.unusedSimpArgs false
set_option linter.unusedVariables false
namespace Go.Proofs.YtkkjpmalkoiklaaGreat.targetNames
open Go.Proofs Go.Proofs.YtkkjpmalkoiklaaGreat Ax

noncomputable def e43626 : Entry := ⟨33, [(.agg #[(I 1), (I 1), (I 1), (S 11751 0 2 2)])], [⟨11750, .cells 3 [(I 0), (I 1)]⟩, ⟨11751, .cells 75 [(I 0), (S 11750 0 2 2), (I 0), (.slice none 0 0)]⟩], 19987, (I 4), [], 20804⟩
set_option maxRecDepth 1000000 in
theorem o43626 : EntryOK Tryz.prog e43626 := Ax.partCQ (K := sks) (l := []) (m := []) mixed sks_ok trivial trivial (by kernel_rfl)
noncomputable def e44837 : Entry := ⟨34, [(.agg #[(I 1), (I 1), (I 1), (S 11751 0 2 2)])], [⟨11750, .cells 3 [(I 0), (I 1)]⟩, ⟨11751, .cells 75 [(I 0), (S 11750 0 2 2), (I 0), (.slice none 0 0)]⟩], 20804, (I 14), [], 21622⟩
set_option maxRecDepth 1000000 in
theorem o44837 : EntryOK Tryz.prog e44837 := Ax.partCQ (K := sks) (l := []) (m := []) mixed sks_ok trivial trivial (by kernel_rfl)
noncomputable def e46703 : Entry := ⟨34, [(.agg #[(I 1), (I 1), (I 1), (S 11751 0 2 2)])], [⟨11750, .cells 3 [(I 0), (I 1)]⟩, ⟨11751, .cells 75 [(I 0), (S 11750 0 2 2), (I 0), (.slice none 0 0)]⟩], 22179, (I 14), [], 22997⟩
set_option maxRecDepth 1000000 in
theorem o46703 : EntryOK Tryz.prog e46703 := Ax.partCQ (K := sks) (l := []) (m := []) mixed sks_ok trivial trivial (by kernel_rfl)

end Go.Proofs.YtkkjpmalkoiklaaGreat.targetNames
