/-
  Parts of the run of viewportlaw15.CostNames, in order: what each of these calls, and loops from a state on, gives, for each memory that holds what it looks at. No condition.
-/
import Derived.Test.YtoocpkmefmjcjaaGreatAx5
import Derived.Test.YtoocpkmefmjcjaaGreatKeys
import Derived.Test.YtoocpkmefmjcjaaGreatProg
import Derived.KernelRfl
set_option linter.unusedSimpArgs false
set_option linter.unusedVariables false
namespace Go.Proofs.YtoocpkmefmjcjaaGreat.costNames
open Go.Proofs Go.Proofs.YtoocpkmefmjcjaaGreat Ax

noncomputable def e17403 : Entry := ⟨9, [(.agg #[(I 1), (I 2), (I 1), (S 6776 0 2 2)])], [⟨6775, .cells 3 [(I 2), (I 0), (I 2)]⟩, ⟨6776, .cells 35 [(I 0), (S 6775 0 3 3), (I 1), (.slice none 0 0)]⟩], 8066, (S 8652 0 2 2), [⟨8652, .cells 3 [(M 0), (I 1)]⟩], 8675⟩
set_option maxRecDepth 1000000 in
theorem o17403 : EntryOK Tryz.prog e17403 := Ax.partCQ (ql := quiets) (K := sks) (l := []) (m := []) mixed quiets_ok sks_ok trivial trivial (by kernel_rfl)
noncomputable def e18907 : Entry := ⟨10, [(.agg #[(I 1), (I 2), (I 1), (S 6776 0 2 2)])], [⟨6775, .cells 3 [(I 2), (I 0), (I 2)]⟩, ⟨6776, .cells 35 [(I 0), (S 6775 0 3 3), (I 1), (.slice none 0 0)]⟩], 8676, (S 9262 0 2 2), [⟨9262, .cells 3 [(I 2), (I 1)]⟩], 9283⟩
set_option maxRecDepth 1000000 in
theorem o18907 : EntryOK Tryz.prog e18907 := Ax.partCQ (ql := quiets) (K := sks) (l := []) (m := []) mixed quiets_ok sks_ok trivial trivial (by kernel_rfl)
noncomputable def e20403 : Entry := ⟨11, [(.agg #[(I 1), (I 2), (I 1), (S 6776 0 2 2)])], [⟨6775, .cells 3 [(I 2), (I 0), (I 2)]⟩, ⟨6776, .cells 35 [(I 0), (S 6775 0 3 3), (I 1), (.slice none 0 0)]⟩], 9284, (I 9), [], 9916⟩
set_option maxRecDepth 1000000 in
theorem o20403 : EntryOK Tryz.prog e20403 := Ax.partCQ (ql := quiets) (K := sks) (l := []) (m := []) mixed quiets_ok sks_ok trivial trivial (by kernel_rfl)

end Go.Proofs.YtoocpkmefmjcjaaGreat.costNames
