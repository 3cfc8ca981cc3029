/-
  Parts of the run of viewportlaw15.CostNames, in order: what each of these calls, and loops from a state on, gives, for each memory that holds what it looks at. No condition.
-/
import Derived.Test.YtoocpkmefmjcjaaGreatAx5
import Derived.Test.YtoocpkmefmjcjaaGreatKeys
import Derived.Test.YtoocpkmefmjcjaaGreatProg
import Derived.KernelRfl
set_option linter.unusedSimpArgs false
set_option linter.unusedVariables false
namespace Go.Proofs.YtoocpkmefmjcjaaGreat.costNames
open Go.Proofs Go.Proofs.YtoocpkmefmjcjaaGreat Ax

noncomputable def e451 : Entry := ⟨11, [(.agg #[(I 1), (I 1), (I 1), (S 2 0 2 2)])], [⟨1, .cells 3 [(I 0), (I 1)]⟩, ⟨2, .cells 35 [(I 0), (S 1 0 2 2), (I 0), (.slice none 0 0)]⟩], 370, (I 4), [], 901⟩
set_option maxRecDepth 1000000 in
theorem o451 : EntryOK Tryz.prog e451 := Ax.partCQ (ql := quiets) (K := sks) (l := []) (m := []) mixed quiets_ok sks_ok trivial trivial (by kernel_rfl)
noncomputable def e448 : Entry := ⟨6, [(.agg #[(I 1), (I 1), (I 1), (S 2 0 2 2)]), (.agg #[(S 356 0 2 1180591620717411303425)]), (.string ⟨#[0, 0]⟩)], [⟨1, .cells 3 [(I 0), (I 1)]⟩, ⟨2, .cells 35 [(I 0), (S 1 0 2 2), (I 0), (.slice none 0 0)]⟩, ⟨328, .cells 9 [(.string ⟨#[0]⟩)]⟩, ⟨355, .cells 9 [(.string ⟨#[255]⟩)]⟩, ⟨356, .cells 73 [(S 328 0 1 1180591620717411303425), (S 355 0 1 1180591620717411303425)]⟩], 364, (.tuple #[(S 1340 0 3 1180591620717411303425), T]), [⟨1340, .cells 3 [(I 0), (I 0), (I 1)]⟩], 1343⟩
set_option maxRecDepth 1000000 in
theorem o448 : EntryOK Tryz.prog e448 := Ax.partCQ (ql := quiets) (K := sks) (l := [e451]) (m := []) mixed quiets_ok sks_ok ⟨o451, trivial⟩ trivial (by kernel_rfl)
noncomputable def e3198 : Entry := ⟨11, [(.agg #[(I 1), (I 1), (I 1), (S 1345 0 2 2)])], [⟨1344, .cells 3 [(I 0), (I 1)]⟩, ⟨1345, .cells 35 [(I 0), (S 1344 0 2 2), (I 0), (.slice none 0 0)]⟩], 1713, (I 4), [], 2244⟩
set_option maxRecDepth 1000000 in
theorem o3198 : EntryOK Tryz.prog e3198 := Ax.partCQ (ql := quiets) (K := sks) (l := []) (m := []) mixed quiets_ok sks_ok trivial trivial (by kernel_rfl)
noncomputable def e3195 : Entry := ⟨12, [(.agg #[(I 1), (I 1), (I 1), (S 1345 0 2 2)]), (.agg #[(S 1699 0 2 1180591620717411303425)]), (.string ⟨#[0, 0]⟩)], [⟨1344, .cells 3 [(I 0), (I 1)]⟩, ⟨1345, .cells 35 [(I 0), (S 1344 0 2 2), (I 0), (.slice none 0 0)]⟩, ⟨1671, .cells 9 [(.string ⟨#[0]⟩)]⟩, ⟨1698, .cells 9 [(.string ⟨#[255]⟩)]⟩, ⟨1699, .cells 73 [(S 1671 0 1 1180591620717411303425), (S 1698 0 1 1180591620717411303425)]⟩], 1707, (.tuple #[(I 5), T]), [], 2686⟩
set_option maxRecDepth 1000000 in
theorem o3195 : EntryOK Tryz.prog e3195 := Ax.partCQ (ql := quiets) (K := sks) (l := [e3198]) (m := []) mixed quiets_ok sks_ok ⟨o3198, trivial⟩ trivial (by kernel_rfl)
noncomputable def e5503 : Entry := ⟨11, [(.agg #[(I 1), (I 1), (I 1), (S 2689 0 2 2)])], [⟨2688, .cells 3 [(I 0), (I 1)]⟩, ⟨2689, .cells 35 [(I 0), (S 2688 0 2 2), (I 0), (.slice none 0 0)]⟩], 2690, (I 4), [], 3221⟩
set_option maxRecDepth 1000000 in
theorem o5503 : EntryOK Tryz.prog e5503 := Ax.partCQ (ql := quiets) (K := sks) (l := []) (m := []) mixed quiets_ok sks_ok trivial trivial (by kernel_rfl)

end Go.Proofs.YtoocpkmefmjcjaaGreat.costNames
