/-
  Parts of the run of viewportlaw15.CostNames, in order: what each of these calls, and loops from a state on, gives, for each memory that holds what it looks at. No condition.
-/
import Derived.Test.YtoocpkmefmjcjaaGreatAx5
import Derived.Test.YtoocpkmefmjcjaaGreatKeys
import Derived.Test.YtoocpkmefmjcjaaGreatProg
import Derived.KernelRfl
import Derived.Test.YtoocpkmefmjcjaaGreatPCostNames1
set_option linter.unusedSimpArgs false
set_option linter.unusedVariables false
namespace Go.Proofs.YtoocpkmefmjcjaaGreat.costNames
open Go.Proofs Go.Proofs.YtoocpkmefmjcjaaGreat Ax

noncomputable def b2_0 : LBlk := ⟨3575, .cells 73 [(S 3547 0 1 1180591620717411303425), (S 3574 0 1 1180591620717411303425)]⟩
noncomputable def e2 : Entry := ⟨4, [], [], 0, T, [], 3221⟩
set_option maxRecDepth 1000000 in
theorem o2 : EntryOK Tryz.prog e2 := Ax.partCQ (ql := quiets) (K := sks) (l := [e448, e3195, e5503]) (m := []) mixed quiets_ok sks_ok ⟨o448, o3195, o5503, trivial⟩ trivial (by kernel_rfl)
noncomputable def e6750 : Entry := ⟨7, [(.agg #[(I 1), (I 1), (I 1), (S 3223 0 2 2)])], [⟨3222, .cells 3 [(I 0), (I 1)]⟩, ⟨3223, .cells 35 [(I 0), (S 3222 0 2 2), (I 0), (.slice none 0 0)]⟩], 3225, (.agg #[(S 3575 0 2 1180591620717411303425)]), [⟨3547, .cells 9 [(.string ⟨#[0]⟩)]⟩, ⟨3574, .cells 9 [(.string ⟨#[255]⟩)]⟩, b2_0], 3583⟩
set_option maxRecDepth 1000000 in
theorem o6750 : EntryOK Tryz.prog e6750 := Ax.partCQ (ql := quiets) (K := sks) (l := []) (m := []) mixed quiets_ok sks_ok trivial trivial (by kernel_rfl)
noncomputable def e7196 : Entry := ⟨11, [(.agg #[(I 1), (I 1), (I 1), (S 3223 0 2 2)])], [⟨3222, .cells 3 [(I 0), (I 1)]⟩, ⟨3223, .cells 35 [(I 0), (S 3222 0 2 2), (I 0), (.slice none 0 0)]⟩], 3589, (I 4), [], 4120⟩
set_option maxRecDepth 1000000 in
theorem o7196 : EntryOK Tryz.prog e7196 := Ax.partCQ (ql := quiets) (K := sks) (l := []) (m := []) mixed quiets_ok sks_ok trivial trivial (by kernel_rfl)
noncomputable def e7193 : Entry := ⟨6, [(.agg #[(I 1), (I 1), (I 1), (S 3223 0 2 2)]), (.agg #[(S 3575 0 2 1180591620717411303425)]), (.string ⟨#[]⟩)], [⟨3222, .cells 3 [(I 0), (I 1)]⟩, ⟨3223, .cells 35 [(I 0), (S 3222 0 2 2), (I 0), (.slice none 0 0)]⟩, ⟨3547, .cells 9 [(.string ⟨#[0]⟩)]⟩, ⟨3574, .cells 9 [(.string ⟨#[255]⟩)]⟩, b2_0], 3583, (.tuple #[(S 4531 0 1 1180591620717411303425), T]), [⟨4531, .cells 3 [(I 1)]⟩], 4534⟩
set_option maxRecDepth 1000000 in
theorem o7193 : EntryOK Tryz.prog e7193 := Ax.partCQ (ql := quiets) (K := sks) (l := [e7196]) (m := []) mixed quiets_ok sks_ok ⟨o7196, trivial⟩ trivial (by kernel_rfl)
noncomputable def e9889 : Entry := ⟨11, [(.agg #[(I 1), (I 1), (I 1), (S 3223 0 2 2)])], [⟨3222, .cells 3 [(I 0), (I 1)]⟩, ⟨3223, .cells 35 [(I 0), (S 3222 0 2 2), (I 0), (.slice none 0 0)]⟩], 4898, (I 4), [], 5429⟩
set_option maxRecDepth 1000000 in
theorem o9889 : EntryOK Tryz.prog e9889 := Ax.partCQ (ql := quiets) (K := sks) (l := []) (m := []) mixed quiets_ok sks_ok trivial trivial (by kernel_rfl)

end Go.Proofs.YtoocpkmefmjcjaaGreat.costNames
