/-
  Parts of the run of viewportlaw15.CostNames, in order: what each of these calls, and loops from a state on, gives, for each memory that holds what it looks at. No condition.
-/
import Derived.Test.YtoocpkmefmjcjaaGreatAx5
import Derived.Test.YtoocpkmefmjcjaaGreatKeys
import Derived.Test.YtoocpkmefmjcjaaGreatProg
import Derived.KernelRfl
import Derived.Test.YtoocpkmefmjcjaaGreatPCostNames2
set_option linter.unusedSimpArgs false
set_option linter.unusedVariables false
namespace Go.Proofs.YtoocpkmefmjcjaaGreat.costNames
open Go.Proofs Go.Proofs.YtoocpkmefmjcjaaGreat Ax

noncomputable def e9886 : Entry := ⟨6, [(.agg #[(I 1), (I 1), (I 1), (S 3223 0 2 2)]), (.agg #[(S 4884 0 2 1180591620717411303425)]), (.string ⟨#[1]⟩)], [⟨3222, .cells 3 [(I 0), (I 1)]⟩, ⟨3223, .cells 35 [(I 0), (S 3222 0 2 2), (I 0), (.slice none 0 0)]⟩, ⟨4856, .cells 9 [(.string ⟨#[0]⟩)]⟩, ⟨4883, .cells 9 [(.string ⟨#[255]⟩)]⟩, ⟨4884, .cells 73 [(S 4856 0 1 1180591620717411303425), (S 4883 0 1 1180591620717411303425)]⟩], 4892, (.tuple #[(.slice none 0 0), F]), [], 5838⟩
set_option maxRecDepth 1000000 in
theorem o9886 : EntryOK Tryz.prog e9886 := Ax.partCQ (ql := quiets) (K := sks) (l := [e9889]) (m := []) mixed quiets_ok sks_ok ⟨o9889, trivial⟩ trivial (by kernel_rfl)
noncomputable def e12138 : Entry := ⟨11, [(.agg #[(I 1), (I 1), (I 1), (S 3223 0 2 2)])], [⟨3222, .cells 3 [(I 0), (I 1)]⟩, ⟨3223, .cells 35 [(I 0), (S 3222 0 2 2), (I 0), (.slice none 0 0)]⟩], 5844, (I 4), [], 6375⟩
set_option maxRecDepth 1000000 in
theorem o12138 : EntryOK Tryz.prog e12138 := Ax.partCQ (ql := quiets) (K := sks) (l := []) (m := []) mixed quiets_ok sks_ok trivial trivial (by kernel_rfl)
noncomputable def e12135 : Entry := ⟨6, [(.agg #[(I 1), (I 1), (I 1), (S 3223 0 2 2)]), (.agg #[(.slice none 0 0)]), (.string ⟨#[]⟩)], [⟨3222, .cells 3 [(I 0), (I 1)]⟩, ⟨3223, .cells 35 [(I 0), (S 3222 0 2 2), (I 0), (.slice none 0 0)]⟩], 5838, (.tuple #[(.slice none 0 0), F]), [], 6772⟩
set_option maxRecDepth 1000000 in
theorem o12135 : EntryOK Tryz.prog e12135 := Ax.partCQ (ql := quiets) (K := sks) (l := [e12138]) (m := []) mixed quiets_ok sks_ok ⟨o12138, trivial⟩ trivial (by kernel_rfl)
noncomputable def e14347 : Entry := ⟨9, [(.agg #[(I 1), (I 1), (I 1), (S 3223 0 2 2)])], [⟨3222, .cells 3 [(I 0), (I 1)]⟩, ⟨3223, .cells 35 [(I 0), (S 3222 0 2 2), (I 0), (.slice none 0 0)]⟩], 6779, (S 7280 0 1 1), [⟨7280, .cells 3 [(I 1)]⟩], 7295⟩
set_option maxRecDepth 1000000 in
theorem o14347 : EntryOK Tryz.prog e14347 := Ax.partCQ (ql := quiets) (K := sks) (l := []) (m := []) mixed quiets_ok sks_ok trivial trivial (by kernel_rfl)
noncomputable def e15558 : Entry := ⟨10, [(.agg #[(I 1), (I 1), (I 1), (S 3223 0 2 2)])], [⟨3222, .cells 3 [(I 0), (I 1)]⟩, ⟨3223, .cells 35 [(I 0), (S 3222 0 2 2), (I 0), (.slice none 0 0)]⟩], 7296, (S 7797 0 1 1), [⟨7797, .cells 3 [(I 1)]⟩], 7810⟩
set_option maxRecDepth 1000000 in
theorem o15558 : EntryOK Tryz.prog e15558 := Ax.partCQ (ql := quiets) (K := sks) (l := []) (m := []) mixed quiets_ok sks_ok trivial trivial (by kernel_rfl)

end Go.Proofs.YtoocpkmefmjcjaaGreat.costNames
