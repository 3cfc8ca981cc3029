/-
  Parts of the run of viewportlaw13.FollowNames, in order: what each of these calls gives, for each memory that holds what it looks at. No condition.
-/
import Derived.Test.YtoocpkmefmjcjaaAx1
import Derived.Test.YtoocpkmefmjcjaaKeys
import Derived.Test.YtoocpkmefmjcjaaProg
import Derived.KernelRfl
import Derived.Test.YtoocpkmefmjcjaaPFollowNames5
set_option linter.unusedSimpArgs false
set_option linter.unusedVariables false
namespace Go.Proofs.Ytoocpkmefmjcjaa.followNames
open Go.Proofs Go.Proofs.Ytoocpkmefmjcjaa Ax

noncomputable def e2174 : Entry := ⟨21, [(.agg #[(I 2), (I 2), (I 1), (S 1574 0 3 3)])], [⟨1572, .cells 3 [(I 3), (I 0)]⟩, ⟨1573, .cells 3 [(I 1)]⟩, ⟨1574, .cells 50 [(I 0), (S 1572 0 2 2), (I 1), (S 1573 0 1 1), (I 1), (.slice none 0 0)]⟩], 1584, (S 1592 0 2 2), [⟨1667, .cells 9 [(.string ⟨#[0]⟩), (.string ⟨#[1]⟩)]⟩, ⟨1638, .cells 9 [(.string ⟨#[]⟩), (.string ⟨#[1]⟩)]⟩, ⟨1592, .cells 34 [(S 1667 0 2 1180591620717411303425), (S 1638 0 2 1180591620717411303425)]⟩], 1776⟩
set_option maxRecDepth 1000000 in
theorem o2174 : EntryOK Try.prog e2174 := Ax.part (K := sks) (l := [e2233, e2251, e2312, e2334, e2357, e2387, e2426, e2448]) (by kernel_rfl) sks_ok ⟨o2233, o2251, o2312, o2334, o2357, o2387, o2426, o2448, trivial⟩ (by kernel_rfl)
noncomputable def e2163 : Entry := ⟨25, [(.agg #[(I 2), (I 2), (I 1), (S 1574 0 3 3)])], [⟨1572, .cells 3 [(I 3), (I 0)]⟩, ⟨1573, .cells 3 [(I 1)]⟩, ⟨1574, .cells 50 [(I 0), (S 1572 0 2 2), (I 1), (S 1573 0 1 1), (I 1), (.slice none 0 0)]⟩], 1576, (S 1776 0 2 2), [⟨1777, .cells 9 [(.string ⟨#[255]⟩)]⟩, ⟨1832, .cells 9 [(.string ⟨#[0]⟩)]⟩, ⟨1776, .cells 34 [(S 1777 0 1 1), (S 1832 0 1 1180591620717411303425)]⟩], 1865⟩
set_option maxRecDepth 1000000 in
theorem o2163 : EntryOK Try.prog e2163 := Ax.part (K := sks) (l := [e2174]) (by kernel_rfl) sks_ok ⟨o2174, trivial⟩ (by kernel_rfl)

end Go.Proofs.Ytoocpkmefmjcjaa.followNames
