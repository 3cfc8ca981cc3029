/-
  Parts of the run of viewportlaw13.FollowNames, in order: what each of these calls gives, for each memory that holds what it looks at. No condition.
-/
import Derived.Test.YtoocpkmefmjcjaaAx1
import Derived.Test.YtoocpkmefmjcjaaKeys
import Derived.Test.YtoocpkmefmjcjaaProg
import Derived.KernelRfl
import Derived.Test.YtoocpkmefmjcjaaPFollowNames4
set_option linter.unusedSimpArgs false
set_option linter.unusedVariables false
namespace Go.Proofs.Ytoocpkmefmjcjaa.followNames
open Go.Proofs Go.Proofs.Ytoocpkmefmjcjaa Ax

noncomputable def e2003 : Entry := ⟨17, [(S 1322 0 2 1180591620717411303425), (S 1436 0 1 1180591620717411303425)], [⟨1322, .cells 9 [(.string ⟨#[]⟩), (.string ⟨#[1]⟩)]⟩, ⟨1436, .cells 9 [(.string ⟨#[1]⟩)]⟩], 1437, (S 1448 0 2 5902958103587056517121), [⟨1448, .cells 9 [(.string ⟨#[]⟩), (.string ⟨#[1]⟩), (.string ⟨#[]⟩)]⟩], 1449⟩
set_option maxRecDepth 1000000 in
theorem o2003 : EntryOK Try.prog e2003 := Ax.part (K := sks) (l := []) (by kernel_rfl) sks_ok trivial (by kernel_rfl)
noncomputable def e2025 : Entry := ⟨17, [(S 1322 0 2 1180591620717411303425), (S 1451 0 1 1)], [⟨1322, .cells 9 [(.string ⟨#[]⟩), (.string ⟨#[1]⟩)]⟩, ⟨1451, .cells 9 [(.string ⟨#[]⟩)]⟩], 1452, (S 1463 0 2 5902958103587056517121), [⟨1463, .cells 9 [(.string ⟨#[]⟩), (.string ⟨#[1]⟩), (.string ⟨#[]⟩)]⟩], 1464⟩
set_option maxRecDepth 1000000 in
theorem o2025 : EntryOK Try.prog e2025 := Ax.part (K := sks) (l := []) (by kernel_rfl) sks_ok trivial (by kernel_rfl)
noncomputable def e1737 : Entry := ⟨21, [(.agg #[(I 2), (I 2), (I 2), (S 299 0 3 3)])], [⟨297, .cells 3 [(I 3), (I 0)]⟩, ⟨298, .cells 3 [(I 1)]⟩, ⟨299, .cells 50 [(I 0), (S 297 0 2 2), (I 1), (S 298 0 1 1), (I 1), (.slice none 0 0)]⟩], 1268, (S 1276 0 2 2), [⟨1353, .cells 9 [(.string ⟨#[0]⟩), (.string ⟨#[1, 0]⟩)]⟩, ⟨1322, .cells 9 [(.string ⟨#[]⟩), (.string ⟨#[1]⟩)]⟩, ⟨1276, .cells 34 [(S 1353 0 2 1180591620717411303425), (S 1322 0 2 1180591620717411303425)]⟩], 1464⟩
set_option maxRecDepth 1000000 in
theorem o1737 : EntryOK Try.prog e1737 := Ax.part (K := sks) (l := [e1796, e1814, e1882, e1904, e1927, e1964, e2003, e2025]) (by kernel_rfl) sks_ok ⟨o1796, o1814, o1882, o1904, o1927, o1964, o2003, o2025, trivial⟩ (by kernel_rfl)
noncomputable def e2064 : Entry := ⟨19, [(.agg #[(I 2), (I 2), (I 2), (S 299 0 3 3)]), (S 1276 0 2 2), (S 297 1 1 1)], [⟨298, .cells 3 [(I 1)]⟩, ⟨299, .cells 50 [(I 0), (S 297 0 2 2), (I 1), (S 298 0 1 1), (I 1), (.slice none 0 0)]⟩, ⟨1353, .cells 9 [(.string ⟨#[0]⟩), (.string ⟨#[1, 0]⟩)]⟩, ⟨1322, .cells 9 [(.string ⟨#[]⟩), (.string ⟨#[1]⟩)]⟩, ⟨1276, .cells 34 [(S 1353 0 2 1180591620717411303425), (S 1322 0 2 1180591620717411303425)]⟩, ⟨297, .cells 3 [(I 3), (I 0)]⟩], 1490, (S 1507 0 1 1180591620717411303425), [⟨1507, .cells 9 [(.string ⟨#[0]⟩)]⟩], 1508⟩
set_option maxRecDepth 1000000 in
theorem o2064 : EntryOK Try.prog e2064 := Ax.part (K := sks) (l := []) (by kernel_rfl) sks_ok trivial (by kernel_rfl)
noncomputable def e1715 : Entry := ⟨26, [(.agg #[(I 2), (I 2), (I 2), (S 299 0 3 3)]), (I 1)], [⟨297, .cells 3 [(I 3), (I 0)]⟩, ⟨298, .cells 3 [(I 1)]⟩, ⟨299, .cells 50 [(I 0), (S 297 0 2 2), (I 1), (S 298 0 1 1), (I 1), (.slice none 0 0)]⟩], 1252, F, [], 1555⟩
set_option maxRecDepth 1000000 in
theorem o1715 : EntryOK Try.prog e1715 := Ax.part (K := sks) (l := [e1737, e2064]) (by kernel_rfl) sks_ok ⟨o1737, o2064, trivial⟩ (by kernel_rfl)
noncomputable def e2233 : Entry := ⟨17, [(S 1625 0 1 1180591620717411303425), (S 1628 0 1 1)], [⟨1625, .cells 9 [(.string ⟨#[1]⟩)]⟩, ⟨1628, .cells 9 [(.string ⟨#[]⟩)]⟩], 1629, (S 1638 0 2 1180591620717411303425), [⟨1638, .cells 9 [(.string ⟨#[]⟩), (.string ⟨#[1]⟩)]⟩], 1639⟩
set_option maxRecDepth 1000000 in
theorem o2233 : EntryOK Try.prog e2233 := Ax.part (K := sks) (l := []) (by kernel_rfl) sks_ok trivial (by kernel_rfl)
noncomputable def e2251 : Entry := ⟨58, [(.agg #[(I 2), (I 2), (I 1), (S 1574 0 3 3)]), (S 1592 0 2 2), (S 1572 0 2 2)], [⟨1573, .cells 3 [(I 1)]⟩, ⟨1574, .cells 50 [(I 0), (S 1572 0 2 2), (I 1), (S 1573 0 1 1), (I 1), (.slice none 0 0)]⟩, ⟨1638, .cells 9 [(.string ⟨#[]⟩), (.string ⟨#[1]⟩)]⟩, ⟨1592, .cells 34 [(.slice none 0 0), (S 1638 0 2 1180591620717411303425)]⟩, ⟨1572, .cells 3 [(I 3), (I 0)]⟩], 1640, (S 1656 0 2 1180591620717411303425), [⟨1656, .cells 9 [(.string ⟨#[0]⟩), (.string ⟨#[1]⟩)]⟩], 1657⟩
set_option maxRecDepth 1000000 in
theorem o2251 : EntryOK Try.prog e2251 := Ax.part (K := sks) (l := []) (by kernel_rfl) sks_ok trivial (by kernel_rfl)
noncomputable def e2312 : Entry := ⟨17, [(S 1638 0 2 1180591620717411303425), (S 1678 0 1 1180591620717411303425)], [⟨1638, .cells 9 [(.string ⟨#[]⟩), (.string ⟨#[1]⟩)]⟩, ⟨1678, .cells 9 [(.string ⟨#[1]⟩)]⟩], 1679, (S 1690 0 2 5902958103587056517121), [⟨1690, .cells 9 [(.string ⟨#[]⟩), (.string ⟨#[1]⟩), (.string ⟨#[]⟩)]⟩], 1691⟩
set_option maxRecDepth 1000000 in
theorem o2312 : EntryOK Try.prog e2312 := Ax.part (K := sks) (l := []) (by kernel_rfl) sks_ok trivial (by kernel_rfl)
noncomputable def e2334 : Entry := ⟨17, [(S 1638 0 2 1180591620717411303425), (S 1693 0 1 1)], [⟨1638, .cells 9 [(.string ⟨#[]⟩), (.string ⟨#[1]⟩)]⟩, ⟨1693, .cells 9 [(.string ⟨#[]⟩)]⟩], 1694, (S 1705 0 2 5902958103587056517121), [⟨1705, .cells 9 [(.string ⟨#[]⟩), (.string ⟨#[1]⟩), (.string ⟨#[]⟩)]⟩], 1706⟩
set_option maxRecDepth 1000000 in
theorem o2334 : EntryOK Try.prog e2334 := Ax.part (K := sks) (l := []) (by kernel_rfl) sks_ok trivial (by kernel_rfl)
noncomputable def e2357 : Entry := ⟨58, [(.agg #[(I 2), (I 2), (I 1), (S 1574 0 3 3)]), (S 1592 0 2 2), (S 1572 0 2 2)], [⟨1573, .cells 3 [(I 1)]⟩, ⟨1574, .cells 50 [(I 0), (S 1572 0 2 2), (I 1), (S 1573 0 1 1), (I 1), (.slice none 0 0)]⟩, ⟨1667, .cells 9 [(.string ⟨#[0]⟩), (.string ⟨#[1]⟩)]⟩, ⟨1638, .cells 9 [(.string ⟨#[]⟩), (.string ⟨#[1]⟩)]⟩, ⟨1592, .cells 34 [(S 1667 0 2 1180591620717411303425), (S 1638 0 2 1180591620717411303425)]⟩, ⟨1572, .cells 3 [(I 3), (I 0)]⟩], 1707, (S 1723 0 2 1180591620717411303425), [⟨1723, .cells 9 [(.string ⟨#[0]⟩), (.string ⟨#[1]⟩)]⟩], 1724⟩
set_option maxRecDepth 1000000 in
theorem o2357 : EntryOK Try.prog e2357 := Ax.part (K := sks) (l := []) (by kernel_rfl) sks_ok trivial (by kernel_rfl)
noncomputable def e2387 : Entry := ⟨17, [(S 1667 0 2 1180591620717411303425), (S 1723 0 2 1180591620717411303425)], [⟨1667, .cells 9 [(.string ⟨#[0]⟩), (.string ⟨#[1]⟩)]⟩, ⟨1723, .cells 9 [(.string ⟨#[0]⟩), (.string ⟨#[1]⟩)]⟩], 1724, (S 1737 0 2 7083549724304467820545), [⟨1737, .cells 9 [(.string ⟨#[0]⟩), (.string ⟨#[1]⟩), (.string ⟨#[]⟩), (.string ⟨#[]⟩)]⟩], 1738⟩
set_option maxRecDepth 1000000 in
theorem o2387 : EntryOK Try.prog e2387 := Ax.part (K := sks) (l := []) (by kernel_rfl) sks_ok trivial (by kernel_rfl)
noncomputable def e2426 : Entry := ⟨17, [(S 1638 0 2 1180591620717411303425), (S 1748 0 1 1180591620717411303425)], [⟨1638, .cells 9 [(.string ⟨#[]⟩), (.string ⟨#[1]⟩)]⟩, ⟨1748, .cells 9 [(.string ⟨#[1]⟩)]⟩], 1749, (S 1760 0 2 5902958103587056517121), [⟨1760, .cells 9 [(.string ⟨#[]⟩), (.string ⟨#[1]⟩), (.string ⟨#[]⟩)]⟩], 1761⟩
set_option maxRecDepth 1000000 in
theorem o2426 : EntryOK Try.prog e2426 := Ax.part (K := sks) (l := []) (by kernel_rfl) sks_ok trivial (by kernel_rfl)
noncomputable def e2448 : Entry := ⟨17, [(S 1638 0 2 1180591620717411303425), (S 1763 0 1 1)], [⟨1638, .cells 9 [(.string ⟨#[]⟩), (.string ⟨#[1]⟩)]⟩, ⟨1763, .cells 9 [(.string ⟨#[]⟩)]⟩], 1764, (S 1775 0 2 5902958103587056517121), [⟨1775, .cells 9 [(.string ⟨#[]⟩), (.string ⟨#[1]⟩), (.string ⟨#[]⟩)]⟩], 1776⟩
set_option maxRecDepth 1000000 in
theorem o2448 : EntryOK Try.prog e2448 := Ax.part (K := sks) (l := []) (by kernel_rfl) sks_ok trivial (by kernel_rfl)

end Go.Proofs.Ytoocpkmefmjcjaa.followNames
