/-
  Parts of the run of viewportlaw13.FollowNames, in order: what each of these calls gives, for each memory that holds what it looks at. No condition.
-/
import Derived.Test.YtoocpkmefmjcjaaAx1
import Derived.Test.YtoocpkmefmjcjaaKeys
import Derived.Test.YtoocpkmefmjcjaaProg
import Derived.KernelRfl
import Derived.Test.YtoocpkmefmjcjaaPFollowNames3
set_option linter.unusedSimpArgs false
set_option linter.unusedVariables false
namespace Go.Proofs.Ytoocpkmefmjcjaa.followNames
open Go.Proofs Go.Proofs.Ytoocpkmefmjcjaa Ax

noncomputable def e1503 : Entry := ⟨58, [(.agg #[(I 2), (I 2), (I 2), (S 299 0 3 3)]), (S 973 0 2 2), (S 297 0 2 2)], [⟨298, .cells 3 [(I 1)]⟩, ⟨299, .cells 50 [(I 0), (S 297 0 2 2), (I 1), (S 298 0 1 1), (I 1), (.slice none 0 0)]⟩, ⟨1050, .cells 9 [(.string ⟨#[0]⟩), (.string ⟨#[1, 0]⟩)]⟩, ⟨1019, .cells 9 [(.string ⟨#[]⟩), (.string ⟨#[1]⟩)]⟩, ⟨973, .cells 34 [(S 1050 0 2 1180591620717411303425), (S 1019 0 2 1180591620717411303425)]⟩, ⟨297, .cells 3 [(I 3), (I 0)]⟩], 1090, (S 1108 0 2 1180591620717411303425), [⟨1108, .cells 9 [(.string ⟨#[0]⟩), (.string ⟨#[1, 0]⟩)]⟩], 1109⟩
set_option maxRecDepth 1000000 in
theorem o1503 : EntryOK Try.prog e1503 := Ax.part (K := sks) (l := []) (by kernel_rfl) sks_ok trivial (by kernel_rfl)
noncomputable def e1540 : Entry := ⟨17, [(S 1050 0 2 1180591620717411303425), (S 1108 0 2 1180591620717411303425)], [⟨1050, .cells 9 [(.string ⟨#[0]⟩), (.string ⟨#[1, 0]⟩)]⟩, ⟨1108, .cells 9 [(.string ⟨#[0]⟩), (.string ⟨#[1, 0]⟩)]⟩], 1109, (S 1122 0 2 7083549724304467820545), [⟨1122, .cells 9 [(.string ⟨#[0]⟩), (.string ⟨#[1, 0]⟩), (.string ⟨#[]⟩), (.string ⟨#[]⟩)]⟩], 1123⟩
set_option maxRecDepth 1000000 in
theorem o1540 : EntryOK Try.prog e1540 := Ax.part (K := sks) (l := []) (by kernel_rfl) sks_ok trivial (by kernel_rfl)
noncomputable def e1579 : Entry := ⟨17, [(S 1019 0 2 1180591620717411303425), (S 1133 0 1 1180591620717411303425)], [⟨1019, .cells 9 [(.string ⟨#[]⟩), (.string ⟨#[1]⟩)]⟩, ⟨1133, .cells 9 [(.string ⟨#[1]⟩)]⟩], 1134, (S 1145 0 2 5902958103587056517121), [⟨1145, .cells 9 [(.string ⟨#[]⟩), (.string ⟨#[1]⟩), (.string ⟨#[]⟩)]⟩], 1146⟩
set_option maxRecDepth 1000000 in
theorem o1579 : EntryOK Try.prog e1579 := Ax.part (K := sks) (l := []) (by kernel_rfl) sks_ok trivial (by kernel_rfl)
noncomputable def e1601 : Entry := ⟨17, [(S 1019 0 2 1180591620717411303425), (S 1148 0 1 1)], [⟨1019, .cells 9 [(.string ⟨#[]⟩), (.string ⟨#[1]⟩)]⟩, ⟨1148, .cells 9 [(.string ⟨#[]⟩)]⟩], 1149, (S 1160 0 2 5902958103587056517121), [⟨1160, .cells 9 [(.string ⟨#[]⟩), (.string ⟨#[1]⟩), (.string ⟨#[]⟩)]⟩], 1161⟩
set_option maxRecDepth 1000000 in
theorem o1601 : EntryOK Try.prog e1601 := Ax.part (K := sks) (l := []) (by kernel_rfl) sks_ok trivial (by kernel_rfl)
noncomputable def e1313 : Entry := ⟨21, [(.agg #[(I 2), (I 2), (I 2), (S 299 0 3 3)])], [⟨297, .cells 3 [(I 3), (I 0)]⟩, ⟨298, .cells 3 [(I 1)]⟩, ⟨299, .cells 50 [(I 0), (S 297 0 2 2), (I 1), (S 298 0 1 1), (I 1), (.slice none 0 0)]⟩], 965, (S 973 0 2 2), [⟨1050, .cells 9 [(.string ⟨#[0]⟩), (.string ⟨#[1, 0]⟩)]⟩, ⟨1019, .cells 9 [(.string ⟨#[]⟩), (.string ⟨#[1]⟩)]⟩, ⟨973, .cells 34 [(S 1050 0 2 1180591620717411303425), (S 1019 0 2 1180591620717411303425)]⟩], 1161⟩
set_option maxRecDepth 1000000 in
theorem o1313 : EntryOK Try.prog e1313 := Ax.part (K := sks) (l := [e1372, e1390, e1458, e1480, e1503, e1540, e1579, e1601]) (by kernel_rfl) sks_ok ⟨o1372, o1390, o1458, o1480, o1503, o1540, o1579, o1601, trivial⟩ (by kernel_rfl)
noncomputable def e1640 : Entry := ⟨19, [(.agg #[(I 2), (I 2), (I 2), (S 299 0 3 3)]), (S 973 0 2 2), (S 297 1 1 1)], [⟨298, .cells 3 [(I 1)]⟩, ⟨299, .cells 50 [(I 0), (S 297 0 2 2), (I 1), (S 298 0 1 1), (I 1), (.slice none 0 0)]⟩, ⟨1050, .cells 9 [(.string ⟨#[0]⟩), (.string ⟨#[1, 0]⟩)]⟩, ⟨1019, .cells 9 [(.string ⟨#[]⟩), (.string ⟨#[1]⟩)]⟩, ⟨973, .cells 34 [(S 1050 0 2 1180591620717411303425), (S 1019 0 2 1180591620717411303425)]⟩, ⟨297, .cells 3 [(I 3), (I 0)]⟩], 1187, (S 1204 0 1 1180591620717411303425), [⟨1204, .cells 9 [(.string ⟨#[0]⟩)]⟩], 1205⟩
set_option maxRecDepth 1000000 in
theorem o1640 : EntryOK Try.prog e1640 := Ax.part (K := sks) (l := []) (by kernel_rfl) sks_ok trivial (by kernel_rfl)
noncomputable def e1291 : Entry := ⟨26, [(.agg #[(I 2), (I 2), (I 2), (S 299 0 3 3)]), (I 0)], [⟨297, .cells 3 [(I 3), (I 0)]⟩, ⟨298, .cells 3 [(I 1)]⟩, ⟨299, .cells 50 [(I 0), (S 297 0 2 2), (I 1), (S 298 0 1 1), (I 1), (.slice none 0 0)]⟩], 949, T, [], 1252⟩
set_option maxRecDepth 1000000 in
theorem o1291 : EntryOK Try.prog e1291 := Ax.part (K := sks) (l := [e1313, e1640]) (by kernel_rfl) sks_ok ⟨o1313, o1640, trivial⟩ (by kernel_rfl)
noncomputable def e1796 : Entry := ⟨17, [(S 1309 0 1 1180591620717411303425), (S 1312 0 1 1)], [⟨1309, .cells 9 [(.string ⟨#[1]⟩)]⟩, ⟨1312, .cells 9 [(.string ⟨#[]⟩)]⟩], 1313, (S 1322 0 2 1180591620717411303425), [⟨1322, .cells 9 [(.string ⟨#[]⟩), (.string ⟨#[1]⟩)]⟩], 1323⟩
set_option maxRecDepth 1000000 in
theorem o1796 : EntryOK Try.prog e1796 := Ax.part (K := sks) (l := []) (by kernel_rfl) sks_ok trivial (by kernel_rfl)
noncomputable def e1814 : Entry := ⟨58, [(.agg #[(I 2), (I 2), (I 2), (S 299 0 3 3)]), (S 1276 0 2 2), (S 297 0 2 2)], [⟨298, .cells 3 [(I 1)]⟩, ⟨299, .cells 50 [(I 0), (S 297 0 2 2), (I 1), (S 298 0 1 1), (I 1), (.slice none 0 0)]⟩, ⟨1322, .cells 9 [(.string ⟨#[]⟩), (.string ⟨#[1]⟩)]⟩, ⟨1276, .cells 34 [(.slice none 0 0), (S 1322 0 2 1180591620717411303425)]⟩, ⟨297, .cells 3 [(I 3), (I 0)]⟩], 1324, (S 1342 0 2 1180591620717411303425), [⟨1342, .cells 9 [(.string ⟨#[0]⟩), (.string ⟨#[1, 0]⟩)]⟩], 1343⟩
set_option maxRecDepth 1000000 in
theorem o1814 : EntryOK Try.prog e1814 := Ax.part (K := sks) (l := []) (by kernel_rfl) sks_ok trivial (by kernel_rfl)
noncomputable def e1882 : Entry := ⟨17, [(S 1322 0 2 1180591620717411303425), (S 1364 0 1 1180591620717411303425)], [⟨1322, .cells 9 [(.string ⟨#[]⟩), (.string ⟨#[1]⟩)]⟩, ⟨1364, .cells 9 [(.string ⟨#[1]⟩)]⟩], 1365, (S 1376 0 2 5902958103587056517121), [⟨1376, .cells 9 [(.string ⟨#[]⟩), (.string ⟨#[1]⟩), (.string ⟨#[]⟩)]⟩], 1377⟩
set_option maxRecDepth 1000000 in
theorem o1882 : EntryOK Try.prog e1882 := Ax.part (K := sks) (l := []) (by kernel_rfl) sks_ok trivial (by kernel_rfl)
noncomputable def e1904 : Entry := ⟨17, [(S 1322 0 2 1180591620717411303425), (S 1379 0 1 1)], [⟨1322, .cells 9 [(.string ⟨#[]⟩), (.string ⟨#[1]⟩)]⟩, ⟨1379, .cells 9 [(.string ⟨#[]⟩)]⟩], 1380, (S 1391 0 2 5902958103587056517121), [⟨1391, .cells 9 [(.string ⟨#[]⟩), (.string ⟨#[1]⟩), (.string ⟨#[]⟩)]⟩], 1392⟩
set_option maxRecDepth 1000000 in
theorem o1904 : EntryOK Try.prog e1904 := Ax.part (K := sks) (l := []) (by kernel_rfl) sks_ok trivial (by kernel_rfl)
noncomputable def e1927 : Entry := ⟨58, [(.agg #[(I 2), (I 2), (I 2), (S 299 0 3 3)]), (S 1276 0 2 2), (S 297 0 2 2)], [⟨298, .cells 3 [(I 1)]⟩, ⟨299, .cells 50 [(I 0), (S 297 0 2 2), (I 1), (S 298 0 1 1), (I 1), (.slice none 0 0)]⟩, ⟨1353, .cells 9 [(.string ⟨#[0]⟩), (.string ⟨#[1, 0]⟩)]⟩, ⟨1322, .cells 9 [(.string ⟨#[]⟩), (.string ⟨#[1]⟩)]⟩, ⟨1276, .cells 34 [(S 1353 0 2 1180591620717411303425), (S 1322 0 2 1180591620717411303425)]⟩, ⟨297, .cells 3 [(I 3), (I 0)]⟩], 1393, (S 1411 0 2 1180591620717411303425), [⟨1411, .cells 9 [(.string ⟨#[0]⟩), (.string ⟨#[1, 0]⟩)]⟩], 1412⟩
set_option maxRecDepth 1000000 in
theorem o1927 : EntryOK Try.prog e1927 := Ax.part (K := sks) (l := []) (by kernel_rfl) sks_ok trivial (by kernel_rfl)
noncomputable def e1964 : Entry := ⟨17, [(S 1353 0 2 1180591620717411303425), (S 1411 0 2 1180591620717411303425)], [⟨1353, .cells 9 [(.string ⟨#[0]⟩), (.string ⟨#[1, 0]⟩)]⟩, ⟨1411, .cells 9 [(.string ⟨#[0]⟩), (.string ⟨#[1, 0]⟩)]⟩], 1412, (S 1425 0 2 7083549724304467820545), [⟨1425, .cells 9 [(.string ⟨#[0]⟩), (.string ⟨#[1, 0]⟩), (.string ⟨#[]⟩), (.string ⟨#[]⟩)]⟩], 1426⟩
set_option maxRecDepth 1000000 in
theorem o1964 : EntryOK Try.prog e1964 := Ax.part (K := sks) (l := []) (by kernel_rfl) sks_ok trivial (by kernel_rfl)

end Go.Proofs.Ytoocpkmefmjcjaa.followNames
