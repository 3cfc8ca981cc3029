/-
  Parts of the run of viewportlaw13.FollowNames, in order: what each of these calls gives, for each memory that holds what it looks at. No condition.
-/
import Derived.Test.YtoocpkmefmjcjaaAx1
import Derived.Test.YtoocpkmefmjcjaaKeys
import Derived.Test.YtoocpkmefmjcjaaProg
import Derived.KernelRfl
import Derived.Test.YtoocpkmefmjcjaaPFollowNames2
set_option linter.unusedSimpArgs false
set_option linter.unusedVariables false
namespace Go.Proofs.Ytoocpkmefmjcjaa.followNames
open Go.Proofs Go.Proofs.Ytoocpkmefmjcjaa Ax

noncomputable def e817 : Entry := ⟨21, [(.agg #[(I 1), (I 1), (I 2), (S 302 0 2 2)])], [⟨301, .cells 3 [(I 0), (I 1), (I 0)]⟩, ⟨302, .cells 50 [(I 0), (S 301 0 3 3), (I 0), (.slice none 0 0)]⟩], 608, (S 614 0 1 1), [⟨682, .cells 9 [(.string ⟨#[]⟩), (.string ⟨#[0, 0]⟩)]⟩, ⟨614, .cells 34 [(S 682 0 2 1180591620717411303425)]⟩], 751⟩
set_option maxRecDepth 1000000 in
theorem o817 : EntryOK Try.prog e817 := Ax.part (K := sks) (l := [e873, e929, e952, e1016]) (by kernel_rfl) sks_ok ⟨o873, o929, o952, o1016, trivial⟩ (by kernel_rfl)
noncomputable def e1053 : Entry := ⟨19, [(.agg #[(I 1), (I 1), (I 2), (S 302 0 2 2)]), (S 614 0 1 1), (S 301 2 1 1)], [⟨302, .cells 50 [(I 0), (S 301 0 3 3), (I 0), (.slice none 0 0)]⟩, ⟨682, .cells 9 [(.string ⟨#[]⟩), (.string ⟨#[0, 0]⟩)]⟩, ⟨614, .cells 34 [(S 682 0 2 1180591620717411303425)]⟩, ⟨301, .cells 3 [(I 0), (I 1), (I 0)]⟩], 776, (S 791 0 1 1180591620717411303425), [⟨791, .cells 9 [(.string ⟨#[0]⟩)]⟩], 792⟩
set_option maxRecDepth 1000000 in
theorem o1053 : EntryOK Try.prog e1053 := Ax.part (K := sks) (l := []) (by kernel_rfl) sks_ok trivial (by kernel_rfl)
noncomputable def e1125 : Entry := ⟨19, [(.agg #[(I 1), (I 1), (I 2), (S 302 0 2 2)]), (S 614 0 1 1), (S 301 2 1 1)], [⟨302, .cells 50 [(I 0), (S 301 0 3 3), (I 0), (.slice none 0 0)]⟩, ⟨682, .cells 9 [(.string ⟨#[]⟩), (.string ⟨#[0, 0]⟩)]⟩, ⟨614, .cells 34 [(S 682 0 2 1180591620717411303425)]⟩, ⟨301, .cells 3 [(I 0), (I 1), (I 0)]⟩], 837, (S 852 0 1 1180591620717411303425), [⟨852, .cells 9 [(.string ⟨#[0]⟩)]⟩], 853⟩
set_option maxRecDepth 1000000 in
theorem o1125 : EntryOK Try.prog e1125 := Ax.part (K := sks) (l := []) (by kernel_rfl) sks_ok trivial (by kernel_rfl)
noncomputable def e1165 : Entry := ⟨17, [(S 807 0 2 1180591620717411303425), (S 859 0 2 1180591620717411303425)], [⟨807, .cells 9 [(.string ⟨#[0, 255]⟩), (.string ⟨#[255]⟩)]⟩, ⟨859, .cells 9 [(.string ⟨#[0, 0]⟩), (.string ⟨#[0, 255]⟩)]⟩], 860, (S 873 0 3 7083549724304467820545), [⟨873, .cells 9 [(.string ⟨#[0, 0]⟩), (.string ⟨#[0, 255]⟩), (.string ⟨#[255]⟩), (.string ⟨#[]⟩)]⟩], 874⟩
set_option maxRecDepth 1000000 in
theorem o1165 : EntryOK Try.prog e1165 := Ax.part (K := sks) (l := []) (by kernel_rfl) sks_ok trivial (by kernel_rfl)
noncomputable def e1196 : Entry := ⟨59, [(.agg #[(I 1), (I 1), (I 2), (S 302 0 2 2)]), (S 614 0 1 1), (S 751 0 1 1), (I 0)], [⟨301, .cells 3 [(I 0), (I 1), (I 0)]⟩, ⟨302, .cells 50 [(I 0), (S 301 0 3 3), (I 0), (.slice none 0 0)]⟩, ⟨682, .cells 9 [(.string ⟨#[]⟩), (.string ⟨#[0, 0]⟩)]⟩, ⟨614, .cells 34 [(S 682 0 2 1180591620717411303425)]⟩, ⟨873, .cells 9 [(.string ⟨#[0, 0]⟩), (.string ⟨#[0, 255]⟩), (.string ⟨#[255]⟩), (.string ⟨#[]⟩)]⟩, ⟨751, .cells 34 [(S 873 0 3 7083549724304467820545)]⟩], 882, (.slice none 0 0), [], 947⟩
set_option maxRecDepth 1000000 in
theorem o1196 : EntryOK Try.prog e1196 := Ax.part (K := sks) (l := []) (by kernel_rfl) sks_ok trivial (by kernel_rfl)
noncomputable def e808 : Entry := ⟨25, [(.agg #[(I 1), (I 1), (I 2), (S 302 0 2 2)])], [⟨301, .cells 3 [(I 0), (I 1), (I 0)]⟩, ⟨302, .cells 50 [(I 0), (S 301 0 3 3), (I 0), (.slice none 0 0)]⟩], 602, (S 751 0 1 1), [⟨873, .cells 9 [(.string ⟨#[0, 0]⟩), (.string ⟨#[0, 255]⟩), (.string ⟨#[255]⟩), (.string ⟨#[]⟩)]⟩, ⟨751, .cells 34 [(S 873 0 3 7083549724304467820545)]⟩], 947⟩
set_option maxRecDepth 1000000 in
theorem o808 : EntryOK Try.prog e808 := Ax.part (K := sks) (l := [e817, e1053, e1125, e1165, e1196]) (by kernel_rfl) sks_ok ⟨o817, o1053, o1125, o1165, o1196, trivial⟩ (by kernel_rfl)
noncomputable def e1372 : Entry := ⟨17, [(S 1006 0 1 1180591620717411303425), (S 1009 0 1 1)], [⟨1006, .cells 9 [(.string ⟨#[1]⟩)]⟩, ⟨1009, .cells 9 [(.string ⟨#[]⟩)]⟩], 1010, (S 1019 0 2 1180591620717411303425), [⟨1019, .cells 9 [(.string ⟨#[]⟩), (.string ⟨#[1]⟩)]⟩], 1020⟩
set_option maxRecDepth 1000000 in
theorem o1372 : EntryOK Try.prog e1372 := Ax.part (K := sks) (l := []) (by kernel_rfl) sks_ok trivial (by kernel_rfl)
noncomputable def e1390 : Entry := ⟨58, [(.agg #[(I 2), (I 2), (I 2), (S 299 0 3 3)]), (S 973 0 2 2), (S 297 0 2 2)], [⟨298, .cells 3 [(I 1)]⟩, ⟨299, .cells 50 [(I 0), (S 297 0 2 2), (I 1), (S 298 0 1 1), (I 1), (.slice none 0 0)]⟩, ⟨1019, .cells 9 [(.string ⟨#[]⟩), (.string ⟨#[1]⟩)]⟩, ⟨973, .cells 34 [(.slice none 0 0), (S 1019 0 2 1180591620717411303425)]⟩, ⟨297, .cells 3 [(I 3), (I 0)]⟩], 1021, (S 1039 0 2 1180591620717411303425), [⟨1039, .cells 9 [(.string ⟨#[0]⟩), (.string ⟨#[1, 0]⟩)]⟩], 1040⟩
set_option maxRecDepth 1000000 in
theorem o1390 : EntryOK Try.prog e1390 := Ax.part (K := sks) (l := []) (by kernel_rfl) sks_ok trivial (by kernel_rfl)
noncomputable def e1458 : Entry := ⟨17, [(S 1019 0 2 1180591620717411303425), (S 1061 0 1 1180591620717411303425)], [⟨1019, .cells 9 [(.string ⟨#[]⟩), (.string ⟨#[1]⟩)]⟩, ⟨1061, .cells 9 [(.string ⟨#[1]⟩)]⟩], 1062, (S 1073 0 2 5902958103587056517121), [⟨1073, .cells 9 [(.string ⟨#[]⟩), (.string ⟨#[1]⟩), (.string ⟨#[]⟩)]⟩], 1074⟩
set_option maxRecDepth 1000000 in
theorem o1458 : EntryOK Try.prog e1458 := Ax.part (K := sks) (l := []) (by kernel_rfl) sks_ok trivial (by kernel_rfl)
noncomputable def e1480 : Entry := ⟨17, [(S 1019 0 2 1180591620717411303425), (S 1076 0 1 1)], [⟨1019, .cells 9 [(.string ⟨#[]⟩), (.string ⟨#[1]⟩)]⟩, ⟨1076, .cells 9 [(.string ⟨#[]⟩)]⟩], 1077, (S 1088 0 2 5902958103587056517121), [⟨1088, .cells 9 [(.string ⟨#[]⟩), (.string ⟨#[1]⟩), (.string ⟨#[]⟩)]⟩], 1089⟩
set_option maxRecDepth 1000000 in
theorem o1480 : EntryOK Try.prog e1480 := Ax.part (K := sks) (l := []) (by kernel_rfl) sks_ok trivial (by kernel_rfl)

end Go.Proofs.Ytoocpkmefmjcjaa.followNames
