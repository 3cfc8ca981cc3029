/-
  Parts of the run of viewportlaw13.FollowNames, in order: what each of these calls gives, for each memory that holds what it looks at. No condition.
-/
import Derived.Test.YtoocpkmefmjcjaaAx1
import Derived.Test.YtoocpkmefmjcjaaKeys
import Derived.Test.YtoocpkmefmjcjaaProg
import Derived.KernelRfl
set_option linter.unusedSimpArgs false
set_option linter.unusedVariables false
namespace Go.Proofs.Ytoocpkmefmjcjaa.followNames
open Go.Proofs Go.Proofs.Ytoocpkmefmjcjaa Ax

noncomputable def e74 : Entry := ⟨17, [(S 53 0 1 1180591620717411303425), (S 56 0 1 1)], [⟨53, .cells 9 [(.string ⟨#[1]⟩)]⟩, ⟨56, .cells 9 [(.string ⟨#[]⟩)]⟩], 57, (S 66 0 2 1180591620717411303425), [⟨66, .cells 9 [(.string ⟨#[]⟩), (.string ⟨#[1]⟩)]⟩], 67⟩
set_option maxRecDepth 1000000 in
theorem o74 : EntryOK Try.prog e74 := Ax.part (K := sks) (l := []) (by kernel_rfl) sks_ok trivial (by kernel_rfl)
noncomputable def e92 : Entry := ⟨58, [(.agg #[(I 2), (I 2), (I 1), (S 3 0 3 3)]), (S 20 0 2 2), (S 1 0 2 2)], [⟨2, .cells 3 [(I 1)]⟩, ⟨3, .cells 50 [(I 0), (S 1 0 2 2), (I 1), (S 2 0 1 1), (I 1), (.slice none 0 0)]⟩, ⟨66, .cells 9 [(.string ⟨#[]⟩), (.string ⟨#[1]⟩)]⟩, ⟨20, .cells 34 [(.slice none 0 0), (S 66 0 2 1180591620717411303425)]⟩, ⟨1, .cells 3 [(I 3), (I 0)]⟩], 68, (S 84 0 2 1180591620717411303425), [⟨84, .cells 9 [(.string ⟨#[0]⟩), (.string ⟨#[1]⟩)]⟩], 85⟩
set_option maxRecDepth 1000000 in
theorem o92 : EntryOK Try.prog e92 := Ax.part (K := sks) (l := []) (by kernel_rfl) sks_ok trivial (by kernel_rfl)
noncomputable def e153 : Entry := ⟨17, [(S 66 0 2 1180591620717411303425), (S 106 0 1 1180591620717411303425)], [⟨66, .cells 9 [(.string ⟨#[]⟩), (.string ⟨#[1]⟩)]⟩, ⟨106, .cells 9 [(.string ⟨#[1]⟩)]⟩], 107, (S 118 0 2 5902958103587056517121), [⟨118, .cells 9 [(.string ⟨#[]⟩), (.string ⟨#[1]⟩), (.string ⟨#[]⟩)]⟩], 119⟩
set_option maxRecDepth 1000000 in
theorem o153 : EntryOK Try.prog e153 := Ax.part (K := sks) (l := []) (by kernel_rfl) sks_ok trivial (by kernel_rfl)
noncomputable def e175 : Entry := ⟨17, [(S 66 0 2 1180591620717411303425), (S 121 0 1 1)], [⟨66, .cells 9 [(.string ⟨#[]⟩), (.string ⟨#[1]⟩)]⟩, ⟨121, .cells 9 [(.string ⟨#[]⟩)]⟩], 122, (S 133 0 2 5902958103587056517121), [⟨133, .cells 9 [(.string ⟨#[]⟩), (.string ⟨#[1]⟩), (.string ⟨#[]⟩)]⟩], 134⟩
set_option maxRecDepth 1000000 in
theorem o175 : EntryOK Try.prog e175 := Ax.part (K := sks) (l := []) (by kernel_rfl) sks_ok trivial (by kernel_rfl)
noncomputable def e198 : Entry := ⟨58, [(.agg #[(I 2), (I 2), (I 1), (S 3 0 3 3)]), (S 20 0 2 2), (S 1 0 2 2)], [⟨2, .cells 3 [(I 1)]⟩, ⟨3, .cells 50 [(I 0), (S 1 0 2 2), (I 1), (S 2 0 1 1), (I 1), (.slice none 0 0)]⟩, ⟨95, .cells 9 [(.string ⟨#[0]⟩), (.string ⟨#[1]⟩)]⟩, ⟨66, .cells 9 [(.string ⟨#[]⟩), (.string ⟨#[1]⟩)]⟩, ⟨20, .cells 34 [(S 95 0 2 1180591620717411303425), (S 66 0 2 1180591620717411303425)]⟩, ⟨1, .cells 3 [(I 3), (I 0)]⟩], 135, (S 151 0 2 1180591620717411303425), [⟨151, .cells 9 [(.string ⟨#[0]⟩), (.string ⟨#[1]⟩)]⟩], 152⟩
set_option maxRecDepth 1000000 in
theorem o198 : EntryOK Try.prog e198 := Ax.part (K := sks) (l := []) (by kernel_rfl) sks_ok trivial (by kernel_rfl)
noncomputable def e228 : Entry := ⟨17, [(S 95 0 2 1180591620717411303425), (S 151 0 2 1180591620717411303425)], [⟨95, .cells 9 [(.string ⟨#[0]⟩), (.string ⟨#[1]⟩)]⟩, ⟨151, .cells 9 [(.string ⟨#[0]⟩), (.string ⟨#[1]⟩)]⟩], 152, (S 165 0 2 7083549724304467820545), [⟨165, .cells 9 [(.string ⟨#[0]⟩), (.string ⟨#[1]⟩), (.string ⟨#[]⟩), (.string ⟨#[]⟩)]⟩], 166⟩
set_option maxRecDepth 1000000 in
theorem o228 : EntryOK Try.prog e228 := Ax.part (K := sks) (l := []) (by kernel_rfl) sks_ok trivial (by kernel_rfl)
noncomputable def e267 : Entry := ⟨17, [(S 66 0 2 1180591620717411303425), (S 176 0 1 1180591620717411303425)], [⟨66, .cells 9 [(.string ⟨#[]⟩), (.string ⟨#[1]⟩)]⟩, ⟨176, .cells 9 [(.string ⟨#[1]⟩)]⟩], 177, (S 188 0 2 5902958103587056517121), [⟨188, .cells 9 [(.string ⟨#[]⟩), (.string ⟨#[1]⟩), (.string ⟨#[]⟩)]⟩], 189⟩
set_option maxRecDepth 1000000 in
theorem o267 : EntryOK Try.prog e267 := Ax.part (K := sks) (l := []) (by kernel_rfl) sks_ok trivial (by kernel_rfl)
noncomputable def e289 : Entry := ⟨17, [(S 66 0 2 1180591620717411303425), (S 191 0 1 1)], [⟨66, .cells 9 [(.string ⟨#[]⟩), (.string ⟨#[1]⟩)]⟩, ⟨191, .cells 9 [(.string ⟨#[]⟩)]⟩], 192, (S 203 0 2 5902958103587056517121), [⟨203, .cells 9 [(.string ⟨#[]⟩), (.string ⟨#[1]⟩), (.string ⟨#[]⟩)]⟩], 204⟩
set_option maxRecDepth 1000000 in
theorem o289 : EntryOK Try.prog e289 := Ax.part (K := sks) (l := []) (by kernel_rfl) sks_ok trivial (by kernel_rfl)
noncomputable def e15 : Entry := ⟨21, [(.agg #[(I 2), (I 2), (I 1), (S 3 0 3 3)])], [⟨1, .cells 3 [(I 3), (I 0)]⟩, ⟨2, .cells 3 [(I 1)]⟩, ⟨3, .cells 50 [(I 0), (S 1 0 2 2), (I 1), (S 2 0 1 1), (I 1), (.slice none 0 0)]⟩], 12, (S 20 0 2 2), [⟨95, .cells 9 [(.string ⟨#[0]⟩), (.string ⟨#[1]⟩)]⟩, ⟨66, .cells 9 [(.string ⟨#[]⟩), (.string ⟨#[1]⟩)]⟩, ⟨20, .cells 34 [(S 95 0 2 1180591620717411303425), (S 66 0 2 1180591620717411303425)]⟩], 204⟩
set_option maxRecDepth 1000000 in
theorem o15 : EntryOK Try.prog e15 := Ax.part (K := sks) (l := [e74, e92, e153, e175, e198, e228, e267, e289]) (by kernel_rfl) sks_ok ⟨o74, o92, o153, o175, o198, o228, o267, o289, trivial⟩ (by kernel_rfl)
noncomputable def e4 : Entry := ⟨25, [(.agg #[(I 2), (I 2), (I 1), (S 3 0 3 3)])], [⟨1, .cells 3 [(I 3), (I 0)]⟩, ⟨2, .cells 3 [(I 1)]⟩, ⟨3, .cells 50 [(I 0), (S 1 0 2 2), (I 1), (S 2 0 1 1), (I 1), (.slice none 0 0)]⟩], 4, (S 204 0 2 2), [⟨205, .cells 9 [(.string ⟨#[255]⟩)]⟩, ⟨260, .cells 9 [(.string ⟨#[0]⟩)]⟩, ⟨204, .cells 34 [(S 205 0 1 1), (S 260 0 1 1180591620717411303425)]⟩], 293⟩
set_option maxRecDepth 1000000 in
theorem o4 : EntryOK Try.prog e4 := Ax.part (K := sks) (l := [e15]) (by kernel_rfl) sks_ok ⟨o15, trivial⟩ (by kernel_rfl)
noncomputable def e466 : Entry := ⟨17, [(S 353 0 1 1180591620717411303425), (S 356 0 1 1)], [⟨353, .cells 9 [(.string ⟨#[1]⟩)]⟩, ⟨356, .cells 9 [(.string ⟨#[]⟩)]⟩], 357, (S 366 0 2 1180591620717411303425), [⟨366, .cells 9 [(.string ⟨#[]⟩), (.string ⟨#[1]⟩)]⟩], 367⟩
set_option maxRecDepth 1000000 in
theorem o466 : EntryOK Try.prog e466 := Ax.part (K := sks) (l := []) (by kernel_rfl) sks_ok trivial (by kernel_rfl)
noncomputable def e484 : Entry := ⟨58, [(.agg #[(I 2), (I 2), (I 2), (S 299 0 3 3)]), (S 320 0 2 2), (S 297 0 2 2)], [⟨298, .cells 3 [(I 1)]⟩, ⟨299, .cells 50 [(I 0), (S 297 0 2 2), (I 1), (S 298 0 1 1), (I 1), (.slice none 0 0)]⟩, ⟨366, .cells 9 [(.string ⟨#[]⟩), (.string ⟨#[1]⟩)]⟩, ⟨320, .cells 34 [(.slice none 0 0), (S 366 0 2 1180591620717411303425)]⟩, ⟨297, .cells 3 [(I 3), (I 0)]⟩], 368, (S 386 0 2 1180591620717411303425), [⟨386, .cells 9 [(.string ⟨#[0]⟩), (.string ⟨#[1, 0]⟩)]⟩], 387⟩
set_option maxRecDepth 1000000 in
theorem o484 : EntryOK Try.prog e484 := Ax.part (K := sks) (l := []) (by kernel_rfl) sks_ok trivial (by kernel_rfl)
noncomputable def e552 : Entry := ⟨17, [(S 366 0 2 1180591620717411303425), (S 408 0 1 1180591620717411303425)], [⟨366, .cells 9 [(.string ⟨#[]⟩), (.string ⟨#[1]⟩)]⟩, ⟨408, .cells 9 [(.string ⟨#[1]⟩)]⟩], 409, (S 420 0 2 5902958103587056517121), [⟨420, .cells 9 [(.string ⟨#[]⟩), (.string ⟨#[1]⟩), (.string ⟨#[]⟩)]⟩], 421⟩
set_option maxRecDepth 1000000 in
theorem o552 : EntryOK Try.prog e552 := Ax.part (K := sks) (l := []) (by kernel_rfl) sks_ok trivial (by kernel_rfl)
noncomputable def e574 : Entry := ⟨17, [(S 366 0 2 1180591620717411303425), (S 423 0 1 1)], [⟨366, .cells 9 [(.string ⟨#[]⟩), (.string ⟨#[1]⟩)]⟩, ⟨423, .cells 9 [(.string ⟨#[]⟩)]⟩], 424, (S 435 0 2 5902958103587056517121), [⟨435, .cells 9 [(.string ⟨#[]⟩), (.string ⟨#[1]⟩), (.string ⟨#[]⟩)]⟩], 436⟩
set_option maxRecDepth 1000000 in
theorem o574 : EntryOK Try.prog e574 := Ax.part (K := sks) (l := []) (by kernel_rfl) sks_ok trivial (by kernel_rfl)

end Go.Proofs.Ytoocpkmefmjcjaa.followNames
