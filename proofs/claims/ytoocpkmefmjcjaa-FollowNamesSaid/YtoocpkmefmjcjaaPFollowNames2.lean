/-
  Parts of the run of viewportlaw13.FollowNames, in order: what each of these calls gives, for each memory that holds what it looks at. No condition.
-/
import Derived.Test.YtoocpkmefmjcjaaAx1
import Derived.Test.YtoocpkmefmjcjaaKeys
import Derived.Test.YtoocpkmefmjcjaaProg
import Derived.KernelRfl
import Derived.Test.YtoocpkmefmjcjaaPFollowNames1
set_option linter.unusedSimpArgs false
set_option linter.unusedVariables false
namespace Go.Proofs.Ytoocpkmefmjcjaa.followNames
open Go.Proofs Go.Proofs.Ytoocpkmefmjcjaa Ax

noncomputable def e597 : Entry := ⟨58, [(.agg #[(I 2), (I 2), (I 2), (S 299 0 3 3)]), (S 320 0 2 2), (S 297 0 2 2)], [⟨298, .cells 3 [(I 1)]⟩, ⟨299, .cells 50 [(I 0), (S 297 0 2 2), (I 1), (S 298 0 1 1), (I 1), (.slice none 0 0)]⟩, ⟨397, .cells 9 [(.string ⟨#[0]⟩), (.string ⟨#[1, 0]⟩)]⟩, ⟨366, .cells 9 [(.string ⟨#[]⟩), (.string ⟨#[1]⟩)]⟩, ⟨320, .cells 34 [(S 397 0 2 1180591620717411303425), (S 366 0 2 1180591620717411303425)]⟩, ⟨297, .cells 3 [(I 3), (I 0)]⟩], 437, (S 455 0 2 1180591620717411303425), [⟨455, .cells 9 [(.string ⟨#[0]⟩), (.string ⟨#[1, 0]⟩)]⟩], 456⟩
set_option maxRecDepth 1000000 in
theorem o597 : EntryOK Try.prog e597 := Ax.part (K := sks) (l := []) (by kernel_rfl) sks_ok trivial (by kernel_rfl)
noncomputable def e634 : Entry := ⟨17, [(S 397 0 2 1180591620717411303425), (S 455 0 2 1180591620717411303425)], [⟨397, .cells 9 [(.string ⟨#[0]⟩), (.string ⟨#[1, 0]⟩)]⟩, ⟨455, .cells 9 [(.string ⟨#[0]⟩), (.string ⟨#[1, 0]⟩)]⟩], 456, (S 469 0 2 7083549724304467820545), [⟨469, .cells 9 [(.string ⟨#[0]⟩), (.string ⟨#[1, 0]⟩), (.string ⟨#[]⟩), (.string ⟨#[]⟩)]⟩], 470⟩
set_option maxRecDepth 1000000 in
theorem o634 : EntryOK Try.prog e634 := Ax.part (K := sks) (l := []) (by kernel_rfl) sks_ok trivial (by kernel_rfl)
noncomputable def e673 : Entry := ⟨17, [(S 366 0 2 1180591620717411303425), (S 480 0 1 1180591620717411303425)], [⟨366, .cells 9 [(.string ⟨#[]⟩), (.string ⟨#[1]⟩)]⟩, ⟨480, .cells 9 [(.string ⟨#[1]⟩)]⟩], 481, (S 492 0 2 5902958103587056517121), [⟨492, .cells 9 [(.string ⟨#[]⟩), (.string ⟨#[1]⟩), (.string ⟨#[]⟩)]⟩], 493⟩
set_option maxRecDepth 1000000 in
theorem o673 : EntryOK Try.prog e673 := Ax.part (K := sks) (l := []) (by kernel_rfl) sks_ok trivial (by kernel_rfl)
noncomputable def e695 : Entry := ⟨17, [(S 366 0 2 1180591620717411303425), (S 495 0 1 1)], [⟨366, .cells 9 [(.string ⟨#[]⟩), (.string ⟨#[1]⟩)]⟩, ⟨495, .cells 9 [(.string ⟨#[]⟩)]⟩], 496, (S 507 0 2 5902958103587056517121), [⟨507, .cells 9 [(.string ⟨#[]⟩), (.string ⟨#[1]⟩), (.string ⟨#[]⟩)]⟩], 508⟩
set_option maxRecDepth 1000000 in
theorem o695 : EntryOK Try.prog e695 := Ax.part (K := sks) (l := []) (by kernel_rfl) sks_ok trivial (by kernel_rfl)
noncomputable def e407 : Entry := ⟨21, [(.agg #[(I 2), (I 2), (I 2), (S 299 0 3 3)])], [⟨297, .cells 3 [(I 3), (I 0)]⟩, ⟨298, .cells 3 [(I 1)]⟩, ⟨299, .cells 50 [(I 0), (S 297 0 2 2), (I 1), (S 298 0 1 1), (I 1), (.slice none 0 0)]⟩], 312, (S 320 0 2 2), [⟨397, .cells 9 [(.string ⟨#[0]⟩), (.string ⟨#[1, 0]⟩)]⟩, ⟨366, .cells 9 [(.string ⟨#[]⟩), (.string ⟨#[1]⟩)]⟩, ⟨320, .cells 34 [(S 397 0 2 1180591620717411303425), (S 366 0 2 1180591620717411303425)]⟩], 508⟩
set_option maxRecDepth 1000000 in
theorem o407 : EntryOK Try.prog e407 := Ax.part (K := sks) (l := [e466, e484, e552, e574, e597, e634, e673, e695]) (by kernel_rfl) sks_ok ⟨o466, o484, o552, o574, o597, o634, o673, o695, trivial⟩ (by kernel_rfl)
noncomputable def e734 : Entry := ⟨19, [(.agg #[(I 2), (I 2), (I 2), (S 299 0 3 3)]), (S 320 0 2 2), (S 297 1 1 1)], [⟨298, .cells 3 [(I 1)]⟩, ⟨299, .cells 50 [(I 0), (S 297 0 2 2), (I 1), (S 298 0 1 1), (I 1), (.slice none 0 0)]⟩, ⟨397, .cells 9 [(.string ⟨#[0]⟩), (.string ⟨#[1, 0]⟩)]⟩, ⟨366, .cells 9 [(.string ⟨#[]⟩), (.string ⟨#[1]⟩)]⟩, ⟨320, .cells 34 [(S 397 0 2 1180591620717411303425), (S 366 0 2 1180591620717411303425)]⟩, ⟨297, .cells 3 [(I 3), (I 0)]⟩], 534, (S 551 0 1 1180591620717411303425), [⟨551, .cells 9 [(.string ⟨#[0]⟩)]⟩], 552⟩
set_option maxRecDepth 1000000 in
theorem o734 : EntryOK Try.prog e734 := Ax.part (K := sks) (l := []) (by kernel_rfl) sks_ok trivial (by kernel_rfl)
noncomputable def e396 : Entry := ⟨25, [(.agg #[(I 2), (I 2), (I 2), (S 299 0 3 3)])], [⟨297, .cells 3 [(I 3), (I 0)]⟩, ⟨298, .cells 3 [(I 1)]⟩, ⟨299, .cells 50 [(I 0), (S 297 0 2 2), (I 1), (S 298 0 1 1), (I 1), (.slice none 0 0)]⟩], 304, (S 508 0 2 2), [⟨509, .cells 9 [(.string ⟨#[255]⟩)]⟩, ⟨566, .cells 9 [(.string ⟨#[0, 255]⟩)]⟩, ⟨508, .cells 34 [(S 509 0 1 1), (S 566 0 1 1180591620717411303425)]⟩], 599⟩
set_option maxRecDepth 1000000 in
theorem o396 : EntryOK Try.prog e396 := Ax.part (K := sks) (l := [e407, e734]) (by kernel_rfl) sks_ok ⟨o407, o734, trivial⟩ (by kernel_rfl)
noncomputable def e873 : Entry := ⟨58, [(.agg #[(I 1), (I 1), (I 2), (S 302 0 2 2)]), (S 614 0 1 1), (S 301 0 3 3)], [⟨302, .cells 50 [(I 0), (S 301 0 3 3), (I 0), (.slice none 0 0)]⟩, ⟨647, .cells 9 [(.string ⟨#[]⟩)]⟩, ⟨614, .cells 34 [(S 647 0 1 1180591620717411303425)]⟩, ⟨301, .cells 3 [(I 0), (I 1), (I 0)]⟩], 649, (S 672 0 1 1180591620717411303425), [⟨672, .cells 9 [(.string ⟨#[0, 0]⟩)]⟩], 673⟩
set_option maxRecDepth 1000000 in
theorem o873 : EntryOK Try.prog e873 := Ax.part (K := sks) (l := []) (by kernel_rfl) sks_ok trivial (by kernel_rfl)
noncomputable def e929 : Entry := ⟨17, [(S 682 0 2 1180591620717411303425), (S 685 0 1 1)], [⟨682, .cells 9 [(.string ⟨#[]⟩), (.string ⟨#[0, 0]⟩)]⟩, ⟨685, .cells 9 [(.string ⟨#[]⟩)]⟩], 686, (S 697 0 2 5902958103587056517121), [⟨697, .cells 9 [(.string ⟨#[]⟩), (.string ⟨#[0, 0]⟩), (.string ⟨#[]⟩)]⟩], 698⟩
set_option maxRecDepth 1000000 in
theorem o929 : EntryOK Try.prog e929 := Ax.part (K := sks) (l := []) (by kernel_rfl) sks_ok trivial (by kernel_rfl)
noncomputable def e952 : Entry := ⟨58, [(.agg #[(I 1), (I 1), (I 2), (S 302 0 2 2)]), (S 614 0 1 1), (S 301 0 3 3)], [⟨302, .cells 50 [(I 0), (S 301 0 3 3), (I 0), (.slice none 0 0)]⟩, ⟨682, .cells 9 [(.string ⟨#[]⟩), (.string ⟨#[0, 0]⟩)]⟩, ⟨614, .cells 34 [(S 682 0 2 1180591620717411303425)]⟩, ⟨301, .cells 3 [(I 0), (I 1), (I 0)]⟩], 699, (S 723 0 1 1180591620717411303425), [⟨723, .cells 9 [(.string ⟨#[0, 0]⟩)]⟩], 724⟩
set_option maxRecDepth 1000000 in
theorem o952 : EntryOK Try.prog e952 := Ax.part (K := sks) (l := []) (by kernel_rfl) sks_ok trivial (by kernel_rfl)
noncomputable def e1016 : Entry := ⟨17, [(S 682 0 2 1180591620717411303425), (S 738 0 1 1)], [⟨682, .cells 9 [(.string ⟨#[]⟩), (.string ⟨#[0, 0]⟩)]⟩, ⟨738, .cells 9 [(.string ⟨#[]⟩)]⟩], 739, (S 750 0 2 5902958103587056517121), [⟨750, .cells 9 [(.string ⟨#[]⟩), (.string ⟨#[0, 0]⟩), (.string ⟨#[]⟩)]⟩], 751⟩
set_option maxRecDepth 1000000 in
theorem o1016 : EntryOK Try.prog e1016 := Ax.part (K := sks) (l := []) (by kernel_rfl) sks_ok trivial (by kernel_rfl)

end Go.Proofs.Ytoocpkmefmjcjaa.followNames
