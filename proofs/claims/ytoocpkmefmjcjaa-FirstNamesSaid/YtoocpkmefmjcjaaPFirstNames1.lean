/-
  Parts of the run of viewportlaw12.FirstNames, in order: what each of these calls gives, for each memory that holds what it looks at. No condition.
-/
import Derived.Test.YtoocpkmefmjcjaaAx1
import Derived.Test.YtoocpkmefmjcjaaKeys
import Derived.Test.YtoocpkmefmjcjaaProg
import Derived.KernelRfl
set_option linter.unusedSimpArgs false
set_option linter.unusedVariables false
namespace Go.Proofs.Ytoocpkmefmjcjaa.firstNames
open Go.Proofs Go.Proofs.Ytoocpkmefmjcjaa Ax

noncomputable def e123 : Entry := ⟨58, [(.agg #[(I 1), (I 1), (I 2), (S 2 0 2 2)]), (S 9 0 1 1), (S 1 0 2 2)], [⟨2, .cells 50 [(I 0), (S 1 0 2 2), (I 0), (.slice none 0 0)]⟩, ⟨64, .cells 9 [(.string ⟨#[]⟩), (.string ⟨#[0]⟩)]⟩, ⟨9, .cells 34 [(S 64 0 2 1180591620717411303425)]⟩, ⟨1, .cells 3 [(I 0), (I 1)]⟩], 81, (S 97 0 2 1180591620717411303425), [⟨97, .cells 9 [(.string ⟨#[0]⟩), (.string ⟨#[0, 0]⟩)]⟩], 98⟩
set_option maxRecDepth 1000000 in
theorem o123 : EntryOK Try.prog e123 := Ax.part (K := sks) (l := []) (by kernel_rfl) sks_ok trivial (by kernel_rfl)
noncomputable def e151 : Entry := ⟨17, [(S 64 0 2 1180591620717411303425), (S 97 0 2 1180591620717411303425)], [⟨64, .cells 9 [(.string ⟨#[]⟩), (.string ⟨#[0]⟩)]⟩, ⟨97, .cells 9 [(.string ⟨#[0]⟩), (.string ⟨#[0, 0]⟩)]⟩], 98, (S 111 0 3 7083549724304467820545), [⟨111, .cells 9 [(.string ⟨#[]⟩), (.string ⟨#[0]⟩), (.string ⟨#[0, 0]⟩), (.string ⟨#[]⟩)]⟩], 112⟩
set_option maxRecDepth 1000000 in
theorem o151 : EntryOK Try.prog e151 := Ax.part (K := sks) (l := []) (by kernel_rfl) sks_ok trivial (by kernel_rfl)
noncomputable def e176 : Entry := ⟨17, [(S 111 0 3 7083549724304467820545), (S 114 0 1 1)], [⟨111, .cells 9 [(.string ⟨#[]⟩), (.string ⟨#[0]⟩), (.string ⟨#[0, 0]⟩), (.string ⟨#[]⟩)]⟩, ⟨114, .cells 9 [(.string ⟨#[]⟩)]⟩], 115, (S 128 0 3 7083549724304467820545), [⟨128, .cells 9 [(.string ⟨#[]⟩), (.string ⟨#[0]⟩), (.string ⟨#[0, 0]⟩), (.string ⟨#[]⟩)]⟩], 129⟩
set_option maxRecDepth 1000000 in
theorem o176 : EntryOK Try.prog e176 := Ax.part (K := sks) (l := []) (by kernel_rfl) sks_ok trivial (by kernel_rfl)
noncomputable def e204 : Entry := ⟨58, [(.agg #[(I 1), (I 1), (I 2), (S 2 0 2 2)]), (S 9 0 1 1), (S 1 0 2 2)], [⟨2, .cells 50 [(I 0), (S 1 0 2 2), (I 0), (.slice none 0 0)]⟩, ⟨111, .cells 9 [(.string ⟨#[]⟩), (.string ⟨#[0]⟩), (.string ⟨#[0, 0]⟩), (.string ⟨#[]⟩)]⟩, ⟨9, .cells 34 [(S 111 0 3 7083549724304467820545)]⟩, ⟨1, .cells 3 [(I 0), (I 1)]⟩], 130, (S 147 0 2 1180591620717411303425), [⟨147, .cells 9 [(.string ⟨#[0]⟩), (.string ⟨#[0, 0]⟩)]⟩], 148⟩
set_option maxRecDepth 1000000 in
theorem o204 : EntryOK Try.prog e204 := Ax.part (K := sks) (l := []) (by kernel_rfl) sks_ok trivial (by kernel_rfl)
noncomputable def e235 : Entry := ⟨17, [(S 111 0 3 7083549724304467820545), (S 147 0 2 1180591620717411303425)], [⟨111, .cells 9 [(.string ⟨#[]⟩), (.string ⟨#[0]⟩), (.string ⟨#[0, 0]⟩), (.string ⟨#[]⟩)]⟩, ⟨147, .cells 9 [(.string ⟨#[0]⟩), (.string ⟨#[0, 0]⟩)]⟩], 148, (S 163 0 3 8264141345021879123969), [⟨163, .cells 9 [(.string ⟨#[]⟩), (.string ⟨#[0]⟩), (.string ⟨#[0, 0]⟩), (.string ⟨#[]⟩), (.string ⟨#[]⟩)]⟩], 164⟩
set_option maxRecDepth 1000000 in
theorem o235 : EntryOK Try.prog e235 := Ax.part (K := sks) (l := []) (by kernel_rfl) sks_ok trivial (by kernel_rfl)
noncomputable def e265 : Entry := ⟨17, [(S 111 0 3 7083549724304467820545), (S 166 0 1 1)], [⟨111, .cells 9 [(.string ⟨#[]⟩), (.string ⟨#[0]⟩), (.string ⟨#[0, 0]⟩), (.string ⟨#[]⟩)]⟩, ⟨166, .cells 9 [(.string ⟨#[]⟩)]⟩], 167, (S 180 0 3 7083549724304467820545), [⟨180, .cells 9 [(.string ⟨#[]⟩), (.string ⟨#[0]⟩), (.string ⟨#[0, 0]⟩), (.string ⟨#[]⟩)]⟩], 181⟩
set_option maxRecDepth 1000000 in
theorem o265 : EntryOK Try.prog e265 := Ax.part (K := sks) (l := []) (by kernel_rfl) sks_ok trivial (by kernel_rfl)
noncomputable def e2 : Entry := ⟨13, [], [], 0, T, [], 183⟩
set_option maxRecDepth 1000000 in
theorem o2 : EntryOK Try.prog e2 := Ax.part (K := sks) (l := [e123, e151, e176, e204, e235, e265]) (by kernel_rfl) sks_ok ⟨o123, o151, o176, o204, o235, o265, trivial⟩ (by kernel_rfl)
noncomputable def e397 : Entry := ⟨19, [(.agg #[(I 1), (I 1), (I 2), (S 276 0 2 2)]), (S 278 0 1 1), (S 279 0 2 2)], [⟨275, .cells 3 [(I 0), (I 1)]⟩, ⟨276, .cells 50 [(I 0), (S 275 0 2 2), (I 0), (.slice none 0 0)]⟩, ⟨277, .cells 9 [(.string ⟨#[]⟩), (.string ⟨#[0]⟩)]⟩, ⟨278, .cells 34 [(S 277 0 2 2)]⟩, ⟨279, .cells 3 [(I 0), (I 1)]⟩], 280, (S 302 0 2 1180591620717411303425), [⟨302, .cells 9 [(.string ⟨#[0]⟩), (.string ⟨#[0, 0]⟩)]⟩], 303⟩
set_option maxRecDepth 1000000 in
theorem o397 : EntryOK Try.prog e397 := Ax.part (K := sks) (l := []) (by kernel_rfl) sks_ok trivial (by kernel_rfl)

end Go.Proofs.Ytoocpkmefmjcjaa.firstNames
