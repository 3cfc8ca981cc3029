/-
  Parts of the run of viewportlaw27.EngineNil, in order: what each of these calls, and loops from a state on, gives, for each memory that holds what it looks at. No condition.
-/
import Derived.Test.YtlocganmbeghjaaGreatDoorAx9
import Derived.Test.YtlocganmbeghjaaGreatDoorKeys
import Derived.Test.YtlocganmbeghjaaGreatDoorTabsEngineNil
import Derived.Test.YtlocganmbeghjaaGreatDoorProg
import Derived.KernelRfl
set_option linter.unusedSimpArgs false
set_option linter.unusedVariables false
namespace Go.Proofs.YtlocganmbeghjaaGreatDoor.engineNil
open Go.Proofs Go.Proofs.YtlocganmbeghjaaGreatDoor Ax

noncomputable def b7_0 : LBlk := ⟨14148, .cells 231 [(S 14115 0 1 1180591620717411303425), (S 14147 0 1 1180591620717411303425)]⟩
noncomputable def e9597 : Entry := ⟨269, [(.agg #[(I 1), (I 1), (I 1), (S 4 0 2 2)])], [⟨3, .cells 3 [(I 0), (I 1)]⟩, ⟨4, .cells 120 [(I 0), (S 3 0 2 2), (I 0), (.slice none 0 0)]⟩], 13446, (S 13569 0 1 1), [⟨13570, .cells 9 [(.string ⟨#[255]⟩)]⟩, ⟨13569, .cells 231 [(S 13570 0 1 1)]⟩], 13622⟩
set_option maxRecDepth 1000000 in
theorem o9597 : EntryOK Tryz.prog e9597 := Ax.partCQ (ql := quiets) (K := sks) (l := []) (m := []) mixed quiets_ok sks_ok trivial trivial (by kernel_rfl)
noncomputable def e9074 : Entry := ⟨171, [(.agg #[(I 1), (I 1), (I 1), (S 4 0 2 2)])], [⟨3, .cells 3 [(I 0), (I 1)]⟩, ⟨4, .cells 120 [(I 0), (S 3 0 2 2), (I 0), (.slice none 0 0)]⟩], 13239, (I 0), [], 13713⟩
set_option maxRecDepth 1000000 in
theorem o9074 : EntryOK Tryz.prog e9074 := Ax.partCQ (ql := quiets) (K := sks) (l := [e9597]) (m := []) mixed quiets_ok sks_ok ⟨o9597, trivial⟩ trivial (by kernel_rfl)
noncomputable def e10671 : Entry := ⟨269, [(.agg #[(I 1), (I 1), (I 1), (S 4 0 2 2)])], [⟨3, .cells 3 [(I 0), (I 1)]⟩, ⟨4, .cells 120 [(I 0), (S 3 0 2 2), (I 0), (.slice none 0 0)]⟩], 13898, (S 14021 0 1 1), [⟨14022, .cells 9 [(.string ⟨#[255]⟩)]⟩, ⟨14021, .cells 231 [(S 14022 0 1 1)]⟩], 14074⟩
set_option maxRecDepth 1000000 in
theorem o10671 : EntryOK Tryz.prog e10671 := Ax.partCQ (ql := quiets) (K := sks) (l := []) (m := []) mixed quiets_ok sks_ok trivial trivial (by kernel_rfl)
noncomputable def e10321 : Entry := ⟨173, [(.agg #[(I 1), (I 1), (I 1), (S 4 0 2 2)])], [⟨3, .cells 3 [(I 0), (I 1)]⟩, ⟨4, .cells 120 [(I 0), (S 3 0 2 2), (I 0), (.slice none 0 0)]⟩], 13770, (.tuple #[(.agg #[(S 14148 0 2 1180591620717411303425)]), (.agg #[(I 0), (I 0), (I 0), (.string ⟨#[]⟩)]), (I 0)]), [⟨14115, .cells 9 [(.string ⟨#[0]⟩)]⟩, ⟨14147, .cells 9 [(.string ⟨#[255]⟩)]⟩, b7_0], 14163⟩
set_option maxRecDepth 1000000 in
theorem o10321 : EntryOK Tryz.prog e10321 := Ax.partCQ (ql := quiets) (K := sks) (l := [e10671]) (m := []) mixed quiets_ok sks_ok ⟨o10671, trivial⟩ trivial (by kernel_rfl)
noncomputable def e11285 : Entry := ⟨175, [(.agg #[(I 1), (I 1), (I 1), (S 4 0 2 2)])], [⟨3, .cells 3 [(I 0), (I 1)]⟩, ⟨4, .cells 120 [(I 0), (S 3 0 2 2), (I 0), (.slice none 0 0)]⟩], 14181, (S 14360 0 1 1180591620717411303425), [⟨14358, .cells 4 [F, T]⟩, ⟨14360, .cells 180 [(S 14358 0 2 2)]⟩], 14361⟩
set_option maxRecDepth 1000000 in
theorem o11285 : EntryOK Tryz.prog e11285 := Ax.partCQ (ql := quiets) (K := sks) (l := []) (m := []) mixed quiets_ok sks_ok trivial trivial (by kernel_rfl)

end Go.Proofs.YtlocganmbeghjaaGreatDoor.engineNil
