/-
  Parts of the run of viewportlaw29.WorldNames, in order: what each of these calls, and loops from a state on, gives, for each memory that holds what it looks at. No condition.
-/
import Derived.Test.YtlocganmbeghjaaGreatDoorAx9
import Derived.Test.YtlocganmbeghjaaGreatDoorKeys
import Derived.Test.YtlocganmbeghjaaGreatDoorTabsWorldNames
import Derived.Test.YtlocganmbeghjaaGreatDoorProg
import Derived.KernelRfl
import Derived.Test.YtlocganmbeghjaaGreatDoorPWorldNames6
set_option linter.unusedSimpArgs false
set_option linter.unusedVariables false
namespace Go.Proofs.YtlocganmbeghjaaGreatDoor.worldNames
open Go.Proofs Go.Proofs.YtlocganmbeghjaaGreatDoor Ax

noncomputable def b7_0 : LBlk := ⟨14149, .cells 231 [(S 14116 0 1 1180591620717411303425), (S 14148 0 1 1180591620717411303425)]⟩
noncomputable def e9071 : Entry := ⟨172, [(.agg #[(I 1), (I 1), (I 1), (S 4 0 2 2)])], [⟨3, .cells 3 [(I 0), (I 1)]⟩, ⟨4, .cells 120 [(I 0), (S 3 0 2 2), (I 0), (.slice none 0 0)]⟩], 13237, (.tuple #[(I 37448), T]), [], 13771⟩
set_option maxRecDepth 1000000 in
theorem o9071 : EntryOK Tryz.prog e9071 := Ax.partCQ (ql := quiets) (K := sks) (l := [e9246]) (m := []) mixed quiets_ok sks_ok ⟨o9246, trivial⟩ trivial (by kernel_rfl)
noncomputable def e10671 : Entry := ⟨269, [(.agg #[(I 1), (I 1), (I 1), (S 4 0 2 2)])], [⟨3, .cells 3 [(I 0), (I 1)]⟩, ⟨4, .cells 120 [(I 0), (S 3 0 2 2), (I 0), (.slice none 0 0)]⟩], 13899, (S 14022 0 1 1), [⟨14023, .cells 9 [(.string ⟨#[255]⟩)]⟩, ⟨14022, .cells 231 [(S 14023 0 1 1)]⟩], 14075⟩
set_option maxRecDepth 1000000 in
theorem o10671 : EntryOK Tryz.prog e10671 := Ax.partCQ (ql := quiets) (K := sks) (l := []) (m := []) mixed quiets_ok sks_ok trivial trivial (by kernel_rfl)
noncomputable def e10321 : Entry := ⟨173, [(.agg #[(I 1), (I 1), (I 1), (S 4 0 2 2)])], [⟨3, .cells 3 [(I 0), (I 1)]⟩, ⟨4, .cells 120 [(I 0), (S 3 0 2 2), (I 0), (.slice none 0 0)]⟩], 13771, (.tuple #[(.agg #[(S 14149 0 2 1180591620717411303425)]), (.agg #[(I 0), (I 0), (I 0), (.string ⟨#[]⟩)]), (I 0)]), [⟨14116, .cells 9 [(.string ⟨#[0]⟩)]⟩, ⟨14148, .cells 9 [(.string ⟨#[255]⟩)]⟩, b7_0], 14164⟩
set_option maxRecDepth 1000000 in
theorem o10321 : EntryOK Tryz.prog e10321 := Ax.partCQ (ql := quiets) (K := sks) (l := [e10671]) (m := []) mixed quiets_ok sks_ok ⟨o10671, trivial⟩ trivial (by kernel_rfl)
noncomputable def e11285 : Entry := ⟨175, [(.agg #[(I 1), (I 1), (I 1), (S 4 0 2 2)])], [⟨3, .cells 3 [(I 0), (I 1)]⟩, ⟨4, .cells 120 [(I 0), (S 3 0 2 2), (I 0), (.slice none 0 0)]⟩], 14182, (S 14361 0 1 1180591620717411303425), [⟨14359, .cells 4 [F, T]⟩, ⟨14361, .cells 180 [(S 14359 0 2 2)]⟩], 14362⟩
set_option maxRecDepth 1000000 in
theorem o11285 : EntryOK Tryz.prog e11285 := Ax.partCQ (ql := quiets) (K := sks) (l := []) (m := []) mixed quiets_ok sks_ok trivial trivial (by kernel_rfl)
noncomputable def g12242 : LEntry := ⟨456, [false, true, false, true, true], 11, [(S 12761 0 768 1180591620717411303425), (I 3), U, U, F, O, (I 2), U, O, (S 12761 0 768 1180591620717411303425), (I 768), (I 411), T, (A 12761 410), O, O, O, O, (I 2), O, (I 2), (I 411), U, U, U, U, U, U, U], [], [b5_2], 14431, (.exit 0), [(S 12761 0 768 1180591620717411303425), (I 3), U, U, F, O, (I 2), U, O, (S 12761 0 768 1180591620717411303425), (I 768), (I 768), F, (A 12761 767), O, O, O, O, (I 2), O, (I 2), (I 768), U, U, U, U, U, U, U], [b5_2], 14431, 14431⟩
set_option maxRecDepth 1000000 in
theorem h12242 : LOK Tryz.prog g12242 := Ax.partLQ (ql := quiets) (K := sks) (l := []) (m := []) mixed quiets_ok sks_ok trivial trivial (by kernel_rfl)

end Go.Proofs.YtlocganmbeghjaaGreatDoor.worldNames
