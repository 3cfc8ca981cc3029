/-
  Parts of the run of viewportlaw29.WorldNames, in order: what each of these calls, and loops from a state on, gives, for each memory that holds what it looks at. No condition.
-/
import Derived.Test.YtlocganmbeghjaaGreatDoorAx9
import Derived.Test.YtlocganmbeghjaaGreatDoorKeys
import Derived.Test.YtlocganmbeghjaaGreatDoorTabsWorldNames
import Derived.Test.YtlocganmbeghjaaGreatDoorProg
import Derived.KernelRfl
import Derived.Test.YtlocganmbeghjaaGreatDoorPWorldNames10
import Derived.Test.YtlocganmbeghjaaGreatDoorPWorldNames11
import Derived.Test.YtlocganmbeghjaaGreatDoorPWorldNames13
set_option linter.unusedSimpArgs false
set_option linter.unusedVariables false
namespace Go.Proofs.YtlocganmbeghjaaGreatDoor.worldNames
open Go.Proofs Go.Proofs.YtlocganmbeghjaaGreatDoor Ax

noncomputable def e31772 : Entry := ⟨20, [(A 29732 0)], [b10_1, ⟨27130, .cells 3 [O, (I 1), (I 0)]⟩, ⟨15074, .cells 3 [(I 0), O]⟩, ⟨29062, .cells 3 [(I 0), (I 1)]⟩, b10_2, ⟨28998, .cells 9 [(.string ⟨#[0]⟩)]⟩, ⟨29030, .cells 9 [(.string ⟨#[255]⟩)]⟩, b10_0, ⟨29241, .cells 4 [F, T]⟩, ⟨29243, .cells 180 [(S 29241 0 2 2)]⟩, b10_3, ⟨31228, .cells 3 [(I 1), (I 6)]⟩, ⟨31233, .cells 3 [(I 2), (I 3)]⟩, ⟨31242, .cells 3 [(I 4), (I 5)]⟩, b12_5, ⟨29731, .map [] 1⟩, b13_0], 32103, (S 32238 0 7 7), [⟨32238, .cells 3 [(I 3), (I 3), (I 3), (I 3), (I 3), (I 3), (I 3)]⟩], 32273⟩
set_option maxRecDepth 1000000 in
theorem o31772 : EntryOK Tryz.prog e31772 := Ax.partCQ (ql := quiets) (K := sks) (l := []) (m := []) mixed quiets_ok sks_ok trivial trivial (by kernel_rfl)
noncomputable def e13765 : Entry := ⟨8, [], [], 14880, T, [], 32276⟩
set_option maxRecDepth 1000000 in
theorem o13765 : EntryOK Tryz.prog e13765 := Ax.partCQ (ql := quiets) (K := sks) (l := [e13770, e27593, e28121, e30962, e31262, e31502, e31772]) (m := [g28350]) mixed quiets_ok sks_ok ⟨o13770, o27593, o28121, o30962, o31262, o31502, o31772, trivial⟩ ⟨h28350, trivial⟩ (by kernel_rfl)
noncomputable def e32070 : Entry := ⟨20, [(A 14850 0)], [b5_2, ⟨12248, .cells 3 [O, (I 1), (I 0)]⟩, ⟨192, .cells 3 [(I 0), O]⟩, ⟨14180, .cells 3 [(I 0), (I 1)]⟩, b8_4, ⟨14116, .cells 9 [(.string ⟨#[0]⟩)]⟩, ⟨14148, .cells 9 [(.string ⟨#[255]⟩)]⟩, b7_0, ⟨14359, .cells 4 [F, T]⟩, ⟨14361, .cells 180 [(S 14359 0 2 2)]⟩, b8_5, ⟨14808, .cells 3 [(I 1), (I 6)]⟩, ⟨14641, .cells 3 [(I 2), (I 3)]⟩, ⟨14728, .cells 3 [(I 4), (I 5)]⟩, b8_6, ⟨14849, .map [] 0⟩, b9_0], 32319, (S 32454 0 7 7), [⟨32454, .cells 3 [(I 3), (I 3), (I 3), (I 3), (I 3), (I 3), (I 3)]⟩], 32489⟩
set_option maxRecDepth 1000000 in
theorem o32070 : EntryOK Tryz.prog e32070 := Ax.partCQ (ql := quiets) (K := sks) (l := []) (m := []) mixed quiets_ok sks_ok trivial trivial (by kernel_rfl)
noncomputable def e32368 : Entry := ⟨20, [(A 14850 0)], [b5_2, ⟨12248, .cells 3 [O, (I 1), (I 0)]⟩, ⟨192, .cells 3 [(I 0), O]⟩, ⟨14180, .cells 3 [(I 0), (I 1)]⟩, b8_4, ⟨14116, .cells 9 [(.string ⟨#[0]⟩)]⟩, ⟨14148, .cells 9 [(.string ⟨#[255]⟩)]⟩, b7_0, ⟨14359, .cells 4 [F, T]⟩, ⟨14361, .cells 180 [(S 14359 0 2 2)]⟩, b8_5, ⟨14808, .cells 3 [(I 1), (I 6)]⟩, ⟨14641, .cells 3 [(I 2), (I 3)]⟩, ⟨14728, .cells 3 [(I 4), (I 5)]⟩, b8_6, ⟨14849, .map [] 0⟩, b9_0], 32534, (S 32669 0 7 7), [⟨32669, .cells 3 [(I 3), (I 3), (I 3), (I 3), (I 3), (I 3), (I 3)]⟩], 32704⟩
set_option maxRecDepth 1000000 in
theorem o32368 : EntryOK Tryz.prog e32368 := Ax.partCQ (ql := quiets) (K := sks) (l := []) (m := []) mixed quiets_ok sks_ok trivial trivial (by kernel_rfl)
noncomputable def e32684 : Entry := ⟨20, [(A 14850 0)], [b5_2, ⟨12248, .cells 3 [O, (I 1), (I 0)]⟩, ⟨192, .cells 3 [(I 0), O]⟩, ⟨14180, .cells 3 [(I 0), (I 1)]⟩, b8_4, ⟨14116, .cells 9 [(.string ⟨#[0]⟩)]⟩, ⟨14148, .cells 9 [(.string ⟨#[255]⟩)]⟩, b7_0, ⟨14359, .cells 4 [F, T]⟩, ⟨14361, .cells 180 [(S 14359 0 2 2)]⟩, b8_5, ⟨14808, .cells 3 [(I 1), (I 6)]⟩, ⟨14641, .cells 3 [(I 2), (I 3)]⟩, ⟨14728, .cells 3 [(I 4), (I 5)]⟩, b8_6, ⟨14849, .map [] 0⟩, b9_0], 32775, (S 32910 0 7 7), [⟨32910, .cells 3 [(I 3), (I 3), (I 3), (I 3), (I 3), (I 3), (I 3)]⟩], 32945⟩
set_option maxRecDepth 1000000 in
theorem o32684 : EntryOK Tryz.prog e32684 := Ax.partCQ (ql := quiets) (K := sks) (l := []) (m := []) mixed quiets_ok sks_ok trivial trivial (by kernel_rfl)

end Go.Proofs.YtlocganmbeghjaaGreatDoor.worldNames
