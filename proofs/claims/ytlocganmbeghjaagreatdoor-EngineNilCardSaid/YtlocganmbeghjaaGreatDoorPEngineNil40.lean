/-
  Parts of the run of viewportlaw27.EngineNil, in order: what each of these calls, and loops from a state on, gives, for each memory that holds what it looks at. No condition.
-/
import Derived.Test.YtlocganmbeghjaaGreatDoorAx9
import Derived.Test.YtlocganmbeghjaaGreatDoorKeys
import Derived.Test.YtlocganmbeghjaaGreatDoorTabsEngineNil
import Derived.Test.YtlocganmbeghjaaGreatDoorProg
import Derived.KernelRfl
import Derived.Test.YtlocganmbeghjaaGreatDoorPEngineNil38
import Derived.Test.YtlocganmbeghjaaGreatDoorPEngineNil39
set_option linter.unusedSimpArgs false
set_option linter.unusedVariables false
namespace Go.Proofs.YtlocganmbeghjaaGreatDoor.engineNil
open Go.Proofs Go.Proofs.YtlocganmbeghjaaGreatDoor Ax

noncomputable def g47232 : LEntry := ⟨199, [false, true, false, true, true, true, true], 5, [(.agg #[(S 24102 0 768 1180591620717411303425), (S 23334 0 3 1180591620717411303425)]), (A 27782 0), (I 0), (I 3), (I 3), (I 208), (A 27782 1), (S 23334 0 3 1180591620717411303425), (I 3), (I 3), F, F, (I 3), F, F, F, (A 27782 0), (S 24102 0 768 1180591620717411303425), (I 768), (I 3), (I 768), F, F, (I 3), (I 3), F, (I 2), (I 3), (A 27782 1), (S 23334 0 3 1180591620717411303425), (I 2), (A 23334 2), (I 0), F, F, (A 27782 1), (S 23334 0 3 1180591620717411303425), (I 2), (A 23334 2), (I 0), F, F, (I 207), (A 27782 0), (S 24102 0 768 1180591620717411303425), (I 768), T, (I 207), (I 208), (A 27782 0), (S 24102 0 768 1180591620717411303425), (I 207), (A 24102 207), O, F, F, (A 27782 0), (S 24102 0 768 1180591620717411303425), (I 207), (A 24102 207), O, (I 3), F, F], [], [⟨23334, .cells 3 [O, (I 1), (I 0)]⟩, b39_0, b20_0], 27783, (.exit 2), [(.agg #[(S 24102 0 768 1180591620717411303425), (S 23334 0 3 1180591620717411303425)]), (A 27782 0), (I 0), (I 3), (I 3), (I 768), (A 27782 1), (S 23334 0 3 1180591620717411303425), (I 3), (I 3), F, F, (I 3), F, F, F, (A 27782 0), (S 24102 0 768 1180591620717411303425), (I 768), (I 3), (I 768), F, F, (I 3), (I 3), F, (I 2), (I 3), (A 27782 1), (S 23334 0 3 1180591620717411303425), (I 2), (A 23334 2), (I 0), F, F, (A 27782 1), (S 23334 0 3 1180591620717411303425), (I 2), (A 23334 2), (I 0), F, F, (I 768), (A 27782 0), (S 24102 0 768 1180591620717411303425), (I 768), F, (I 767), (I 768), (A 27782 0), (S 24102 0 768 1180591620717411303425), (I 767), (A 24102 767), O, F, F, (A 27782 0), (S 24102 0 768 1180591620717411303425), (I 767), (A 24102 767), O, (I 3), F, F], [⟨23334, .cells 3 [O, (I 1), (I 0)]⟩, b39_0, b20_0], 27783, 27782⟩
set_option maxRecDepth 1000000 in
theorem h47232 : LOK Tryz.prog g47232 := Ax.partLQ (ql := quiets) (K := sks) (l := []) (m := [g47510]) mixed quiets_ok sks_ok trivial ⟨h47510, trivial⟩ (by kernel_rfl)
noncomputable def e33634 : Entry := ⟨37, [(A 26504 0), (.string ⟨#[97, 99, 32, 98]⟩)], [b20_0, ⟨23334, .cells 3 [O, (I 1), (I 0)]⟩, ⟨16442, .cells 3 [(I 0), O]⟩, ⟨26524, .cells 3 [(I 0), (I 1)]⟩, ⟨26533, .cells 3 []⟩, ⟨26543, .cells 120 [(I 0), (S 26524 0 2 1180591620717411303425), (I 0), (S 26533 0 0 0)]⟩, ⟨26456, .cells 9 [(.string ⟨#[0]⟩)]⟩, ⟨26483, .cells 9 [(.string ⟨#[255]⟩)]⟩, b23_0, ⟨26690, .cells 4 [F, T]⟩, ⟨26692, .cells 180 [(S 26690 0 2 2)]⟩, b24_0], 27511, (.tuple #[(S 27793 0 7 1180591620717411303432), (I 0)]), [⟨27791, .cells 3 [(I 1), (I 6)]⟩, ⟨27737, .cells 3 [(I 2), (I 3)]⟩, ⟨27769, .cells 3 [(I 4), (I 5)]⟩, ⟨27793, .cells 128 [(M 2), (I 1), (I 0), (I 0), (I 4), (I 1), (S 27791 0 2 1180591620717411303425), (.int .u64 (.ofNat 0)), (I 1), (I 2), (I 0), (I 0), (I 4), (I 3), (S 27737 0 2 1180591620717411303425), (.int .u64 (.ofNat 0)), (I 0), (I 3), (I 0), (I 0), (I 2), (I 3), (.slice none 0 0), (.int .u64 (.ofNat 0)), (I 1), (I 2), (I 2), (I 2), (I 4), (I 5), (S 27769 0 2 1180591620717411303425), (.int .u64 (.ofNat 0)), (I 0), (I 3), (I 2), (I 3), (I 4), (I 5), (.slice none 0 0), (.int .u64 (.ofNat 0)), (I 1), (I 2), (I 4), (I 4), (I 4), (I 5), (.slice none 0 0), (.int .u64 (.ofNat 0)), (M 1), (I 6), (I 4), (I 4), (I 4), (I 5), (.slice none 0 0), (.int .u64 (.ofNat 0))]⟩], 27794⟩
set_option maxRecDepth 1000000 in
theorem o33634 : EntryOK Tryz.prog e33634 := Ax.partCQ (ql := quiets) (K := sks) (l := [e33635, e46234]) (m := [g47232]) mixed quiets_ok sks_ok ⟨o33635, o46234, trivial⟩ ⟨h47232, trivial⟩ (by kernel_rfl)

end Go.Proofs.YtlocganmbeghjaaGreatDoor.engineNil
