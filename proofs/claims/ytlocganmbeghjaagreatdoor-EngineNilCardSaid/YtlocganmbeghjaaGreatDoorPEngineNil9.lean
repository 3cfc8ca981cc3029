/-
  Parts of the run of viewportlaw27.EngineNil, in order: what each of these calls, and loops from a state on, gives, for each memory that holds what it looks at. No condition.
-/
import Derived.Test.YtlocganmbeghjaaGreatDoorAx9
import Derived.Test.YtlocganmbeghjaaGreatDoorKeys
import Derived.Test.YtlocganmbeghjaaGreatDoorTabsEngineNil
import Derived.Test.YtlocganmbeghjaaGreatDoorProg
import Derived.KernelRfl
import Derived.Test.YtlocganmbeghjaaGreatDoorPEngineNil1
import Derived.Test.YtlocganmbeghjaaGreatDoorPEngineNil6
import Derived.Test.YtlocganmbeghjaaGreatDoorPEngineNil7
import Derived.Test.YtlocganmbeghjaaGreatDoorPEngineNil8
set_option linter.unusedSimpArgs false
set_option linter.unusedVariables false
namespace Go.Proofs.YtlocganmbeghjaaGreatDoor.engineNil
open Go.Proofs Go.Proofs.YtlocganmbeghjaaGreatDoor Ax

noncomputable def b9_0 : LBlk := ⟨14176, .cells 120 [(I 0), (S 14179 0 2 1180591620717411303425), (I 0), (.slice none 0 0)]⟩
noncomputable def b9_1 : LBlk := ⟨14173, .cells 167 [(A 14173 0), (S 12760 0 768 1180591620717411303425), (S 12247 0 3 1180591620717411303425), (S 191 0 2 1180591620717411303425), (I 1), (I 1), (I 1), (I 1), (S 14176 0 2 2), (S 14148 0 2 1180591620717411303425), (S 14360 0 1 1180591620717411303425), (I 37448)]⟩
noncomputable def b9_2 : LBlk := ⟨14845, .cells 128 [(M 2), (I 1), (I 0), (I 0), (I 3), (I 1), (S 14807 0 2 1180591620717411303425), (.int .u64 (.ofNat 0)), (I 1), (I 2), (I 0), (I 0), (I 3), (I 2), (S 14640 0 2 1180591620717411303425), (.int .u64 (.ofNat 0)), (I 0), (I 3), (I 0), (I 0), (I 1), (I 2), (.slice none 0 0), (.int .u64 (.ofNat 0)), (I 1), (I 2), (I 1), (I 1), (I 3), (I 4), (S 14727 0 2 1180591620717411303425), (.int .u64 (.ofNat 0)), (I 0), (I 3), (I 1), (I 2), (I 3), (I 4), (.slice none 0 0), (.int .u64 (.ofNat 0)), (I 1), (I 2), (I 3), (I 3), (I 3), (I 4), (.slice none 0 0), (.int .u64 (.ofNat 0)), (M 1), (I 6), (I 3), (I 3), (I 3), (I 4), (.slice none 0 0), (.int .u64 (.ofNat 0))]⟩
noncomputable def b9_3 : LBlk := ⟨14922, .cells 128 [(M 2), (I 1), (I 0), (I 0), (I 4), (I 1), (S 14928 0 2 2), (.int .u64 (.ofNat 0)), (I 1), (I 2), (I 0), (I 0), (I 4), (I 3), (S 14934 0 2 2), (.int .u64 (.ofNat 1)), (I 0), (I 3), (I 0), (I 0), (I 1), (I 3), (.slice none 0 0), (.int .u64 (.ofNat 1)), (I 1), (I 2), (I 2), (I 2), (I 4), (I 5), (S 14945 0 2 2), (.int .u64 (.ofNat 0)), (I 0), (I 3), (I 2), (I 3), (I 4), (I 5), (.slice none 0 0), (.int .u64 (.ofNat 0)), (I 1), (I 2), (I 4), (I 4), (I 4), (I 5), (.slice none 0 0), (.int .u64 (.ofNat 0)), (M 1), (I 6), (I 4), (I 4), (I 4), (I 5), (.slice none 0 0), (.int .u64 (.ofNat 0))]⟩
noncomputable def e11790 : Entry := ⟨52, [(A 14173 0), (.string ⟨#[97, 32, 98]⟩)], [b5_11, ⟨12247, .cells 3 [O, (I 1), (I 0)]⟩, ⟨191, .cells 3 [(I 0), O]⟩, ⟨14179, .cells 3 [(I 0), (I 1)]⟩, b9_0, ⟨14115, .cells 9 [(.string ⟨#[0]⟩)]⟩, ⟨14147, .cells 9 [(.string ⟨#[255]⟩)]⟩, b7_0, ⟨14358, .cells 4 [F, T]⟩, ⟨14360, .cells 180 [(S 14358 0 2 2)]⟩, b9_1], 14373, (.tuple #[(S 14845 0 7 1180591620717411303432), (I 0)]), [⟨14807, .cells 3 [(I 1), (I 6)]⟩, ⟨14640, .cells 3 [(I 2), (I 3)]⟩, ⟨14727, .cells 3 [(I 4), (I 5)]⟩, b9_2], 14846⟩
set_option maxRecDepth 1000000 in
theorem o11790 : EntryOK Tryz.prog e11790 := Ax.partCQ (ql := quiets) (K := sks) (l := [e11826, e12617]) (m := []) mixed quiets_ok sks_ok ⟨o11826, o12617, trivial⟩ trivial (by kernel_rfl)
noncomputable def e5 : Entry := ⟨25, [(.agg #[(S 2 0 2 2), (I 1), (I 1), (I 1), (S 4 0 2 2), (S 7 0 2 2), (I 1), (I 5), (I 4)]), (.string ⟨#[97, 32, 98]⟩)], [⟨2, .cells 118 [(.string ⟨#[119, 111, 114, 100]⟩), (.string ⟨#[91, 97, 45, 122, 93, 43]⟩), F, (.string ⟨#[103, 97, 112]⟩), (.string ⟨#[91, 32, 93, 43]⟩), T]⟩, ⟨3, .cells 3 [(I 0), (I 1)]⟩, ⟨4, .cells 120 [(I 0), (S 3 0 2 2), (I 0), (.slice none 0 0)]⟩, ⟨6, .cells 3 [(I 1), (I 1)]⟩, ⟨7, .cells 71 [(I 0), (.slice none 0 0), (I 1), (I 0), (I 0), (S 6 0 2 2), (I 2), (I 1)]⟩], 8, (.tuple #[(A 14849 0), (I 0)]), [b5_11, ⟨12247, .cells 3 [O, (I 1), (I 0)]⟩, ⟨191, .cells 3 [(I 0), O]⟩, ⟨14179, .cells 3 [(I 0), (I 1)]⟩, b9_0, ⟨14115, .cells 9 [(.string ⟨#[0]⟩)]⟩, ⟨14147, .cells 9 [(.string ⟨#[255]⟩)]⟩, b7_0, ⟨14358, .cells 4 [F, T]⟩, ⟨14360, .cells 180 [(S 14358 0 2 2)]⟩, b9_1, ⟨14807, .cells 3 [(I 1), (I 6)]⟩, ⟨14640, .cells 3 [(I 2), (I 3)]⟩, ⟨14727, .cells 3 [(I 4), (I 5)]⟩, b9_2, ⟨14848, .map [] 0⟩, ⟨14849, .cells 103 [(A 14173 0), (I 1), (I 1), (I 1), (I 5), (I 4), (.string ⟨#[97, 32, 98]⟩), (S 14845 0 7 1180591620717411303432), (.slice none 0 0), (.map (some 14848)), (I 0), (I 0), (A 14849 0)]⟩], 14850⟩
set_option maxRecDepth 1000000 in
theorem o5 : EntryOK Tryz.prog e5 := Ax.partCQ (ql := quiets) (K := sks) (l := [e238, e7940, e9074, e10321, e11285, e11790]) (m := [g18, g97, g159, g186]) mixed quiets_ok sks_ok ⟨o238, o7940, o9074, o10321, o11285, o11790, trivial⟩ ⟨h18, h97, h159, h186, trivial⟩ (by kernel_rfl)
noncomputable def e13813 : Entry := ⟨84, [(S 14845 0 7 1180591620717411303432), (.agg #[(I 1), (I 0), (I 1)]), (.int .u64 (.ofNat 1))], [⟨14807, .cells 3 [(I 1), (I 6)]⟩, ⟨14640, .cells 3 [(I 2), (I 3)]⟩, ⟨14727, .cells 3 [(I 4), (I 5)]⟩, b9_2], 14888, (S 14922 0 7 7), [⟨14928, .cells 3 [(I 1), (I 6)]⟩, ⟨14934, .cells 3 [(I 2), (I 3)]⟩, ⟨14945, .cells 3 [(I 4), (I 5)]⟩, b9_3], 15208⟩
set_option maxRecDepth 1000000 in
theorem o13813 : EntryOK Tryz.prog e13813 := Ax.partCQ (ql := quiets) (K := sks) (l := []) (m := []) mixed quiets_ok sks_ok trivial trivial (by kernel_rfl)
noncomputable def e14314 : Entry := ⟨134, [(S 14922 0 7 7), (.agg #[(I 0), (I 1), (I 2), (I 0), (I 0)]), (I 1)], [⟨14928, .cells 3 [(I 1), (I 6)]⟩, ⟨14934, .cells 3 [(I 2), (I 3)]⟩, ⟨14945, .cells 3 [(I 4), (I 5)]⟩, b9_3], 15259, (I 1), [], 15413⟩
set_option maxRecDepth 1000000 in
theorem o14314 : EntryOK Tryz.prog e14314 := Ax.partCQ (ql := quiets) (K := sks) (l := []) (m := []) mixed quiets_ok sks_ok trivial trivial (by kernel_rfl)
noncomputable def e14438 : Entry := ⟨133, [(S 14922 0 7 7), (I 1), (I 1)], [⟨14928, .cells 3 [(I 1), (I 6)]⟩, ⟨14934, .cells 3 [(I 2), (I 3)]⟩, ⟨14945, .cells 3 [(I 4), (I 5)]⟩, b9_3], 15413, (.tuple #[(I 0), (I 0), (S 15541 0 5 1180591620717411303432)]), [⟨15495, .cells 3 [(I 1), (I 2)]⟩, ⟨15518, .cells 3 [(I 3), (I 4)]⟩, ⟨15541, .cells 128 [(I 1), (I 2), (I 0), (I 0), (I 4), (I 3), (S 15495 0 2 2), (.int .u64 (.ofNat 1)), (I 0), (I 3), (I 0), (I 0), (I 1), (I 3), (.slice none 0 0), (.int .u64 (.ofNat 1)), (I 1), (I 2), (I 2), (I 2), (I 4), (I 5), (S 15518 0 2 2), (.int .u64 (.ofNat 0)), (I 0), (I 3), (I 2), (I 3), (I 4), (I 5), (.slice none 0 0), (.int .u64 (.ofNat 0)), (I 1), (I 2), (I 4), (I 4), (I 4), (I 5), (.slice none 0 0), (.int .u64 (.ofNat 0))]⟩], 15542⟩
set_option maxRecDepth 1000000 in
theorem o14438 : EntryOK Tryz.prog e14438 := Ax.partCQ (ql := quiets) (K := sks) (l := []) (m := []) mixed quiets_ok sks_ok trivial trivial (by kernel_rfl)

end Go.Proofs.YtlocganmbeghjaaGreatDoor.engineNil
