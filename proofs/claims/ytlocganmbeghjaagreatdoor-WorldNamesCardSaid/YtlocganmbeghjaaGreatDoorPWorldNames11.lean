/-
  Parts of the run of viewportlaw29.WorldNames, in order: what each of these calls, and loops from a state on, gives, for each memory that holds what it looks at. No condition.
-/
import Derived.Test.YtlocganmbeghjaaGreatDoorAx9
import Derived.Test.YtlocganmbeghjaaGreatDoorKeys
import Derived.Test.YtlocganmbeghjaaGreatDoorTabsWorldNames
import Derived.Test.YtlocganmbeghjaaGreatDoorProg
import Derived.KernelRfl
import Derived.Test.YtlocganmbeghjaaGreatDoorPWorldNames10
set_option linter.unusedSimpArgs false
set_option linter.unusedVariables false
namespace Go.Proofs.YtlocganmbeghjaaGreatDoor.worldNames
open Go.Proofs Go.Proofs.YtlocganmbeghjaaGreatDoor Ax

noncomputable def b11_0 : LBlk := ⟨29838, .cells 128 [(M 2), (I 1), (I 0), (I 0), (I 4), (I 1), (S 29844 0 2 2), (.int .u64 (.ofNat 0)), (I 1), (I 2), (I 0), (I 0), (I 4), (I 3), (S 29850 0 2 2), (.int .u64 (.ofNat 1)), (I 0), (I 3), (I 0), (I 0), (I 1), (I 3), (.slice none 0 0), (.int .u64 (.ofNat 1)), (I 1), (I 2), (I 2), (I 2), (I 4), (I 5), (S 29861 0 2 2), (.int .u64 (.ofNat 0)), (I 0), (I 3), (I 2), (I 3), (I 4), (I 5), (.slice none 0 0), (.int .u64 (.ofNat 0)), (I 1), (I 2), (I 4), (I 4), (I 4), (I 5), (.slice none 0 0), (.int .u64 (.ofNat 0)), (M 1), (I 6), (I 4), (I 4), (I 4), (I 5), (.slice none 0 0), (.int .u64 (.ofNat 0))]⟩
noncomputable def b11_1 : LBlk := ⟨30684, .cells 128 [(I 1), (I 2), (I 0), (I 0), (I 4), (I 3), (S 30638 0 2 2), (.int .u64 (.ofNat 1)), (I 0), (I 3), (I 0), (I 0), (I 1), (I 3), (.slice none 0 0), (.int .u64 (.ofNat 1)), (I 1), (I 2), (I 2), (I 2), (I 4), (I 5), (S 30661 0 2 2), (.int .u64 (.ofNat 0)), (I 0), (I 3), (I 2), (I 3), (I 4), (I 5), (.slice none 0 0), (.int .u64 (.ofNat 0)), (I 1), (I 2), (I 4), (I 4), (I 4), (I 5), (.slice none 0 0), (.int .u64 (.ofNat 0))]⟩
noncomputable def b11_2 : LBlk := ⟨30723, .cells 128 [(I 1), (I 2), (I 0), (I 0), (I 4), (I 3), (S 30729 0 2 2), (.int .u64 (.ofNat 1)), (I 0), (I 3), (I 0), (I 0), (I 1), (I 3), (.slice none 0 0), (.int .u64 (.ofNat 1)), (I 1), (I 2), (I 2), (I 2), (I 4), (I 5), (S 30740 0 2 2), (.int .u64 (.ofNat 0)), (I 0), (I 3), (I 2), (I 3), (I 4), (I 5), (.slice none 0 0), (.int .u64 (.ofNat 0)), (I 1), (I 2), (I 4), (I 4), (I 4), (I 5), (.slice none 0 0), (.int .u64 (.ofNat 0))]⟩
noncomputable def e27593 : Entry := ⟨84, [(S 29728 0 7 1180591620717411303432), (.agg #[(I 1), (I 0), (I 1)]), (.int .u64 (.ofNat 1))], [⟨29690, .cells 3 [(I 1), (I 6)]⟩, ⟨29523, .cells 3 [(I 2), (I 3)]⟩, ⟨29610, .cells 3 [(I 4), (I 5)]⟩, b10_4], 29804, (S 29838 0 7 7), [⟨29844, .cells 3 [(I 1), (I 6)]⟩, ⟨29850, .cells 3 [(I 2), (I 3)]⟩, ⟨29861, .cells 3 [(I 4), (I 5)]⟩, b11_0], 30124⟩
set_option maxRecDepth 1000000 in
theorem o27593 : EntryOK Tryz.prog e27593 := Ax.partCQ (ql := quiets) (K := sks) (l := [e27594]) (m := []) mixed quiets_ok sks_ok ⟨o27594, trivial⟩ trivial (by kernel_rfl)
noncomputable def e28121 : Entry := ⟨46, [(S 29838 0 7 7), (I 1), (I 1)], [⟨29844, .cells 3 [(I 1), (I 6)]⟩, ⟨29850, .cells 3 [(I 2), (I 3)]⟩, ⟨29861, .cells 3 [(I 4), (I 5)]⟩, b11_0], 30188, (S 30323 0 7 7), [⟨30323, .cells 3 [(I 1), (I 1), (I 1), (I 2), (I 2), (I 2), (I 2)]⟩], 30358⟩
set_option maxRecDepth 1000000 in
theorem o28121 : EntryOK Tryz.prog e28121 := Ax.partCQ (ql := quiets) (K := sks) (l := []) (m := []) mixed quiets_ok sks_ok trivial trivial (by kernel_rfl)
noncomputable def e28377 : Entry := ⟨134, [(S 29838 0 7 7), (.agg #[(I 0), (I 1), (I 2), (I 0), (I 0)]), (I 1)], [⟨29844, .cells 3 [(I 1), (I 6)]⟩, ⟨29850, .cells 3 [(I 2), (I 3)]⟩, ⟨29861, .cells 3 [(I 4), (I 5)]⟩, b11_0], 30402, (I 1), [], 30556⟩
set_option maxRecDepth 1000000 in
theorem o28377 : EntryOK Tryz.prog e28377 := Ax.partCQ (ql := quiets) (K := sks) (l := []) (m := []) mixed quiets_ok sks_ok trivial trivial (by kernel_rfl)
noncomputable def e28501 : Entry := ⟨133, [(S 29838 0 7 7), (I 1), (I 1)], [⟨29844, .cells 3 [(I 1), (I 6)]⟩, ⟨29850, .cells 3 [(I 2), (I 3)]⟩, ⟨29861, .cells 3 [(I 4), (I 5)]⟩, b11_0], 30556, (.tuple #[(I 0), (I 0), (S 30684 0 5 1180591620717411303432)]), [⟨30638, .cells 3 [(I 1), (I 2)]⟩, ⟨30661, .cells 3 [(I 3), (I 4)]⟩, b11_1], 30685⟩
set_option maxRecDepth 1000000 in
theorem o28501 : EntryOK Tryz.prog e28501 := Ax.partCQ (ql := quiets) (K := sks) (l := []) (m := []) mixed quiets_ok sks_ok trivial trivial (by kernel_rfl)
noncomputable def e28598 : Entry := ⟨135, [(A 29056 0), (I 0), (I 0), (S 30684 0 5 1180591620717411303432)], [b10_1, ⟨27130, .cells 3 [O, (I 1), (I 0)]⟩, ⟨15074, .cells 3 [(I 0), O]⟩, ⟨29062, .cells 3 [(I 0), (I 1)]⟩, b10_2, ⟨28998, .cells 9 [(.string ⟨#[0]⟩)]⟩, ⟨29030, .cells 9 [(.string ⟨#[255]⟩)]⟩, b10_0, ⟨29241, .cells 4 [F, T]⟩, ⟨29243, .cells 180 [(S 29241 0 2 2)]⟩, b10_3, ⟨30638, .cells 3 [(I 1), (I 2)]⟩, ⟨30661, .cells 3 [(I 3), (I 4)]⟩, b11_1], 30685, (.tuple #[(A 30751 0), (I 0)]), [⟨30729, .cells 3 [(I 1), (I 2)]⟩, ⟨30740, .cells 3 [(I 3), (I 4)]⟩, b11_2, ⟨30751, .cells 202 [(A 30751 0), (A 29056 0), (I 0), (I 0), (S 30723 0 5 5), (I 0), (I 0), (I 0), (I 0), (I 0), (.pointer none), (.string ⟨#[]⟩), F]⟩], 30752⟩
set_option maxRecDepth 1000000 in
theorem o28598 : EntryOK Tryz.prog e28598 := Ax.partCQ (ql := quiets) (K := sks) (l := []) (m := []) mixed quiets_ok sks_ok trivial trivial (by kernel_rfl)
noncomputable def g29195 : LEntry := ⟨456, [false, true, false, true, true], 11, [(S 27643 0 768 1180591620717411303425), (I 3), U, U, F, O, (I 2), U, O, (S 27643 0 768 1180591620717411303425), (I 768), (I 411), T, (A 27643 410), O, O, O, O, (I 2), O, (I 2), (I 411), U, U, U, U, U, U, U], [], [b10_1], 30849, (.exit 0), [(S 27643 0 768 1180591620717411303425), (I 3), U, U, F, O, (I 2), U, O, (S 27643 0 768 1180591620717411303425), (I 768), (I 768), F, (A 27643 767), O, O, O, O, (I 2), O, (I 2), (I 768), U, U, U, U, U, U, U], [b10_1], 30849, 30849⟩
set_option maxRecDepth 1000000 in
theorem h29195 : LOK Tryz.prog g29195 := Ax.partLQ (ql := quiets) (K := sks) (l := []) (m := []) mixed quiets_ok sks_ok trivial trivial (by kernel_rfl)

end Go.Proofs.YtlocganmbeghjaaGreatDoor.worldNames
