/-
  Parts of the run of viewportlaw17.FreshNil, in order: what each of these calls, and loops from a state on, gives, for each memory that holds what it looks at. No condition.
-/
import Derived.Test.YtgieimiffdfdhaaGreatDoorAx9
import Derived.Test.YtgieimiffdfdhaaGreatDoorKeys
import Derived.Test.YtgieimiffdfdhaaGreatDoorTabsFreshNil
import Derived.Test.YtgieimiffdfdhaaGreatDoorProg
import Derived.KernelRfl
import Derived.Test.YtgieimiffdfdhaaGreatDoorPFreshNil9
set_option linter.unusedSimpArgs false
set_option linter.unusedVariables false
namespace Go.Proofs.YtgieimiffdfdhaaGreatDoor.freshNil
open Go.Proofs Go.Proofs.YtgieimiffdfdhaaGreatDoor Ax

noncomputable def g14604 : LEntry := ⟨116, [false, true, false, true, true], 11, [(S 14886 0 768 1180591620717411303425), (I 3), U, U, F, O, (I 1), U, O, (S 14886 0 768 1180591620717411303425), (I 768), (I 61), T, (A 14886 60), O, O, O, O, (I 1), O, (I 1), (I 61), U, U, U, U, U, U, U], [], [b9_0], 14898, (.exit 0), [(S 14886 0 768 1180591620717411303425), (I 3), U, U, F, O, (I 2), U, O, (S 14886 0 768 1180591620717411303425), (I 768), (I 768), F, (A 14886 767), O, O, O, O, (I 2), O, (I 2), (I 768), U, U, U, U, U, U, U], [b9_0], 14898, 14898⟩
set_option maxRecDepth 1000000 in
theorem h14604 : LOK Tryz.prog g14604 := Ax.partLQ (ql := quiets) (K := sks) (l := []) (m := [g14954]) mixed quiets_ok sks_ok trivial ⟨h14954, trivial⟩ (by kernel_rfl)
noncomputable def e13713 : Entry := ⟨7, [(A 14167 0), (.string ⟨#[49]⟩)], [b8_0, ⟨12241, .cells 3 [O, (I 1), (I 0)]⟩, ⟨185, .cells 3 [(I 0), O]⟩, ⟨14173, .cells 3 [(I 0), (I 1)]⟩, b8_5, ⟨14109, .cells 9 [(.string ⟨#[0]⟩)]⟩, ⟨14141, .cells 9 [(.string ⟨#[255]⟩)]⟩, b8_6, ⟨14352, .cells 4 [F, T]⟩, ⟨14354, .cells 70 [(S 14352 0 2 2)]⟩, b8_7], 14828, (.tuple #[(S 15088 0 4 1180591620717411303432), (I 0)]), [⟨15062, .cells 3 [(I 1), (I 3)]⟩, ⟨14995, .cells 3 [(I 2)]⟩, ⟨15088, .cells 55 [(M 2), (I 1), (I 0), (I 0), (I 1), (I 1), (S 15062 0 2 1180591620717411303425), (.int .u64 (.ofNat 0)), (I 1), (I 2), (I 0), (I 0), (I 1), (I 2), (S 14995 0 1 1180591620717411303425), (.int .u64 (.ofNat 0)), O, (I 5), (I 0), (I 0), (I 1), (I 2), (.slice none 0 0), (.int .u64 (.ofNat 0)), (M 1), (I 6), (I 1), (I 1), (I 1), (I 2), (.slice none 0 0), (.int .u64 (.ofNat 0))]⟩], 15089⟩
set_option maxRecDepth 1000000 in
theorem o13713 : EntryOK Tryz.prog e13713 := Ax.partCQ (ql := quiets) (K := sks) (l := [e13749]) (m := [g14604]) mixed quiets_ok sks_ok ⟨o13749, trivial⟩ ⟨h14604, trivial⟩ (by kernel_rfl)

end Go.Proofs.YtgieimiffdfdhaaGreatDoor.freshNil
