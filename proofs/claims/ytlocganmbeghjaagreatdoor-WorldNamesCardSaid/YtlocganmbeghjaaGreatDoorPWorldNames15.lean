/-
  Parts of the run of viewportlaw29.WorldNames, in order: what each of these calls, and loops from a state on, gives, for each memory that holds what it looks at. No condition.
-/
import Derived.Test.YtlocganmbeghjaaGreatDoorAx9
import Derived.Test.YtlocganmbeghjaaGreatDoorKeys
import Derived.Test.YtlocganmbeghjaaGreatDoorTabsWorldNames
import Derived.Test.YtlocganmbeghjaaGreatDoorProg
import Derived.KernelRfl
import Derived.Test.YtlocganmbeghjaaGreatDoorPWorldNames11
import Derived.Test.YtlocganmbeghjaaGreatDoorPWorldNames14
set_option linter.unusedSimpArgs false
set_option linter.unusedVariables false
namespace Go.Proofs.YtlocganmbeghjaaGreatDoor.worldNames
open Go.Proofs Go.Proofs.YtlocganmbeghjaaGreatDoor Ax

noncomputable def b15_0 : LBlk := ⟨33242, .cells 128 [(M 2), (I 1), (I 0), (I 0), (I 4), (I 1), (S 33248 0 2 2), (.int .u64 (.ofNat 0)), (I 1), (I 2), (I 0), (I 0), (I 4), (I 3), (S 33254 0 2 2), (.int .u64 (.ofNat 1)), (I 0), (I 3), (I 0), (I 0), (I 1), (I 3), (.slice none 0 0), (.int .u64 (.ofNat 1)), (I 1), (I 2), (I 2), (I 2), (I 4), (I 5), (S 33265 0 2 2), (.int .u64 (.ofNat 0)), (I 0), (I 3), (I 2), (I 3), (I 4), (I 5), (.slice none 0 0), (.int .u64 (.ofNat 0)), (I 1), (I 2), (I 4), (I 4), (I 4), (I 5), (.slice none 0 0), (.int .u64 (.ofNat 0)), (M 1), (I 6), (I 4), (I 4), (I 4), (I 5), (.slice none 0 0), (.int .u64 (.ofNat 0))]⟩
noncomputable def e32313 : Entry := ⟨9, [(A 14851 0), (.agg #[(I 4), (I 0), (I 0), (.string ⟨#[]⟩), (I 0), (I 9), (I 0)])], [b5_2, ⟨12248, .cells 3 [O, (I 1), (I 0)]⟩, ⟨192, .cells 3 [(I 0), O]⟩, ⟨14180, .cells 3 [(I 0), (I 1)]⟩, b8_4, ⟨14116, .cells 9 [(.string ⟨#[0]⟩)]⟩, ⟨14148, .cells 9 [(.string ⟨#[255]⟩)]⟩, b7_0, ⟨14359, .cells 4 [F, T]⟩, ⟨14361, .cells 180 [(S 14359 0 2 2)]⟩, b8_5, ⟨14808, .cells 3 [(I 1), (I 6)]⟩, ⟨14641, .cells 3 [(I 2), (I 3)]⟩, ⟨14728, .cells 3 [(I 4), (I 5)]⟩, b8_6, ⟨14849, .map [] 0⟩, b9_0, ⟨14863, .cells 3 [(I 1), (I 1)]⟩, b9_1, ⟨14851, .cells 69 [(A 14851 0), (A 14850 0), (S 14871 0 2 1180591620717411303428), (I 0)]⟩], 32489, (.agg #[(I 4), (I 0), (I 0), (.string ⟨#[]⟩), (I 0), (I 9), (I 0), (I 2), (I 0), (.slice none 0 0), (.string ⟨#[97, 32, 98]⟩), (S 32736 0 7 7), (S 32910 0 7 7), (.slice none 0 0)]), [⟨32742, .cells 3 [(I 1), (I 6)]⟩, ⟨32748, .cells 3 [(I 2), (I 3)]⟩, ⟨32759, .cells 3 [(I 4), (I 5)]⟩, ⟨32736, .cells 128 [(M 2), (I 1), (I 0), (I 0), (I 3), (I 1), (S 32742 0 2 2), (.int .u64 (.ofNat 0)), (I 1), (I 2), (I 0), (I 0), (I 3), (I 2), (S 32748 0 2 2), (.int .u64 (.ofNat 0)), (I 0), (I 3), (I 0), (I 0), (I 1), (I 2), (.slice none 0 0), (.int .u64 (.ofNat 0)), (I 1), (I 2), (I 1), (I 1), (I 3), (I 4), (S 32759 0 2 2), (.int .u64 (.ofNat 0)), (I 0), (I 3), (I 1), (I 2), (I 3), (I 4), (.slice none 0 0), (.int .u64 (.ofNat 0)), (I 1), (I 2), (I 3), (I 3), (I 3), (I 4), (.slice none 0 0), (.int .u64 (.ofNat 0)), (M 1), (I 6), (I 3), (I 3), (I 3), (I 4), (.slice none 0 0), (.int .u64 (.ofNat 0))]⟩, ⟨32910, .cells 3 [(I 3), (I 3), (I 3), (I 3), (I 3), (I 3), (I 3)]⟩], 32945⟩
set_option maxRecDepth 1000000 in
theorem o32313 : EntryOK Tryz.prog e32313 := Ax.partCQ (ql := quiets) (K := sks) (l := [e32368, e32684]) (m := []) mixed quiets_ok sks_ok ⟨o32368, o32684, trivial⟩ trivial (by kernel_rfl)
noncomputable def e32983 : Entry := ⟨20, [(A 14850 0)], [b5_2, ⟨12248, .cells 3 [O, (I 1), (I 0)]⟩, ⟨192, .cells 3 [(I 0), O]⟩, ⟨14180, .cells 3 [(I 0), (I 1)]⟩, b8_4, ⟨14116, .cells 9 [(.string ⟨#[0]⟩)]⟩, ⟨14148, .cells 9 [(.string ⟨#[255]⟩)]⟩, b7_0, ⟨14359, .cells 4 [F, T]⟩, ⟨14361, .cells 180 [(S 14359 0 2 2)]⟩, b8_5, ⟨14808, .cells 3 [(I 1), (I 6)]⟩, ⟨14641, .cells 3 [(I 2), (I 3)]⟩, ⟨14728, .cells 3 [(I 4), (I 5)]⟩, b8_6, ⟨14849, .map [] 0⟩, ⟨14850, .cells 103 [(A 14174 0), (I 1), (I 1), (I 1), (I 5), (I 4), (.string ⟨#[97, 32, 98]⟩), (S 14846 0 7 1180591620717411303432), (.slice none 0 0), (.map (some 14849)), (I 1), (I 2), (A 14850 0)]⟩], 32990, (S 33125 0 7 7), [⟨33125, .cells 3 [(I 3), (I 3), (I 3), (I 3), (I 3), (I 3), (I 3)]⟩], 33160⟩
set_option maxRecDepth 1000000 in
theorem o32983 : EntryOK Tryz.prog e32983 := Ax.partCQ (ql := quiets) (K := sks) (l := []) (m := []) mixed quiets_ok sks_ok trivial trivial (by kernel_rfl)
noncomputable def e33292 : Entry := ⟨153, [(S 14846 0 7 1180591620717411303432)], [⟨14808, .cells 3 [(I 1), (I 6)]⟩, ⟨14641, .cells 3 [(I 2), (I 3)]⟩, ⟨14728, .cells 3 [(I 4), (I 5)]⟩, b8_6], 33210, (I 0), [], 33242⟩
set_option maxRecDepth 1000000 in
theorem o33292 : EntryOK Tryz.prog e33292 := Ax.partCQ (ql := quiets) (K := sks) (l := []) (m := []) mixed quiets_ok sks_ok trivial trivial (by kernel_rfl)
noncomputable def e33291 : Entry := ⟨84, [(S 14846 0 7 1180591620717411303432), (.agg #[(I 1), (I 0), (I 1)]), (.int .u64 (.ofNat 1))], [⟨14808, .cells 3 [(I 1), (I 6)]⟩, ⟨14641, .cells 3 [(I 2), (I 3)]⟩, ⟨14728, .cells 3 [(I 4), (I 5)]⟩, b8_6], 33208, (S 33242 0 7 7), [⟨33248, .cells 3 [(I 1), (I 6)]⟩, ⟨33254, .cells 3 [(I 2), (I 3)]⟩, ⟨33265, .cells 3 [(I 4), (I 5)]⟩, b15_0], 33528⟩
set_option maxRecDepth 1000000 in
theorem o33291 : EntryOK Tryz.prog e33291 := Ax.partCQ (ql := quiets) (K := sks) (l := [e33292]) (m := []) mixed quiets_ok sks_ok ⟨o33292, trivial⟩ trivial (by kernel_rfl)
noncomputable def e33819 : Entry := e28121.up 3404
set_option maxRecDepth 1000000 in
theorem o33819 : EntryOK Tryz.prog e33819 := o28121.up (by kernel_rfl)
noncomputable def e34076 : Entry := ⟨134, [(S 33242 0 7 7), (.agg #[(I 0), (I 1), (I 2), (I 0), (I 0)]), (I 1)], [⟨33248, .cells 3 [(I 1), (I 6)]⟩, ⟨33254, .cells 3 [(I 2), (I 3)]⟩, ⟨33265, .cells 3 [(I 4), (I 5)]⟩, b15_0], 33800, (I 1), [], 33954⟩
set_option maxRecDepth 1000000 in
theorem o34076 : EntryOK Tryz.prog e34076 := Ax.partCQ (ql := quiets) (K := sks) (l := []) (m := []) mixed quiets_ok sks_ok trivial trivial (by kernel_rfl)
noncomputable def e34200 : Entry := ⟨133, [(S 33242 0 7 7), (I 1), (I 1)], [⟨33248, .cells 3 [(I 1), (I 6)]⟩, ⟨33254, .cells 3 [(I 2), (I 3)]⟩, ⟨33265, .cells 3 [(I 4), (I 5)]⟩, b15_0], 33954, (.tuple #[(I 0), (I 0), (S 34082 0 5 1180591620717411303432)]), [⟨34036, .cells 3 [(I 1), (I 2)]⟩, ⟨34059, .cells 3 [(I 3), (I 4)]⟩, ⟨34082, .cells 128 [(I 1), (I 2), (I 0), (I 0), (I 4), (I 3), (S 34036 0 2 2), (.int .u64 (.ofNat 1)), (I 0), (I 3), (I 0), (I 0), (I 1), (I 3), (.slice none 0 0), (.int .u64 (.ofNat 1)), (I 1), (I 2), (I 2), (I 2), (I 4), (I 5), (S 34059 0 2 2), (.int .u64 (.ofNat 0)), (I 0), (I 3), (I 2), (I 3), (I 4), (I 5), (.slice none 0 0), (.int .u64 (.ofNat 0)), (I 1), (I 2), (I 4), (I 4), (I 4), (I 5), (.slice none 0 0), (.int .u64 (.ofNat 0))]⟩], 34083⟩
set_option maxRecDepth 1000000 in
theorem o34200 : EntryOK Tryz.prog e34200 := Ax.partCQ (ql := quiets) (K := sks) (l := []) (m := []) mixed quiets_ok sks_ok trivial trivial (by kernel_rfl)
noncomputable def g34894 : LEntry := ⟨456, [false, true, false, true, true], 11, [(S 12761 0 768 1180591620717411303425), (I 3), U, U, F, O, (I 2), U, O, (S 12761 0 768 1180591620717411303425), (I 768), (I 411), T, (A 12761 410), O, O, O, O, (I 2), O, (I 2), (I 411), U, U, U, U, U, U, U], [], [b5_2], 34247, (.exit 0), [(S 12761 0 768 1180591620717411303425), (I 3), U, U, F, O, (I 2), U, O, (S 12761 0 768 1180591620717411303425), (I 768), (I 768), F, (A 12761 767), O, O, O, O, (I 2), O, (I 2), (I 768), U, U, U, U, U, U, U], [b5_2], 34247, 34247⟩
set_option maxRecDepth 1000000 in
theorem h34894 : LOK Tryz.prog g34894 := Ax.partLQ (ql := quiets) (K := sks) (l := []) (m := []) mixed quiets_ok sks_ok trivial trivial (by kernel_rfl)

end Go.Proofs.YtlocganmbeghjaaGreatDoor.worldNames
