/-
  Parts of the run of viewportlaw29.WorldNames, in order: what each of these calls, and loops from a state on, gives, for each memory that holds what it looks at. No condition.
-/
import Derived.Test.YtlocganmbeghjaaGreatDoorAx9
import Derived.Test.YtlocganmbeghjaaGreatDoorKeys
import Derived.Test.YtlocganmbeghjaaGreatDoorTabsWorldNames
import Derived.Test.YtlocganmbeghjaaGreatDoorProg
import Derived.KernelRfl
import Derived.Test.YtlocganmbeghjaaGreatDoorPWorldNames1
import Derived.Test.YtlocganmbeghjaaGreatDoorPWorldNames3
import Derived.Test.YtlocganmbeghjaaGreatDoorPWorldNames4
import Derived.Test.YtlocganmbeghjaaGreatDoorPWorldNames5
set_option linter.unusedSimpArgs false
set_option linter.unusedVariables false
namespace Go.Proofs.YtlocganmbeghjaaGreatDoor.worldNames
open Go.Proofs Go.Proofs.YtlocganmbeghjaaGreatDoor Ax

noncomputable def e3442 : Entry := ⟨344, [(.agg #[(S 11143 0 768 1180591620717411303425), (S 8085 0 3 1180591620717411303425)])], [b2_6, ⟨8085, .cells 3 [O, (I 1), (I 0)]⟩], 11145, (.tuple #[(.agg #[(S 12761 0 768 1180591620717411303425), (S 12248 0 3 1180591620717411303425)]), (I 0)]), [b5_2, ⟨12248, .cells 3 [O, (I 1), (I 0)]⟩], 12762⟩
set_option maxRecDepth 1000000 in
theorem o3442 : EntryOK Tryz.prog e3442 := Ax.partCQ (ql := quiets) (K := sks) (l := []) (m := [g3506, g4284, g4998, g5602, g7162]) mixed quiets_ok sks_ok trivial ⟨h3506, h4284, h4998, h5602, h7162, trivial⟩ (by kernel_rfl)
noncomputable def e238 : Entry := ⟨261, [(S 190 0 2 1180591620717411303425)], [⟨97, .cells 3 [(I 0)]⟩, b1_0, ⟨161, .cells 3 [(I 0)]⟩, ⟨173, .cells 421 [(I 2), (.int .u64 (.ofNat 4294967296)), (.int .u64 (.ofNat 0)), (.int .u64 (.ofNat 0)), (.int .u64 (.ofNat 0)), (.slice none 0 0), (I 6), (.int .u64 (.ofNat 0)), (.int .u64 (.ofNat 0)), (.int .u64 (.ofNat 0)), (.int .u64 (.ofNat 0)), (S 161 0 1 1)]⟩, ⟨190, .cells 212 [(S 109 0 2 1180591620717411303430), (S 173 0 2 1180591620717411303430)]⟩], 193, (.tuple #[(.agg #[(S 12761 0 768 1180591620717411303425), (S 12248 0 3 1180591620717411303425)]), (I 0)]), [b5_2, ⟨12248, .cells 3 [O, (I 1), (I 0)]⟩], 12762⟩
set_option maxRecDepth 1000000 in
theorem o238 : EntryOK Tryz.prog e238 := Ax.partCQ (ql := quiets) (K := sks) (l := [e402, e3442]) (m := [g371, g383, g388, g400]) mixed quiets_ok sks_ok ⟨o402, o3442, trivial⟩ ⟨h371, h383, h388, h400, trivial⟩ (by kernel_rfl)
noncomputable def e8463 : Entry := ⟨269, [(.agg #[(I 1), (I 1), (I 1), (S 4 0 2 2)])], [⟨3, .cells 3 [(I 0), (I 1)]⟩, ⟨4, .cells 120 [(I 0), (S 3 0 2 2), (I 0), (.slice none 0 0)]⟩], 12970, (S 13093 0 1 1), [⟨13094, .cells 9 [(.string ⟨#[255]⟩)]⟩, ⟨13093, .cells 231 [(S 13094 0 1 1)]⟩], 13146⟩
set_option maxRecDepth 1000000 in
theorem o8463 : EntryOK Tryz.prog e8463 := Ax.partCQ (ql := quiets) (K := sks) (l := []) (m := []) mixed quiets_ok sks_ok trivial trivial (by kernel_rfl)
noncomputable def e8112 : Entry := ⟨264, [(.agg #[(I 1), (I 1), (I 1), (S 4 0 2 2)])], [⟨3, .cells 3 [(I 0), (I 1)]⟩, ⟨4, .cells 120 [(I 0), (S 3 0 2 2), (I 0), (.slice none 0 0)]⟩], 12840, (.tuple #[(.agg #[(I 0), (I 0), (I 0), (.string ⟨#[]⟩)]), T]), [], 13236⟩
set_option maxRecDepth 1000000 in
theorem o8112 : EntryOK Tryz.prog e8112 := Ax.partCQ (ql := quiets) (K := sks) (l := [e8463]) (m := []) mixed quiets_ok sks_ok ⟨o8463, trivial⟩ trivial (by kernel_rfl)
noncomputable def e9597 : Entry := ⟨269, [(.agg #[(I 1), (I 1), (I 1), (S 4 0 2 2)])], [⟨3, .cells 3 [(I 0), (I 1)]⟩, ⟨4, .cells 120 [(I 0), (S 3 0 2 2), (I 0), (.slice none 0 0)]⟩], 13447, (S 13570 0 1 1), [⟨13571, .cells 9 [(.string ⟨#[255]⟩)]⟩, ⟨13570, .cells 231 [(S 13571 0 1 1)]⟩], 13623⟩
set_option maxRecDepth 1000000 in
theorem o9597 : EntryOK Tryz.prog e9597 := Ax.partCQ (ql := quiets) (K := sks) (l := []) (m := []) mixed quiets_ok sks_ok trivial trivial (by kernel_rfl)
noncomputable def e9246 : Entry := ⟨264, [(.agg #[(I 1), (I 1), (I 1), (S 4 0 2 2)])], [⟨3, .cells 3 [(I 0), (I 1)]⟩, ⟨4, .cells 120 [(I 0), (S 3 0 2 2), (I 0), (.slice none 0 0)]⟩], 13317, (.tuple #[(.agg #[(I 0), (I 0), (I 0), (.string ⟨#[]⟩)]), T]), [], 13713⟩
set_option maxRecDepth 1000000 in
theorem o9246 : EntryOK Tryz.prog e9246 := Ax.partCQ (ql := quiets) (K := sks) (l := [e9597]) (m := []) mixed quiets_ok sks_ok ⟨o9597, trivial⟩ trivial (by kernel_rfl)

end Go.Proofs.YtlocganmbeghjaaGreatDoor.worldNames
