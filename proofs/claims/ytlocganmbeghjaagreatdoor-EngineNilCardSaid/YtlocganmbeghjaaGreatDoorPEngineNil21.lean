/-
  Parts of the run of viewportlaw27.EngineNil, in order: what each of these calls, and loops from a state on, gives, for each memory that holds what it looks at. No condition.
-/
import Derived.Test.YtlocganmbeghjaaGreatDoorAx9
import Derived.Test.YtlocganmbeghjaaGreatDoorKeys
import Derived.Test.YtlocganmbeghjaaGreatDoorTabsEngineNil
import Derived.Test.YtlocganmbeghjaaGreatDoorProg
import Derived.KernelRfl
import Derived.Test.YtlocganmbeghjaaGreatDoorPEngineNil11
import Derived.Test.YtlocganmbeghjaaGreatDoorPEngineNil14
import Derived.Test.YtlocganmbeghjaaGreatDoorPEngineNil18
import Derived.Test.YtlocganmbeghjaaGreatDoorPEngineNil20
set_option linter.unusedSimpArgs false
set_option linter.unusedVariables false
namespace Go.Proofs.YtlocganmbeghjaaGreatDoor.engineNil
open Go.Proofs Go.Proofs.YtlocganmbeghjaaGreatDoor Ax

noncomputable def e16851 : Entry := ⟨62, [(S 16263 0 2 2)], [b11_7], 16267, (.tuple #[(.agg #[(S 24102 0 768 1180591620717411303425), (S 23334 0 3 1180591620717411303425), (S 16442 0 2 1180591620717411303425), (I 1)]), (I 2), (I 0)]), [b20_0, ⟨23334, .cells 3 [O, (I 1), (I 0)]⟩, ⟨16442, .cells 3 [(I 0), O]⟩], 24103⟩
set_option maxRecDepth 1000000 in
theorem o16851 : EntryOK Tryz.prog e16851 := Ax.partCQ (ql := quiets) (K := sks) (l := [e26306]) (m := [g16852, g17269, g20581, g27228]) mixed quiets_ok sks_ok ⟨o26306, trivial⟩ ⟨h16852, h17269, h20581, h27228, trivial⟩ (by kernel_rfl)
noncomputable def e28900 : Entry := ⟨66, [(.agg #[(I 1), (I 1), (I 1), (S 16265 0 2 2)])], [⟨16264, .cells 3 [(I 0), (I 1)]⟩, ⟨16265, .cells 120 [(I 0), (S 16264 0 2 2), (I 0), (.slice none 0 0)]⟩], 24147, (.tuple #[(.agg #[(S 24495 0 2 1180591620717411303425)]), (.agg #[(I 0), (I 0), (I 0), (.string ⟨#[]⟩)]), (I 0)]), [⟨24467, .cells 9 [(.string ⟨#[0]⟩)]⟩, ⟨24494, .cells 9 [(.string ⟨#[255]⟩)]⟩, ⟨24495, .cells 231 [(S 24467 0 1 1180591620717411303425), (S 24494 0 1 1180591620717411303425)]⟩], 24501⟩
set_option maxRecDepth 1000000 in
theorem o28900 : EntryOK Tryz.prog e28900 := Ax.partCQ (ql := quiets) (K := sks) (l := []) (m := []) mixed quiets_ok sks_ok trivial trivial (by kernel_rfl)
noncomputable def e29473 : Entry := ⟨66, [(.agg #[(I 1), (I 1), (I 1), (S 16265 0 2 2)])], [⟨16264, .cells 3 [(I 0), (I 1)]⟩, ⟨16265, .cells 120 [(I 0), (S 16264 0 2 2), (I 0), (.slice none 0 0)]⟩], 24546, (.tuple #[(.agg #[(S 24894 0 2 1180591620717411303425)]), (.agg #[(I 0), (I 0), (I 0), (.string ⟨#[]⟩)]), (I 0)]), [⟨24866, .cells 9 [(.string ⟨#[0]⟩)]⟩, ⟨24893, .cells 9 [(.string ⟨#[255]⟩)]⟩, ⟨24894, .cells 231 [(S 24866 0 1 1180591620717411303425), (S 24893 0 1 1180591620717411303425)]⟩], 24900⟩
set_option maxRecDepth 1000000 in
theorem o29473 : EntryOK Tryz.prog e29473 := Ax.partCQ (ql := quiets) (K := sks) (l := []) (m := []) mixed quiets_ok sks_ok trivial trivial (by kernel_rfl)

end Go.Proofs.YtlocganmbeghjaaGreatDoor.engineNil
