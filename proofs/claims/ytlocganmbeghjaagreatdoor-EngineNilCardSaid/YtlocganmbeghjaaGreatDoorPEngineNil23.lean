/-
  Parts of the run of viewportlaw27.EngineNil, in order: what each of these calls, and loops from a state on, gives, for each memory that holds what it looks at. No condition.
-/
import Derived.Test.YtlocganmbeghjaaGreatDoorAx9
import Derived.Test.YtlocganmbeghjaaGreatDoorKeys
import Derived.Test.YtlocganmbeghjaaGreatDoorTabsEngineNil
import Derived.Test.YtlocganmbeghjaaGreatDoorProg
import Derived.KernelRfl
import Derived.Test.YtlocganmbeghjaaGreatDoorPEngineNil22
set_option linter.unusedSimpArgs false
set_option linter.unusedVariables false
namespace Go.Proofs.YtlocganmbeghjaaGreatDoor.engineNil
open Go.Proofs Go.Proofs.YtlocganmbeghjaaGreatDoor Ax

noncomputable def b23_0 : LBlk := ⟨26484, .cells 231 [(S 26456 0 1 1180591620717411303425), (S 26483 0 1 1180591620717411303425)]⟩
noncomputable def e30553 : Entry := ⟨65, [(.agg #[(I 1), (I 1), (I 1), (S 16265 0 2 2)])], [⟨16264, .cells 3 [(I 0), (I 1)]⟩, ⟨16265, .cells 120 [(I 0), (S 16264 0 2 2), (I 0), (.slice none 0 0)]⟩], 25318, (I 14), [], 26136⟩
set_option maxRecDepth 1000000 in
theorem o30553 : EntryOK Tryz.prog e30553 := Ax.partCQ (ql := quiets) (K := sks) (l := [e30688, e31277]) (m := []) mixed quiets_ok sks_ok ⟨o30688, o31277, trivial⟩ trivial (by kernel_rfl)
noncomputable def e31768 : Entry := ⟨66, [(.agg #[(I 1), (I 1), (I 1), (S 16265 0 2 2)])], [⟨16264, .cells 3 [(I 0), (I 1)]⟩, ⟨16265, .cells 120 [(I 0), (S 16264 0 2 2), (I 0), (.slice none 0 0)]⟩], 26136, (.tuple #[(.agg #[(S 26484 0 2 1180591620717411303425)]), (.agg #[(I 0), (I 0), (I 0), (.string ⟨#[]⟩)]), (I 0)]), [⟨26456, .cells 9 [(.string ⟨#[0]⟩)]⟩, ⟨26483, .cells 9 [(.string ⟨#[255]⟩)]⟩, b23_0], 26490⟩
set_option maxRecDepth 1000000 in
theorem o31768 : EntryOK Tryz.prog e31768 := Ax.partCQ (ql := quiets) (K := sks) (l := []) (m := []) mixed quiets_ok sks_ok trivial trivial (by kernel_rfl)
noncomputable def e32554 : Entry := ⟨66, [(.agg #[(I 1), (I 1), (I 1), (S 16265 0 2 2)])], [⟨16264, .cells 3 [(I 0), (I 1)]⟩, ⟨16265, .cells 120 [(I 0), (S 16264 0 2 2), (I 0), (.slice none 0 0)]⟩], 26739, (.tuple #[(.agg #[(S 27087 0 2 1180591620717411303425)]), (.agg #[(I 0), (I 0), (I 0), (.string ⟨#[]⟩)]), (I 0)]), [⟨27059, .cells 9 [(.string ⟨#[0]⟩)]⟩, ⟨27086, .cells 9 [(.string ⟨#[255]⟩)]⟩, ⟨27087, .cells 231 [(S 27059 0 1 1180591620717411303425), (S 27086 0 1 1180591620717411303425)]⟩], 27093⟩
set_option maxRecDepth 1000000 in
theorem o32554 : EntryOK Tryz.prog e32554 := Ax.partCQ (ql := quiets) (K := sks) (l := []) (m := []) mixed quiets_ok sks_ok trivial trivial (by kernel_rfl)
noncomputable def e33143 : Entry := ⟨66, [(.agg #[(I 1), (I 1), (I 1), (S 16265 0 2 2)])], [⟨16264, .cells 3 [(I 0), (I 1)]⟩, ⟨16265, .cells 120 [(I 0), (S 16264 0 2 2), (I 0), (.slice none 0 0)]⟩], 27142, (.tuple #[(.agg #[(S 27490 0 2 1180591620717411303425)]), (.agg #[(I 0), (I 0), (I 0), (.string ⟨#[]⟩)]), (I 0)]), [⟨27462, .cells 9 [(.string ⟨#[0]⟩)]⟩, ⟨27489, .cells 9 [(.string ⟨#[255]⟩)]⟩, ⟨27490, .cells 231 [(S 27462 0 1 1180591620717411303425), (S 27489 0 1 1180591620717411303425)]⟩], 27496⟩
set_option maxRecDepth 1000000 in
theorem o33143 : EntryOK Tryz.prog e33143 := Ax.partCQ (ql := quiets) (K := sks) (l := []) (m := []) mixed quiets_ok sks_ok trivial trivial (by kernel_rfl)

end Go.Proofs.YtlocganmbeghjaaGreatDoor.engineNil
