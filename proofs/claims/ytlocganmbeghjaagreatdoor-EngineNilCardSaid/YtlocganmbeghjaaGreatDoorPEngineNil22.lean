/-
  Parts of the run of viewportlaw27.EngineNil, in order: what each of these calls, and loops from a state on, gives, for each memory that holds what it looks at. No condition.
-/
import Derived.Test.YtlocganmbeghjaaGreatDoorAx9
import Derived.Test.YtlocganmbeghjaaGreatDoorKeys
import Derived.Test.YtlocganmbeghjaaGreatDoorTabsEngineNil
import Derived.Test.YtlocganmbeghjaaGreatDoorProg
import Derived.KernelRfl
import Derived.Test.YtlocganmbeghjaaGreatDoorPEngineNil21
set_option linter.unusedSimpArgs false
set_option linter.unusedVariables false
namespace Go.Proofs.YtlocganmbeghjaaGreatDoor.engineNil
open Go.Proofs Go.Proofs.YtlocganmbeghjaaGreatDoor Ax

noncomputable def e30062 : Entry := ⟨66, [(.agg #[(I 1), (I 1), (I 1), (S 16265 0 2 2)])], [⟨16264, .cells 3 [(I 0), (I 1)]⟩, ⟨16265, .cells 120 [(I 0), (S 16264 0 2 2), (I 0), (.slice none 0 0)]⟩], 24949, (.tuple #[(.agg #[(S 25297 0 2 1180591620717411303425)]), (.agg #[(I 0), (I 0), (I 0), (.string ⟨#[]⟩)]), (I 0)]), [⟨25269, .cells 9 [(.string ⟨#[0]⟩)]⟩, ⟨25296, .cells 9 [(.string ⟨#[255]⟩)]⟩, ⟨25297, .cells 231 [(S 25269 0 1 1180591620717411303425), (S 25296 0 1 1180591620717411303425)]⟩], 25303⟩
set_option maxRecDepth 1000000 in
theorem o30062 : EntryOK Tryz.prog e30062 := Ax.partCQ (ql := quiets) (K := sks) (l := []) (m := []) mixed quiets_ok sks_ok trivial trivial (by kernel_rfl)
noncomputable def e29342 : Entry := ⟨64, [(.agg #[(I 1), (I 1), (I 1), (S 16265 0 2 2)])], [⟨16264, .cells 3 [(I 0), (I 1)]⟩, ⟨16265, .cells 120 [(I 0), (S 16264 0 2 2), (I 0), (.slice none 0 0)]⟩], 24501, (I 4), [], 25318⟩
set_option maxRecDepth 1000000 in
theorem o29342 : EntryOK Tryz.prog e29342 := Ax.partCQ (ql := quiets) (K := sks) (l := [e29473, e30062]) (m := []) mixed quiets_ok sks_ok ⟨o29473, o30062, trivial⟩ trivial (by kernel_rfl)
noncomputable def e30688 : Entry := ⟨66, [(.agg #[(I 1), (I 1), (I 1), (S 16265 0 2 2)])], [⟨16264, .cells 3 [(I 0), (I 1)]⟩, ⟨16265, .cells 120 [(I 0), (S 16264 0 2 2), (I 0), (.slice none 0 0)]⟩], 25364, (.tuple #[(.agg #[(S 25712 0 2 1180591620717411303425)]), (.agg #[(I 0), (I 0), (I 0), (.string ⟨#[]⟩)]), (I 0)]), [⟨25684, .cells 9 [(.string ⟨#[0]⟩)]⟩, ⟨25711, .cells 9 [(.string ⟨#[255]⟩)]⟩, ⟨25712, .cells 231 [(S 25684 0 1 1180591620717411303425), (S 25711 0 1 1180591620717411303425)]⟩], 25718⟩
set_option maxRecDepth 1000000 in
theorem o30688 : EntryOK Tryz.prog e30688 := Ax.partCQ (ql := quiets) (K := sks) (l := []) (m := []) mixed quiets_ok sks_ok trivial trivial (by kernel_rfl)
noncomputable def e31277 : Entry := ⟨66, [(.agg #[(I 1), (I 1), (I 1), (S 16265 0 2 2)])], [⟨16264, .cells 3 [(I 0), (I 1)]⟩, ⟨16265, .cells 120 [(I 0), (S 16264 0 2 2), (I 0), (.slice none 0 0)]⟩], 25767, (.tuple #[(.agg #[(S 26115 0 2 1180591620717411303425)]), (.agg #[(I 0), (I 0), (I 0), (.string ⟨#[]⟩)]), (I 0)]), [⟨26087, .cells 9 [(.string ⟨#[0]⟩)]⟩, ⟨26114, .cells 9 [(.string ⟨#[255]⟩)]⟩, ⟨26115, .cells 231 [(S 26087 0 1 1180591620717411303425), (S 26114 0 1 1180591620717411303425)]⟩], 26121⟩
set_option maxRecDepth 1000000 in
theorem o31277 : EntryOK Tryz.prog e31277 := Ax.partCQ (ql := quiets) (K := sks) (l := []) (m := []) mixed quiets_ok sks_ok trivial trivial (by kernel_rfl)

end Go.Proofs.YtlocganmbeghjaaGreatDoor.engineNil
