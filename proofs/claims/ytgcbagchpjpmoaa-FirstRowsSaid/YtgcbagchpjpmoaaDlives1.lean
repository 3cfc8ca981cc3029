/-
  What the parts of the run of viewportlaw12.lives look at and give. No condition.
-/
import Derived.Test.YtgcbagchpjpmoaaAx9
import Derived.Test.YtgcbagchpjpmoaaKeys
import Derived.Test.YtgcbagchpjpmoaaTabs0
import Derived.Test.YtgcbagchpjpmoaaProg
import Derived.KernelRfl
set_option linter.unusedSimpArgs false
set_option linter.unusedVariables false
namespace Go.Proofs.Ytgcbagchpjpmoaa.lives
open Go.Proofs Go.Proofs.Ytgcbagchpjpmoaa Ax

noncomputable def b0 : LBlk := ⟨2,.cells 48 [(I 0),(S 1 0 2 2),(I 0),(.slice none 0 0)]⟩
def p1 : List Bool := [false,true,false,true,true,true]
noncomputable def g100 : LEntry := ⟨9, p1, 0, [(.agg #[(I 1),(I 1),(I 2),(S 2 0 2 2)]),(A 3 0),(.slice none 0 0),(S 9 0 1 1),T,U,(A 26 0),(Gg 37 0 1 1),(.agg #[(I 1),(I 1),(I 2),(S 2 0 2 2)]),(I 0),F,(A 3 1),(I 1),(S 9 0 1 1),T,(A 3 3),(S 2 0 2 2),(I 2),(I 2),F,(A 2 2),(.agg #[(I 0),(.slice none 0 0)]),(S 9 0 1 1),(A 26 0),(I 0),(A 9 0),(.slice none 0 0),(.agg #[(I 1),(I 1),(I 2),(S 2 0 2 2)]),(S 9 0 1 1),(A 26 1),(.slice none 0 0),(S 28 0 1 1),(Gg 37 0 1 1),(Gg 37 0 1 1),(I 1),(S 9 0 1 1),(A 26 0),(I 0),(A 9 0),(.slice none 0 0),(I 0),T,(S 9 0 1 1),(A 26 0),(I 0),(Gg 37 0 1 1),(A 9 0),(I 2),U], [], [⟨3,.cells 36 [(I 1),(I 1),(I 2),(S 2 0 2 2)]⟩, ⟨1,.cells 3 [(I 0),(I 1)]⟩, b0, ⟨28,.cells 9 [(.string ⟨#[]⟩)]⟩, ⟨26,.cells 48 [(I 0),(.slice none 0 0)]⟩, ⟨37,.cells 9 [(.string ⟨#[]⟩)]⟩, ⟨9,.cells 23 [(Gg 37 0 1 1)]⟩], 38, (.exit 0), [(.agg #[(I 1),(I 1),(I 2),(S 2 0 2 2)]),(A 3 0),(.slice none 0 0),(S 9 0 1 1),F,U,(A 174 0),(Gg 192 0 3 1),(.agg #[(I 1),(I 1),(I 2),(S 2 0 2 2)]),(I 0),F,(A 3 1),(I 1),(S 9 0 1 1),F,(A 3 3),(S 2 0 2 2),(I 2),(I 2),F,(A 2 2),(.agg #[(I 0),(.slice none 0 0)]),(S 9 0 1 1),(A 174 0),(I 0),(A 9 0),(Gg 117 0 3 1),(.agg #[(I 1),(I 1),(I 2),(S 2 0 2 2)]),(S 9 0 1 1),(A 174 1),(.slice none 0 0),(S 176 0 1 1),(Gg 192 0 3 1),(Gg 192 0 3 1),(I 3),(S 9 0 1 1),(A 174 0),(I 0),(A 9 0),(Gg 117 0 3 1),(I 3),F,(S 9 0 1 1),(A 84 0),(I 0),(Gg 117 0 3 1),(A 9 0),(I 2),U], [⟨37,.cells 9 [(.string ⟨#[]⟩)]⟩, ⟨26,.cells 48 [(I 0),(.slice none 0 0)]⟩, ⟨28,.cells 9 [(.string ⟨#[]⟩)]⟩, ⟨3,.cells 36 [(I 1),(I 1),(I 2),(S 2 0 2 2)]⟩, b0, ⟨176,.cells 9 [(.string ⟨#[]⟩)]⟩, ⟨192,.cells 9 [(.string ⟨#[]⟩),(.string ⟨#[0]⟩),(.string ⟨#[0,0]⟩),(.string ⟨#[]⟩)]⟩, ⟨174,.cells 48 [(I 0),(.slice none 0 0)]⟩, ⟨1,.cells 3 [(I 0),(I 1)]⟩, ⟨84,.cells 48 [(I 0),(S 1 0 2 2)]⟩, ⟨117,.cells 9 [(.string ⟨#[]⟩),(.string ⟨#[0]⟩),(.string ⟨#[0,0]⟩),(.string ⟨#[]⟩)]⟩, ⟨9,.cells 23 [(Gg 117 0 3 1)]⟩], 193, 3⟩

end Go.Proofs.Ytgcbagchpjpmoaa.lives
