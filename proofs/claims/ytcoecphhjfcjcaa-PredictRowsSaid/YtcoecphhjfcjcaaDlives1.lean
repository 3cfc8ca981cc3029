/-
  What the parts of the run of viewportlaw14.lives look at and give. No condition.
-/
import Derived.Test.YtcoecphhjfcjcaaAx9
import Derived.Test.YtcoecphhjfcjcaaKeys
import Derived.Test.YtcoecphhjfcjcaaTabs0
import Derived.Test.YtcoecphhjfcjcaaProg
import Derived.KernelRfl
set_option linter.unusedSimpArgs false
set_option linter.unusedVariables false
namespace Go.Proofs.Ytcoecphhjfcjcaa.lives
open Go.Proofs Go.Proofs.Ytcoecphhjfcjcaa Ax

noncomputable def b0 : LBlk := ⟨3,.cells 46 [(I 0),(S 1 0 2 2),(I 0),(S 2 0 2 2)]⟩
noncomputable def e305 : Entry := ⟨17, [(.agg #[(I 2),(I 1),(I 1),(S 3 0 2 2)])], [⟨1,.cells 3 [(I 0),(I 1)]⟩, ⟨2,.cells 3 [(I 0),(I 0)]⟩, b0], 129, (S 249 0 1 1), [⟨250,.cells 9 [(.string ⟨#[255]⟩)]⟩, ⟨249,.cells 48 [(S 250 0 1 1)]⟩], 278⟩
noncomputable def e25 : Entry := ⟨11, [(.agg #[(I 2),(I 1),(I 1),(S 3 0 2 2)])], [⟨1,.cells 3 [(I 0),(I 1)]⟩, ⟨2,.cells 3 [(I 0),(I 0)]⟩, b0], 13, (.agg #[(Gg 366 0 2 1)]), [⟨321,.cells 9 [(.string ⟨#[0]⟩)]⟩, ⟨365,.cells 9 [(.string ⟨#[0]⟩)]⟩, ⟨366,.cells 48 [(Gg 321 0 1 1),(Gg 365 0 1 1)]⟩], 367⟩
noncomputable def e845 : Entry := e25.up 0
noncomputable def e3 : Entry := ⟨6, [(.agg #[(I 2),(I 1),(I 1),(S 3 0 2 2)])], [⟨1,.cells 3 [(I 0),(I 1)]⟩, ⟨2,.cells 3 [(I 0),(I 0)]⟩, b0], 4, (.tuple #[(.agg #[(.slice none 0 0)]),(.agg #[(I 0),(I 0),(I 1),(.string ⟨#[0]⟩)]),(I 9)]), [], 384⟩
noncomputable def b1 : LBlk := ⟨389,.cells 46 [(I 0),(S 387 0 2 2),(I 0),(S 388 0 2 2)]⟩
noncomputable def e2140 : Entry := ⟨17, [(.agg #[(I 2),(I 1),(I 2),(S 389 0 2 2)])], [⟨387,.cells 3 [(I 0),(I 1)]⟩, ⟨388,.cells 3 [(I 0),(I 0)]⟩, b1], 527, (S 659 0 1 1), [⟨660,.cells 9 [(.string ⟨#[255]⟩)]⟩, ⟨659,.cells 48 [(S 660 0 1 1)]⟩], 688⟩
noncomputable def e1790 : Entry := ⟨11, [(.agg #[(I 2),(I 1),(I 2),(S 389 0 2 2)])], [⟨387,.cells 3 [(I 0),(I 1)]⟩, ⟨388,.cells 3 [(I 0),(I 0)]⟩, b1], 399, (.agg #[(Gg 780 0 2 1)]), [⟨733,.cells 9 [(.string ⟨#[0,1]⟩)]⟩, ⟨779,.cells 9 [(.string ⟨#[0,0]⟩)]⟩, ⟨780,.cells 48 [(Gg 733 0 1 1),(Gg 779 0 1 1)]⟩], 781⟩

end Go.Proofs.Ytcoecphhjfcjcaa.lives
