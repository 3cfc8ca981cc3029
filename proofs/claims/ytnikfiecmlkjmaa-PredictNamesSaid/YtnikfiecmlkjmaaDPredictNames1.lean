/-
  What the parts of the run of viewportlaw14.PredictNames look at and give. No condition.
-/
import Derived.Test.YtnikfiecmlkjmaaAx9
import Derived.Test.YtnikfiecmlkjmaaKeys
import Derived.Test.YtnikfiecmlkjmaaTabs0
import Derived.Test.YtnikfiecmlkjmaaProg
import Derived.KernelRfl
set_option linter.unusedSimpArgs false
set_option linter.unusedVariables false
namespace Go.Proofs.Ytnikfiecmlkjmaa.predictNames
open Go.Proofs Go.Proofs.Ytnikfiecmlkjmaa Ax

noncomputable def b0 : LBlk := ⟨3,.cells 39 [(I 0),(S 1 0 2 2),(I 0),(S 2 0 2 2)]⟩
noncomputable def e306 : Entry := ⟨26, [(.agg #[(I 2),(I 1),(I 1),(S 3 0 2 2)])], [⟨1,.cells 3 [(I 0),(I 1)]⟩, ⟨2,.cells 3 [(I 0),(I 0)]⟩, b0], 129, (S 249 0 1 1), [⟨250,.cells 9 [(.string ⟨#[255]⟩)]⟩, ⟨249,.cells 41 [(S 250 0 1 1)]⟩], 278⟩
noncomputable def e26 : Entry := ⟨15, [(.agg #[(I 2),(I 1),(I 1),(S 3 0 2 2)])], [⟨1,.cells 3 [(I 0),(I 1)]⟩, ⟨2,.cells 3 [(I 0),(I 0)]⟩, b0], 13, (.agg #[(Gg 366 0 2 1)]), [⟨321,.cells 9 [(.string ⟨#[0]⟩)]⟩, ⟨365,.cells 9 [(.string ⟨#[0]⟩)]⟩, ⟨366,.cells 41 [(Gg 321 0 1 1),(Gg 365 0 1 1)]⟩], 367⟩
noncomputable def e846 : Entry := e26.up 0
noncomputable def e4 : Entry := ⟨5, [(.agg #[(I 2),(I 1),(I 1),(S 3 0 2 2)])], [⟨1,.cells 3 [(I 0),(I 1)]⟩, ⟨2,.cells 3 [(I 0),(I 0)]⟩, b0], 4, (.tuple #[(.agg #[(.slice none 0 0)]),(.agg #[(I 0),(I 0),(I 1),(.string ⟨#[0]⟩)]),(I 9)]), [], 384⟩
noncomputable def b1 : LBlk := ⟨389,.cells 39 [(I 0),(S 387 0 2 2),(I 0),(S 388 0 2 2)]⟩
noncomputable def e2141 : Entry := ⟨26, [(.agg #[(I 2),(I 1),(I 2),(S 389 0 2 2)])], [⟨387,.cells 3 [(I 0),(I 1)]⟩, ⟨388,.cells 3 [(I 0),(I 0)]⟩, b1], 527, (S 659 0 1 1), [⟨660,.cells 9 [(.string ⟨#[255]⟩)]⟩, ⟨659,.cells 41 [(S 660 0 1 1)]⟩], 688⟩
noncomputable def e1769 : Entry := ⟨5, [(.agg #[(I 2),(I 1),(I 2),(S 389 0 2 2)])], [⟨387,.cells 3 [(I 0),(I 1)]⟩, ⟨388,.cells 3 [(I 0),(I 0)]⟩, b1], 390, (.tuple #[(.agg #[(Gg 780 0 2 1)]),(.agg #[(I 0),(I 0),(I 0),(.string ⟨#[]⟩)]),(I 0)]), [⟨733,.cells 9 [(.string ⟨#[0,1]⟩)]⟩, ⟨779,.cells 9 [(.string ⟨#[0,0]⟩)]⟩, ⟨780,.cells 41 [(Gg 733 0 1 1),(Gg 779 0 1 1)]⟩], 795⟩
noncomputable def e2794 : Entry := e1769.up 424
noncomputable def b2 : LBlk := ⟨1224,.cells 39 [(I 0),(S 1222 0 2 2),(I 0),(S 1223 0 2 2)]⟩
noncomputable def e4160 : Entry := ⟨26, [(.agg #[(I 2),(I 1),(I 2),(S 1224 0 2 2)])], [⟨1222,.cells 3 [(I 0),(I 1)]⟩, ⟨1223,.cells 3 [(I 0),(I 0)]⟩, b2], 1364, (S 1496 0 1 1), [⟨1497,.cells 9 [(.string ⟨#[255]⟩)]⟩, ⟨1496,.cells 41 [(S 1497 0 1 1)]⟩], 1525⟩
noncomputable def e3787 : Entry := ⟨7, [(.agg #[(I 2),(I 1),(I 2),(S 1224 0 2 2)])], [⟨1222,.cells 3 [(I 0),(I 1)]⟩, ⟨1223,.cells 3 [(I 0),(I 0)]⟩, b2], 1225, (.tuple #[(.agg #[(I 0),(I 0),(I 0),(.string ⟨#[]⟩)]),T]), [], 1633⟩
noncomputable def b3 : LBlk := ⟨1637,.cells 39 [(I 0),(S 1635 0 2 2),(I 0),(S 1636 0 2 2)]⟩
noncomputable def e5084 : Entry := ⟨26, [(.agg #[(I 2),(I 1),(I 1),(S 1637 0 2 2)])], [⟨1635,.cells 3 [(I 0),(I 1)]⟩, ⟨1636,.cells 3 [(I 0),(I 0)]⟩, b3], 1765, (S 1885 0 1 1), [⟨1886,.cells 9 [(.string ⟨#[255]⟩)]⟩, ⟨1885,.cells 41 [(S 1886 0 1 1)]⟩], 1914⟩
noncomputable def e4804 : Entry := ⟨15, [(.agg #[(I 2),(I 1),(I 1),(S 1637 0 2 2)])], [⟨1635,.cells 3 [(I 0),(I 1)]⟩, ⟨1636,.cells 3 [(I 0),(I 0)]⟩, b3], 1649, (.agg #[(Gg 2002 0 2 1)]), [⟨1957,.cells 9 [(.string ⟨#[0]⟩)]⟩, ⟨2001,.cells 9 [(.string ⟨#[0]⟩)]⟩, ⟨2002,.cells 41 [(Gg 1957 0 1 1),(Gg 2001 0 1 1)]⟩], 2003⟩
noncomputable def e5624 : Entry := e4804.up 0
noncomputable def e4782 : Entry := ⟨5, [(.agg #[(I 2),(I 1),(I 1),(S 1637 0 2 2)])], [⟨1635,.cells 3 [(I 0),(I 1)]⟩, ⟨1636,.cells 3 [(I 0),(I 0)]⟩, b3], 1640, (.tuple #[(.agg #[(.slice none 0 0)]),(.agg #[(I 0),(I 0),(I 1),(.string ⟨#[0]⟩)]),(I 9)]), [], 2020⟩
noncomputable def e6741 : Entry := ⟨10, [(.agg #[(I 1),(I 1),(I 1),(S 2037 0 2 2)])], [⟨2036,.cells 3 [(I 1),(I 0)]⟩, ⟨2037,.cells 39 [(I 0),(S 2036 0 2 2),(I 0),(.slice none 0 0)]⟩], 2104, (I 4), [], 2187⟩
noncomputable def b4 : LBlk := ⟨2190,.cells 39 [(I 0),(S 2188 0 2 2),(I 0),(S 2189 0 2 2)]⟩
noncomputable def e7451 : Entry := ⟨26, [(.agg #[(I 2),(I 1),(I 1),(S 2190 0 2 2)])], [⟨2188,.cells 3 [(I 0),(I 1)]⟩, ⟨2189,.cells 3 [(I 0),(I 0)]⟩, b4], 2391, (S 2511 0 1 1), [⟨2512,.cells 9 [(.string ⟨#[255]⟩)]⟩, ⟨2511,.cells 41 [(S 2512 0 1 1)]⟩], 2540⟩
noncomputable def e7171 : Entry := ⟨15, [(.agg #[(I 2),(I 1),(I 1),(S 2190 0 2 2)])], [⟨2188,.cells 3 [(I 0),(I 1)]⟩, ⟨2189,.cells 3 [(I 0),(I 0)]⟩, b4], 2275, (.agg #[(Gg 2628 0 2 1)]), [⟨2583,.cells 9 [(.string ⟨#[0]⟩)]⟩, ⟨2627,.cells 9 [(.string ⟨#[0]⟩)]⟩, ⟨2628,.cells 41 [(Gg 2583 0 1 1),(Gg 2627 0 1 1)]⟩], 2629⟩
noncomputable def e7991 : Entry := e7171.up 0
noncomputable def e7149 : Entry := ⟨5, [(.agg #[(I 2),(I 1),(I 1),(S 2190 0 2 2)])], [⟨2188,.cells 3 [(I 0),(I 1)]⟩, ⟨2189,.cells 3 [(I 0),(I 0)]⟩, b4], 2266, (.tuple #[(.agg #[(.slice none 0 0)]),(.agg #[(I 0),(I 0),(I 1),(.string ⟨#[0]⟩)]),(I 9)]), [], 2646⟩
noncomputable def e6954 : Entry := ⟨10, [(.agg #[(I 2),(I 1),(I 1),(S 2190 0 2 2)])], [⟨2188,.cells 3 [(I 0),(I 1)]⟩, ⟨2189,.cells 3 [(I 0),(I 0)]⟩, b4], 2191, (I 9), [], 2648⟩
noncomputable def b5 : LBlk := ⟨2651,.cells 39 [(I 0),(S 2649 0 2 2),(I 0),(S 2650 0 2 2)]⟩
noncomputable def e9481 : Entry := ⟨26, [(.agg #[(I 2),(I 1),(I 2),(S 2651 0 2 2)])], [⟨2649,.cells 3 [(I 0),(I 1)]⟩, ⟨2650,.cells 3 [(I 0),(I 0)]⟩, b5], 2864, (S 2996 0 1 1), [⟨2997,.cells 9 [(.string ⟨#[255]⟩)]⟩, ⟨2996,.cells 41 [(S 2997 0 1 1)]⟩], 3025⟩
noncomputable def e9108 : Entry := ⟨7, [(.agg #[(I 2),(I 1),(I 2),(S 2651 0 2 2)])], [⟨2649,.cells 3 [(I 0),(I 1)]⟩, ⟨2650,.cells 3 [(I 0),(I 0)]⟩, b5], 2725, (.tuple #[(.agg #[(I 0),(I 0),(I 0),(.string ⟨#[]⟩)]),T]), [], 3133⟩

end Go.Proofs.Ytnikfiecmlkjmaa.predictNames
