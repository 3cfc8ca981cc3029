/-
  Parts of the run of viewportlaw08.PieceNames, in order: what each of these calls, and loops from a state on, gives, for each memory that holds what it looks at. No condition.
-/
import Derived.Test.YthomkiindjhdmaaAx5
import Derived.Test.YthomkiindjhdmaaKeys
import Derived.Test.YthomkiindjhdmaaTabs0
import Derived.Test.YthomkiindjhdmaaProg
import Derived.KernelRfl
set_option linter.unusedSimpArgs false
set_option linter.unusedVariables false
namespace Go.Proofs.Ythomkiindjhdmaa.pieceNames
open Go.Proofs Go.Proofs.Ythomkiindjhdmaa Ax

noncomputable def e146 : Entry := ⟨27, [(A 77 0)], [⟨181, .cells 108 [F, (I 0), (I 6), (.pointer none)]⟩, ⟨77, .cells 110 [(A 77 0), (.string ⟨#[104, 101, 108, 108, 111, 33]⟩), (.string ⟨#[]⟩), F, (I 0), (I 0), (A 181 0), (I 6)]⟩], 195, (.string ⟨#[104, 101, 108, 108, 111, 33]⟩), [], 202⟩
set_option maxRecDepth 1000000 in
theorem o146 : EntryOK Try.prog e146 := Ax.partCQ (ql := quiets) (K := sks) (l := []) (m := []) mixed quiets_ok sks_ok trivial trivial (by kernel_rfl)

end Go.Proofs.Ythomkiindjhdmaa.pieceNames
