/-
  Parts of the run of viewportlaw08.PieceNames, in order: what each of these calls, and loops from a state on, gives, for each memory that holds what it looks at. No condition.
-/
import Derived.Test.YthomkiindjhdmaaAx5
import Derived.Test.YthomkiindjhdmaaKeys
import Derived.Test.YthomkiindjhdmaaTabs0
import Derived.Test.YthomkiindjhdmaaProg
import Derived.KernelRfl
set_option linter.unusedSimpArgs false
set_option linter.unusedVariables false
namespace Go.Proofs.Ythomkiindjhdmaa.pieceNames
open Go.Proofs Go.Proofs.Ythomkiindjhdmaa Ax

noncomputable def b4_0 : LBlk := ⟨77, .cells 110 [(A 77 0), (.string ⟨#[104, 101, 108, 108, 111]⟩), (.string ⟨#[33]⟩), F, (I 0), (I 0), (A 78 0), (I 6)]⟩
noncomputable def e88 : Entry := ⟨23, [(A 77 0), (I 5)], [⟨100, .cells 108 [T, (I 0), (I 1), (.pointer none)]⟩, ⟨78, .cells 108 [F, (I 0), (I 5), (A 100 0)]⟩, b4_0], 159, (.tuple #[(.int .u8 (.ofNat 33)), T]), [], 171⟩
set_option maxRecDepth 1000000 in
theorem o88 : EntryOK Try.prog e88 := Ax.partCQ (ql := quiets) (K := sks) (l := []) (m := []) mixed quiets_ok sks_ok trivial trivial (by kernel_rfl)
noncomputable def e111 : Entry := ⟨27, [(A 77 0)], [⟨100, .cells 108 [T, (I 0), (I 1), (.pointer none)]⟩, ⟨78, .cells 108 [F, (I 0), (I 5), (A 100 0)]⟩, b4_0], 171, (.string ⟨#[104, 101, 108, 108, 111, 33]⟩), [], 181⟩
set_option maxRecDepth 1000000 in
theorem o111 : EntryOK Try.prog e111 := Ax.partCQ (ql := quiets) (K := sks) (l := []) (m := []) mixed quiets_ok sks_ok trivial trivial (by kernel_rfl)

end Go.Proofs.Ythomkiindjhdmaa.pieceNames
