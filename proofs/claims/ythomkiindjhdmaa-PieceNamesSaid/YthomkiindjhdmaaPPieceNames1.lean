/-
  Parts of the run of viewportlaw08.PieceNames, in order: what each of these calls, and loops from a state on, gives, for each memory that holds what it looks at. No condition.
-/
import Derived.Test.YthomkiindjhdmaaAx5
import Derived.Test.YthomkiindjhdmaaKeys
import Derived.Test.YthomkiindjhdmaaTabs0
import Derived.Test.YthomkiindjhdmaaProg
import Derived.KernelRfl
set_option linter.unusedSimpArgs false
set_option linter.unusedVariables false
namespace Go.Proofs.Ythomkiindjhdmaa.pieceNames
open Go.Proofs Go.Proofs.Ythomkiindjhdmaa Ax

noncomputable def b1_0 : LBlk := ⟨0, .cells 110 [(A 0 0), (.string ⟨#[97, 98, 99]⟩), (.string ⟨#[]⟩), F, (I 0), (I 0), (A 1 0), (I 3)]⟩
noncomputable def g11 : LEntry := ⟨62, [false, true, false, true, true], 0, [(A 0 0), (I 2), (.tuple #[]), (.tuple #[]), (.pointer none), (A 0 3), (A 1 0), (.tuple #[]), (A 0 0), (A 0 0), (A 0 3), (A 0 3), (A 0 3), (A 0 6), (A 1 0), (.tuple #[]), (.tuple #[]), (.tuple #[]), (.tuple #[]), (.tuple #[]), (.tuple #[]), (.tuple #[]), (.tuple #[]), (.tuple #[]), (.tuple #[]), (.tuple #[]), (.tuple #[]), (.tuple #[]), (.tuple #[]), (.tuple #[]), (.tuple #[]), (.tuple #[]), (.tuple #[]), (.tuple #[]), (.tuple #[]), (.tuple #[]), (.tuple #[]), (.tuple #[]), (.tuple #[]), (.tuple #[]), (.tuple #[]), (.tuple #[]), (.tuple #[]), (.tuple #[]), (.tuple #[]), (.tuple #[]), (.tuple #[]), (.tuple #[]), (.tuple #[]), (.tuple #[]), (.tuple #[]), (.tuple #[]), (.tuple #[]), (.tuple #[]), (.tuple #[]), (.tuple #[]), (.tuple #[]), (.tuple #[]), (.tuple #[]), (.tuple #[]), (.tuple #[]), (.tuple #[]), (.tuple #[]), (.tuple #[]), (.tuple #[]), (.tuple #[]), (.tuple #[]), (.tuple #[]), (.tuple #[]), (.tuple #[]), (.tuple #[]), (.tuple #[]), (.tuple #[]), (.tuple #[]), (.tuple #[]), (.tuple #[]), (.tuple #[]), (.tuple #[]), (.tuple #[]), (.tuple #[]), (.tuple #[]), (.tuple #[])], [], [b1_0, ⟨22, .cells 108 [F, (I 1), (I 3), (.pointer none)]⟩, ⟨1, .cells 108 [F, (I 0), (I 1), (A 22 0)]⟩], 23, (.exit 0), [(A 0 0), (I 0), (.tuple #[]), (.tuple #[]), (.pointer none), (A 22 0), (A 43 0), (I 2), (A 0 0), (A 0 0), (A 0 3), (A 0 3), (A 0 3), (A 0 6), (A 1 0), (A 43 0), T, T, (I 0), F, F, (A 22 0), (A 22 0), (A 22 3), (A 43 0), (A 22 0), (A 22 0), (A 22 2), (I 3), (A 22 0), (A 22 0), (A 22 1), (I 1), (I 2), (I 1), (I 2), T, (A 22 0), (A 22 0), (A 22 0), (A 22 0), F, (A 22 0), (A 22 0), (A 22 1), (I 1), (I 1), (I 2), (A 22 0), (A 22 0), (A 22 2), (I 3), (A 22 0), (A 22 0), (A 22 3), (.pointer none), (.agg #[F, (I 2), (I 3), (.pointer none)]), (A 43 0), (A 22 0), (A 22 3), (A 22 0), (A 22 0), (A 22 0), (A 22 1), (I 1), (I 1), (I 2), (A 22 0), (A 22 2), (I 1), (A 22 0), (A 22 0), (A 22 2), (I 2), (A 22 0), (A 22 0), (A 22 1), (I 1), (I 1), (I 0), (A 22 0), (.tuple #[])], [b1_0, ⟨1, .cells 108 [F, (I 0), (I 1), (A 22 0)]⟩, ⟨43, .cells 108 [F, (I 2), (I 3), (.pointer none)]⟩, ⟨22, .cells 108 [F, (I 1), (I 2), (A 43 0)]⟩], 44, 22⟩
set_option maxRecDepth 1000000 in
theorem h11 : LOK Try.prog g11 := Ax.partLQ (ql := quiets) (K := sks) (l := []) (m := []) mixed quiets_ok sks_ok trivial trivial (by kernel_rfl)
noncomputable def e14 : Entry := ⟨27, [(A 0 0)], [⟨43, .cells 108 [F, (I 2), (I 3), (.pointer none)]⟩, ⟨63, .cells 108 [T, (I 0), (I 2), (A 43 0)]⟩, ⟨1, .cells 108 [F, (I 0), (I 1), (A 63 0)]⟩, ⟨0, .cells 110 [(A 0 0), (.string ⟨#[97, 98, 99]⟩), (.string ⟨#[120, 121]⟩), F, (I 0), (I 0), (A 1 0), (I 4)]⟩], 64, (.string ⟨#[97, 120, 121, 99]⟩), [], 77⟩
set_option maxRecDepth 1000000 in
theorem o14 : EntryOK Try.prog e14 := Ax.partCQ (ql := quiets) (K := sks) (l := []) (m := []) mixed quiets_ok sks_ok trivial trivial (by kernel_rfl)

end Go.Proofs.Ythomkiindjhdmaa.pieceNames
