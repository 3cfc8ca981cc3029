/-
  Parts of the run of viewportlaw08.PieceNames, in order: what each of these calls, and loops from a state on, gives, for each memory that holds what it looks at. No condition.
-/
import Derived.Test.YthomkiindjhdmaaAx5
import Derived.Test.YthomkiindjhdmaaKeys
import Derived.Test.YthomkiindjhdmaaTabs0
import Derived.Test.YthomkiindjhdmaaProg
import Derived.KernelRfl
import Derived.Test.YthomkiindjhdmaaPPieceNames1
set_option linter.unusedSimpArgs false
set_option linter.unusedVariables false
namespace Go.Proofs.Ythomkiindjhdmaa.pieceNames
open Go.Proofs Go.Proofs.Ythomkiindjhdmaa Ax

noncomputable def e2 : Entry := ⟨18, [], [], 0, T, [], 77⟩
set_option maxRecDepth 1000000 in
theorem o2 : EntryOK Try.prog e2 := Ax.partCQ (ql := quiets) (K := sks) (l := [e14]) (m := [g11]) mixed quiets_ok sks_ok ⟨o14, trivial⟩ ⟨h11, trivial⟩ (by kernel_rfl)
noncomputable def e58 : Entry := ⟨21, [(A 77 0)], [⟨100, .cells 108 [T, (I 0), (I 1), (.pointer none)]⟩, ⟨78, .cells 108 [F, (I 0), (I 5), (A 100 0)]⟩, ⟨77, .cells 110 [(A 77 0), (.string ⟨#[104, 101, 108, 108, 111]⟩), (.string ⟨#[33]⟩), F, (I 0), (I 0), (A 78 0), (I 6)]⟩], 101, (A 114 0), [⟨144, .cells 108 [T, (I 0), (I 1), (.pointer none)]⟩, ⟨129, .cells 108 [F, (I 0), (I 5), (A 144 0)]⟩, ⟨114, .cells 110 [(A 114 0), (.string ⟨#[104, 101, 108, 108, 111]⟩), (.string ⟨#[33]⟩), F, (I 0), (I 0), (A 129 0), (I 6)]⟩], 145⟩
set_option maxRecDepth 1000000 in
theorem o58 : EntryOK Try.prog e58 := Ax.partCQ (ql := quiets) (K := sks) (l := []) (m := []) mixed quiets_ok sks_ok trivial trivial (by kernel_rfl)

end Go.Proofs.Ythomkiindjhdmaa.pieceNames
