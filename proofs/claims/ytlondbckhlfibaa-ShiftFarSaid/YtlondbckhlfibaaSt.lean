/-
  What holds of a world in which some cells of blocks that were new in an earlier world are known. Own work, plain lemmas.
-/
import Derived.WalkKit
import Derived.WalkSpells
import Derived.WalkLawsBesides
import Derived.Below
set_option linter.unusedSimpArgs false
set_option linter.unusedVariables false
namespace Go.Proofs.Ytlondbckhlfibaa
open Go.RowKit

theorem hid {p : Prop} (h : p) : Hid p := h

/-- the cells (block from n on, offset, value) are so, may be written, and their blocks are there -/
def Cells (n : Nat) (W : World) : List (Nat × Nat × Value) → Prop
  | [] => True
  | (b, o, v) :: l => (W.cell? ⟨n + b, o, none⟩ = some v ∧ W.frozen? ⟨n + b, o, none⟩ = false ∧ n + b < W.heap.size) ∧ Cells n W l

def St (w W : World) (l : List (Nat × Nat × Value)) : Prop := Below w.heap.size w W ∧ Cells w.heap.size W l

theorem Cells.later {n : Nat} {W W' : World} {l : List (Nat × Nat × Value)} (h : Cells n W l) (hb : Below W.heap.size W W') : Cells n W' l := by
  induction l with
  | nil => trivial
  | cons x l ih =>
    obtain ⟨b, o, v⟩ := x
    obtain ⟨⟨h1, h2, h3⟩, h4⟩ := h
    exact ⟨⟨(hb.cell (p := ⟨n + b, o, none⟩) h3).trans h1, (hb.frozen (p := ⟨n + b, o, none⟩) h3).trans h2, Nat.lt_of_lt_of_le h3 hb.size⟩, ih h4⟩

theorem Cells.drew {n : Nat} {W : World} {l : List (Nat × Nat × Value)} (h : Cells n W l) : Cells n W.drew l := by
  induction l with
  | nil => trivial
  | cons x l ih =>
    obtain ⟨b, o, v⟩ := x
    obtain ⟨⟨h1, h2, h3⟩, h4⟩ := h
    exact ⟨⟨h1, h2, h3⟩, ih h4⟩

theorem St.later {w W W' : World} {l : List (Nat × Nat × Value)} (h : St w W l) (hb : Below W.heap.size W W') (hn : w.heap.size ≤ W.heap.size) : St w W' l :=
  ⟨h.1.trans (hb.mono hn), h.2.later hb⟩
theorem St.drew {w W : World} {l : List (Nat × Nat × Value)} (h : St w W l) : St w W.drew l := ⟨h.1.drew, h.2.drew⟩
theorem Cells.drewN {n : Nat} {W : World} {l : List (Nat × Nat × Value)} (h : Cells n W l) (k : Nat) : Cells n (W.drewN k) l := by
  induction l with
  | nil => trivial
  | cons x l ih =>
    obtain ⟨b, o, v⟩ := x
    obtain ⟨⟨h1, h2, h3⟩, h4⟩ := h
    exact ⟨⟨h1, h2, h3⟩, ih h4⟩
theorem below_drewN' {B : Nat} {a w : World} (h : Below B a w) (n : Nat) : Below B a (w.drewN n) := ⟨h.os, h.tape, h.output, h.size, h.block⟩
theorem St.drewN {w W : World} {l : List (Nat × Nat × Value)} (h : St w W l) (k : Nat) : St w (W.drewN k) l := ⟨below_drewN' h.1 k, h.2.drewN k⟩
theorem St.next {w W W' : World} {l : List (Nat × Nat × Value)} (h : St w W l) (hb : Below W.heap.size W W') : St w W' l := h.later hb h.1.size

end Go.Proofs.Ytlondbckhlfibaa
