/-
  An argument that is a slice of ints, opened: the list that its cells hold. Own work, plain lemmas. No condition.
-/
import Derived.Test.YtcoecphhjfcjcaaProg
import Derived.WalkKit
import Derived.ChangeSlices
import Derived.ChangeShapes
import Derived.Below
namespace Go.Proofs.Ytcoecphhjfcjcaa.Sl
open Go Go.ChangeShapes Go.WideShapes
variable {H : Type} {enc : TypeId × Value → H} {P : Program} {w : World} {held : Bool}

/-- the cells from x on hold xs -/
def IntsAt (w : World) (x : Option Addr) (xs : List Int) : Prop :=
  xs = [] ∨ ∃ b off, x = some ⟨b, off, none⟩ ∧ b < w.heap.size ∧ ∀ j, j < xs.length → w.cell? ⟨b, off + j, none⟩ = some (.int .i64 (xs.getD j 0))

theorem IntsAt.later {w w' : World} {x : Option Addr} {xs : List Int} (h : IntsAt w x xs) (hb : Go.RowKit.Below w.heap.size w w') : IntsAt w' x xs := by
  rcases h with h | ⟨b, off, h1, h2, h3⟩
  · exact .inl h
  · refine .inr ⟨b, off, h1, Nat.lt_of_lt_of_le h2 hb.size, fun j hj => ?_⟩
    have h4 := h3 j hj
    exact (hb.cell (p := ⟨b, off + j, none⟩) (World.block_lt_of_cell? w _ h4)).trans h4

theorem openInts {t e : TypeId} {m : Nat} {v : Value} {d : DataW H} {p : List MemPlace} {r : Reach} (ht : P.underlying t = some (.slice e)) (he : P.underlying e = some (.int .i64)) (hc : P.cellsOf e = 1)
    (hval : Value.okWide P w r m t v) (h : DataW.Trod enc P w 0 (fun _ => true) held t v d p) :
    ∃ (b : Option Addr) (xs : List Int) (cap : Nat), v = .slice b xs.length cap ∧ IntsAt w b xs ∧ xs.length ≤ maxLen ∧ (∀ n ∈ xs, (Lit.int .i64 n).wf = true) := by
  obtain ⟨a0, len, cap, rfl⟩ := okWide_slice ht hval
  obtain ⟨fuel, hf⟩ := h
  rcases open_ints ht he hc hf with ⟨hcs, -⟩ | ⟨a, len', cap', zs, hcs, -, hl, hm, hz, -, hcell, hwz⟩
  · simp [Value.cells] at hcs
    obtain ⟨rfl, rfl, rfl⟩ := hcs
    exact ⟨none, [], 0, rfl, .inl rfl, Nat.zero_le _, fun n hn => nomatch hn⟩
  · simp [Value.cells] at hcs
    obtain ⟨rfl, rfl, rfl⟩ := hcs
    simp only [if_true] at hz
    have e1 : (zs.take len).length = len := by rw [List.length_take]; omega
    refine ⟨some a, zs.take len, cap, by rw [e1], ?_, by omega, fun n hn => hwz n (List.mem_of_mem_take hn)⟩
    by_cases hlen : len = 0
    · exact .inl (by simp [hlen])
    obtain ⟨b, off, spot⟩ := a
    have hspot : spot = none := by simpa [Addr.add] using World.cell?_spot (hcell 0 (by omega))
    subst hspot
    refine .inr ⟨b, off, rfl, World.block_lt_of_cell? _ _ (hcell 0 (by omega)), fun j hj => ?_⟩
    rw [e1] at hj
    rw [← add_plain, hcell j (by omega)]
    simp [List.getD_eq_getElem?_getD, hj]

end Go.Proofs.Ytcoecphhjfcjcaa.Sl
