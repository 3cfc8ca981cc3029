/-
  append. Own work, plain lemmas.
-/
import Derived.Test.YthomkiindjhdmaaAxI
set_option linter.unusedSimpArgs false
set_option linter.unusedVariables false
set_option linter.unnecessarySimpa false
set_option linter.deprecated false
set_option linter.unusedSectionVars false
namespace Go.Proofs.Ythomkiindjhdmaa.Ax
open Go.RowKit
variable [Tabs]

def World.at (w : World) (k : Nat) : World := { w with drawn := k }

theorem run_appG {P : Program} (w : World) {t u ty e : TypeId} {d : TypeDesc} {i : TypeInfo} {z : Value} (ht : P.underlying t = some (.slice e)) (hu : P.underlying u = some d) (hd : ∀ k, d ≠ .int k) (hi : P.info? e = some i) (hz : i.zero = some z)
    {base : Option Addr} {sLen sCap n : Nat} {x : Value} {new old : List Value} (hlen : (Builtin.lenOf x).run P w = .ok n w) (hnew : ∀ k, (Builtin.firstCells i.size n x).run P (World.at w k) = .ok ⟨new⟩ (World.at w k))
    (hold : ∀ k, (Builtin.firstCells i.size sLen (.slice base sLen sCap)).run P (World.at w k) = .ok ⟨old⟩ (World.at w k)) (hg : sCap < sLen + n) (h63 : sLen + n ≤ 9223372036854775807) (hfit : Builtin.nextslicecap (sLen + n) sCap * i.bytes ≤ 281474976710656) :
    (Builtin.append_ #[t, u] ty #[.slice base sLen sCap, x]).run P w =
      .ok (.slice (some ⟨w.heap.size, 0, none⟩) (sLen + n) (grownCap w (sLen + n) sCap e)) (w.drew.alloc (.cells (⟨old⟩ ++ ⟨new⟩ ++ Builtin.zeroCells z.cells (grownCap w (sLen + n) sCap e - (sLen + n))) e)) := by
  have hn : ¬ (sLen + n ≤ sCap) := by omega
  have h63' : ¬ (9223372036854775807 < ((sLen : Int) + (n : Int))) := by omega
  have h48' : ¬ (281474976710656 < Builtin.nextslicecap (sLen + n) sCap * i.bytes) := by omega
  have hf : (Builtin.firstCells i.size n x).run P w.drew = .ok ⟨new⟩ w.drew := hnew (w.drawn + 1)
  have hfo : (Builtin.firstCells i.size sLen (.slice base sLen sCap)).run P w.drew = .ok ⟨old⟩ w.drew := hold (w.drawn + 1)
  have hnot : (match d with | .int _ => true | _ => false) = false := by
    cases d <;> first | rfl | exact absurd rfl (hd _)
  simp [Builtin.append_, run_underlying ht, run_underlying hu, hnot, sizeOf, typeInfo, zeroValue, hi, hz, hlen, hn, h63', h48', Question.forced, hf, hfo, newRow, grownCap]
  congr 2
  apply Array.ext'
  simp
theorem run_appR {P : Program} (w : World) {t u ty e : TypeId} {d : TypeDesc} {i : TypeInfo} (ht : P.underlying t = some (.slice e)) (hu : P.underlying u = some d) (hd : ∀ k, d ≠ .int k) (hi : P.info? e = some i)
    {base : Option Addr} {sLen sCap n : Nat} {x : Value} {new : List Value} (hlen : (Builtin.lenOf x).run P w = .ok n w) (hnew : (Builtin.firstCells i.size n x).run P w = .ok ⟨new⟩ w) (hg : sLen + n ≤ sCap) {w' : World}
    (hst : ∀ a, base = some a → (storeCells (a.add (sLen * i.size)) new).run P w = .ok () w') (hno : base = none → w' = w) :
    (Builtin.append_ #[t, u] ty #[.slice base sLen sCap, x]).run P w = .ok (.slice base (sLen + n) sCap) w' := by
  have hnot : (match d with | .int _ => true | _ => false) = false := by
    cases d <;> first | rfl | exact absurd rfl (hd _)
  cases base with
  | none =>
    obtain rfl := hno rfl
    simp [Builtin.append_, run_underlying ht, run_underlying hu, hnot, sizeOf, typeInfo, hi, hlen, hg, hnew]
  | some a =>
    have := hst a rfl
    simp [Builtin.append_, run_underlying ht, run_underlying hu, hnot, sizeOf, typeInfo, hi, hlen, hg, hnew, this]

/-- cells are written, whatever stands there -/
theorem run_stores_raw {P : Program} {c p : Nat} {e : TypeId} : ∀ (l : List Value) (i : Nat) (w : World) (C : Array Value), w.heap[c]? = some (.cells C e (0, 0)) → (∀ v ∈ l, isCell v = true) → p + i + l.length ≤ C.size →
    ∃ w' C', (storeCells ⟨c, p, none⟩ l i).run P w = .ok () w' ∧ w'.heap[c]? = some (.cells C' e (0, 0)) ∧ C'.size = C.size ∧ (∀ j, C'[j]? = if p + i ≤ j ∧ j < p + i + l.length then l[j - (p + i)]? else C[j]?) ∧
      (∀ k, k ≠ c → w'.heap[k]? = w.heap[k]?) ∧ w'.heap.size = w.heap.size ∧ (∀ k0 : Nat, k0 ≤ c → Below k0 w w') := by
  intro l
  induction l with
  | nil =>
    intro i w C hC _ _
    exact ⟨w, C, by simp [storeCells], hC, rfl, fun j => by rw [if_neg (by simp)], fun _ _ => rfl, rfl, fun _ _ => Below.refl _ _⟩
  | cons v l ih =>
    intro i w C hC hcell hlen
    simp only [List.length_cons] at hlen
    have hlt : p + i < C.size := by omega
    have h1 : w.cell? ⟨c, p + i, none⟩ = some C[p + i] := by rw [cell_of_block hC]; simp [hlt]
    have h2 : w.frozen? ⟨c, p + i, none⟩ = false := frozen_of_block hC
    obtain ⟨w', C', r1, r2, r3, r4, r5, r6, r7⟩ := ih (i + 1) (w.setCell ⟨c, p + i, none⟩ v) (C.setIfInBounds (p + i) v) (heap_setCell_self hC v) (fun u hu => hcell u (by simp [hu])) (by simp; omega)
    refine ⟨w', C', ?_, r2, by rw [r3]; simp, fun j => ?_, fun k hk => ?_, ?_, fun n0 hn => ?_⟩
    · simp only [storeCells, add_plain, Sem.run_bind, run_store (hcell v (by simp)) h1 h2, Result.andThen_ok]
      exact r1
    · rw [r4 j]
      by_cases ha : p + (i + 1) ≤ j ∧ j < p + (i + 1) + l.length
      · rw [if_pos ha, if_pos (by simp; omega), show j - (p + i) = (j - (p + (i + 1))) + 1 from by omega]
        simp
      · rw [if_neg ha]
        by_cases hj : j = p + i
        · subst hj
          rw [if_pos (by simp)]
          simp [hlt]
        · rw [if_neg (by simp; omega), Array.getElem?_setIfInBounds_ne (by omega)]
    · rw [r5 k hk]
      exact Below.heap_setCell w _ v k hk
    · rw [r6]; simp [World.setCell]
    · exact ((Below.refl n0 w).setCell hn v).trans (r7 n0 hn)

/-- the cells that are appended -/
noncomputable def srcB (P : Program) (H : AH) (s : Nat) (x : Value) : Option (Nat × List Value) :=
  match x with
  | .slice none n _ => sel (Nat.beq n 0) (some (0, [])) none
  | .slice (some ⟨b, o, none⟩) n _ => oc (blkCells H b) none fun y => oc (rdT y.1 (Nat.mul n s) o) none fun l => some (n, l)
  | .string bs => sel (Nat.beq s 1) (some (bs.size, bs.data.toList.map fun b => Value.int .u8 b.toNat)) none
  | _ => none
theorem extract_all {α : Type} (xs : Array α) (n : Nat) (h : n = xs.size) : xs.extract 0 n = xs := by subst h; simp
theorem srcB_ok {P : Program} {n0 : Bs} {σ : Ren} {H : AH} {w : World} (hr : HR n0 σ H w) {s : Nat} {x x' : Value} {r : Nat × List Value} (h : srcB P H s x = some r) (hx : VR σ x x') :
    ∃ new', VRs σ r.2 new' ∧ r.2.length = r.1 * s ∧ (∀ w₁, (Builtin.lenOf x').run P w₁ = .ok r.1 w₁) ∧ ∀ k, (Builtin.firstCells s r.1 x').run P (World.at w k) = .ok ⟨new'⟩ (World.at w k) := by
  unfold srcB at h
  split at h
  · rename_i n k
    obtain ⟨hz, h⟩ := sel_none h
    obtain rfl := Option.some.inj h
    have hz := Nat.eq_of_beq_eq_true hz
    subst hz
    cases hx
    exact ⟨[], .nil, by simp, fun w₁ => by simp [Builtin.lenOf], fun k => by simp [Builtin.firstCells]⟩
  · rename_i b o n k
    obtain ⟨y, hy, h⟩ := oc_eq_some h
    obtain ⟨l, hl, h⟩ := oc_eq_some h
    obtain rfl := Option.some.inj h
    have hb := blkCells_eq hy
    have hll := (rdT_get _ _ _ _ hl).1
    have main : ∀ {c d m o' k' : Nat}, σ b = some (c, d, m) → (n = 0 ∨ o' = d + o) → ∃ new', VRs σ l new' ∧ l.length = n * s ∧ (∀ w₁, (Builtin.lenOf (.slice (some ⟨c, o', none⟩) n k')).run P w₁ = .ok n w₁) ∧ ∀ k, (Builtin.firstCells s n (.slice (some ⟨c, o', none⟩) n k')).run P (World.at w k) = .ok ⟨new'⟩ (World.at w k) := by
      intro c d m o' k' hs ho
      by_cases hn : n = 0
      · subst hn
        have hl0 : l = [] := List.length_eq_zero_iff.1 (by rw [hll]; simp)
        subst hl0
        refine ⟨[], .nil, by simp, fun w₁ => by simp [Builtin.lenOf], fun k => ?_⟩
        simp [Builtin.firstCells, loadCells, loadCellsFrom]
      · have ho := ho.resolve_left hn
        subst ho
        obtain ⟨l', h1, h2⟩ := hr.reads hb hs _ _ _ hl
        refine ⟨l', h1, hll, fun w₁ => by simp [Builtin.lenOf], fun k => ?_⟩
        have hlen : n * s = l'.length := by rw [← h1.length, hll]; rfl
        simp only [Builtin.firstCells]
        unfold loadCells
        rw [hlen, run_loadCellsFrom l' 0 #[] fun j v hv => ?_]
        · simp
        · have := h2 j v hv
          rw [show d + o + (0 + j) = d + (o + j) from by omega]
          exact this
    cases hx with
    | slice _ _ _ hs hk => exact main hs (.inr rfl)
    | sliceU _ _ _ _ _ hs hk ho hd hm => exact main hs ho
    | sliceL _ _ _ _ _ hs => exact main hs (.inr rfl)
  · rename_i bs
    obtain ⟨hz, h⟩ := sel_none h
    obtain rfl := Option.some.inj h
    have hz := Nat.eq_of_beq_eq_true hz
    subst hz
    cases hx
    have hfl : flatL (bs.data.toList.map fun b => Value.int .u8 b.toNat) = true := by
      generalize bs.data.toList = l
      induction l with
      | nil => rfl
      | cons b l ih => simp [flatL, flat, ih]
    refine ⟨_, flatL_vr hfl σ, by rw [List.length_map, Array.length_toList, Nat.mul_one]; rfl, fun w₁ => by simp [Builtin.lenOf], fun k => ?_⟩
    have e1 : bs.extract 0 bs.size = bs := by simp
    simp [Builtin.firstCells, e1]
    apply Array.ext'
    simp
  · cases h
end Go.Proofs.Ythomkiindjhdmaa.Ax
