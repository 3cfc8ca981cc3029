/-
  An argument that is a slice of structs of plain cells, opened as a window. Own work, plain lemmas. No condition.
-/
import Derived.Test.YtaompjplflaloaaWinArg
import Derived.ChangeArms
import Derived.DataReads
set_option linter.unusedSimpArgs false
set_option linter.unusedVariables false
namespace Go.Proofs.Ytaompjplflaloaa.Ax
open Go Go.ChangeShapes Go.WideShapes

/-- what a cell is -/
inductive LK where
  | i
  | b
  | s
def LK.fits (k : LK) (v : Value) : Bool :=
  match k, v with
  | .i, .int .i64 _ => true
  | .b, .bool _ => true
  | .s, .string _ => true
  | _, _ => false
def fitsL : List LK → List Value → Bool
  | [], [] => true
  | k :: ks, v :: vs => k.fits v && fitsL ks vs
  | _, _ => false
theorem fitsL_append : ∀ {a b : List LK} {x y : List Value}, fitsL a x = true → fitsL b y = true → fitsL (a ++ b) (x ++ y) = true
  | [], b, [], y, _, h => h
  | [], b, _ :: _, y, h, _ => by cases h
  | k :: a, b, [], y, h, _ => by cases h
  | k :: a, b, v :: x, y, h1, h2 => by
    simp only [fitsL, Bool.and_eq_true, List.cons_append] at h1 ⊢
    exact ⟨h1.1, fitsL_append h1.2 h2⟩
theorem fitsL_length : ∀ {a : List LK} {x : List Value}, fitsL a x = true → x.length = a.length
  | [], [], _ => rfl
  | [], _ :: _, h => by cases h
  | _ :: _, [], h => by cases h
  | k :: a, v :: x, h => by
    simp only [fitsL, Bool.and_eq_true] at h
    simp [fitsL_length h.2]
def kindsF (P : Program) (K : TypeId → Option (List LK)) : Nat → List Field → Option (List LK)
  | _, [] => some []
  | off, f :: fs => match K f.type with
    | none => none
    | some ks => if f.offset = off ∧ P.cellsOf f.type = ks.length then (match kindsF P K (off + ks.length) fs with
      | none => none
      | some r => some (ks ++ r)) else none
def kindsT (P : Program) : Nat → TypeId → Option (List LK)
  | 0, _ => none
  | d + 1, t => match P.underlying t with
    | some (.int .i64) => some [.i]
    | some .bool => some [.b]
    | some .string => some [.s]
    | some (.struct fs) => match kindsF P (kindsT P d) 0 fs.toList with
      | none => none
      | some ks => if P.cellsOf t = ks.length then some ks else none
    | _ => none

variable {H : Type} {enc : TypeId × Value → H} {P : Program} {w : World} {held : Bool}
theorem fits_fields {K : TypeId → Option (List LK)} {n : Nat} {cs : List Value} (hK : ∀ t ks, K t = some ks → ∀ cs x, DataW.trod enc P w 0 (fun _ => true) held n t cs = some x → fitsL ks cs = true) : ∀ (fs : List Field) (off : Nat) (ks : List LK), kindsF P K off fs = some ks →
    (∀ f ∈ fs, ∃ y, DataW.trod enc P w 0 (fun _ => true) held n f.type ((cs.drop f.offset).take (P.cellsOf f.type)) = some y) → fitsL ks ((cs.drop off).take ks.length) = true
  | [], off, ks, h, _ => by
    obtain rfl := Option.some.inj h
    simp [fitsL]
  | f :: fs, off, ks, h, hf => by
    unfold kindsF at h
    split at h
    · cases h
    · rename_i k1 h1
      split at h
      · rename_i hc
        split at h
        · cases h
        · rename_i r hr
          obtain rfl := Option.some.inj h
          obtain ⟨y, hy⟩ := hf f (by simp)
          have a := hK f.type k1 h1 _ _ hy
          rw [hc.1, hc.2] at a
          have b := fits_fields hK fs (off + k1.length) r hr (fun g hg => hf g (by simp [hg]))
          rw [List.length_append, List.take_add, List.drop_drop]
          exact fitsL_append a b
      · cases h
theorem fits_trod : ∀ (d : Nat) (t : TypeId) (ks : List LK), kindsT P d t = some ks → ∀ (m : Nat) (cs : List Value) (x : DataW H × List MemPlace), DataW.trod enc P w 0 (fun _ => true) held m t cs = some x → fitsL ks cs = true
  | 0, t, ks, h => by cases h
  | d + 1, t, ks, h => by
    intro m cs x hx
    unfold kindsT at h
    split at h
    · rename_i hu
      obtain rfl := Option.some.inj h
      obtain ⟨n, rfl, _⟩ := DataW.trod_int hu hx
      rfl
    · rename_i hu
      obtain rfl := Option.some.inj h
      obtain ⟨n, rfl, _⟩ := DataW.trod_bool hu hx
      rfl
    · rename_i hu
      obtain rfl := Option.some.inj h
      obtain ⟨n, rfl, _⟩ := DataW.trod_string hu hx
      rfl
    · rename_i fs hu
      split at h
      · cases h
      · rename_i kk hk
        split at h
        · rename_i hc
          obtain rfl := Option.some.inj h
          obtain ⟨xs, n, _, rfl, hl, hlen, hf⟩ := DataW.trod_struct hu hx
          have := fits_fields (n := n) (cs := cs) (fun t ks h cs x hx => fits_trod d t ks h n cs x hx) fs.toList 0 kk hk (fun f hfm => by
            obtain ⟨i, hi, rfl⟩ := List.mem_iff_getElem.1 hfm
            have hi' : i < fs.size := by simpa using hi
            have := hf i fs[i] (by simp [hi'])
            refine ⟨xs[i]'(by omega), ?_⟩
            simp only [Array.getElem_toList]
            rw [this]; simp [hlen, hi'])
          rw [List.drop_zero, ← hc, ← hl, List.take_length] at this
          exact this
        · cases h
    · cases h

/-- the value is a slice of these rows -/
def RowsV {α : Type} (f : α → List Value) (w : World) (v : Value) (L : List α) : Prop :=
  ∃ a cap, v = .slice a L.length cap ∧ cap ≤ maxLen ∧ L.length ≤ maxLen ∧ (L = [] ∨ ∃ b off, a = some ⟨b, off, none⟩ ∧ ∀ j u, (rows f L)[j]? = some u → w.cell? ⟨b, off + j, none⟩ = some u)
theorem addr_add (b off n : Nat) : (⟨b, off, none⟩ : Addr).add n = ⟨b, off + n, none⟩ := by
  unfold Addr.add
  split
  · rename_i h; subst h; rfl
  · rfl
theorem openRowsT {α : Type} [Tabs] {f : α → List Value} {k : Nat} (hf : RowF f k) (dec : List Value → α) {ks : List LK} (hdec : ∀ cs, fitsL ks cs = true → f (dec cs) = cs) {t e : TypeId} {m d : Nat} {v : Value} {x : DataW H × List MemPlace} (hk0 : 0 < k) (ht : P.underlying t = some (.slice e)) (he : kindsT P d e = some ks) (hc : P.cellsOf e = k)
    (h : DataW.trod enc P w 0 (fun _ => true) held m t [v] = some x) : ∃ L, RowsV f w v L := by
  rcases DataW.trod_slice ht h with ⟨hcs, -⟩ | ⟨a, len, cap, elems, rest, n, _, hcs, _, _, hl, hm, hlen, hel, _⟩
  · obtain rfl : v = .slice none 0 0 := by simpa using hcs
    exact ⟨[], none, 0, rfl, Nat.zero_le _, Nat.zero_le _, .inl rfl⟩
  · obtain rfl : v = .slice (some a) len cap := by simpa using hcs
    rw [hc] at hel
    -- each element's cells
    have each : ∀ i, i < len → ∃ cs, w.cells? 0 (a.add (i * k)) k = some cs ∧ fitsL ks cs = true := by
      intro i hi
      have h1 := hel i hi
      rw [List.getElem?_eq_getElem (by omega : i < elems.length)] at h1
      obtain ⟨cs, h2, h3⟩ := Option.bind_eq_some_iff.1 h1
      exact ⟨cs, h2, fits_trod d e ks he n cs _ h3⟩
    let cell : Nat → List Value := fun i => (w.cells? 0 (a.add (i * k)) k).getD []
    let L : List α := (List.range len).map fun i => dec (cell i)
    have hLl : L.length = len := by simp [L]
    have hrow : ∀ i, i < len → f (L.getD i (dec [])) = cell i ∧ w.cells? 0 (a.add (i * k)) k = some (cell i) := by
      intro i hi
      obtain ⟨cs, h1, h2⟩ := each i hi
      have hcell : cell i = cs := by simp [cell, h1]
      have : L.getD i (dec []) = dec (cell i) := by simp [L, List.getD_eq_getElem?_getD, hi]
      rw [this, hcell]
      exact ⟨hdec cs h2, h1⟩
    refine ⟨L, some a, cap, by rw [hLl], hm, by rw [hLl]; omega, ?_⟩
    by_cases hz : len = 0
    · left
      exact List.length_eq_zero_iff.1 (by rw [hLl]; exact hz)
    right
    obtain ⟨b, off, spot⟩ := a
    obtain ⟨_, hln0, hget0⟩ := World.cells?_some (hrow 0 (by omega)).2
    have h00 := hget0 0 hk0
    have hspot : spot = none := by
      obtain ⟨u, hu⟩ : ∃ u, (cell 0)[0]? = some u := ⟨(cell 0)[0]'(by omega), by simp⟩
      rw [hu] at h00
      simpa [Addr.add] using World.cell?_spot h00
    subst hspot
    refine ⟨b, off, rfl, fun j u hj => ?_⟩
    have hjl : j < len * k := by
      rcases Nat.lt_or_ge j (rows f L).length with h | h
      · rwa [rows_length hf, hLl] at h
      · rw [List.getElem?_eq_none h] at hj; cases hj
    have hi : j / k < len := Nat.div_lt_of_lt_mul (by rwa [Nat.mul_comm] at hjl)
    have hq : j % k < k := Nat.mod_lt _ hk0
    have hjk : j / k * k + j % k = j := by rw [Nat.mul_comm]; exact Nat.div_add_mod j k
    obtain ⟨r1, r2⟩ := hrow (j / k) hi
    obtain ⟨_, hln, hget⟩ := World.cells?_some r2
    have hg := hget (j % k) hq
    rw [addr_add, addr_add] at hg
    rw [← hjk, rows_get hf (dec []) L (j / k) (j % k) (by omega) hq, r1] at hj
    rw [hj] at hg
    rw [← hjk, ← Nat.add_assoc]
    exact hg

theorem RowsV.win {α : Type} {f : α → List Value} {k : Nat} (hf : RowF f k) (hk0 : 0 < k) {v : Value} {L : List α} (h : RowsV f w v L) (w' : World) (hk : (winAt v (L.map fun _ => 0)).1 < w.heap.size → w'.heap[(winAt v (L.map fun _ => 0)).1]? = w.heap[(winAt v (L.map fun _ => 0)).1]?) (i : Nat) (u : Value) (hi : (rows f L)[i]? = some u) :
    w'.cell? ⟨(winAt v (L.map fun _ => 0)).1, (winAt v (L.map fun _ => 0)).2 + i, none⟩ = some u := by
  obtain ⟨a, cap, rfl, hc, hl, h⟩ := h
  rcases h with rfl | ⟨b, off, rfl, hx⟩
  · simp [rows] at hi
  · cases L with
    | nil => simp [rows] at hi
    | cons z l =>
      have hx := hx i u hi
      have hb : b < w.heap.size := World.block_lt_of_cell? w _ hx
      have hk : w'.heap[b]? = w.heap[b]? := hk hb
      show w'.cell? ⟨b, off + i, none⟩ = _
      rw [← hx]
      simp only [World.cell?, hk]
theorem RowsV.vr {T : Tabs} {α : Type} {f : α → List Value} {v : Value} {L : List α} (h : RowsV f w v L) {j : Nat} (hj : Tabs.win j = some ((winAt v (L.map fun _ => 0)).1, (winAt v (L.map fun _ => 0)).2, rows f L)) (σ : Ren) : VR σ (.slice (some ⟨j, 0, some 1⟩) L.length (capOf v)) v := by
  obtain ⟨a, cap, rfl, hc, hl, h⟩ := h
  have hb : cap < big := Nat.lt_of_le_of_lt hc (by decide)
  rcases h with rfl | ⟨b, off, rfl, hx⟩
  · exact .win0 j 0 cap a hb
  · cases L with
    | nil => exact .win0 j 0 cap _ hb
    | cons z l =>
      have := VR.winS (σ := σ) 0 (z :: l).length cap hj hb
      exact this

end Go.Proofs.Ytaompjplflaloaa.Ax
