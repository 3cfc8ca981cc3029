/-
  New blocks, stores. Own work, plain lemmas.
-/
import Derived.Test.YthomkiindjhdmaaAxB
set_option linter.unusedSimpArgs false
set_option linter.unusedVariables false
set_option linter.unnecessarySimpa false
set_option linter.deprecated false
set_option linter.unusedSectionVars false
namespace Go.Proofs.Ythomkiindjhdmaa.Ax
open Go.RowKit
variable [Tabs]

theorem Ren.put_self (σ : Ren) (b : Nat) (t : Nat × Nat × Nat) : σ.put b t b = some t := if_pos rfl
theorem Ren.put_other (σ : Ren) {b x : Nat} (t : Nat × Nat × Nat) (h : x ≠ b) : σ.put b t x = σ x := if_neg h
theorem HR.fresh {n0 : Bs} {σ : Ren} {H : AH} {w : World} (hr : HR n0 σ H w) : σ H.next = none := by
  cases h : σ H.next with
  | none => rfl
  | some t => exact absurd (hr.dom _ _ h) (Nat.lt_irrefl _)
theorem HR.ext_put {n0 : Bs} {σ : Ren} {H : AH} {w : World} (hr : HR n0 σ H w) (t : Nat × Nat × Nat) : σ.Ext (σ.put H.next t) := fun b u hb => by
  have : b ≠ H.next := Nat.ne_of_lt (hr.dom b u hb)
  rw [Ren.put_other σ t this]
  exact hb
theorem HR.notNew {n0 : Bs} {σ : Ren} {H : AH} {w : World} (hr : HR n0 σ H w) {b : Nat} {x : ABlk} (hb : H.blocks.get b = some x) : b ≠ H.next := by
  obtain ⟨c, d, m, hs, _⟩ := hr.blk b x hb
  exact Nat.ne_of_lt (hr.dom b _ hs)

theorem alloc_size (w : World) (o : Obj) : (w.alloc o).heap.size = w.heap.size + 1 := by
  show (w.heap.push o).size = _
  simp
theorem alloc_self (w : World) (o : Obj) : (w.alloc o).heap[w.heap.size]? = some o := by
  show (w.heap.push o)[w.heap.size]? = _
  simp
noncomputable def AH.push (H : AH) (x : ABlk) : AH := ⟨H.blocks.set H.next x, Nat.succ H.next, H.low⟩

/-- a new block -/
theorem HR.alloc {n0 : Bs} {σ : Ren} {H : AH} {w : World} (hr : HR n0 σ H w) {x : ABlk} {o : Obj} {m : Nat} (hx : BR (σ.put H.next (w.heap.size, 0, m)) 0 m (some o) x) :
    HR n0 (σ.put H.next (w.heap.size, 0, m)) (H.push x) (w.alloc o) ∧ Step n0 σ w H.low (σ.put H.next (w.heap.size, 0, m)) (w.alloc o) := by
  have hext := hr.ext_put (w.heap.size, 0, m)
  refine ⟨⟨base_size hr.base (by rw [alloc_size]; exact Nat.le_succ _) ((Below.refl n0.n.n w).alloc hr.base.1 o).block, ?_, ?_, ?_, ?_, fun b hb => ⟨Nat.lt_succ_of_lt (hr.hol b hb).1, by rw [Ren.put_other _ _ (Nat.ne_of_lt (hr.hol b hb).1)]; exact (hr.hol b hb).2⟩⟩, ⟨hext, (Below.refl n0.n.n w).alloc hr.base.1 o, ?_⟩⟩
  · intro b y hb
    simp only [AH.push, Tr.get_set] at hb
    by_cases h : b = H.next
    · subst h
      rw [if_pos rfl] at hb
      obtain rfl := Option.some.inj hb
      exact ⟨w.heap.size, 0, m, Ren.put_self _ _ _, hr.own_new, by rw [alloc_self]; exact hx⟩
    · rw [if_neg h] at hb
      obtain ⟨c, d, m', hs, hn, hB⟩ := hr.blk b y hb
      refine ⟨c, d, m', hext _ _ hs, hn, ?_⟩
      rw [Below.heap_alloc w o c (hr.img b c d m' hs)]
      exact hB.mono hext
  · intro b₁ b₂ x₁ x₂ c d₁ m₁ d₂ m₂ h1 h2 s1 s2
    simp only [AH.push, Tr.get_set] at h1 h2
    by_cases e1 : b₁ = H.next
    · by_cases e2 : b₂ = H.next
      · rw [e1, e2]
      · rw [if_neg e2] at h2
        rw [Ren.put_other _ _ e2] at s2
        subst e1
        rw [Ren.put_self] at s1
        have := hr.img b₂ c d₂ m₂ s2
        injection s1 with s1
        injection s1 with s1 _
        omega
    · rw [if_neg e1] at h1
      rw [Ren.put_other _ _ e1] at s1
      by_cases e2 : b₂ = H.next
      · subst e2
        rw [Ren.put_self] at s2
        have := hr.img b₁ c d₁ m₁ s1
        injection s2 with s2
        injection s2 with s2 _
        omega
      · rw [if_neg e2] at h2
        rw [Ren.put_other _ _ e2] at s2
        exact hr.inj b₁ b₂ x₁ x₂ c d₁ m₁ d₂ m₂ h1 h2 s1 s2
  · intro b t hb
    by_cases e : b = H.next
    · subst e; exact Nat.lt_succ_self _
    · rw [Ren.put_other _ _ e] at hb
      exact Nat.lt_succ_of_lt (hr.dom b t hb)
  · intro b c d m' hb
    have hz := alloc_size w o
    by_cases e : b = H.next
    · subst e
      rw [Ren.put_self] at hb
      injection hb with hb
      injection hb with hb _
      omega
    · rw [Ren.put_other _ _ e] at hb
      have := hr.img b c d m' hb
      omega
  · intro c hc _
    refine ⟨Below.heap_alloc w o c hc, fun b d m' hb => ?_⟩
    by_cases e : b = H.next
    · subst e
      rw [Ren.put_self] at hb
      injection hb with hb
      injection hb with hb _
      omega
    · rwa [Ren.put_other _ _ e] at hb

theorem heap_setCell_self {w : World} {c o : Nat} {C : Array Value} {e : TypeId} {f : Nat × Nat} (h : w.heap[c]? = some (.cells C e f)) (v : Value) :
    (w.setCell ⟨c, o, none⟩ v).heap[c]? = some (.cells (C.setIfInBounds o v) e f) := by
  simp [World.setCell, Array.getElem?_modify, h]
theorem cell_of_block {w : World} {c o : Nat} {C : Array Value} {e : TypeId} {f : Nat × Nat} (h : w.heap[c]? = some (.cells C e f)) : w.cell? ⟨c, o, none⟩ = C[o]? := by
  simp [World.cell?, h]
theorem frozen_of_block {w : World} {c o : Nat} {C : Array Value} {e : TypeId} (h : w.heap[c]? = some (.cells C e (0, 0))) : w.frozen? ⟨c, o, none⟩ = false := by
  simp [World.frozen?, h]

noncomputable def AH.store (H : AH) (b : Nat) (c : Tr Value) (e : TypeId) : AH := ⟨H.blocks.set b (.cells c e), H.next, Nat.min H.low b⟩

/-- what stands at a place of a block -/
theorem HR.cell {n0 : Bs} {σ : Ren} {H : AH} {w : World} (hr : HR n0 σ H w) {b : Nat} {c : Tr Value} {e : TypeId} (hb : H.blocks.get b = some (.cells c e)) {k d m : Nat} (hs : σ b = some (k, d, m)) {o : Nat} {v : Value}
    (hv : c.get o = some v) : ∃ v', w.cell? ⟨k, d + o, none⟩ = some v' ∧ VR σ v v' := by
  obtain ⟨k', d', m', hs', hn, C, h1, h2, h3⟩ := hr.blk b _ hb
  rw [hs] at hs'
  injection hs' with hs'
  injection hs' with e1 hs'
  injection hs' with e2 e3
  subst e1 e2 e3
  obtain ⟨v', hv', hvr⟩ := h3 o v hv
  exact ⟨v', by rw [cell_of_block h1]; exact hv', hvr⟩

theorem getElem?_some_lt {α : Type} {C : Array α} {i : Nat} {v : α} (h : C[i]? = some v) : i < C.size := by
  rcases Nat.lt_or_ge i C.size with h' | h'
  · exact h'
  · rw [Array.getElem?_eq_none h'] at h; cases h

/-- one cell is written -/
theorem HR.store {n0 : Bs} {σ : Ren} {H : AH} {w : World} (hr : HR n0 σ H w) {b : Nat} {c : Tr Value} {e : TypeId} (hb : H.blocks.get b = some (.cells c e)) {k d m : Nat} (hs : σ b = some (k, d, m)) {o : Nat} {u v v' : Value}
    (hu : c.get o = some u) (hv : VR σ v v') :
    (∃ u', w.cell? ⟨k, d + o, none⟩ = some u') ∧ w.frozen? ⟨k, d + o, none⟩ = false ∧ HR n0 σ (H.store b (c.set o v) e) (w.setCell ⟨k, d + o, none⟩ v') ∧ Step n0 σ w (Nat.min H.low b) σ (w.setCell ⟨k, d + o, none⟩ v') := by
  obtain ⟨k', d', m', hs', hn, C, h1, h2, h3⟩ := hr.blk b _ hb
  rw [hs] at hs'
  injection hs' with hs'
  injection hs' with e1 hs'
  injection hs' with e2 e3
  subst e1 e2 e3
  obtain ⟨u', hu', _⟩ := h3 o u hu
  have hlt := getElem?_some_lt hu'
  refine ⟨⟨u', by rw [cell_of_block h1]; exact hu'⟩, frozen_of_block h1, ⟨base_size hr.base (by simp [World.setCell]) ((Below.refl n0.n.n w).setCell hn.1 v').block, ?_, ?_, hr.dom, ?_, hr.hol⟩, ⟨.refl σ, (Below.refl n0.n.n w).setCell hn.1 v', ?_⟩⟩
  · intro b₁ x hx
    simp only [AH.store, Tr.get_set] at hx
    by_cases eb : b₁ = b
    · subst eb
      rw [if_pos rfl] at hx
      obtain rfl := Option.some.inj hx
      refine ⟨k, d, m, hs, hn, C.setIfInBounds (d + o) v', heap_setCell_self h1 v', by simpa using h2, fun i y hy => ?_⟩
      rw [Tr.get_set] at hy
      by_cases ei : i = o
      · subst ei
        rw [if_pos rfl] at hy
        obtain rfl := Option.some.inj hy
        exact ⟨v', by simp [hlt], hv⟩
      · rw [if_neg ei] at hy
        obtain ⟨y', hy', hr'⟩ := h3 i y hy
        exact ⟨y', by rw [Array.getElem?_setIfInBounds_ne (by omega)]; exact hy', hr'⟩
    · rw [if_neg eb] at hx
      obtain ⟨k₁, d₁, m₁, hs₁, hn₁, hB⟩ := hr.blk b₁ x hx
      refine ⟨k₁, d₁, m₁, hs₁, hn₁, ?_⟩
      have : k₁ ≠ k := fun ek => eb (hr.inj b₁ b x _ k d₁ m₁ d m hx hb (ek ▸ hs₁) hs)
      rw [Below.heap_setCell w ⟨k, d + o, none⟩ v' k₁ this]
      exact hB
  · intro b₁ b₂ x₁ x₂ c' d₁ m₁ d₂ m₂ g1 g2 s1 s2
    have get : ∀ bb xx, (H.store b (c.set o v) e).blocks.get bb = some xx → ∃ yy, H.blocks.get bb = some yy := fun bb xx hh => by
      simp only [AH.store, Tr.get_set] at hh
      by_cases eb : bb = b
      · exact ⟨_, eb ▸ hb⟩
      · rw [if_neg eb] at hh; exact ⟨_, hh⟩
    obtain ⟨y₁, g1⟩ := get _ _ g1
    obtain ⟨y₂, g2⟩ := get _ _ g2
    exact hr.inj b₁ b₂ y₁ y₂ c' d₁ m₁ d₂ m₂ g1 g2 s1 s2
  · intro b₁ c' d₁ m₁ h
    have := hr.img b₁ c' d₁ m₁ h
    simpa [World.setCell] using this
  · intro c' hc hlow
    refine ⟨Below.heap_setCell w ⟨k, d + o, none⟩ v' c' fun ec => ?_, fun _ _ _ h => h⟩
    have : c' = k := ec
    subst this
    rcases hlow with hq | hlow
    · exact hn.2 hq
    · exact absurd (hlow b d m hs) (Nat.not_lt.2 (Nat.min_le_right _ _))

end Go.Proofs.Ythomkiindjhdmaa.Ax
