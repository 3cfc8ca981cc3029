/-
  append: of what was there only the slice's own block may be another one behind it. Own work, plain lemmas.
-/
import Derived.Test.YthomkiindjhdmaaAx2
set_option linter.unusedSimpArgs false
set_option linter.unusedVariables false
set_option linter.unnecessarySimpa false
set_option linter.deprecated false
set_option linter.unusedSectionVars false
namespace Go.Proofs.Ythomkiindjhdmaa.Ax
open Go.RowKit
variable [Tabs]

/-- as 'Gives'; and of what was there only block b may be another one -/
def GivesX (P : Program) (n0 : Bs) (σ : Ren) (w : World) (s : Sem Value) (v : Value) (H' : AH) (b : Nat) : Prop :=
  ∃ v' σ' w', s.run P w = .ok v' w' ∧ VR σ' v v' ∧ HR n0 σ' H' w' ∧ Step n0 σ w H'.low σ' w' ∧
    ∃ k d m, σ b = some (k, d, m) ∧ (∀ q, q < w.heap.size → q ≠ k → w'.heap[q]? = w.heap[q]?) ∧ ∀ b' c d' m', σ' b' = some (c, d', m') → σ b' = some (c, d', m') ∨ c = k ∨ w.heap.size ≤ c
theorem storeB_exact {P : Program} {n0 : Bs} {σ : Ren} {H H' : AH} {w : World} (hr : HR n0 σ H w) {b o : Nat} {l l' : List Value} (h : storeB H b o l = some H') (hl : VRs σ l l') {k d m : Nat} (hs : σ b = some (k, d, m)) {o' i : Nat} (ho : o' + i = d + o) :
    ∃ w', (storeCells ⟨k, o', none⟩ l' i).run P w = .ok () w' ∧ HR n0 σ H' w' ∧ Step n0 σ w H'.low σ w' ∧ ∀ q, q ≠ k → w'.heap[q]? = w.heap[q]? := by
  obtain ⟨x, hx, h⟩ := oc_eq_some h
  obtain ⟨old, hold, h⟩ := oc_eq_some h
  obtain ⟨hc, h⟩ := sel_none h
  obtain rfl := Option.some.inj h
  obtain ⟨h1, h2⟩ := rdT_get x.1 l.length o old hold
  obtain ⟨w', r1, r2, r3, r4⟩ := HR.stores (P := P) hs hl (o := o) (o' := o') (i := i) hr (blkCells_eq hx) hc (fun j hj => ⟨old[j]'(by rw [h1]; exact hj), by rw [h2 j hj]; simp⟩) ho
  exact ⟨w', r1, r2, r3, r4⟩
theorem put_new {σ : Ren} {nx g o m : Nat} {P : Nat → Prop} (hg : P g) : ∀ b' c d' m', (σ.put nx (g, o, m)) b' = some (c, d', m') → σ b' = some (c, d', m') ∨ P c := by
  intro b' c d' m' h
  by_cases e : b' = nx
  · subst e
    rw [Ren.put_self] at h
    injection h with h
    injection h with h _
    subst h
    exact .inr hg
  · rw [Ren.put_other _ _ e] at h
    exact .inl h

set_option maxHeartbeats 1000000 in
theorem appSome_exact {P : Program} {n0 : Bs} {σ : Ren} {H H' : AH} {w : World} (hr : HR n0 σ H w) {t u ty e : TypeId} {d : TypeDesc} {i : TypeInfo} {z : List Value} {zv : Value} {r : Nat × List Value} {new' : List Value} {s' x' v : Value} {b o n k : Nat}
    (he : P.underlying t = some (.slice e)) (hd : P.underlying u = some d) (hni : ∀ k, d ≠ .int k) (hi : P.info? e = some i) (hiz : i.zero = some zv) (hzc : zv.cells = ⟨z⟩) (hzl : z.length = i.size)
    (hnew : VRs σ r.2 new') (hnl' : new'.length = r.1 * i.size) (hlen : (Builtin.lenOf x').run P w = .ok r.1 w) (hfc : ∀ k, (Builtin.firstCells i.size r.1 x').run P (World.at w k) = .ok ⟨new'⟩ (World.at w k))
    (hfc0 : (Builtin.firstCells i.size r.1 x').run P w = .ok ⟨new'⟩ w) (hs : VR σ (.slice (some ⟨b, o, none⟩) n k) s') (hnl : notL (.slice (some ⟨b, o, none⟩) n k) = true) (hszb : i.size < big) (h : appGo H i.size e i.bytes r (.slice (some ⟨b, o, none⟩) n k) = some (v, H')) :
    GivesX P n0 σ w (Builtin.append_ #[t, u] ty #[s', x']) v H' b := by
  have h : sel (Nat.beq r.1 0) (sel (Nat.ble n k) (some (.slice (some ⟨b, o, none⟩) n k, H)) none) (oc (blkCells H b) none fun y => appSome H i.size e i.bytes r b o n k y) = some (v, H') := h
  rcases sel_eq_some h with ⟨hr0, h⟩ | ⟨hr0, h⟩
  · have hr0 := Nat.eq_of_beq_eq_true hr0
    obtain ⟨hnk, h⟩ := sel_none h
    obtain ⟨rfl, rfl⟩ := Prod.mk.inj (Option.some.inj h)
    have hnk := ble_le hnk
    have hn0 : new' = [] := List.length_eq_zero_iff.1 (by rw [hnl', hr0]; simp)
    have fin : ∀ (c d m p k' : Nat), σ b = some (c, d, m) → n ≤ k' → VR σ (.slice (some ⟨b, o, none⟩) n k) (.slice (some ⟨c, p, none⟩) n k') → GivesX P n0 σ w (Builtin.append_ #[t, u] ty #[.slice (some ⟨c, p, none⟩) n k', x']) (.slice (some ⟨b, o, none⟩) n k) H b := by
      intro c d m p k' hσ hk' hv
      have := run_appR (ty := ty) w he hd hni hi (base := some ⟨c, p, none⟩) (sLen := n) (sCap := k') hlen hfc0 (by omega) (w' := w) (fun a ha => by rw [hn0]; simp [storeCells]) (fun h => by cases h)
      exact ⟨_, σ, w, by rw [this, hr0]; rfl, hv, hr, Step.refl _ _ _ _, c, d, m, hσ, fun _ _ _ => rfl, fun _ _ _ _ h => .inl h⟩
    generalize hkk : k = kk at hs
    cases hs with
    | @slice _ c d m _ _ _ hσ hk => subst hkk; exact fin c d m _ k hσ hnk (.slice o n k hσ hk)
    | @sliceU _ c d m _ o' _ k' es hσ hk ho hdd hm hes => subst hkk; exact fin c d m o' k' hσ hk (.sliceU o o' n k' es hσ hk ho hdd hm hes)
    | @sliceL _ c d m _ _ k' es lb hσ hk hl hm hes => subst hkk; rw [notL_L hes] at hnl; cases hnl
  · have hr0 := beq_false_ne hr0
    obtain ⟨y, hy, h⟩ := oc_eq_some h
    have hyb := blkCells_eq hy
    unfold appSome at h
    obtain ⟨old, hold, h⟩ := oc_eq_some h
    have holdl := (rdT_get _ _ _ _ hold).1
    have hfirst : ∀ {c d m o' k' : Nat}, σ b = some (c, d, m) → (n = 0 ∨ o' = d + o) → ∃ old', VRs σ old old' ∧ (∀ j v', old'[j]? = some v' → w.cell? ⟨c, o' + j, none⟩ = some v') ∧ ∀ k, (Builtin.firstCells i.size n (.slice (some ⟨c, o', none⟩) n k')).run P (World.at w k) = .ok ⟨old'⟩ (World.at w k) := by
      intro c d m o' k' hσ ho
      by_cases hn : n = 0
      · subst hn
        have hl0 : old = [] := List.length_eq_zero_iff.1 (by rw [holdl]; simp)
        subst hl0
        refine ⟨[], .nil, fun j v' hj => by simp at hj, fun k => ?_⟩
        rw [show Builtin.firstCells i.size 0 (.slice (some ⟨c, o', none⟩) 0 k') = loadCells ⟨c, o', none⟩ (0 * i.size) from rfl, Nat.zero_mul]; rfl
      · have ho := ho.resolve_left hn
        subst ho
        obtain ⟨l', h1, h2⟩ := hr.reads hyb hσ _ _ _ hold
        refine ⟨l', h1, fun j v' hj => ?_, fun k => ?_⟩
        · have := h2 j v' hj; rwa [Nat.add_assoc]
        · have hlen : n * i.size = l'.length := by rw [← h1.length, holdl]; rfl
          simp only [Builtin.firstCells]
          unfold loadCells
          rw [hlen, run_loadCellsFrom l' 0 #[] fun j v hv => ?_]
          · simp
          · have := h2 j v hv
            rw [show d + o + (0 + j) = d + (o + j) from by omega]
            exact this
    -- growth into a new block
    have grows : ∀ {H₀ : AH} (hr₀ : HR n0 σ H₀ w) {c d m o' k' : Nat}, σ b = some (c, d, m) → (n = 0 ∨ o' = d + o) → k' < n + r.1 → fits (Nat.add n r.1) i.bytes = true →
        ∃ v' σ' w', (Builtin.append_ #[t, u] ty #[.slice (some ⟨c, o', none⟩) n k', x']).run P w = .ok v' w' ∧ VR σ' (.slice (some ⟨H₀.next, 0, none⟩) (Nat.add n r.1) (Nat.add big i.size)) v' ∧ HR n0 σ' (H₀.push (.cells (layT (old ++ r.2)) e)) w' ∧ Step n0 σ w H₀.low σ' w' ∧
          ∃ k d m, σ b = some (k, d, m) ∧ (∀ q, q < w.heap.size → q ≠ k → w'.heap[q]? = w.heap[q]?) ∧ ∀ b' c d' m', σ' b' = some (c, d', m') → σ b' = some (c, d', m') ∨ c = k ∨ w.heap.size ≤ c := by
      intro H₀ hr₀ c d m o' k' hσ ho hk' hf
      simp only [fits, Bool.and_eq_true] at hf
      have f1 : (n + r.1) * i.bytes ≤ 140737488355328 := ble_le hf.1
      have f2 : n + r.1 ≤ 9223372036854775807 := ble_le hf.2
      obtain ⟨old', hov, _, hof⟩ := hfirst (k' := k') hσ ho
      have run := run_appG (ty := ty) w he hd hni hi hiz (base := some ⟨c, o', none⟩) (sLen := n) (sCap := k') hlen hfc hof hk' f2 (growslice_fits hk' f1)
      have hg := grownCap_ge w (n + r.1) k' e
      generalize hG : grownCap w (n + r.1) k' e = G at run hg
      have hzs : (Builtin.zeroCells zv.cells (G - (n + r.1))).size = (G - (n + r.1)) * i.size := by simp [Builtin.zeroCells, hzc, hzl]
      have hol' : old'.length = n * i.size := by rw [← hov.length, holdl]; rfl
      have hm : (old' ++ new').length + (Builtin.zeroCells zv.cells (G - (n + r.1))).size = G * i.size := by
        rw [hzs, List.length_append, hol', hnl', ← Nat.add_mul, ← Nat.add_mul]; congr 1; omega
      obtain ⟨h1, h2⟩ := newGrown hr₀.drew (hov.append hnew) e (Builtin.zeroCells zv.cells (G - (n + r.1))) _ hm.symm
      refine ⟨.slice (some ⟨w.heap.size, 0, none⟩) (n + r.1) G, _, _, ?_, ?_, h1, h2.of_drew, c, d, m, hσ, fun q hq _ => ?_, put_new (P := fun g => g = c ∨ w.heap.size ≤ g) (.inr (Nat.le_refl _))⟩
      · rw [run]; simp
      · have := VR.sliceU (σ := σ.put H₀.next (w.drew.heap.size, 0, G * i.size)) 0 0 (n + r.1) G i.size (Ren.put_self _ _ _) hg (.inr rfl) (Nat.le_refl _) (by omega) hszb
        simpa using this
      · exact Below.heap_alloc w.drew _ q hq
    rcases sel_eq_some h with ⟨hkb, h⟩ | ⟨hkb, h⟩
    · have hkb := blt_lt hkb
      generalize hkk : k = kk at hs
      cases hs with
      | @sliceU _ c d m _ o' _ k' es hσ hk ho hdd hm => subst hkk; omega
      | @sliceL _ c d m _ _ k' es lb hσ hk hl hm hes => subst hkk; rw [notL_L hes] at hnl; cases hnl
      | @slice _ c d m _ _ _ hσ hk =>
        subst hkk
        rcases sel_eq_some h with ⟨hroom, h⟩ | ⟨hroom, h⟩
        · have hroom : n + r.1 ≤ k := ble_le hroom
          obtain ⟨H₁, hst, h⟩ := oc_eq_some h
          obtain ⟨rfl, rfl⟩ := Prod.mk.inj (Option.some.inj h)
          obtain ⟨w', q1, q2, q3, q4⟩ := storeB_exact (P := P) hr hst hnew hσ (o' := d + o + n * i.size) (i := 0) (by show d + o + n * i.size + 0 = d + (o + n * i.size); omega)
          have run := run_appR (ty := ty) w he hd hni hi (base := some ⟨c, d + o, none⟩) (sLen := n) (sCap := k) hlen hfc0 hroom (w' := w') (fun a ha => by
            obtain rfl := Option.some.inj ha
            rw [add_plain]; exact q1) (fun h => by cases h)
          exact ⟨_, σ, w', run, VR.slice o (n + r.1) k hσ hk, q2, q3, c, d, m, hσ, fun q _ hq => q4 q hq, fun _ _ _ _ h => .inl h⟩
        · obtain ⟨hf, h⟩ := sel_none h
          obtain ⟨rfl, rfl⟩ := Prod.mk.inj (Option.some.inj h)
          have hroom : k < n + r.1 := by
            rcases Nat.lt_or_ge k (n + r.1) with h | h
            · exact h
            · have : Nat.ble (Nat.add n r.1) k = true := Nat.ble_eq_true_of_le h
              rw [this] at hroom; cases hroom
          exact grows hr hσ (.inr rfl) hroom hf
    · obtain ⟨hc, h⟩ := sel_none h
      obtain ⟨rfl, rfl⟩ := Prod.mk.inj (Option.some.inj h)
      simp only [Bool.and_eq_true] at hc
      obtain ⟨⟨⟨⟨hc1, hc2⟩, hc3⟩, hc4⟩, hc5⟩ := hc
      have hc1 := Nat.eq_of_beq_eq_true hc1
      have hc2 := Nat.eq_of_beq_eq_true hc2
      generalize hkk : k = kk at hs
      cases hs with
      | @slice _ c d m _ _ _ hσ hk => subst hkk; rw [hc1] at hk; exact absurd hk (Nat.not_lt.2 (Nat.le_add_right _ _))
      | @sliceL _ c d m _ _ k' es lb hσ hk hl hm hes => subst hkk; rw [notL_L hes] at hnl; cases hnl
      | @sliceU _ c d m _ o' _ k' es hσ hk ho hdd hm hes =>
        obtain rfl : es = i.size := (by have q : Nat.add big i.size = big + i.size := rfl; omega)
        by_cases hroom : n + r.1 ≤ k'
        · obtain ⟨old', hov, hoc, hof⟩ := hfirst (k' := k') hσ ho
          obtain ⟨hcn, C, q1, q2, q3⟩ := hr.block hyb hσ
          have e1 : (n + r.1) * i.size ≤ k' * i.size := Nat.mul_le_mul_right _ hroom
          have e2 : (n + r.1) * i.size = n * i.size + r.1 * i.size := Nat.add_mul _ _ _
          have hol' : old'.length = n * i.size := by rw [← hov.length, holdl]; rfl
          obtain ⟨w', C', s1, s2, s3, s4, s5, s6, s7⟩ := run_stores_raw (P := P) (c := c) (p := o' + n * i.size) new' 0 w C q1 (isCells_of hnew hc4) (by omega)
          have run := run_appR (ty := ty) w he hd hni hi (base := some ⟨c, o', none⟩) (sLen := n) (sCap := k') hlen hfc0 hroom (w' := w') (fun a ha => by
            obtain rfl := Option.some.inj ha
            rw [add_plain]; exact s1) (fun h => by cases h)
          have hin : ∀ j v', (old' ++ new')[j]? = some v' → C'[o' + j]? = some v' := stored_all q1 s4 hoc (by omega) (by omega)
          obtain ⟨g1, g2⟩ := hr.growIn (b := b) hyb hσ (o' := o') (hov.append hnew) (w' := w') (C' := C') s2 (by rw [s3, q2]) hin s5 s6 (s7 n0.n.n hcn.1)
          rw [hc2] at g1
          exact ⟨_, _, w', run, grown_vr hσ hroom hm hszb, g1, g2, c, d, m, hσ, fun q _ hq => s5 q hq, put_new (P := fun g => g = c ∨ w.heap.size ≤ g) (.inl rfl)⟩
        · obtain ⟨v', σ', w', p1, p2, p3, p4, p5⟩ := grows (hr.kill b H.low) (k' := k') hσ ho (Nat.lt_of_not_le hroom) hc3
          exact ⟨v', σ', w', p1, p2, HR.growOut hr b p3, p4.lower (Nat.min_le_left _ _), p5⟩

/-- the block of a slice -/
noncomputable def sliceBlk (v : Value) : Option Nat := oc (sliceOf v) none fun a => some a.1
theorem weakL_some {b o n k : Nat} : ∃ k', weakL (.slice (some ⟨b, o, none⟩) n k) = .slice (some ⟨b, o, none⟩) n k' := by
  show ∃ k', sel (Nat.ble (Nat.div k big) 1) (Value.slice (some ⟨b, o, none⟩) n k) (Value.slice (some ⟨b, o, none⟩) n (Nat.add big (Nat.mod k big))) = _
  cases Nat.ble (Nat.div k big) 1
  · exact ⟨_, rfl⟩
  · exact ⟨_, rfl⟩
theorem append_exact {P : Program} {n0 : Bs} {σ : Ren} {H H' : AH} {w : World} (hr : HR n0 σ H w) {t u ty : TypeId} {s s' x x' v : Value} {b : Nat} (h : opAppend3 P t u s x H = some (v, H')) (hs : VR σ s s') (hx : VR σ x x') (hb : sliceBlk s = some b) :
    GivesX P n0 σ w (Builtin.append_ #[t, u] ty #[s', x']) v H' b := by
  obtain ⟨a, ha, hb⟩ := oc_eq_some hb
  obtain rfl := Option.some.inj hb
  have hse := sliceOf_eq ha
  have hz : zCount s x = none := by rw [hse]; rfl
  unfold opAppend3 at h
  rw [hz] at h
  have h : opAppend2 P t u s x H = some (v, H') := h
  obtain ⟨e, he, h⟩ := oc_eq_some h
  obtain ⟨d, hd, h⟩ := oc_eq_some h
  obtain ⟨z, hz, h⟩ := oc_eq_some h
  obtain ⟨sz, hsz, h⟩ := oc_eq_some h
  obtain ⟨bs, hbs, h⟩ := oc_eq_some h
  obtain ⟨hb, h⟩ := sel_none h
  obtain ⟨r, hsrc, h⟩ := oc_eq_some h
  simp only [Bool.and_eq_true] at hb
  have hni := notInt_ne hb.1.1
  have hzl := Nat.eq_of_beq_eq_true hb.1.2
  have hszb := blt_lt hb.2
  have he := elemB_eq he
  obtain ⟨i, zv, hi, hiz, hzc, hzf⟩ := zeroB_info hz
  obtain rfl : i.size = sz := by
    obtain ⟨i', hi', q⟩ := oc_eq_some hsz
    rw [hi] at hi'
    obtain rfl := Option.some.inj hi'
    exact Option.some.inj q
  obtain rfl : i.bytes = bs := by
    obtain ⟨i', hi', q⟩ := oc_eq_some hbs
    rw [hi] at hi'
    obtain rfl := Option.some.inj hi'
    exact Option.some.inj q
  obtain ⟨new', hnew, hnl, hlen, hfc⟩ := srcB_ok (P := P) hr hsrc hx
  have hlen := hlen w
  have hfc0 : (Builtin.firstCells i.size r.1 x').run P w = .ok ⟨new'⟩ w := hfc w.drawn
  have hnl' : new'.length = r.1 * i.size := by rw [← hnew.length]; exact hnl
  unfold appTop at h
  cases hro : roomL i.size r s with
  | none =>
    rw [hro] at h
    have h : appGo H i.size e i.bytes r (weakL s) = some (v, H') := h
    have hw := weakL_vr hs
    have hn := weakL_not s
    rw [hse] at h hw hn
    obtain ⟨k', hk'⟩ := weakL_some (b := a.1) (o := a.2.1) (n := a.2.2.1) (k := a.2.2.2)
    rw [hk'] at h hw hn
    exact appSome_exact hr he hd hni hi hiz hzc hzl hnew hnl' hlen hfc hfc0 hw hn hszb h
  | some p =>
    rw [hro] at h
    obtain ⟨a', ha', hro⟩ := oc_eq_some hro
    rw [ha] at ha'
    obtain rfl := Option.some.inj ha'
    obtain ⟨q, hq, hro⟩ := oc_eq_some hro
    obtain ⟨hb, hro⟩ := sel_none hro
    obtain rfl := Option.some.inj hro
    simp only [Bool.and_eq_true] at hb
    have hroom : a.2.2.1 + r.1 ≤ q.2 := ble_le hb.1
    rw [hse] at hs
    obtain ⟨c, d', m, k', rfl, h1, h2, h3, h4, h5⟩ := capL_vr hq hs
    obtain ⟨H₁, hst, h⟩ := oc_eq_some h
    obtain ⟨rfl, rfl⟩ := Prod.mk.inj (Option.some.inj h)
    obtain ⟨w', q1, q2, q3, q4⟩ := storeB_exact (P := P) hr hst hnew h1 (o' := d' + a.2.1 + a.2.2.1 * i.size) (i := 0) (by show d' + a.2.1 + a.2.2.1 * i.size + 0 = d' + (a.2.1 + a.2.2.1 * i.size); omega)
    have run := run_appR (ty := ty) w he hd hni hi (base := some ⟨c, d' + a.2.1, none⟩) (sLen := a.2.2.1) (sCap := k') hlen hfc0 (by omega) (w' := w') (fun x hx => by
      obtain rfl := Option.some.inj hx
      rw [add_plain]; exact q1) (fun h => by cases h)
    exact ⟨_, σ, w', run, VR.sliceL a.2.1 (a.2.2.1 + r.1) k' q.1 q.2 h1 (by omega) h3 h4 h5, q2, q3, c, d', m, h1, fun q _ hq => q4 q hq, fun _ _ _ _ h => .inl h⟩

end Go.Proofs.Ythomkiindjhdmaa.Ax
