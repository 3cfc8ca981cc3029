/-
  append: what it leaves. Own work, plain lemmas.
-/
import Derived.Test.YthomkiindjhdmaaAxJ
set_option linter.unusedSimpArgs false
set_option linter.unusedVariables false
set_option linter.unnecessarySimpa false
set_option linter.deprecated false
set_option linter.unusedSectionVars false
namespace Go.Proofs.Ythomkiindjhdmaa.Ax
open Go.RowKit
variable [Tabs]

/-- the elder block goes, a new one has the whole -/
noncomputable def AH.grow (H : AH) (b : Nat) (l : List Value) (e : TypeId) : AH := ⟨(H.blocks.put b none).set H.next (.cells (layT l) e), Nat.succ H.next, Nat.min H.low b⟩

theorem HR.drew {n0 : Bs} {σ : Ren} {H : AH} {w : World} (hr : HR n0 σ H w) : HR n0 σ H w.drew := ⟨hr.base, hr.blk, hr.inj, hr.dom, hr.img, hr.hol⟩
theorem Step.of_drew {n0 : Bs} {σ σ' : Ren} {w w' : World} {low : Nat} (h : Step n0 σ w.drew low σ' w') : Step n0 σ w low σ' w' :=
  ⟨h.ext, ⟨h.below.os, h.below.tape, h.below.output, h.below.size, h.below.block⟩, h.keep⟩
theorem Step.drew {n0 : Bs} (σ : Ren) (w : World) (low : Nat) : Step n0 σ w low σ w.drew := ⟨.refl σ, (Below.refl n0.n.n w).drew, fun _ _ _ => ⟨rfl, fun _ _ _ h => h⟩⟩

/-- a block goes from sight -/
theorem HR.kill {n0 : Bs} {σ : Ren} {H : AH} {w : World} (hr : HR n0 σ H w) (b : Nat) (low : Nat) : HR n0 σ ⟨H.blocks.put b none, H.next, low⟩ w := by
  have get : ∀ bb xx, (H.blocks.put b none).get bb = some xx → H.blocks.get bb = some xx := fun bb xx h => by
    rw [Tr.get_put] at h
    by_cases e : bb = b
    · rw [if_pos e] at h; cases h
    · rw [if_neg e] at h; exact h
  exact ⟨hr.base, fun bb x h => hr.blk bb x (get _ _ h), fun b₁ b₂ x₁ x₂ c d₁ m₁ d₂ m₂ h1 h2 => hr.inj b₁ b₂ x₁ x₂ c d₁ m₁ d₂ m₂ (get _ _ h1) (get _ _ h2), hr.dom, hr.img, hr.hol⟩

/-- growth in place: the new block lies where the elder one lay -/
theorem HR.growIn {n0 : Bs} {σ : Ren} {H : AH} {w : World} (hr : HR n0 σ H w) {b : Nat} {cs : Tr Value} {e : TypeId} (hb : H.blocks.get b = some (.cells cs e)) {c d m : Nat} (hs : σ b = some (c, d, m)) {o' : Nat} {l l' : List Value} (hl : VRs σ l l')
    {w' : World} {C' : Array Value} (hC : w'.heap[c]? = some (.cells C' e (0, 0))) (hsz : C'.size = m) (hin : ∀ i v', l'[i]? = some v' → C'[o' + i]? = some v') (hoth : ∀ k, k ≠ c → w'.heap[k]? = w.heap[k]?) (hhs : w'.heap.size = w.heap.size) (hbl : Below n0.n.n w w') :
    HR n0 (σ.put H.next (c, o', m)) (H.grow b l e) w' ∧ Step n0 σ w (Nat.min H.low b) (σ.put H.next (c, o', m)) w' := by
  have hext := hr.ext_put (c, o', m)
  have hbn := hr.notNew hb
  have hcn : n0.n.Own c := (hr.block hb hs).1
  have gold : ∀ bb xx, (H.grow b l e).blocks.get bb = some xx → bb ≠ H.next → bb ≠ b ∧ H.blocks.get bb = some xx := fun bb xx h hne => by
    simp only [AH.grow] at h
    rw [Tr.get_set, if_neg hne, Tr.get_put] at h
    by_cases e : bb = b
    · rw [if_pos e] at h; cases h
    · rw [if_neg e] at h; exact ⟨e, h⟩
  refine ⟨⟨base_size hr.base (by rw [hhs]; exact Nat.le_refl _) hbl.block, ?_, ?_, ?_, ?_, fun b hb => ⟨Nat.lt_succ_of_lt (hr.hol b hb).1, by rw [Ren.put_other _ _ (Nat.ne_of_lt (hr.hol b hb).1)]; exact (hr.hol b hb).2⟩⟩, ⟨hext, hbl, ?_⟩⟩
  · intro bb x hx
    by_cases en : bb = H.next
    · subst en
      simp only [AH.grow] at hx
      rw [Tr.get_set, if_pos rfl] at hx
      obtain rfl := Option.some.inj hx
      refine ⟨c, o', m, Ren.put_self _ _ _, hcn, C', hC, hsz, fun i v hv => ?_⟩
      rw [layT_get] at hv
      obtain ⟨v', h1, h2⟩ := hl.get i v hv
      exact ⟨v', hin i v' h1, h2.mono hext⟩
    · obtain ⟨eb, hx'⟩ := gold bb x hx en
      obtain ⟨c₁, d₁, m₁, hs₁, hn₁, hB⟩ := hr.blk bb x hx'
      refine ⟨c₁, d₁, m₁, hext _ _ hs₁, hn₁, ?_⟩
      have : c₁ ≠ c := fun ec => eb (hr.inj bb b x _ c d₁ m₁ d m hx' hb (ec ▸ hs₁) hs)
      rw [hoth c₁ this]
      exact hB.mono hext
  · intro b₁ b₂ x₁ x₂ c' d₁ m₁ d₂ m₂ h1 h2 s1 s2
    by_cases e1 : b₁ = H.next
    · by_cases e2 : b₂ = H.next
      · rw [e1, e2]
      · obtain ⟨q1, q2⟩ := gold b₂ x₂ h2 e2
        rw [Ren.put_other _ _ e2] at s2
        subst e1
        rw [Ren.put_self] at s1
        injection s1 with s1
        injection s1 with s1 _
        subst s1
        exact absurd (hr.inj b₂ b _ _ c d₂ m₂ d m q2 hb s2 hs) q1
    · obtain ⟨p1, p2⟩ := gold b₁ x₁ h1 e1
      rw [Ren.put_other _ _ e1] at s1
      by_cases e2 : b₂ = H.next
      · subst e2
        rw [Ren.put_self] at s2
        injection s2 with s2
        injection s2 with s2 _
        subst s2
        exact absurd (hr.inj b₁ b _ _ c d₁ m₁ d m p2 hb s1 hs) p1
      · obtain ⟨q1, q2⟩ := gold b₂ x₂ h2 e2
        rw [Ren.put_other _ _ e2] at s2
        exact hr.inj b₁ b₂ x₁ x₂ c' d₁ m₁ d₂ m₂ p2 q2 s1 s2
  · intro bb t hbt
    by_cases en : bb = H.next
    · subst en; exact Nat.lt_succ_self _
    · rw [Ren.put_other _ _ en] at hbt
      exact Nat.lt_succ_of_lt (hr.dom bb t hbt)
  · intro bb c' d' m' hbt
    rw [hhs]
    by_cases en : bb = H.next
    · subst en
      rw [Ren.put_self] at hbt
      injection hbt with hbt
      injection hbt with hbt _
      subst hbt
      exact hr.img b c d m hs
    · rw [Ren.put_other _ _ en] at hbt
      exact hr.img bb c' d' m' hbt
  · intro c' hc' hlow
    have hne : c' ≠ c := fun ec => by
      subst ec
      rcases hlow with hq | hlow
      · exact hcn.2 hq
      · exact absurd (hlow b d m hs) (Nat.not_lt.2 (Nat.min_le_right _ _))
    refine ⟨hoth c' hne, fun bb d' m' hbt => ?_⟩
    by_cases en : bb = H.next
    · subst en
      rw [Ren.put_self] at hbt
      injection hbt with hbt
      injection hbt with hbt _
      exact absurd hbt.symm hne
    · rwa [Ren.put_other _ _ en] at hbt

theorem HR.growOut {n0 : Bs} {σ : Ren} {H : AH} {w : World} (hr : HR n0 σ H w) (b : Nat) {l : List Value} {e : TypeId} {σ' : Ren} {w' : World} (h : HR n0 σ' ((⟨H.blocks.put b none, H.next, H.low⟩ : AH).push (.cells (layT l) e)) w') : HR n0 σ' (H.grow b l e) w' :=
  h.congr (fun _ => rfl) rfl

def notInt (d : TypeDesc) : Bool :=
  match d with
  | .int _ => false
  | _ => true
theorem notInt_ne {d : TypeDesc} (h : notInt d = true) (k : IntKind) : d ≠ .int k := fun e => by subst e; cases h

theorem zeroB_info {P : Program} {e : TypeId} {z : List Value} (hz : zeroB P e = some z) : ∃ i zv, P.info? e = some i ∧ i.zero = some zv ∧ zv.cells = ⟨z⟩ ∧ flatL z = true := by
  obtain ⟨i, hi, h⟩ := oc_eq_some hz
  obtain ⟨zv, hzv, h⟩ := oc_eq_some h
  obtain ⟨hf, h⟩ := sel_none h
  obtain rfl := Option.some.inj h
  exact ⟨i, zv, hi, hzv, by rw [← cellsL_eq], hf⟩
theorem grownCap_ge (w : World) (need old : Nat) (e : TypeId) : need ≤ grownCap w need old e := by
  unfold grownCap Question.cut
  exact Nat.le_add_right _ _

/-- the row behind a growth: more cells than are known -/
theorem newGrown {n0 : Bs} {σ : Ren} {H : AH} {w : World} (hr : HR n0 σ H w) {l l' : List Value} (hl : VRs σ l l') (e : TypeId) (rest : Array Value) (m : Nat) (hm : m = l'.length + rest.size) :
    HR n0 (σ.put H.next (w.heap.size, 0, m)) (H.push (.cells (layT l) e)) (w.alloc (.cells (⟨l'⟩ ++ rest) e)) ∧ Step n0 σ w H.low (σ.put H.next (w.heap.size, 0, m)) (w.alloc (.cells (⟨l'⟩ ++ rest) e)) := by
  refine hr.alloc ⟨⟨l'⟩ ++ rest, rfl, by simp [hm], fun i v hv => ?_⟩
  rw [layT_get] at hv
  obtain ⟨v', h1, h2⟩ := hl.get i v hv
  have hlt : i < l'.length := by
    rcases Nat.lt_or_ge i l'.length with h | h
    · exact h
    · rw [List.getElem?_eq_none h] at h1; cases h1
  refine ⟨v', ?_, h2.mono (hr.ext_put _)⟩
  rw [Nat.zero_add, Array.getElem?_append_left (by simpa using hlt)]
  simpa using h1

noncomputable def appNil (H : AH) (s e bs : Nat) (r : Nat × List Value) (n k : Nat) : VRes :=
  sel (Nat.beq n 0 && Nat.beq k 0) (sel (Nat.beq r.1 0) (some (.slice none 0 0, H)) (sel (fits r.1 bs) (some (.slice (some ⟨H.next, 0, none⟩) r.1 (Nat.add big s), H.push (.cells (layT r.2) e))) none)) none
noncomputable def appSome (H : AH) (s e bs : Nat) (r : Nat × List Value) (b o n k : Nat) (y : Tr Value × TypeId) : VRes :=
  oc (rdT y.1 (Nat.mul n s) o) none fun old =>
    sel (Nat.blt k big)
      (sel (Nat.ble (Nat.add n r.1) k) (oc (storeB H b (Nat.add o (Nat.mul n s)) r.2) none fun H' => some (.slice (some ⟨b, o, none⟩) (Nat.add n r.1) k, H'))
        (sel (fits (Nat.add n r.1) bs) (some (.slice (some ⟨H.next, 0, none⟩) (Nat.add n r.1) (Nat.add big s), H.push (.cells (layT (old ++ r.2)) e))) none))
      (sel (Nat.beq k (Nat.add big s) && Nat.beq y.2 e && fits (Nat.add n r.1) bs && allCells r.2 && allCells old) (some (.slice (some ⟨H.next, 0, none⟩) (Nat.add n r.1) (Nat.add big s), H.grow b (old ++ r.2) e)) none)
noncomputable def appGo (H : AH) (s e bs : Nat) (r : Nat × List Value) (v : Value) : VRes :=
  match v with
  | .slice none n k => appNil H s e bs r n k
  | .slice (some ⟨b, o, none⟩) n k => sel (Nat.beq r.1 0) (sel (Nat.ble n k) (some (.slice (some ⟨b, o, none⟩) n k, H)) none) (oc (blkCells H b) none fun y => appSome H s e bs r b o n k y)
  | _ => none
/-- in place, where there is room for sure -/
noncomputable def appLow (H : AH) (s : Nat) (r : Nat × List Value) (a : Nat × Nat × Nat × Nat) (q : Nat × Nat) : VRes :=
  oc (storeB H a.1 (Nat.add a.2.1 (Nat.mul a.2.2.1 s)) r.2) none fun H' => some (.slice (some ⟨a.1, a.2.1, none⟩) (Nat.add a.2.2.1 r.1) (bigL q.1 q.2), H')
noncomputable def roomL (s : Nat) (r : Nat × List Value) (v : Value) : Option ((Nat × Nat × Nat × Nat) × (Nat × Nat)) :=
  oc (sliceOf v) none fun a => oc (capL a.2.2.1 a.2.2.2) none fun q => sel (Nat.ble (Nat.add a.2.2.1 r.1) q.2 && Nat.blt 0 r.1) (some (a, q)) none
noncomputable def appTop (H : AH) (s e bs : Nat) (r : Nat × List Value) (v : Value) : VRes :=
  oc (roomL s r v) (appGo H s e bs r (weakL v)) fun p => appLow H s r p.1 p.2
noncomputable def opAppend2 (P : Program) (t u : TypeId) (s x : Value) (H : AH) : VRes :=
  oc (elemB P t) none fun e => oc (P.underlying u) none fun d => oc (zeroB P e) none fun z => oc (sizeB P e) none fun sz => oc (bytesB P e) none fun bs =>
    sel (notInt d && Nat.beq z.length sz && Nat.blt sz big) (oc (srcB P H sz x) none fun r => appTop H sz e bs r s) none

theorem isCells_of {σ : Ren} {l l' : List Value} (h : VRs σ l l') (hc : allCells l = true) : ∀ v ∈ l', isCell v = true := by
  induction h with
  | nil => intro v hv; cases hv
  | cons hv _ ih =>
    simp only [allCells, Bool.and_eq_true] at hc
    intro u hu
    cases hu with
    | head => exact isCell_vr hv hc.1
    | tail _ hu => exact ih hc.2 u hu

theorem stored_all {w : World} {c o' p : Nat} {C C' : Array Value} {e : TypeId} {f : Nat × Nat} {old' new' : List Value} (q1 : w.heap[c]? = some (.cells C e f)) (s4 : ∀ j, C'[j]? = if p ≤ j ∧ j < p + new'.length then new'[j - p]? else C[j]?)
    (hoc : ∀ j v', old'[j]? = some v' → w.cell? ⟨c, o' + j, none⟩ = some v') (hp : p = o' + old'.length) (hle : o' ≤ p) : ∀ j v', (old' ++ new')[j]? = some v' → C'[o' + j]? = some v' := by
  intro j v' hj
  rw [s4]
  by_cases hj2 : j < old'.length
  · rw [List.getElem?_append_left hj2] at hj
    rw [if_neg (by omega)]
    have := hoc j v' hj
    rwa [cell_of_block q1] at this
  · rw [List.getElem?_append_right (by omega)] at hj
    have hjl : j - old'.length < new'.length := by
      rcases Nat.lt_or_ge (j - old'.length) new'.length with h | h
      · exact h
      · rw [List.getElem?_eq_none h] at hj; cases hj
    rw [if_pos (by omega), show o' + j - p = j - old'.length from by omega]
    exact hj
theorem grown_vr {σ : Ren} {nx c o' m need k' es b d : Nat} (hσ : σ b = some (c, d, m)) (hk : need ≤ k') (hm : o' + k' * es ≤ m) (he : es < big) : VR (σ.put nx (c, o', m)) (.slice (some ⟨nx, 0, none⟩) need (Nat.add big es)) (.slice (some ⟨c, o', none⟩) need k') :=
  VR.sliceU 0 o' need k' es (Ren.put_self σ nx (c, o', m)) hk (.inr rfl) (Nat.le_refl _) hm he
set_option maxHeartbeats 1000000 in
theorem appGo_ok {P : Program} {n0 : Bs} {σ : Ren} {H H' : AH} {w : World} (hr : HR n0 σ H w) {t u ty e : TypeId} {d : TypeDesc} {i : TypeInfo} {z : List Value} {zv : Value} {r : Nat × List Value} {new' : List Value} {s s' x' v : Value}
    (he : P.underlying t = some (.slice e)) (hd : P.underlying u = some d) (hni : ∀ k, d ≠ .int k) (hi : P.info? e = some i) (hiz : i.zero = some zv) (hzc : zv.cells = ⟨z⟩) (hzl : z.length = i.size)
    (hnew : VRs σ r.2 new') (hnl' : new'.length = r.1 * i.size) (hlen : (Builtin.lenOf x').run P w = .ok r.1 w) (hfc : ∀ k, (Builtin.firstCells i.size r.1 x').run P (World.at w k) = .ok ⟨new'⟩ (World.at w k))
    (hfc0 : (Builtin.firstCells i.size r.1 x').run P w = .ok ⟨new'⟩ w) (hs : VR σ s s') (hnl : notL s = true) (hszb : i.size < big) (h : appGo H i.size e i.bytes r s = some (v, H')) :
    Gives P n0 σ w (Builtin.append_ #[t, u] ty #[s', x']) v H' := by
  unfold appGo at h
  split at h
  case h_3 => cases h
  case h_1 n k =>
    cases hs
    unfold appNil at h
    obtain ⟨hz0, h1⟩ := sel_none h
    clear h
    simp only [Bool.and_eq_true] at hz0
    obtain rfl := Nat.eq_of_beq_eq_true hz0.1
    obtain rfl := Nat.eq_of_beq_eq_true hz0.2
    rcases sel_eq_some h1 with ⟨hr0, h2⟩ | ⟨hr0, h2⟩
    · have hr0 := Nat.eq_of_beq_eq_true hr0
      obtain ⟨rfl, rfl⟩ := Prod.mk.inj (Option.some.inj h2)
      have := run_appR (ty := ty) w he hd hni hi (base := none) (sLen := 0) (sCap := 0) hlen hfc0 (by omega) (w' := w) (fun a ha => by cases ha) (fun _ => rfl)
      exact Gives.pure hr (by rw [this, hr0]) (.slice0 0 0)
    · have hr0 := beq_false_ne hr0
      obtain ⟨hf, h3⟩ := sel_none h2
      obtain ⟨rfl, rfl⟩ := Prod.mk.inj (Option.some.inj h3)
      simp only [fits, Bool.and_eq_true] at hf
      have f1 : r.1 * i.bytes ≤ 140737488355328 := ble_le hf.1
      have f2 := ble_le hf.2
      have hold : ∀ k, (Builtin.firstCells i.size 0 (.slice none 0 0)).run P (World.at w k) = .ok ⟨[]⟩ (World.at w k) := fun k => by simp [Builtin.firstCells]
      have run := run_appG (ty := ty) w he hd hni hi hiz (base := none) (sLen := 0) (sCap := 0) hlen hfc hold (by omega) (by omega) (growslice_fits (by omega) (by rw [Nat.zero_add]; exact f1))
      have hg := grownCap_ge w (0 + r.1) 0 e
      generalize hG : grownCap w (0 + r.1) 0 e = G at run hg
      have hzs : (Builtin.zeroCells zv.cells (G - (0 + r.1))).size = (G - (0 + r.1)) * i.size := by simp [Builtin.zeroCells, hzc, hzl]
      have hm : new'.length + (Builtin.zeroCells zv.cells (G - (0 + r.1))).size = G * i.size := by
        rw [hzs, hnl', ← Nat.add_mul]; congr 1; omega
      obtain ⟨h1, h2⟩ := newGrown hr.drew hnew e (Builtin.zeroCells zv.cells (G - (0 + r.1))) _ hm.symm
      refine ⟨.slice (some ⟨w.heap.size, 0, none⟩) (0 + r.1) G, _, _, ?_, ?_, h1, h2.of_drew⟩
      · rw [run]; simp
      · have := VR.sliceU (σ := σ.put H.next (w.drew.heap.size, 0, G * i.size)) 0 0 r.1 G i.size (Ren.put_self _ _ _) (by omega) (.inr rfl) (Nat.le_refl _) (by omega) hszb
        simpa using this
  case h_2 b o n k =>
    rcases sel_eq_some h with ⟨hr0, h⟩ | ⟨hr0, h⟩
    · have hr0 := Nat.eq_of_beq_eq_true hr0
      obtain ⟨hnk, h⟩ := sel_none h
      obtain ⟨rfl, rfl⟩ := Prod.mk.inj (Option.some.inj h)
      have hnk := ble_le hnk
      have hn0 : new' = [] := List.length_eq_zero_iff.1 (by rw [hnl', hr0]; simp)
      have fin : ∀ (c p k' : Nat), n ≤ k' → VR σ (.slice (some ⟨b, o, none⟩) n k) (.slice (some ⟨c, p, none⟩) n k') → Gives P n0 σ w (Builtin.append_ #[t, u] ty #[.slice (some ⟨c, p, none⟩) n k', x']) (.slice (some ⟨b, o, none⟩) n k) H := by
        intro c p k' hk' hv
        have := run_appR (ty := ty) w he hd hni hi (base := some ⟨c, p, none⟩) (sLen := n) (sCap := k') hlen hfc0 (by omega) (w' := w) (fun a ha => by rw [hn0]; simp [storeCells]) (fun h => by cases h)
        exact Gives.pure hr (by rw [this, hr0]; rfl) hv
      generalize hkk : k = kk at hs
      cases hs with
      | @slice _ c d m _ _ _ hσ hk => subst hkk; exact fin c _ k hnk (.slice o n k hσ hk)
      | @sliceU _ c d m _ o' _ k' es hσ hk ho hdd hm hes => subst hkk; exact fin c o' k' hk (.sliceU o o' n k' es hσ hk ho hdd hm hes)
      | @sliceL _ c d m _ _ k' es lb hσ hk hl hm hes => subst hkk; rw [notL_L hes] at hnl; cases hnl
    · have hr0 := beq_false_ne hr0
      obtain ⟨y, hy, h⟩ := oc_eq_some h
      have hyb := blkCells_eq hy
      unfold appSome at h
      obtain ⟨old, hold, h⟩ := oc_eq_some h
      have holdl := (rdT_get _ _ _ _ hold).1
      have hfirst : ∀ {c d m o' k' : Nat}, σ b = some (c, d, m) → (n = 0 ∨ o' = d + o) → ∃ old', VRs σ old old' ∧ (∀ j v', old'[j]? = some v' → w.cell? ⟨c, o' + j, none⟩ = some v') ∧ ∀ k, (Builtin.firstCells i.size n (.slice (some ⟨c, o', none⟩) n k')).run P (World.at w k) = .ok ⟨old'⟩ (World.at w k) := by
        intro c d m o' k' hσ ho
        by_cases hn : n = 0
        · subst hn
          have hl0 : old = [] := List.length_eq_zero_iff.1 (by rw [holdl]; simp)
          subst hl0
          refine ⟨[], .nil, fun j v' hj => by simp at hj, fun k => ?_⟩
          rw [show Builtin.firstCells i.size 0 (.slice (some ⟨c, o', none⟩) 0 k') = loadCells ⟨c, o', none⟩ (0 * i.size) from rfl, Nat.zero_mul]; rfl
        · have ho := ho.resolve_left hn
          subst ho
          obtain ⟨l', h1, h2⟩ := hr.reads hyb hσ _ _ _ hold
          refine ⟨l', h1, fun j v' hj => ?_, fun k => ?_⟩
          · have := h2 j v' hj; rwa [Nat.add_assoc]
          · have hlen : n * i.size = l'.length := by rw [← h1.length, holdl]; rfl
            simp only [Builtin.firstCells]
            unfold loadCells
            rw [hlen, run_loadCellsFrom l' 0 #[] fun j v hv => ?_]
            · simp
            · have := h2 j v hv
              rw [show d + o + (0 + j) = d + (o + j) from by omega]
              exact this
      -- growth into a new block
      have grows : ∀ {σ₀ : Ren} {H₀ : AH} (hr₀ : HR n0 σ H₀ w) {c d m o' k' : Nat}, σ b = some (c, d, m) → (n = 0 ∨ o' = d + o) → k' < n + r.1 → fits (Nat.add n r.1) i.bytes = true →
          ∃ v' σ' w', (Builtin.append_ #[t, u] ty #[.slice (some ⟨c, o', none⟩) n k', x']).run P w = .ok v' w' ∧ VR σ' (.slice (some ⟨H₀.next, 0, none⟩) (Nat.add n r.1) (Nat.add big i.size)) v' ∧ HR n0 σ' (H₀.push (.cells (layT (old ++ r.2)) e)) w' ∧ Step n0 σ w H₀.low σ' w' := by
        intro σ₀ H₀ hr₀ c d m o' k' hσ ho hk' hf
        simp only [fits, Bool.and_eq_true] at hf
        have f1 : (n + r.1) * i.bytes ≤ 140737488355328 := ble_le hf.1
        have f2 : n + r.1 ≤ 9223372036854775807 := ble_le hf.2
        obtain ⟨old', hov, _, hof⟩ := hfirst (k' := k') hσ ho
        have run := run_appG (ty := ty) w he hd hni hi hiz (base := some ⟨c, o', none⟩) (sLen := n) (sCap := k') hlen hfc hof hk' f2 (growslice_fits hk' f1)
        have hg := grownCap_ge w (n + r.1) k' e
        generalize hG : grownCap w (n + r.1) k' e = G at run hg
        have hzs : (Builtin.zeroCells zv.cells (G - (n + r.1))).size = (G - (n + r.1)) * i.size := by simp [Builtin.zeroCells, hzc, hzl]
        have hol' : old'.length = n * i.size := by rw [← hov.length, holdl]; rfl
        have hm : (old' ++ new').length + (Builtin.zeroCells zv.cells (G - (n + r.1))).size = G * i.size := by
          rw [hzs, List.length_append, hol', hnl', ← Nat.add_mul, ← Nat.add_mul]; congr 1; omega
        obtain ⟨h1, h2⟩ := newGrown hr₀.drew (hov.append hnew) e (Builtin.zeroCells zv.cells (G - (n + r.1))) _ hm.symm
        refine ⟨.slice (some ⟨w.heap.size, 0, none⟩) (n + r.1) G, _, _, ?_, ?_, h1, h2.of_drew⟩
        · rw [run]; simp
        · have := VR.sliceU (σ := σ.put H₀.next (w.drew.heap.size, 0, G * i.size)) 0 0 (n + r.1) G i.size (Ren.put_self _ _ _) hg (.inr rfl) (Nat.le_refl _) (by omega) hszb
          simpa using this
      rcases sel_eq_some h with ⟨hkb, h⟩ | ⟨hkb, h⟩
      · have hkb := blt_lt hkb
        generalize hkk : k = kk at hs
        cases hs with
        | @sliceU _ c d m _ o' _ k' es hσ hk ho hdd hm => subst hkk; omega
        | @sliceL _ c d m _ _ k' es lb hσ hk hl hm hes => subst hkk; rw [notL_L hes] at hnl; cases hnl
        | @slice _ c d m _ _ _ hσ hk =>
          subst hkk
          rcases sel_eq_some h with ⟨hroom, h⟩ | ⟨hroom, h⟩
          · have hroom : n + r.1 ≤ k := ble_le hroom
            obtain ⟨H₁, hst, h⟩ := oc_eq_some h
            obtain ⟨rfl, rfl⟩ := Prod.mk.inj (Option.some.inj h)
            obtain ⟨σ', w', q1, q2, q3⟩ := storeB_ok (P := P) hr hst hnew hσ (o' := d + o + n * i.size) (i := 0) (by show d + o + n * i.size + 0 = d + (o + n * i.size); omega)
            have run := run_appR (ty := ty) w he hd hni hi (base := some ⟨c, d + o, none⟩) (sLen := n) (sCap := k) hlen hfc0 hroom (w' := w') (fun a ha => by
              obtain rfl := Option.some.inj ha
              rw [add_plain]; exact q1) (fun h => by cases h)
            exact ⟨_, σ', w', run, VR.slice o (n + r.1) k (q3.ext _ _ hσ) hk, q2, q3⟩
          · obtain ⟨hf, h⟩ := sel_none h
            obtain ⟨rfl, rfl⟩ := Prod.mk.inj (Option.some.inj h)
            have hroom : k < n + r.1 := by
              rcases Nat.lt_or_ge k (n + r.1) with h | h
              · exact h
              · have : Nat.ble (Nat.add n r.1) k = true := Nat.ble_eq_true_of_le h
                rw [this] at hroom; cases hroom
            exact grows (σ₀ := σ) hr hσ (.inr rfl) hroom hf
      · obtain ⟨hc, h⟩ := sel_none h
        obtain ⟨rfl, rfl⟩ := Prod.mk.inj (Option.some.inj h)
        simp only [Bool.and_eq_true] at hc
        obtain ⟨⟨⟨⟨hc1, hc2⟩, hc3⟩, hc4⟩, hc5⟩ := hc
        have hc1 := Nat.eq_of_beq_eq_true hc1
        have hc2 := Nat.eq_of_beq_eq_true hc2
        generalize hkk : k = kk at hs
        cases hs with
        | @slice _ c d m _ _ _ hσ hk => subst hkk; rw [hc1] at hk; exact absurd hk (Nat.not_lt.2 (Nat.le_add_right _ _))
        | @sliceL _ c d m _ _ k' es lb hσ hk hl hm hes => subst hkk; rw [notL_L hes] at hnl; cases hnl
        | @sliceU _ c d m _ o' _ k' es hσ hk ho hdd hm hes =>
          obtain rfl : es = i.size := (by have q : Nat.add big i.size = big + i.size := rfl; omega)
          by_cases hroom : n + r.1 ≤ k'
          · obtain ⟨old', hov, hoc, hof⟩ := hfirst (k' := k') hσ ho
            obtain ⟨hcn, C, q1, q2, q3⟩ := hr.block hyb hσ
            have e1 : (n + r.1) * i.size ≤ k' * i.size := Nat.mul_le_mul_right _ hroom
            have e2 : (n + r.1) * i.size = n * i.size + r.1 * i.size := Nat.add_mul _ _ _
            have hol' : old'.length = n * i.size := by rw [← hov.length, holdl]; rfl
            obtain ⟨w', C', s1, s2, s3, s4, s5, s6, s7⟩ := run_stores_raw (P := P) (c := c) (p := o' + n * i.size) new' 0 w C q1 (isCells_of hnew hc4) (by omega)
            have run := run_appR (ty := ty) w he hd hni hi (base := some ⟨c, o', none⟩) (sLen := n) (sCap := k') hlen hfc0 hroom (w' := w') (fun a ha => by
              obtain rfl := Option.some.inj ha
              rw [add_plain]; exact s1) (fun h => by cases h)
            have hin : ∀ j v', (old' ++ new')[j]? = some v' → C'[o' + j]? = some v' := stored_all q1 s4 hoc (by omega) (by omega)
            obtain ⟨g1, g2⟩ := hr.growIn (b := b) hyb hσ (o' := o') (hov.append hnew) (w' := w') (C' := C') s2 (by rw [s3, q2]) hin s5 s6 (s7 n0.n.n hcn.1)
            rw [hc2] at g1
            exact ⟨_, _, w', run, grown_vr hσ hroom hm hszb, g1, g2⟩
          · obtain ⟨v', σ', w', p1, p2, p3, p4⟩ := grows (σ₀ := σ) (hr.kill b H.low) (k' := k') hσ ho (Nat.lt_of_not_le hroom) hc3
            exact ⟨v', σ', w', p1, p2, HR.growOut hr b p3, p4.lower (Nat.min_le_left _ _)⟩

theorem append_ok {P : Program} {n0 : Bs} {σ : Ren} {H H' : AH} {w : World} (hr : HR n0 σ H w) {t u ty : TypeId} {s s' x x' v : Value} (h : opAppend2 P t u s x H = some (v, H')) (hs : VR σ s s') (hx : VR σ x x') :
    Gives P n0 σ w (Builtin.append_ #[t, u] ty #[s', x']) v H' := by
  obtain ⟨e, he, h⟩ := oc_eq_some h
  obtain ⟨d, hd, h⟩ := oc_eq_some h
  obtain ⟨z, hz, h⟩ := oc_eq_some h
  obtain ⟨sz, hsz, h⟩ := oc_eq_some h
  obtain ⟨bs, hbs, h⟩ := oc_eq_some h
  obtain ⟨hb, h⟩ := sel_none h
  obtain ⟨r, hsrc, h⟩ := oc_eq_some h
  simp only [Bool.and_eq_true] at hb
  have hni := notInt_ne hb.1.1
  have hzl := Nat.eq_of_beq_eq_true hb.1.2
  have hszb := blt_lt hb.2
  have he := elemB_eq he
  obtain ⟨i, zv, hi, hiz, hzc, hzf⟩ := zeroB_info hz
  obtain rfl : i.size = sz := by
    obtain ⟨i', hi', q⟩ := oc_eq_some hsz
    rw [hi] at hi'
    obtain rfl := Option.some.inj hi'
    exact Option.some.inj q
  obtain rfl : i.bytes = bs := by
    obtain ⟨i', hi', q⟩ := oc_eq_some hbs
    rw [hi] at hi'
    obtain rfl := Option.some.inj hi'
    exact Option.some.inj q
  obtain ⟨new', hnew, hnl, hlen, hfc⟩ := srcB_ok (P := P) hr hsrc hx
  have hlen := hlen w
  have hfc0 : (Builtin.firstCells i.size r.1 x').run P w = .ok ⟨new'⟩ w := hfc w.drawn
  have hnl' : new'.length = r.1 * i.size := by rw [← hnew.length]; exact hnl
  unfold appTop at h
  cases hro : roomL i.size r s with
  | none => rw [hro] at h; exact appGo_ok hr he hd hni hi hiz hzc hzl hnew hnl' hlen hfc hfc0 (weakL_vr hs) (weakL_not s) hszb h
  | some p =>
    rw [hro] at h
    obtain ⟨a, ha, hro⟩ := oc_eq_some hro
    obtain ⟨q, hq, hro⟩ := oc_eq_some hro
    obtain ⟨hb, hro⟩ := sel_none hro
    obtain rfl := Option.some.inj hro
    simp only [Bool.and_eq_true] at hb
    have hroom : a.2.2.1 + r.1 ≤ q.2 := ble_le hb.1
    rw [sliceOf_eq ha] at hs
    obtain ⟨c, d', m, k', rfl, h1, h2, h3, h4, h5⟩ := capL_vr hq hs
    obtain ⟨H₁, hst, h⟩ := oc_eq_some h
    obtain ⟨rfl, rfl⟩ := Prod.mk.inj (Option.some.inj h)
    obtain ⟨σ', w', q1, q2, q3⟩ := storeB_ok (P := P) hr hst hnew h1 (o' := d' + a.2.1 + a.2.2.1 * i.size) (i := 0) (by show d' + a.2.1 + a.2.2.1 * i.size + 0 = d' + (a.2.1 + a.2.2.1 * i.size); omega)
    have run := run_appR (ty := ty) w he hd hni hi (base := some ⟨c, d' + a.2.1, none⟩) (sLen := a.2.2.1) (sCap := k') hlen hfc0 (by omega) (w' := w') (fun x hx => by
      obtain rfl := Option.some.inj hx
      rw [add_plain]; exact q1) (fun h => by cases h)
    exact ⟨_, σ', w', run, VR.sliceL a.2.1 (a.2.2.1 + r.1) k' q.1 q.2 (q3.ext _ _ h1) (by omega) h3 h4 h5, q2, q3⟩

end Go.Proofs.Ythomkiindjhdmaa.Ax
