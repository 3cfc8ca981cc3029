/-
  Slicing. Own work, plain lemmas.
-/
import Derived.Test.YthomkiindjhdmaaAxH
set_option linter.unusedSimpArgs false
set_option linter.unusedVariables false
set_option linter.unnecessarySimpa false
set_option linter.deprecated false
set_option linter.unusedSectionVars false
namespace Go.Proofs.Ythomkiindjhdmaa.Ax
open Go.RowKit
variable [Tabs]

theorem beq_false_ne {a b : Nat} (h : Nat.beq a b = false) : a ≠ b := fun e => by subst e; rw [Nat.beq_refl] at h; cases h
theorem ble_le {a b : Nat} (h : Nat.ble a b = true) : a ≤ b := Nat.le_of_ble_eq_true h
theorem blt_lt {a b : Nat} (h : Nat.blt a b = true) : a < b := by simpa [Nat.blt_eq] using h
theorem sel_beq {α : Type} (a b : Nat) (x y : α) : sel (Nat.beq a b) x y = if a = b then x else y := by
  by_cases h : a = b
  · subst h; rw [Nat.beq_refl, if_pos rfl]; rfl
  · cases hq : Nat.beq a b
    · rw [if_neg h]; rfl
    · exact absurd (Nat.eq_of_beq_eq_true hq) h

theorem big_pos : 0 < big := by decide
theorem bigL_div {es lb : Nat} (h : es < big) : bigL es lb / big = lb + 2 := by
  show (big * (lb + 2) + es) / big = _
  rw [Nat.mul_add_div big_pos, Nat.div_eq_of_lt h]
theorem bigL_mod {es lb : Nat} (h : es < big) : bigL es lb % big = es := by
  show (big * (lb + 2) + es) % big = _
  rw [Nat.mul_add_mod, Nat.mod_eq_of_lt h]
def notL (v : Value) : Bool :=
  match v with
  | .slice (some _) _ k => Nat.ble (Nat.div k big) 1
  | _ => true
theorem notL_L {a : Addr} {n es lb : Nat} (h : es < big) : notL (.slice (some a) n (bigL es lb)) = false := by
  show Nat.ble (bigL es lb / big) 1 = false
  rw [bigL_div h]; rfl
noncomputable def weakL (v : Value) : Value :=
  match v with
  | .slice (some a) n k => sel (Nat.ble (Nat.div k big) 1) v (.slice (some a) n (Nat.add big (Nat.mod k big)))
  | _ => v
theorem weakL_not (v : Value) : notL (weakL v) = true := by
  unfold weakL
  split
  · rename_i a n k
    cases h : Nat.ble (Nat.div k big) 1 with
    | true => exact h
    | false =>
      show Nat.ble ((big + k % big) / big) 1 = true
      rw [Nat.add_div_left _ big_pos, Nat.div_eq_of_lt (Nat.mod_lt _ big_pos)]; rfl
  · rename_i h
    unfold notL
    split
    · rename_i a n k; exact absurd rfl (h a n k)
    · rfl
theorem weakL_vr {σ : Ren} {v v' : Value} (hv : VR σ v v') : VR σ (weakL v) v' := by
  unfold weakL
  split
  · rename_i a n k
    cases h : Nat.ble (Nat.div k big) 1 with
    | true => exact hv
    | false =>
      show VR σ (.slice (some a) n (big + k % big)) v'
      generalize hk : k = kk at hv
      cases hv with
      | slice o _ _ hs hkb => subst hk; rw [show Nat.div k big = k / big from rfl, Nat.div_eq_of_lt hkb] at h; cases h
      | sliceU o o' _ k' es hs hk1 ho hd hm he =>
        subst hk
        refine .sliceU o o' n k' _ hs hk1 ho hd (Nat.le_trans (Nat.add_le_add_left (Nat.mul_le_mul_left k' ?_) _) hm) (Nat.mod_lt _ big_pos)
        rw [Nat.add_mod_left]; exact Nat.mod_le _ _
      | sliceL o _ k' es lb hs hk1 hl hm he => subst hk; rw [bigL_mod he]; exact .sliceU o _ n k' es hs hk1 (.inr rfl) (Nat.le_add_right _ _) hm he
  · exact hv
noncomputable def opSliceSome (P : Program) (t : TypeId) (x : Value) (lo hi mx : Option Value) (H : AH) : VRes :=
  oc (sliceOf x) none fun a => oc (elemB P t) none fun e => oc (sizeB P e) none fun s => oc (slGo a.1 a.2.1 a.2.2.1 a.2.2.2 s lo hi mx) none fun v => some (v, H)
theorem run_slice_some {P : Program} {w : World} {t e : TypeId} (hu : P.underlying t = some (.slice e)) {s : Nat} (hs : sizeB P e = some s) {c o' n k' l h m : Nat} {lo hi mx : Option Value} (hb : (Instr.sliceBounds true n k' lo hi mx).run P w = .ok (l, h, m) w) :
    (Instr.sliceAt t (.slice (some ⟨c, o', none⟩) n k') lo hi mx).run P w = .ok (.slice (some ⟨c, if m = l then o' else o' + l * s, none⟩) (h - l) (m - l)) w := by
  by_cases hm : m = l
  · subst hm
    simp [Instr.sliceAt, Instr.slice, run_underlying hu, Sem.run_bind, hb, run_sizeB hs]
  · simp [Instr.sliceAt, Instr.slice, run_underlying hu, Sem.run_bind, hb, run_sizeB hs, hm, add_plain]
theorem sliceSome_ok {P : Program} {n0 : Bs} {σ : Ren} {H H' : AH} {w : World} (hr : HR n0 σ H w) {t : TypeId} {x x' v : Value} {lo lo' hi hi' mx mx' : Option Value} (h : opSliceSome P t x lo hi mx H = some (v, H')) (hx : VR σ x x') (hlo : OR σ lo lo') (hhi : OR σ hi hi') (hmx : OR σ mx mx') (hnl : notL x = true) :
    GivesP P n0 σ w H (Instr.sliceAt t x' lo' hi' mx') v H' := by
  obtain ⟨a, ha, h⟩ := oc_eq_some h
  obtain ⟨e, he, h⟩ := oc_eq_some h
  obtain ⟨s, hs, h⟩ := oc_eq_some h
  obtain ⟨u, hu, h⟩ := oc_eq_some h
  obtain ⟨rfl, rfl⟩ := Prod.mk.inj (Option.some.inj h)
  clear h
  have he := elemB_eq he
  obtain ⟨b, o, n, k⟩ := a
  rw [sliceOf_eq ha] at hx hnl
  simp only at hu hx hnl
  unfold slGo at hu
  generalize hkk : k = kk at hx
  cases hx with
  | @sliceL _ c d m _ _ k' es lb hσ hk hl hm hes => subst hkk; rw [notL_L hes] at hnl; cases hnl
  | @slice _ c d m _ _ _ hσ hk =>
    subst hkk
    have hkb : Nat.blt k big = true := by simpa [Nat.blt_eq] using hk
    cases hmx with
    | none =>
      simp only [oc_none, hkb, sel_true, slK] at hu
      obtain ⟨l, hl, hu⟩ := oc_eq_some hu
      obtain ⟨hh, hhe, hu⟩ := oc_eq_some hu
      obtain ⟨hb, hu⟩ := sel_none hu
      obtain rfl := Option.some.inj hu
      simp only [Bool.and_eq_true] at hb
      have b1 := ble_le hb.1
      have b2 := ble_le hb.2
      refine GivesP.pure hr (run_slice_some he hs (run_bounds2 w true hl hhe hlo hhi b1 b2)) ?_
      rw [sel_beq]
      have := VR.slice (σ := σ) (if k = l then o else o + l * s) (hh - l) (k - l) hσ (by omega)
      by_cases hkl : k = l
      · simpa [hkl] using this
      · simpa [hkl, Nat.add_assoc] using this
    | @some mm mm' hmm =>
      cases hhi with
      | none => simp at hu
      | @some hv hv' hhv =>
        simp only [oc_some, hkb, sel_true, sl3] at hu
        obtain ⟨l, hl, hu⟩ := oc_eq_some hu
        obtain ⟨hh, hhe, hu⟩ := oc_eq_some hu
        obtain ⟨m3, hm3, hu⟩ := oc_eq_some hu
        obtain ⟨hb, hu⟩ := sel_none hu
        obtain rfl := Option.some.inj hu
        simp only [Bool.and_eq_true] at hb
        have b1 := ble_le hb.1.1.1
        have b2 := ble_le hb.1.1.2
        have b3 := ble_le hb.1.2
        refine GivesP.pure hr (run_slice_some he hs (run_bounds3 w true hl hhe hm3 hlo hhv hmm b1 b2 b3)) ?_
        rw [sel_beq]
        have := VR.slice (σ := σ) (if m3 = l then o else o + l * s) (hh - l) (m3 - l) hσ (by omega)
        by_cases hkl : m3 = l
        · simpa [hkl] using this
        · simpa [hkl, Nat.add_assoc] using this
  | @sliceU _ c d m _ o' _ k' es hσ hk ho hd hm hebig =>
    subst hkk
    have hkb : Nat.blt (big + es) big = false := by
      cases hq : Nat.blt (big + es) big
      · rfl
      · have := blt_lt hq; omega
    have low : ∀ {l h : Nat}, l ≤ h → h ≤ n → es = s → VR σ (.slice (some ⟨b, o + l * s, none⟩) (h - l) (big + s)) (.slice (some ⟨c, if k' = l then o' else o' + l * s, none⟩) (h - l) (k' - l)) := by
      rintro l hh b1 b2 rfl
      have e1 : l * es + (k' - l) * es = k' * es := by rw [← Nat.add_mul]; congr 1; omega
      refine VR.sliceU (o + l * es) _ (hh - l) (k' - l) es hσ (by omega) ?_ ?_ ?_ hebig
      · by_cases hz : hh - l = 0
        · exact .inl hz
        · refine .inr ?_
          have : o' = d + o := ho.resolve_left (by omega)
          rw [if_neg (by omega), this]; omega
      · split <;> omega
      · split
        · rename_i e; subst e; simp; omega
        · omega
    cases hmx with
    | none =>
      simp only [oc_none, hkb, sel_false] at hu
      obtain ⟨hes, hu⟩ := sel_none hu
      have hes : es = s := by have := Nat.eq_of_beq_eq_true hes; simp at this; omega
      unfold slU at hu
      obtain ⟨l, hl, hu⟩ := oc_eq_some hu
      obtain ⟨hh, hhe, hu⟩ := oc_eq_some hu
      obtain ⟨hb, hu⟩ := sel_none hu
      obtain rfl := Option.some.inj hu
      simp only [Bool.and_eq_true] at hb
      have b1 := ble_le hb.1
      have b2 := ble_le hb.2
      exact GivesP.pure hr (run_slice_some he hs (run_bounds2 w true hl hhe hlo hhi b1 (by omega))) (low b1 b2 hes)
    | @some mm mm' hmm =>
      cases hhi with
      | none => simp at hu
      | @some hv hv' hhv =>
        simp only [oc_some, hkb, sel_false] at hu
        obtain ⟨hes, hu⟩ := sel_none hu
        have hes : es = s := by have := Nat.eq_of_beq_eq_true hes; simp at this; omega
        rcases sel_eq_some hu with ⟨hz, hu⟩ | ⟨hz, hu⟩
        · have hz := Nat.eq_of_beq_eq_true hz
          obtain ⟨m3, hm3, hu⟩ := oc_eq_some hu
          obtain ⟨hm0, hu⟩ := sel_none hu
          have hm0 := Nat.eq_of_beq_eq_true hm0
          unfold slU at hu
          obtain ⟨l, hl, hu⟩ := oc_eq_some hu
          obtain ⟨hh, hhe, hu⟩ := oc_eq_some hu
          obtain ⟨hb, hu⟩ := sel_none hu
          obtain rfl := Option.some.inj hu
          simp only [Bool.and_eq_true] at hb
          have b1 := ble_le hb.1
          have b2 := ble_le hb.2
          refine GivesP.pure hr (run_slice_some he hs (run_bounds3 w true hl hhe hm3 hlo hhv hmm b1 (by omega) (by omega))) ?_
          have hl0 : l = 0 := by omega
          have hh0 : hh = 0 := by omega
          subst hl0 hh0 hm0 hes
          simpa using VR.sliceU o o' 0 0 es hσ (Nat.le_refl _) (.inl rfl) hd (by omega) hebig
        · have hz := beq_false_ne hz
          have hoo : o' = d + o := ho.resolve_left hz
          subst hoo
          unfold sl3 at hu
          obtain ⟨l, hl, hu⟩ := oc_eq_some hu
          obtain ⟨hh, hhe, hu⟩ := oc_eq_some hu
          obtain ⟨m3, hm3, hu⟩ := oc_eq_some hu
          obtain ⟨hb, hu⟩ := sel_none hu
          obtain rfl := Option.some.inj hu
          simp only [Bool.and_eq_true] at hb
          have b1 := ble_le hb.1.1.1
          have b2 := ble_le hb.1.1.2
          have b3 := ble_le hb.1.2
          have b4 := blt_lt hb.2
          refine GivesP.pure hr (run_slice_some he hs (run_bounds3 w true hl hhe hm3 hlo hhv hmm b1 b2 (by omega))) ?_
          rw [sel_beq]
          have := VR.slice (σ := σ) (if m3 = l then o else o + l * s) (hh - l) (m3 - l) hσ (by omega)
          by_cases hkl : m3 = l
          · simpa [hkl] using this
          · simpa [hkl, Nat.add_assoc] using this

noncomputable def opSliceArr (P : Program) (t : TypeId) (x : Value) (lo hi : Option Value) (H : AH) : VRes :=
  oc (addrOf x) none fun a => oc (arrB P t) none fun r => oc (sizeB P r.2) none fun s => sel (Nat.blt r.1 big) (oc (slK a.1 a.2 r.1 r.1 s lo hi) none fun v => some (v, H)) none
theorem sliceArr_ok {P : Program} {n0 : Bs} {σ : Ren} {H H' : AH} {w : World} (hr : HR n0 σ H w) {t : TypeId} {x x' v : Value} {lo lo' hi hi' : Option Value} (h : opSliceArr P t x lo hi H = some (v, H')) (hx : VR σ x x') (hlo : OR σ lo lo') (hhi : OR σ hi hi') :
    GivesP P n0 σ w H (Instr.sliceAt t x' lo' hi' none) v H' := by
  obtain ⟨a, ha, h⟩ := oc_eq_some h
  obtain ⟨r, hu, h⟩ := oc_eq_some h
  obtain ⟨s, hs, h⟩ := oc_eq_some h
  obtain ⟨hbg, h⟩ := sel_none h
  obtain ⟨u, hk, h⟩ := oc_eq_some h
  obtain ⟨rfl, rfl⟩ := Prod.mk.inj (Option.some.inj h)
  obtain ⟨c, d, m, hσ, rfl⟩ := addrOf_vr ha hx
  have hu := arrB_eq hu
  have hbg := blt_lt hbg
  unfold slK at hk
  obtain ⟨l, hl, hk⟩ := oc_eq_some hk
  obtain ⟨hh, hhe, hk⟩ := oc_eq_some hk
  obtain ⟨hb, hk⟩ := sel_none hk
  obtain rfl := Option.some.inj hk
  simp only [Bool.and_eq_true] at hb
  have b1 := ble_le hb.1
  have b2 := ble_le hb.2
  have hb := run_bounds2 (P := P) w false hl hhe hlo hhi b1 b2
  refine GivesP.pure (v' := .slice (some ⟨c, d + (if r.1 = l then a.2 else a.2 + l * s), none⟩) (hh - l) (r.1 - l)) hr ?_ ?_
  · by_cases hm : r.1 = l
    · simp [Instr.sliceAt, run_underlying hu, Instr.sureAddr, Sem.run_bind, hb, run_sizeB hs, hm]
      rw [hm] at hb
      simp [hb]
    · simp [Instr.sliceAt, run_underlying hu, Instr.sureAddr, Sem.run_bind, hb, run_sizeB hs, hm, add_plain, Nat.add_assoc]
  · rw [sel_beq]
    exact VR.slice _ (hh - l) (r.1 - l) hσ (by omega)

def flatO (v : Option Value) : Bool :=
  match v with
  | none => true
  | some v => flat v
theorem flatO_same {σ : Ren} {v v' : Option Value} (h : flatO v = true) (hv : OR σ v v') : v' = v := by
  cases hv with
  | none => rfl
  | some hv => rw [flat_same h hv]
def isNone (v : Option Value) : Bool :=
  match v with
  | none => true
  | some _ => false
/-- what is known of the capacity of such a slice: the size of an element, and the least it may be -/
noncomputable def capL (n k : Nat) : Option (Nat × Nat) := sel (Nat.beq (Nat.div k big) 0) none (sel (Nat.beq (Nat.div k big) 1) (sel (Nat.blt 0 n) (some (Nat.mod k big, n)) none) (some (Nat.mod k big, Nat.sub (Nat.div k big) 2)))
theorem capL_vr {σ : Ren} {b o n k : Nat} {q : Nat × Nat} {v' : Value} (h : capL n k = some q) (hv : VR σ (.slice (some ⟨b, o, none⟩) n k) v') : ∃ c d m k', v' = .slice (some ⟨c, d + o, none⟩) n k' ∧ σ b = some (c, d, m) ∧ n ≤ k' ∧ q.2 ≤ k' ∧ d + o + k' * q.1 ≤ m ∧ q.1 < big := by
  unfold capL at h
  rcases sel_eq_some h with ⟨_, h⟩ | ⟨h0, h⟩
  · cases h
  have h0 := beq_false_ne h0
  generalize hk : k = kk at hv
  rcases sel_eq_some h with ⟨h1, h⟩ | ⟨h1, h⟩
  · have h1 := Nat.eq_of_beq_eq_true h1
    obtain ⟨hn, h⟩ := sel_none h
    obtain rfl := Option.some.inj h
    have hn := blt_lt hn
    cases hv with
    | slice _ _ _ hs hkb => subst hk; exact absurd (Nat.div_eq_of_lt hkb) h0
    | @sliceU _ c d m _ o' _ k' es hs hk1 ho hd hm =>
      subst hk
      obtain rfl := ho.resolve_left (by omega)
      refine ⟨c, d, m, k', rfl, hs, hk1, hk1, Nat.le_trans (Nat.add_le_add_left (Nat.mul_le_mul_left k' ?_) _) hm, Nat.mod_lt _ big_pos⟩
      show (big + es) % big ≤ es
      rw [Nat.add_mod_left]; exact Nat.mod_le _ _
    | @sliceL _ c d m _ _ k' es lb hs hk1 hl hm he =>
      subst hk
      have : bigL es lb / big = 1 := h1
      rw [bigL_div he] at this; omega
  · have h1 := beq_false_ne h1
    obtain rfl := Option.some.inj h
    cases hv with
    | slice _ _ _ hs hkb => subst hk; exact absurd (Nat.div_eq_of_lt hkb) h0
    | @sliceU _ c d m _ o' _ k' es hs hk1 ho hd hm he =>
      subst hk
      refine absurd ?_ h1
      show (big + es) / big = 1
      rw [Nat.add_div_left _ big_pos, Nat.div_eq_of_lt he]
    | @sliceL _ c d m _ _ k' es lb hs hk1 hl hm he =>
      subst hk
      refine ⟨c, d, m, k', rfl, hs, hk1, ?_, ?_, Nat.mod_lt _ big_pos⟩
      · show bigL es lb / big - 2 ≤ k'
        rw [bigL_div he]; omega
      · show d + o + k' * (bigL es lb % big) ≤ m
        rw [bigL_mod he]; exact hm
/-- it is made shorter, and of its capacity something is known -/
noncomputable def lowL (x : Value) (hi : Option Value) : Bool := oc (sliceOf x) false fun a => oc (capL a.2.2.1 a.2.2.2) false fun _ => oc hi false fun h => oc (natOf h) false fun m => Nat.blt m a.2.2.1
/-- x[:h] of such a slice, h at most its length -/
noncomputable def opSliceLow (P : Program) (t : TypeId) (x : Value) (hi : Option Value) (H : AH) : VRes :=
  oc (sliceOf x) none fun a => oc (capL a.2.2.1 a.2.2.2) none fun q => oc (elemB P t) none fun e => oc (sizeB P e) none fun s => oc (bnd hi a.2.2.1) none fun h => sel (Nat.ble h a.2.2.1) (some (.slice (some ⟨a.1, a.2.1, none⟩) h (bigL q.1 q.2), H)) none
theorem sliceLow_ok {P : Program} {n0 : Bs} {σ : Ren} {H H' : AH} {w : World} (hr : HR n0 σ H w) {t : TypeId} {x x' v : Value} {hi hi' : Option Value} (h : opSliceLow P t x hi H = some (v, H')) (hx : VR σ x x') (hhi : OR σ hi hi') : GivesP P n0 σ w H (Instr.sliceAt t x' none hi' none) v H' := by
  obtain ⟨a, ha, h⟩ := oc_eq_some h
  obtain ⟨q, hq, h⟩ := oc_eq_some h
  obtain ⟨e, he, h⟩ := oc_eq_some h
  obtain ⟨s, hs, h⟩ := oc_eq_some h
  obtain ⟨hh, hhe, h⟩ := oc_eq_some h
  obtain ⟨hb, h⟩ := sel_none h
  obtain ⟨rfl, rfl⟩ := Prod.mk.inj (Option.some.inj h)
  clear h
  have hb := ble_le hb
  rw [sliceOf_eq ha] at hx
  obtain ⟨c, d, m, k', rfl, h1, h2, h3, h4, h5⟩ := capL_vr hq hx
  refine GivesP.pure hr (run_slice_some (elemB_eq he) hs (run_bounds2 w true (lo := none) (lo' := none) (σ := σ) (l := 0) rfl hhe .none hhi (Nat.zero_le _) (Nat.le_trans hb h2))) ?_
  have := VR.sliceL a.2.1 hh k' q.1 q.2 h1 (by omega) h3 h4 h5
  simpa using this
noncomputable def opSlice (P : Program) (t : TypeId) (x : Value) (lo hi mx : Option Value) (H : AH) : VRes :=
  sel (flat x && flatO lo && flatO hi && flatO mx) (opPure P (Instr.sliceAt t x lo hi mx) H) (sel (isAddr x && isNone mx) (opSliceArr P t x lo hi H) (sel (isNone lo && isNone mx && lowL x hi) (opSliceLow P t x hi H) (opSliceSome P t (weakL x) lo hi mx H)))
theorem slice_ok {P : Program} {n0 : Bs} {σ : Ren} {H H' : AH} {w : World} (hr : HR n0 σ H w) {t : TypeId} {x x' v : Value} {lo lo' hi hi' mx mx' : Option Value} (h : opSlice P t x lo hi mx H = some (v, H')) (hx : VR σ x x') (hlo : OR σ lo lo') (hhi : OR σ hi hi') (hmx : OR σ mx mx') :
    GivesP P n0 σ w H (Instr.sliceAt t x' lo' hi' mx') v H' := by
  rcases sel_eq_some h with ⟨hf, h⟩ | ⟨_, h⟩
  · simp only [Bool.and_eq_true] at hf
    rw [flat_same hf.1.1.1 hx, flatO_same hf.1.1.2 hlo, flatO_same hf.1.2 hhi, flatO_same hf.2 hmx]
    exact opPure_ok hr h
  · rcases sel_eq_some h with ⟨hf, h2⟩ | ⟨_, h⟩
    · simp only [Bool.and_eq_true] at hf
      cases hmx with
      | none => exact sliceArr_ok hr h2 hx hlo hhi
      | some hv => exact absurd hf.2 Bool.false_ne_true
    · rcases sel_eq_some h with ⟨hf, hlow⟩ | ⟨_, h⟩
      · simp only [Bool.and_eq_true] at hf
        cases hlo with
        | some _ => exact absurd hf.1.1 Bool.false_ne_true
        | none =>
          cases hmx with
          | some _ => exact absurd hf.1.2 Bool.false_ne_true
          | none => exact sliceLow_ok hr hlow hx hhi
      · exact sliceSome_ok hr h (weakL_vr hx) hlo hhi hmx (weakL_not x)

end Go.Proofs.Ythomkiindjhdmaa.Ax
