/-
  len, cap, copy, min, max; fields and elements of values. Own work, plain lemmas.
-/
import Derived.Test.YthomkiindjhdmaaAxK
set_option linter.unusedSimpArgs false
set_option linter.unusedVariables false
set_option linter.unnecessarySimpa false
set_option linter.deprecated false
set_option linter.unusedSectionVars false
namespace Go.Proofs.Ythomkiindjhdmaa.Ax
open Go.RowKit
variable [Tabs]

def lenOfV (v : Value) : Option (Nat × Nat) :=
  match v with
  | .slice _ n k => some (n, k)
  | _ => none
noncomputable def opLen (P : Program) (t : TypeId) (x : Value) (H : AH) : VRes := oc (lenOfV x) none fun n => oc (elemB P t) none fun _ => some (.int .i64 (n.1 : Nat), H)
theorem len_ok {P : Program} {n0 : Bs} {σ : Ren} {H H' : AH} {w : World} (hr : HR n0 σ H w) {t ty : TypeId} {ts : Array TypeId} (hts : ts[0]? = some t) {x x' v : Value} (h : opLen P t x H = some (v, H')) (hx : VR σ x x') : GivesP P n0 σ w H (Builtin.len_ ts ty #[x']) v H' := by
  obtain ⟨n, hn, h⟩ := oc_eq_some h
  obtain ⟨e, he, h⟩ := oc_eq_some h
  obtain ⟨rfl, rfl⟩ := Prod.mk.inj (Option.some.inj h)
  have he := elemB_eq he
  unfold lenOfV at hn
  split at hn
  · obtain rfl := Option.some.inj hn
    refine GivesP.pure hr ?_ (.int _ _)
    cases hx <;> simp [Builtin.len_, hts, run_underlying he, goInt]
  · cases hn
noncomputable def opCap (P : Program) (t : TypeId) (x : Value) (H : AH) : VRes := oc (lenOfV x) none fun n => oc (elemB P t) none fun _ => sel (Nat.blt n.2 big) (some (.int .i64 (n.2 : Nat), H)) none
theorem cap_ok {P : Program} {n0 : Bs} {σ : Ren} {H H' : AH} {w : World} (hr : HR n0 σ H w) {t ty : TypeId} {ts : Array TypeId} (hts : ts[0]? = some t) {x x' v : Value} (h : opCap P t x H = some (v, H')) (hx : VR σ x x') : GivesP P n0 σ w H (Builtin.cap_ ts ty #[x']) v H' := by
  obtain ⟨n, hn, h⟩ := oc_eq_some h
  obtain ⟨e, he, h⟩ := oc_eq_some h
  obtain ⟨hb, h⟩ := sel_none h
  obtain ⟨rfl, rfl⟩ := Prod.mk.inj (Option.some.inj h)
  have he := elemB_eq he
  have hb := blt_lt hb
  unfold lenOfV at hn
  split at hn
  · obtain rfl := Option.some.inj hn
    refine GivesP.pure hr ?_ (.int _ _)
    rename_i a n k
    simp only at hb
    generalize hkk : k = kk at hx
    cases hx with
    | slice0 => subst hkk; simp [Builtin.cap_, hts, run_underlying he, goInt]
    | slice => subst hkk; simp [Builtin.cap_, hts, run_underlying he, goInt]
    | sliceU => subst hkk; omega
    | sliceL _ _ _ es lb => subst hkk; have := bigL_ge es lb; omega
  · cases hn

/-- the first n elements of a slice or a string -/
noncomputable def firstB (H : AH) (s n : Nat) (x : Value) : Option (List Value) :=
  match x with
  | .slice none _ _ => sel (Nat.beq n 0) (some []) none
  | .slice (some ⟨b, o, none⟩) m _ => oc (blkCells H b) none fun y => sel (Nat.ble n m) (rdT y.1 (Nat.mul n s) o) none
  | .string bs => some ((bs.extract 0 n).data.toList.map fun b => Value.int .u8 b.toNat)
  | _ => none
theorem flatL_bytes (l : List UInt8) : flatL (l.map fun b => Value.int .u8 b.toNat) = true := by
  induction l with
  | nil => rfl
  | cons b l ih => simp [flatL, flat, ih]
theorem firstB_ok {P : Program} {n0 : Bs} {σ : Ren} {H : AH} {w : World} (hr : HR n0 σ H w) {s n : Nat} {x x' : Value} {l : List Value} (h : firstB H s n x = some l) (hx : VR σ x x') :
    ∃ l', VRs σ l l' ∧ (Builtin.firstCells s n x').run P w = .ok ⟨l'⟩ w := by
  unfold firstB at h
  split at h
  · rename_i m k
    obtain ⟨hz, h⟩ := sel_none h
    obtain rfl := Option.some.inj h
    obtain rfl := Nat.eq_of_beq_eq_true hz
    cases hx
    exact ⟨[], .nil, by simp [Builtin.firstCells]⟩
  · rename_i b o m k
    obtain ⟨y, hy, h⟩ := oc_eq_some h
    obtain ⟨hnm, hl⟩ := sel_none h
    have hnm := ble_le hnm
    have hb := blkCells_eq hy
    have main : ∀ {c d mm o' k' : Nat}, σ b = some (c, d, mm) → (m = 0 ∨ o' = d + o) → ∃ l', VRs σ l l' ∧ (Builtin.firstCells s n (.slice (some ⟨c, o', none⟩) m k')).run P w = .ok ⟨l'⟩ w := by
      intro c d mm o' k' hs ho
      show ∃ l', VRs σ l l' ∧ (loadCells ⟨c, o', none⟩ (n * s)).run P w = .ok ⟨l'⟩ w
      by_cases hn : n = 0
      · subst hn
        have hl0 : l = [] := List.length_eq_zero_iff.1 (by rw [(rdT_get _ _ _ _ hl).1]; simp)
        subst hl0
        exact ⟨[], .nil, by rw [Nat.zero_mul]; rfl⟩
      · have ho := ho.resolve_left (by omega)
        subst ho
        exact run_loadCells hr hb hs hl
    cases hx with
    | slice _ _ _ hs hk => exact main hs (.inr rfl)
    | sliceU _ _ _ _ _ hs hk ho hd hm => exact main hs ho
    | sliceL _ _ _ _ _ hs => exact main hs (.inr rfl)
  · rename_i bs
    obtain rfl := Option.some.inj h
    cases hx
    refine ⟨_, flatL_vr (flatL_bytes _) σ, ?_⟩
    simp [Builtin.firstCells]
    apply Array.ext'
    simp
  · cases h
def lenAny (v : Value) : Option Nat :=
  match v with
  | .slice _ n _ => some n
  | .string s => some s.size
  | _ => none
theorem lenAny_ok {P : Program} {σ : Ren} {x x' : Value} {n : Nat} (h : lenAny x = some n) (hx : VR σ x x') (w : World) : (Builtin.lenOf x').run P w = .ok n w := by
  unfold lenAny at h
  split at h
  · obtain rfl := Option.some.inj h
    cases hx <;> simp [Builtin.lenOf]
  · obtain rfl := Option.some.inj h
    cases hx; simp [Builtin.lenOf]
  · cases h
noncomputable def opCopyGo (H : AH) (s : Nat) (dst src : Value) (n : Nat) : VRes :=
  match dst with
  | .slice none dl _ => sel (Nat.beq (Nat.min n dl) 0) (some (.int .i64 ((0 : Nat) : Int), H)) none
  | .slice (some ⟨b, o, none⟩) dl _ => sel (Nat.beq (Nat.min n dl) 0) (some (.int .i64 ((0 : Nat) : Int), H)) (oc (firstB H s (Nat.min n dl) src) none fun l => oc (storeB H b o l) none fun H' => some (.int .i64 (Nat.min n dl : Nat), H'))
  | _ => none
noncomputable def opCopy (P : Program) (t : TypeId) (dst src : Value) (H : AH) : VRes := oc (elemB P t) none fun e => oc (sizeB P e) none fun s => oc (lenAny src) none fun n => opCopyGo H s dst src n
theorem first_zero {P : Program} {σ : Ren} {s : Nat} {x x' : Value} {n : Nat} (h : lenAny x = some n) (hx : VR σ x x') (w : World) : (Builtin.firstCells s 0 x').run P w = .ok #[] w := by
  unfold lenAny at h
  split at h
  · cases hx
    · rfl
    · show (loadCells _ (0 * s)).run P w = _
      rw [Nat.zero_mul]; rfl
    · show (loadCells _ (0 * s)).run P w = _
      rw [Nat.zero_mul]; rfl
    · show (loadCells _ (0 * s)).run P w = _
      rw [Nat.zero_mul]; rfl
  · cases hx
    simp [Builtin.firstCells]
  · cases h
theorem copyGo_ok {P : Program} {n0 : Bs} {σ : Ren} {H H' : AH} {w : World} (hr : HR n0 σ H w) {t ty e : TypeId} {ts : Array TypeId} {s n : Nat} (hts : ts[0]? = some t) {x x' y y' v : Value} (he : P.underlying t = some (.slice e)) (hs : sizeB P e = some s) (hn : lenAny y = some n)
    (hl : (Builtin.lenOf y').run P w = .ok n w) (hx : VR σ x x') (hy : VR σ y y') (h2 : opCopyGo H s x y n = some (v, H')) : Gives P n0 σ w (Builtin.copy_ ts ty #[x', y']) v H' := by
  unfold opCopyGo at h2
  split at h2
  · obtain ⟨hz, h3⟩ := sel_none h2
    obtain ⟨rfl, rfl⟩ := Prod.mk.inj (Option.some.inj h3)
    have hz := Nat.eq_of_beq_eq_true hz
    cases hx
    have f0 := first_zero (P := P) (s := s) hn hy w
    refine Gives.pure hr ?_ (.int _ _)
    simp [Builtin.copy_, hts, run_underlying he, hl, run_sizeB hs, hz, f0, goInt]
  · rename_i b o dl k
    rcases sel_eq_some h2 with ⟨hz, h3⟩ | ⟨hz, h3⟩
    · obtain ⟨rfl, rfl⟩ := Prod.mk.inj (Option.some.inj h3)
      have hz := Nat.eq_of_beq_eq_true hz
      have f0 := first_zero (P := P) (s := s) hn hy w
      refine Gives.pure hr ?_ (.int _ _)
      cases hx <;> simp [Builtin.copy_, hts, run_underlying he, hl, run_sizeB hs, hz, f0, goInt, storeCells]
    · obtain ⟨l, hl1, h4⟩ := oc_eq_some h3
      obtain ⟨H₁, hst, h5⟩ := oc_eq_some h4
      obtain ⟨rfl, rfl⟩ := Prod.mk.inj (Option.some.inj h5)
      have hz := beq_false_ne hz
      have hdl : dl ≠ 0 := fun e => hz (by rw [e]; exact Nat.min_zero n)
      obtain ⟨l', q1, q2⟩ := firstB_ok (P := P) hr hl1 hy
      have main : ∀ {c d mm o' k' : Nat}, σ b = some (c, d, mm) → (dl = 0 ∨ o' = d + o) → Gives P n0 σ w (Builtin.copy_ ts ty #[.slice (some ⟨c, o', none⟩) dl k', y']) (.int .i64 (Nat.min n dl : Nat)) H₁ := by
        intro c d mm o' k' hσ ho
        obtain rfl := ho.resolve_left hdl
        obtain ⟨σ', w', r1, r2, r3⟩ := storeB_ok (P := P) hr hst q1 hσ (o' := d + o) (i := 0) (by omega)
        refine ⟨_, σ', w', ?_, .int _ _, r2, r3⟩
        simp [Builtin.copy_, hts, run_underlying he, hl, run_sizeB hs, q2, r1, goInt]
      cases hx with
      | slice _ _ _ hσ hk => exact main hσ (.inr rfl)
      | sliceU _ _ _ _ _ hσ hk ho hd hm => exact main hσ ho
      | sliceL _ _ _ _ _ hσ => exact main hσ (.inr rfl)
  · cases h2

theorem copy_ok {P : Program} {n0 : Bs} {σ : Ren} {H H' : AH} {w : World} (hr : HR n0 σ H w) {t ty : TypeId} {ts : Array TypeId} (hts : ts[0]? = some t) {x x' y y' v : Value} (h : opCopy P t x y H = some (v, H')) (hx : VR σ x x') (hy : VR σ y y') : Gives P n0 σ w (Builtin.copy_ ts ty #[x', y']) v H' := by
  obtain ⟨e, he, h⟩ := oc_eq_some h
  obtain ⟨s, hs, h⟩ := oc_eq_some h
  obtain ⟨n, hn, h2⟩ := oc_eq_some h
  have he := elemB_eq he
  have hl := lenAny_ok (P := P) hn hy w
  exact copyGo_ok hr hts he hs hn hl hx hy h2

/-! a part of a struct or an array by value -/
theorem VRs.drop {σ : Ren} {l l' : List Value} (h : VRs σ l l') : ∀ n, VRs σ (l.drop n) (l'.drop n) := by
  induction h with
  | nil => intro n; simpa using VRs.nil
  | cons hv hl ih =>
    intro n
    cases n with
    | zero => exact .cons hv hl
    | succ n => simpa using ih n
theorem VRs.take {σ : Ren} {l l' : List Value} (h : VRs σ l l') : ∀ n, VRs σ (l.take n) (l'.take n) := by
  induction h with
  | nil => intro n; simpa using VRs.nil
  | cons hv hl ih =>
    intro n
    cases n with
    | zero => simpa using VRs.nil
    | succ n => simpa using VRs.cons hv (ih n)
def aggL (v : Value) : Option (List Value) :=
  match v with
  | .agg cs => some cs.toList
  | _ => none
noncomputable def partB (P : Program) (t : TypeId) (l : List Value) (off : Nat) : Option Value :=
  oc (aggB P t) none fun g => sel g (oc (sizeB P t) none fun n => some (.agg ⟨(l.drop off).take n⟩)) (l[off]?)
theorem part_ok {P : Program} {σ : Ren} {w : World} {t : TypeId} {l : List Value} {cs : Array Value} {off : Nat} {v : Value} (h : partB P t l off = some v) (hl : VRs σ l cs.toList) : ∃ v', VR σ v v' ∧ (part t cs off).run P w = .ok v' w := by
  obtain ⟨g, hg, h⟩ := oc_eq_some h
  rcases sel_eq_some h with ⟨rfl, h⟩ | ⟨rfl, h⟩
  · obtain ⟨n, hn, h⟩ := oc_eq_some h
    obtain rfl := Option.some.inj h
    refine ⟨.agg ⟨(cs.toList.drop off).take n⟩, ((hl.drop off).take n).agg, ?_⟩
    have : cs.extract off (off + n) = ⟨(cs.toList.drop off).take n⟩ := by
      apply Array.ext'
      simp
    simp [part, Sem.run_bind, run_isAggB hg, run_sizeB hn, this]
  · obtain ⟨v', h1, h2⟩ := hl.get off v h
    refine ⟨v', h2, ?_⟩
    simp only [Array.getElem?_toList] at h1
    simp [part, Sem.run_bind, run_isAggB hg, h1]
noncomputable def opField (P : Program) (t : TypeId) (x : Value) (f : Nat) (H : AH) : VRes := oc (aggL x) none fun l => oc (fieldB P t f) none fun y => oc (partB P y.type l y.offset) none fun v => some (v, H)
theorem aggL_vr {σ : Ren} {x x' : Value} {l : List Value} (h : aggL x = some l) (hx : VR σ x x') : ∃ cs, x' = .agg cs ∧ VRs σ l cs.toList := by
  unfold aggL at h
  split at h
  · obtain rfl := Option.some.inj h
    cases hx with
    | agg h1 h2 => exact ⟨_, rfl, VRs.arr h1 h2⟩
  · cases h
theorem field_ok {P : Program} {n0 : Bs} {σ : Ren} {H H' : AH} {w : World} (hr : HR n0 σ H w) {t : TypeId} {x x' v : Value} {f : Nat} (h : opField P t x f H = some (v, H')) (hx : VR σ x x') : GivesP P n0 σ w H (Instr.field t x' f) v H' := by
  obtain ⟨l, hl, h⟩ := oc_eq_some h
  obtain ⟨y, hy, h⟩ := oc_eq_some h
  obtain ⟨u, hu, h⟩ := oc_eq_some h
  obtain ⟨rfl, rfl⟩ := Prod.mk.inj (Option.some.inj h)
  obtain ⟨cs, rfl, hcs⟩ := aggL_vr hl hx
  obtain ⟨fs, hus, hf⟩ := fieldB_eq hy
  obtain ⟨v', h1, h2⟩ := part_ok (P := P) (w := w) hu hcs
  exact GivesP.pure hr (by simp [Instr.field, run_underlying hus, hf, asAgg, Sem.run_bind, h2]) h1
noncomputable def opIndexV (P : Program) (t : TypeId) (x i : Value) (H : AH) : VRes :=
  oc (aggL x) none fun l => oc (arrB P t) none fun r => oc (idx i r.1) none fun k => oc (sizeB P r.2) none fun n => oc (partB P r.2 l (Nat.mul k n)) none fun v => some (v, H)
theorem indexV_ok {P : Program} {n0 : Bs} {σ : Ren} {H H' : AH} {w : World} (hr : HR n0 σ H w) {t : TypeId} {x x' i i' v : Value} (h : opIndexV P t x i H = some (v, H')) (hx : VR σ x x') (hi : VR σ i i') : GivesP P n0 σ w H (Instr.index t x' i') v H' := by
  obtain ⟨l, hl, h⟩ := oc_eq_some h
  obtain ⟨r, hu, h⟩ := oc_eq_some h
  obtain ⟨k, hk, h⟩ := oc_eq_some h
  obtain ⟨n, hn, h⟩ := oc_eq_some h
  obtain ⟨u, hp, h⟩ := oc_eq_some h
  obtain ⟨rfl, rfl⟩ := Prod.mk.inj (Option.some.inj h)
  obtain ⟨kd, rfl, hlt⟩ := idx_eq hk
  cases hi
  obtain ⟨cs, rfl, hcs⟩ := aggL_vr hl hx
  have hu := arrB_eq hu
  obtain ⟨v', h1, h2⟩ := part_ok (P := P) (w := w) hp hcs
  have hm : Nat.mul k n = k * n := rfl
  rw [hm] at h2
  refine GivesP.pure hr ?_ h1
  have h1 : (k : Int) < (r.1 : Int) := by omega
  simp [Instr.index, asIntOf, run_underlying hu, Sem.run_bind, run_sizeB hn, h1, hlt, h2]
noncomputable def opIndex (P : Program) (t : TypeId) (x i : Value) (H : AH) : VRes := sel (flat x && flat i) (opPure P (Instr.index t x i) H) (opIndexV P t x i H)
theorem index_ok {P : Program} {n0 : Bs} {σ : Ren} {H H' : AH} {w : World} (hr : HR n0 σ H w) {t : TypeId} {x x' i i' v : Value} (h : opIndex P t x i H = some (v, H')) (hx : VR σ x x') (hi : VR σ i i') : GivesP P n0 σ w H (Instr.index t x' i') v H' := by
  rcases sel_eq_some h with ⟨hf, h⟩ | ⟨_, h⟩
  · simp only [Bool.and_eq_true] at hf
    rw [flat_same hf.1 hx, flat_same hf.2 hi]
    exact opPure_ok hr h
  · exact indexV_ok hr h hx hi

end Go.Proofs.Ythomkiindjhdmaa.Ax
