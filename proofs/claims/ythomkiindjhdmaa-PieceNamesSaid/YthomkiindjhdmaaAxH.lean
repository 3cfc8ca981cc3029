/-
  Literals, make, slices. Own work, plain lemmas.
-/
import Derived.Test.YthomkiindjhdmaaAxG
import Derived.Laws.Tables
import Derived.Laws.Append
set_option linter.unusedSimpArgs false
set_option linter.unusedVariables false
set_option linter.unnecessarySimpa false
set_option linter.deprecated false
set_option linter.unusedSectionVars false
namespace Go.Proofs.Ythomkiindjhdmaa.Ax
open Go.RowKit
variable [Tabs]

theorem VRs.set {σ : Ren} {l l' : List Value} (h : VRs σ l l') {v v' : Value} (hv : VR σ v v') : ∀ k : Nat, VRs σ (l.set k v) (l'.set k v') := by
  induction h with
  | nil => intro k; exact .nil
  | cons h1 h2 ih =>
    intro k
    cases k with
    | zero => exact .cons hv h2
    | succ k => exact .cons h1 (ih k)
theorem fold_vr {σ : Ren} (off : Nat) : ∀ {l l' : List Value}, VRs σ l l' → ∀ (i : Nat) {cs cs' : Array Value}, VRs σ cs.toList cs'.toList →
    VRs σ ((l.zipIdx i).foldl (fun cs (x : Value × Nat) => cs.setIfInBounds (off + x.2) x.1) cs).toList ((l'.zipIdx i).foldl (fun cs (x : Value × Nat) => cs.setIfInBounds (off + x.2) x.1) cs').toList := by
  intro l l' h
  induction h with
  | nil => intro i cs cs' hc; exact hc
  | cons hv _ ih =>
    intro i cs cs' hc
    simp only [List.zipIdx_cons, List.foldl_cons]
    refine ih (i + 1) ?_
    simpa using hc.set hv (off + i)

/-- parts of a literal -/
inductive PRs (σ : Ren) : List (Nat × Value) → List (Nat × Value) → Prop
  | nil : PRs σ [] []
  | cons (i : Nat) {v v' : Value} {l l' : List (Nat × Value)} (h : VR σ v v') (hl : PRs σ l l') : PRs σ ((i, v) :: l) ((i, v') :: l')
def noAny (ps : List (Nat × Value)) : Bool := ps.all fun p => !isAny p.2
theorem fill_vr {σ : Ren} {place : Nat → Option (Nat × Nat)} {ps ps' : List (Nat × Value)} (h : PRs σ ps ps') : noAny ps = true → ∀ {cs cs' out : Array Value}, VRs σ cs.toList cs'.toList → Instr.fill place cs ps = some out →
    ∃ out', Instr.fill place cs' ps' = some out' ∧ VRs σ out.toList out'.toList := by
  induction h with
  | nil =>
    intro _ cs cs' out hc ho
    obtain rfl : cs = out := Option.some.inj ho
    exact ⟨cs', rfl, hc⟩
  | @cons i v v' l l' hv _ ih =>
    intro hn cs cs' out hc ho
    simp only [noAny, List.all_cons, Bool.and_eq_true, Bool.not_eq_true'] at hn
    unfold Instr.fill at ho ⊢
    cases hp : place i with
    | none => rw [hp] at ho; cases ho
    | some x =>
      obtain ⟨off, size⟩ := x
      rw [hp] at ho
      simp only at ho ⊢
      have hcl := cellsL_vr hv hn.1
      rw [← cellsL_eq] at hcl
      have e1 : v'.cells.size = v.cells.size := hcl.size.symm
      have e2 : cs'.size = cs.size := hc.size.symm
      rw [e1, e2]
      split at ho
      · cases ho
      · rename_i hcond
        rw [if_neg hcond]
        have e3 : ∀ (u : Value) (ds : Array Value), u.cells.zipIdx.foldl (fun cs (x : Value × Nat) => cs.setIfInBounds (off + x.2) x.1) ds = (u.cells.toList.zipIdx 0).foldl (fun cs (x : Value × Nat) => cs.setIfInBounds (off + x.2) x.1) ds := fun u ds => by
          rw [← Array.foldl_toList, Array.toList_zipIdx]
        have := fold_vr off hcl 0 hc
        rw [← e3, ← e3] at this
        exact ih hn.2 this ho

noncomputable def opBuild (P : Program) (t : TypeId) (ps : List (Nat × Value)) (H : AH) : VRes := sel (noAny ps) (oc (zeroB P t) none fun _ => oc (P.built t ps) none fun cs => some (.agg cs, H)) none
theorem zero_cells_flat {P : Program} {t : TypeId} {l : List Value} (h : zeroB P t = some l) {it : TypeInfo} (hi : P.info? t = some it) {z : Value} (hz : it.zero = some z) (σ : Ren) : VRs σ z.cells.toList z.cells.toList := by
  obtain ⟨i, hi', h⟩ := oc_eq_some h
  rw [hi] at hi'
  obtain rfl := Option.some.inj hi'
  obtain ⟨z', hz', h⟩ := oc_eq_some h
  rw [hz] at hz'
  obtain rfl := Option.some.inj hz'
  obtain ⟨hf, _⟩ := sel_none h
  rw [cellsL_eq]
  exact flatL_vr hf σ
theorem built_vr {P : Program} {σ : Ren} {t : TypeId} {ps ps' : List (Nat × Value)} {cs : Array Value} (h : P.built t ps = some cs) {l : List Value} (hz : zeroB P t = some l) (hp : PRs σ ps ps') (hn : noAny ps = true) : ∃ cs', P.built t ps' = some cs' ∧ VRs σ cs.toList cs'.toList := by
  unfold Program.built at h ⊢
  split at h
  · rename_i it n e hit hu
    split at h
    · rename_i z ie hzz hie
      exact fill_vr hp hn (zero_cells_flat hz hit hzz σ) h
    · cases h
  · rename_i it fs hit hu
    split at h
    · rename_i z places hzz hpl
      exact fill_vr hp hn (zero_cells_flat hz hit hzz σ) h
    · cases h
  · cases h
theorem build_ok {P : Program} {n0 : Bs} {σ : Ren} {H H' : AH} {w : World} (hr : HR n0 σ H w) {t : TypeId} {ps : List (Nat × Value)} {qs : Array (Nat × Value)} {v : Value} (h : opBuild P t ps H = some (v, H')) (hp : PRs σ ps qs.toList) : GivesP P n0 σ w H (Instr.build t qs) v H' := by
  obtain ⟨hn, h⟩ := sel_none h
  obtain ⟨l, hl, h⟩ := oc_eq_some h
  obtain ⟨cs, hcs, h⟩ := oc_eq_some h
  obtain ⟨rfl, rfl⟩ := Prod.mk.inj (Option.some.inj h)
  obtain ⟨cs', h1, h2⟩ := built_vr hcs hl hp hn
  refine GivesP.pure (v' := .agg cs') hr (run_build w t qs cs' h1) ?_
  exact .agg h2.size h2.elem

/-- the zero cells of n elements -/
def reps (z : List Value) : Nat → List Value
  | 0 => []
  | n + 1 => z ++ reps z n
theorem reps_length (z : List Value) : ∀ n, (reps z n).length = n * z.length
  | 0 => by simp [reps]
  | n + 1 => by rw [reps, List.length_append, reps_length z n, Nat.succ_mul]; omega
theorem reps_get (z : List Value) (d : Value) : ∀ (n i : Nat), i < n * z.length → (reps z n)[i]? = some (z.getD (i % z.length) d)
  | 0, i, h => by simp at h
  | n + 1, i, h => by
    rw [reps]
    by_cases hi : i < z.length
    · rw [List.getElem?_append_left hi, Nat.mod_eq_of_lt hi]
      simp [hi]
    · rw [List.getElem?_append_right (by omega), reps_get z d n (i - z.length) (by rw [Nat.succ_mul] at h; omega)]
      have : i % z.length = (i - z.length) % z.length := by
        conv => lhs; rw [show i = i - z.length + z.length from by omega]
        rw [Nat.add_mod_right]
      rw [this]
theorem range_reps (z : Array Value) (n m : Nat) (hm : m = n * z.size) : (Array.range m).map (fun i => z[i % z.size]!) = ⟨reps z.toList n⟩ := by
  apply Array.ext'
  apply List.ext_getElem?
  intro i
  subst hm
  by_cases hi : i < n * z.size
  · have h1 := reps_get z.toList default n i (by simpa using hi)
    rw [h1]
    simp [hi]
    have hz : 0 < z.size := by
      rcases Nat.eq_zero_or_pos z.size with h | h
      · rw [h] at hi; simp at hi
      · exact h
    have hlt := Nat.mod_lt i hz
    simp [hlt]
  · rw [List.getElem?_eq_none, List.getElem?_eq_none]
    · rw [reps_length]; simpa using hi
    · simpa using hi

def natOf (v : Value) : Option Nat :=
  match v with
  | .int _ (.ofNat k) => some k
  | _ => none
theorem natOf_eq {v : Value} {n : Nat} (h : natOf v = some n) : ∃ k, v = .int k (n : Int) := by
  unfold natOf at h
  split at h
  · obtain rfl := Option.some.inj h; exact ⟨_, rfl⟩
  · cases h
noncomputable def bytesB (P : Program) (t : TypeId) : Option Nat := oc (P.info? t) none fun i => some i.bytes
theorem run_bytesB {P : Program} {t : TypeId} {n : Nat} (h : bytesB P t = some n) : ∃ i, P.info? t = some i ∧ i.bytes = n := by
  obtain ⟨i, hi, h⟩ := oc_eq_some h
  exact ⟨i, hi, Option.some.inj h⟩
/-- no slice of more bytes than this is made here -/
def fits (n bytes : Nat) : Bool := Nat.ble (Nat.mul n bytes) 140737488355328 && Nat.ble n 9223372036854775807
/-- many bytes, all 0, are not written out -/
def isZ8 (z : List Value) : Bool :=
  match z with
  | [.int .u8 (.ofNat 0)] => true
  | _ => false
noncomputable def zerB (z : List Value) (c : Nat) (e : TypeId) : ABlk := sel (Nat.ble 4096 c && isZ8 z) (.zeros c e) (.cells (layT (reps z c)) e)
theorem zerB_br {σ : Ren} {m : Nat} {o : Option Obj} {z : List Value} {c : Nat} {e : TypeId} (h : BR σ 0 m o (.cells (layT (reps z c)) e)) (hm : m = (reps z c).length) : BR σ 0 m o (zerB z c e) := by
  unfold zerB
  cases hz : (Nat.ble 4096 c && isZ8 z) with
  | false => exact h
  | true =>
    simp only [Bool.and_eq_true] at hz
    obtain ⟨_, hz⟩ := hz
    have hz : z = [.int .u8 0] := by
      unfold isZ8 at hz
      split at hz
      · rfl
      · cases hz
    subst hz
    have hl : (reps [Value.int .u8 0] c).length = c := by simp [reps_length]
    obtain ⟨C, h1, h2, h3⟩ := h
    refine ⟨C, h1, h2, rfl, by rw [hm, hl], fun i hi => ?_⟩
    have hg : (layT (reps [Value.int .u8 0] c)).get i = some (.int .u8 0) := by
      rw [layT_get, reps_get _ (.int .u8 0) c i (by simpa using hi)]
      simp [Nat.mod_one]
    obtain ⟨v', q1, q2⟩ := h3 i _ hg
    cases q2
    rwa [Nat.zero_add] at q1
noncomputable def opMakeSlice (P : Program) (t : TypeId) (l c : Value) (H : AH) : VRes :=
  oc (natOf l) none fun l => oc (natOf c) none fun c => oc (elemB P t) none fun e => oc (zeroB P e) none fun z => oc (sizeB P e) none fun s => oc (bytesB P e) none fun bs =>
    sel (Nat.ble l c && fits c bs && Nat.beq z.length s) (some (.slice (some ⟨H.next, 0, none⟩) l c, H.push (zerB z c e))) none
theorem flatL_append : ∀ {l m : List Value}, flatL l = true → flatL m = true → flatL (l ++ m) = true
  | [], _, _, h => h
  | v :: l, m, h, k => by
    simp only [flatL, Bool.and_eq_true, List.cons_append] at *
    exact ⟨h.1, flatL_append h.2 k⟩
theorem flatL_reps {z : List Value} (h : flatL z = true) : ∀ n, flatL (reps z n) = true
  | 0 => rfl
  | n + 1 => flatL_append h (flatL_reps h n)
theorem makeSlice_ok {P : Program} {n0 : Bs} {σ : Ren} {H H' : AH} {w : World} (hr : HR n0 σ H w) {t : TypeId} {l l' c c' v : Value} (h : opMakeSlice P t l c H = some (v, H')) (hl : VR σ l l') (hc : VR σ c c') : Gives P n0 σ w (Instr.makeSlice t l' c') v H' := by
  obtain ⟨ln, hln, h⟩ := oc_eq_some h
  obtain ⟨cn, hcn, h⟩ := oc_eq_some h
  obtain ⟨e, he, h⟩ := oc_eq_some h
  obtain ⟨z, hz, h⟩ := oc_eq_some h
  obtain ⟨s, hs, h⟩ := oc_eq_some h
  obtain ⟨bs, hbs, h⟩ := oc_eq_some h
  obtain ⟨hb, h⟩ := sel_none h
  obtain ⟨rfl, rfl⟩ := Prod.mk.inj (Option.some.inj h)
  obtain ⟨k1, rfl⟩ := natOf_eq hln
  obtain ⟨k2, rfl⟩ := natOf_eq hcn
  cases hl
  cases hc
  simp only [Bool.and_eq_true, fits] at hb
  obtain ⟨⟨h1, h2, h3⟩, h4⟩ := hb
  have h1 := Nat.le_of_ble_eq_true h1
  have h2 := Nat.le_of_ble_eq_true h2
  have h3 := Nat.le_of_ble_eq_true h3
  have h4 := Nat.eq_of_beq_eq_true h4
  have hmul : Nat.mul cn bs = cn * bs := rfl
  rw [hmul] at h2
  obtain ⟨i, hi, rfl⟩ := run_bytesB hbs
  obtain ⟨zv, z1, z2, z3⟩ := run_zeroB hz w
  obtain ⟨σ', w', r1, r2, r3, r4⟩ := newRow_ok (P := P) hr (flatL_vr (flatL_reps z3 cn) σ) e
  have hu := elemB_eq he
  have w1 : IntKind.i64.wrap (ln : Int) = (ln : Int) := IntWalk.i64_in _ (by omega)
  have w2 : IntKind.i64.wrap (cn : Int) = (cn : Int) := IntWalk.i64_in _ (by omega)
  have hbig : ¬ ((281474976710656 : Int) < (i.bytes : Int) * (cn : Int)) := by
    have : (i.bytes : Int) * (cn : Int) = ((cn * i.bytes : Nat) : Int) := by rw [Int.natCast_mul, Int.mul_comm]
    rw [this]; omega
  have hsz : i.size = s := by
    obtain ⟨i', hi', hs'⟩ := oc_eq_some hs
    rw [hi] at hi'
    obtain rfl := Option.some.inj hi'
    exact Option.some.inj hs'
  have hlt : ¬ ((cn : Int) < (ln : Int)) := by omega
  have r3' : HR n0 σ' (H.push (zerB z cn e)) w' := (r3.setK (b := H.next) (x := .cells (layT (reps z cn)) e) (y := zerB z cn e) (by simp [AH.push, Tr.get_set]) (fun c d m hs hB => by
    rw [r2] at hs
    injection hs with hs
    injection hs with e1 hs
    injection hs with e2 e3
    subst e1 e2 e3
    exact zerB_br hB rfl) 0).congr (fun b => by
      simp only [AH.push, AH.setK, Tr.get_set]
      by_cases e1 : b = H.next
      · rw [if_pos e1, if_pos e1]
      · rw [if_neg e1, if_neg e1, if_neg e1]) rfl
  refine ⟨.slice (some ⟨w.heap.size, 0, none⟩) ln cn, σ', w', ?_, ?_, r3', r4⟩
  · have q1 : ¬ ((cn : Int) < 0) := by omega
    have q2 : ¬ ((ln : Int) < 0) := by omega
    by_cases h0 : cn * i.size = 0
    · have hrz : reps z cn = [] := by
        have := reps_length z cn
        rw [h4, ← hsz, h0] at this
        exact List.length_eq_zero_iff.1 this
      rw [hrz] at r1
      simp [Instr.makeSlice, run_underlying hu, asInt, asIntOf, typeInfo, hi, w1, w2, hlt, hbig, sizeOf, askRoom, h0, q1, q2]
      have e0 : Array.map (fun _ => (default : Value)) (Array.range 0) = ⟨[]⟩ := by simp [Array.range]
      rw [e0, r1]
      simp
    · have hrow := range_reps ⟨z⟩ cn (cn * i.size) (by simp [h4, hsz])
      simp at hrow
      simp [Instr.makeSlice, run_underlying hu, asInt, asIntOf, typeInfo, hi, w1, w2, hlt, hbig, sizeOf, askRoom, h0, zeroValue, q1, q2]
      obtain ⟨iz, hiz, hzz⟩ : ∃ iz, i.zero = some iz ∧ iz.cells = ⟨z⟩ := by
        simp [zeroValue, typeInfo, hi] at z1
        cases hq : i.zero with
        | none => rw [hq] at z1; simp [unsupported, Sem.run] at z1
        | some iz => rw [hq] at z1; simp at z1; subst z1; exact ⟨iz, rfl, z2⟩
      simp only [hiz, hzz]
      simp [hzz, hrow, r1]
  · have hbg : cn < big := by unfold big; omega
    simpa using VR.slice 0 ln cn r2 hbg

noncomputable def opBuildSlice (P : Program) (t : TypeId) (len : Nat) (ps : List (Nat × Value)) (H : AH) : VRes :=
  oc (elemB P t) none fun e => oc (zeroB P e) none fun z => oc (sizeB P e) none fun s =>
    sel (Nat.ble (Nat.mul len s) 16777216 && Nat.beq z.length s && noAny ps) (oc (Instr.fill (fun i => some (i * s, s)) ⟨reps z len⟩ ps) none fun cs => some (.slice (some ⟨H.next, 0, none⟩) len len, H.push (.cells (layT cs.toList) e))) none
theorem buildSlice_ok {P : Program} {n0 : Bs} {σ : Ren} {H H' : AH} {w : World} (hr : HR n0 σ H w) {t : TypeId} {len : Nat} {ps : List (Nat × Value)} {qs : Array (Nat × Value)} {v : Value} (h : opBuildSlice P t len ps H = some (v, H')) (hp : PRs σ ps qs.toList)
    (hlen : len < big) : Gives P n0 σ w (Instr.buildSlice t len qs) v H' := by
  obtain ⟨e, he, h⟩ := oc_eq_some h
  obtain ⟨z, hz, h⟩ := oc_eq_some h
  obtain ⟨s, hs, h⟩ := oc_eq_some h
  obtain ⟨hb, h⟩ := sel_none h
  obtain ⟨cs, hcs, h⟩ := oc_eq_some h
  obtain ⟨rfl, rfl⟩ := Prod.mk.inj (Option.some.inj h)
  clear h
  simp only [Bool.and_eq_true] at hb
  obtain ⟨hb, hna⟩ := hb
  have h1 : len * s ≤ 16777216 := Nat.le_of_ble_eq_true hb.1
  have h4 := Nat.eq_of_beq_eq_true hb.2
  obtain ⟨zv, z1, z2, z3⟩ := run_zeroB hz w
  obtain ⟨cs', f1, f2⟩ := fill_vr hp hna (cs := ⟨reps z len⟩) (cs' := ⟨reps z len⟩) (flatL_vr (flatL_reps z3 len) σ) hcs
  obtain ⟨σ', w', r1, r2, r3, r4⟩ := newRow_ok (P := P) hr f2 e
  have hu := elemB_eq he
  have hbig : ¬ (16777216 < len * s) := by omega
  refine ⟨.slice (some ⟨w.heap.size, 0, none⟩) len len, σ', w', ?_, ?_, r3, r4⟩
  · have hbig' : ¬ (len * s > 2 ^ 24) := by omega
    simp only [Instr.buildSlice, Sem.run_bind, run_underlying hu, Result.andThen_ok, run_sizeB hs]
    rw [if_neg hbig']
    by_cases h0 : len * s = 0
    · have hrz : reps z len = [] := by
        have := reps_length z len
        rw [h4, h0] at this
        exact List.length_eq_zero_iff.1 this
      rw [hrz] at f1
      have e0 : Array.map (fun i => (#[] : Array Value)[i % (#[] : Array Value).size]!) (Array.range (len * s)) = ⟨[]⟩ := by rw [h0]; simp [Array.range]
      rw [if_pos h0]
      simp only [Sem.run_bind, Sem.run_pure, Result.andThen_ok, e0, f1, r1]
    · have hrow := range_reps ⟨z⟩ len (len * s) (by simp [h4])
      rw [if_neg h0]
      simp only [Sem.run_bind, Sem.run_pure, Result.andThen_ok, z1, z2, hrow, f1, r1]
  · simpa using VR.slice 0 len len r2 hlen

/-! slicing -/
def bnd (v : Option Value) (d : Nat) : Option Nat :=
  match v with
  | none => some d
  | some v => natOf v
/-- values that may be there or not -/
inductive OR (σ : Ren) : Option Value → Option Value → Prop
  | none : OR σ none none
  | some {v v' : Value} (h : VR σ v v') : OR σ (some v) (some v')
theorem bnd_vr {σ : Ren} {v v' : Option Value} {d n : Nat} (h : bnd v d = some n) (hv : OR σ v v') : (v' = none ∧ n = d ∧ v = none) ∨ ∃ k, v' = some (.int k (n : Int)) ∧ v = some (.int k (n : Int)) := by
  cases hv with
  | none => exact .inl ⟨rfl, (Option.some.inj h).symm, rfl⟩
  | some hv =>
    obtain ⟨k, rfl⟩ := natOf_eq h
    cases hv
    exact .inr ⟨k, rfl, rfl⟩
theorem run_bound {P : Program} (w : World) (k : IntKind) {n y : Nat} (code : BoundsCode) (h : n ≤ y) : (Instr.sliceBound (.int k (n : Int)) y code).run P w = .ok n w := by
  have h1 : (n : Int) ≤ (y : Int) := by omega
  simp [Instr.sliceBound, asIntOf, h1, h]
/-- no third index -/
theorem run_bounds2 {P : Program} (w : World) (sl : Bool) {len cap l h : Nat} {σ : Ren} {lo lo' hi hi' : Option Value} (hlo : bnd lo 0 = some l) (hhi : bnd hi len = some h) (rlo : OR σ lo lo') (rhi : OR σ hi hi') (h1 : l ≤ h) (h2 : h ≤ cap) :
    (Instr.sliceBounds sl len cap lo' hi' none).run P w = .ok (l, h, cap) w := by
  rcases bnd_vr hlo rlo with ⟨rfl, rfl, _⟩ | ⟨k, rfl, _⟩ <;> rcases bnd_vr hhi rhi with ⟨rfl, rfl, _⟩ | ⟨k2, rfl, _⟩ <;> simp [Instr.sliceBounds, run_bound, h1, h2]
theorem run_bounds3 {P : Program} (w : World) (sl : Bool) {len cap l h m : Nat} {σ : Ren} {lo lo' : Option Value} {hi hi' mx mx' : Value} (hlo : bnd lo 0 = some l) (hhi : natOf hi = some h) (hmx : natOf mx = some m) (rlo : OR σ lo lo') (rhi : VR σ hi hi') (rmx : VR σ mx mx') (h1 : l ≤ h) (h2 : h ≤ m) (h3 : m ≤ cap) :
    (Instr.sliceBounds sl len cap lo' (some hi') (some mx')).run P w = .ok (l, h, m) w := by
  obtain ⟨k1, rfl⟩ := natOf_eq hhi
  obtain ⟨k2, rfl⟩ := natOf_eq hmx
  cases rhi
  cases rmx
  rcases bnd_vr hlo rlo with ⟨rfl, rfl, _⟩ | ⟨k, rfl, _⟩ <;> simp [Instr.sliceBounds, run_bound, h1, h2, h3]

/-- x[lo:hi] of a slice with a known capacity -/
noncomputable def slK (b o n k s : Nat) (lo hi : Option Value) : Option Value :=
  oc (bnd lo 0) none fun l => oc (bnd hi n) none fun h => sel (Nat.ble l h && Nat.ble h k) (some (.slice (some ⟨b, sel (Nat.beq k l) o (Nat.add o (Nat.mul l s)), none⟩) (Nat.sub h l) (Nat.sub k l))) none
/-- of one with a capacity that is not known -/
noncomputable def slU (b o n s : Nat) (lo hi : Option Value) : Option Value :=
  oc (bnd lo 0) none fun l => oc (bnd hi n) none fun h => sel (Nat.ble l h && Nat.ble h n) (some (.slice (some ⟨b, Nat.add o (Nat.mul l s), none⟩) (Nat.sub h l) (Nat.add big s))) none
/-- x[lo:hi:mx], mx at most n -/
noncomputable def sl3 (b o n k s : Nat) (lo : Option Value) (hi mx : Value) : Option Value :=
  oc (bnd lo 0) none fun l => oc (natOf hi) none fun h => oc (natOf mx) none fun m => sel (Nat.ble l h && Nat.ble h m && Nat.ble m k && Nat.blt m big) (some (.slice (some ⟨b, sel (Nat.beq m l) o (Nat.add o (Nat.mul l s)), none⟩) (Nat.sub h l) (Nat.sub m l))) none
noncomputable def slGo (b o n k s : Nat) (lo hi mx : Option Value) : Option Value :=
  oc mx (sel (Nat.blt k big) (slK b o n k s lo hi) (sel (Nat.beq k (Nat.add big s)) (slU b o n s lo hi) none))
    fun m => oc hi none fun h => sel (Nat.blt k big) (sl3 b o n k s lo h m) (sel (Nat.beq k (Nat.add big s)) (sel (Nat.beq n 0) (oc (natOf m) none fun mm => sel (Nat.beq mm 0) (slU b o n s lo hi) none) (sl3 b o n n s lo h m)) none)

end Go.Proofs.Ythomkiindjhdmaa.Ax
