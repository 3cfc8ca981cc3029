/-
  Literals and variables that are made while calls run. Own work, plain lemmas.
-/
import Derived.Test.YthomkiindjhdmaaAxR
set_option linter.unusedSimpArgs false
set_option linter.unusedVariables false
set_option linter.unnecessarySimpa false
set_option linter.deprecated false
set_option linter.unusedSectionVars false
namespace Go.Proofs.Ythomkiindjhdmaa.Ax
open Go.RowKit
variable [Tabs]

noncomputable def msGo (P : Program) (t : TypeId) (l c : Value) : Option (Nat × Nat × List Value × TypeId) :=
  oc (natOf l) none fun l => oc (natOf c) none fun c => oc (elemB P t) none fun e => oc (zeroB P e) none fun z => oc (sizeB P e) none fun s => oc (bytesB P e) none fun bs =>
    sel (Nat.ble l c && fits c bs && Nat.beq z.length s) (some (l, c, reps z c, e)) none
noncomputable def bsGo (P : Program) (t : TypeId) (len : Nat) (ps : List (Nat × Value)) : Option (List Value × TypeId) :=
  oc (elemB P t) none fun e => oc (zeroB P e) none fun z => oc (sizeB P e) none fun s =>
    sel (Nat.ble (Nat.mul len s) 16777216 && Nat.beq z.length s && noAny ps) (oc (Instr.fill (fun i => some (i * s, s)) ⟨reps z len⟩ ps) none fun cs => some (cs.toList, e)) none
theorem newRow_run {P : Program} (w : World) (l : List Value) (e : TypeId) : (newRow e ⟨l⟩).run P w = .ok ⟨w.heap.size, 0, none⟩ (w.alloc (.cells ⟨l⟩ e)) := by
  simp [newRow, newObj, Sem.run_bind, Sem.run, World.alloc_eq]
theorem ms_run {P : Program} {σ : Ren} {w : World} {t : TypeId} {l l' c c' : Value} {r : Nat × Nat × List Value × TypeId} (h : msGo P t l c = some r) (hl : VR σ l l') (hc : VR σ c c') :
    flatL r.2.2.1 = true ∧ r.2.1 < big ∧ (Instr.makeSlice t l' c').run P w = .ok (.slice (some ⟨w.heap.size, 0, none⟩) r.1 r.2.1) (w.alloc (.cells ⟨r.2.2.1⟩ r.2.2.2)) := by
  obtain ⟨ln, hln, h⟩ := oc_eq_some h
  obtain ⟨cn, hcn, h⟩ := oc_eq_some h
  obtain ⟨e, he, h⟩ := oc_eq_some h
  obtain ⟨z, hz, h⟩ := oc_eq_some h
  obtain ⟨s, hs, h⟩ := oc_eq_some h
  obtain ⟨bs, hbs, h⟩ := oc_eq_some h
  obtain ⟨hb, h⟩ := sel_none h
  obtain rfl := Option.some.inj h
  clear h
  obtain ⟨k1, rfl⟩ := natOf_eq hln
  obtain ⟨k2, rfl⟩ := natOf_eq hcn
  cases hl
  cases hc
  simp only [Bool.and_eq_true, fits] at hb
  obtain ⟨⟨h1, h2, h3⟩, h4⟩ := hb
  have h1 := Nat.le_of_ble_eq_true h1
  have h2 := Nat.le_of_ble_eq_true h2
  have h3 := Nat.le_of_ble_eq_true h3
  have h4 := Nat.eq_of_beq_eq_true h4
  have hmul : Nat.mul cn bs = cn * bs := rfl
  rw [hmul] at h2
  obtain ⟨i, hi, rfl⟩ := run_bytesB hbs
  obtain ⟨zv, z1, z2, z3⟩ := run_zeroB hz w
  have r1 := newRow_run (P := P) w (reps z cn) e
  have hu := elemB_eq he
  have w1 : IntKind.i64.wrap (ln : Int) = (ln : Int) := IntWalk.i64_in _ (by omega)
  have w2 : IntKind.i64.wrap (cn : Int) = (cn : Int) := IntWalk.i64_in _ (by omega)
  have hbig : ¬ ((281474976710656 : Int) < (i.bytes : Int) * (cn : Int)) := by
    have : (i.bytes : Int) * (cn : Int) = ((cn * i.bytes : Nat) : Int) := by rw [Int.natCast_mul, Int.mul_comm]
    rw [this]; omega
  have hsz : i.size = s := by
    obtain ⟨i', hi', hs'⟩ := oc_eq_some hs
    rw [hi] at hi'
    obtain rfl := Option.some.inj hi'
    exact Option.some.inj hs'
  have hlt : ¬ ((cn : Int) < (ln : Int)) := by omega
  refine ⟨flatL_reps z3 cn, by show cn < 1180591620717411303424; exact Nat.lt_of_le_of_lt h3 (by decide), ?_⟩
  generalize w.alloc (.cells ⟨reps z cn⟩ e) = w' at r1 ⊢
  show (Instr.makeSlice t (.int k1 ln) (.int k2 cn)).run P w = .ok (.slice (some ⟨w.heap.size, 0, none⟩) ln cn) w'
  have q1 : ¬ ((cn : Int) < 0) := by omega
  have q2 : ¬ ((ln : Int) < 0) := by omega
  by_cases h0 : cn * i.size = 0
  · have hrz : reps z cn = [] := by
      have := reps_length z cn
      rw [h4, ← hsz, h0] at this
      exact List.length_eq_zero_iff.1 this
    rw [hrz] at r1
    simp [Instr.makeSlice, run_underlying hu, asInt, asIntOf, typeInfo, hi, w1, w2, hlt, hbig, sizeOf, askRoom, h0, q1, q2]
    have e0 : Array.map (fun _ => (default : Value)) (Array.range 0) = ⟨[]⟩ := by simp [Array.range]
    rw [e0, r1]
    simp
  · have hrow := range_reps ⟨z⟩ cn (cn * i.size) (by simp [h4, hsz])
    simp at hrow
    simp [Instr.makeSlice, run_underlying hu, asInt, asIntOf, typeInfo, hi, w1, w2, hlt, hbig, sizeOf, askRoom, h0, zeroValue, q1, q2]
    obtain ⟨iz, hiz, hzz⟩ : ∃ iz, i.zero = some iz ∧ iz.cells = ⟨z⟩ := by
      simp [zeroValue, typeInfo, hi] at z1
      cases hq : i.zero with
      | none => rw [hq] at z1; simp [unsupported, Sem.run] at z1
      | some iz => rw [hq] at z1; simp at z1; subst z1; exact ⟨iz, rfl, z2⟩
    simp only [hiz, hzz]
    simp [hzz, hrow, r1]
theorem bs_run {P : Program} {σ : Ren} {w : World} {t : TypeId} {len : Nat} {ps : List (Nat × Value)} {qs : Array (Nat × Value)} {r : List Value × TypeId} (h : bsGo P t len ps = some r) (hp : PRs σ ps qs.toList) :
    ∃ l', VRs σ r.1 l' ∧ (Instr.buildSlice t len qs).run P w = .ok (.slice (some ⟨w.heap.size, 0, none⟩) len len) (w.alloc (.cells ⟨l'⟩ r.2)) := by
  obtain ⟨e, he, h⟩ := oc_eq_some h
  obtain ⟨z, hz, h⟩ := oc_eq_some h
  obtain ⟨s, hs, h⟩ := oc_eq_some h
  obtain ⟨hb, h⟩ := sel_none h
  obtain ⟨cs, hcs, h⟩ := oc_eq_some h
  obtain rfl := Option.some.inj h
  clear h
  simp only [Bool.and_eq_true] at hb
  obtain ⟨hb, hna⟩ := hb
  have h1 : len * s ≤ 16777216 := Nat.le_of_ble_eq_true hb.1
  have h4 := Nat.eq_of_beq_eq_true hb.2
  obtain ⟨zv, z1, z2, z3⟩ := run_zeroB hz w
  obtain ⟨cs', f1, f2⟩ := fill_vr hp hna (cs := ⟨reps z len⟩) (cs' := ⟨reps z len⟩) (flatL_vr (flatL_reps z3 len) σ) hcs
  have r1 := newRow_run (P := P) w cs'.toList e
  have hu := elemB_eq he
  refine ⟨cs'.toList, f2, ?_⟩
  show _ = Result.ok _ (w.alloc (.cells ⟨cs'.toList⟩ e))
  generalize w.alloc (.cells ⟨cs'.toList⟩ e) = w' at r1 ⊢
  have r1 : (newRow e cs').run P w = .ok ⟨w.heap.size, 0, none⟩ w' := r1
  have hbig' : ¬ (len * s > 2 ^ 24) := by omega
  simp only [Instr.buildSlice, Sem.run_bind, run_underlying hu, Result.andThen_ok, run_sizeB hs]
  rw [if_neg hbig']
  by_cases h0 : len * s = 0
  · have hrz : reps z len = [] := by
      have := reps_length z len
      rw [h4, h0] at this
      exact List.length_eq_zero_iff.1 this
    rw [hrz] at f1
    have e0 : Array.map (fun i => (#[] : Array Value)[i % (#[] : Array Value).size]!) (Array.range (len * s)) = ⟨[]⟩ := by rw [h0]; simp [Array.range]
    rw [if_pos h0]
    simp only [Sem.run_bind, Sem.run_pure, Result.andThen_ok, e0, f1, r1]
  · have hrow := range_reps ⟨z⟩ len (len * s) (by simp [h4])
    rw [if_neg h0]
    simp only [Sem.run_bind, Sem.run_pure, Result.andThen_ok, z1, z2, hrow, f1, r1]

/-- what such an operation makes, under the number X -/
noncomputable def fltOp (P : Program) (op : Op) (T : Tr Value) (X : Nat) : Option (Value × ABlk) :=
  match op with
  | .alloc e => oc (zeroB P e) none fun l => some (.pointer (some ⟨X, 0, none⟩), allocB l e)
  | .box e x => sel (!isAny (ev T x)) (some (.pointer (some ⟨X, 0, none⟩), .cells (layT (cellsL (ev T x))) e)) none
  | .buildSlice t n ps => sel (Nat.blt n big) (oc (bsGo P t n (evP T ps.toList)) none fun r => some (.slice (some ⟨X, 0, none⟩) n n, .cells (layT r.1) r.2)) none
  | .makeSlice t l c => oc (msGo P t (ev T l) (ev T c)) none fun r => some (.slice (some ⟨X, 0, none⟩) r.1 r.2.1, .cells (layT r.2.2.1) r.2.2.2)
  | .makeMap _ none => some (.map (some X), .map [] 0)
  | _ => none
theorem fltOp_congr {P : Program} {op : Op} {T T' : Tr Value} {X : Nat} (h : ∀ x ∈ op.operands, ev T x = ev T' x) : fltOp P op T X = fltOp P op T' X := by
  cases op <;> simp only [Op.operands] at h <;> simp only [fltOp]
  case buildSlice t k ps => rw [evP_congr fun x hx => h x (by simpa using hx)]
  case makeMap t r => cases r <;> rfl
  all_goals (first | rfl | (simp_all; done))
theorem BR.lay {σ : Ren} {l l' : List Value} (h : VRs σ l l') (c : Nat) {X : Nat} (hx : σ X = none) (e : TypeId) : BR (σ.put X (c, 0, l'.length)) 0 l'.length (some (.cells ⟨l'⟩ e (0, 0))) (.cells (layT l) e) := by
  refine ⟨_, rfl, by simp, fun i u hu => ?_⟩
  rw [layT_get] at hu
  have hext : σ.Ext (σ.put X (c, 0, l'.length)) := fun y t hy => by
    rw [Ren.put_other _ _ (fun e => by rw [e, hx] at hy; cases hy)]; exact hy
  obtain ⟨u', e1, e2⟩ := (h.mono hext).get i u hu
  exact ⟨u', by simpa using e1, e2⟩
theorem flt_ok {P : Program} {N : Nat} {σ : Ren} {w : World} {o : Oper} {a : Act} {T : Tr Value} (hT : TR σ N T a.tmps) (hop : opOk o.op = true) {X : Nat} (hX : σ X = none) {r : Value × ABlk} (h : fltOp P o.op T X = some r) :
    (∀ c, o.op ≠ .defer c) ∧ ∃ x m v', (execOp a.eval o).run P w = .ok (.value v') (w.alloc x) ∧ VR (σ.put X (w.heap.size, 0, m)) r.1 v' ∧ BR (σ.put X (w.heap.size, 0, m)) 0 m (some x) r.2 := by
  obtain ⟨dst, op, ty, pos, after, guard⟩ := o
  have hself : ∀ m, (σ.put X (w.heap.size, 0, m)) X = some (w.heap.size, 0, m) := fun m => Ren.put_self _ _ _
  cases op with
  | alloc e =>
    obtain ⟨l, hl, h⟩ := oc_eq_some h
    obtain rfl := Option.some.inj h
    obtain ⟨z, h1, h2, h3⟩ := run_zeroB hl w
    refine ⟨fun c => by simp, .cells ⟨l⟩ e, l.length, .pointer (some ⟨w.heap.size, 0, none⟩), ?_, by simpa using VR.ptr 0 (hself l.length), allocB_br (flatL_vr h3 _) (.lay (flatL_vr h3 σ) _ hX e) rfl rfl⟩
    have := newRow_run (P := P) w l e
    simp only [execOp, Instr.alloc, newVar, Sem.run_bind, h1, h2, this, Result.andThen_ok, Sem.run_pure]
  | box e x =>
    obtain ⟨hn, h⟩ := sel_none h
    obtain rfl := Option.some.inj h
    simp only [Bool.not_eq_true'] at hn
    have hv := cellsL_vr (ev_ok (a := a) hT hop) hn
    refine ⟨fun c => by simp, .cells ⟨(a.eval x).cells.toList⟩ e, (a.eval x).cells.toList.length, .pointer (some ⟨w.heap.size, 0, none⟩), ?_, by simpa using VR.ptr 0 (hself _), .lay hv _ hX e⟩
    have := newRow_run (P := P) w (a.eval x).cells.toList e
    simp only [execOp, Instr.box, newVar, Sem.run_bind, this, Result.andThen_ok, Sem.run_pure]
  | buildSlice t n ps =>
    obtain ⟨hk, h⟩ := sel_none h
    obtain ⟨q, hq, h⟩ := oc_eq_some h
    obtain rfl := Option.some.inj h
    obtain ⟨l', h1, h2⟩ := bs_run (P := P) (σ := σ) (w := w) (qs := ps.map fun p => (p.1, a.eval p.2)) hq (by simpa using evP_ok (a := a) hT hop)
    refine ⟨fun c => by simp, .cells ⟨l'⟩ q.2, l'.length, .slice (some ⟨w.heap.size, 0, none⟩) n n, ?_, by simpa using VR.slice 0 n n (hself l'.length) (blt_lt hk), .lay h1 _ hX q.2⟩
    have h2 : (Instr.buildSlice t n (ps.map fun (i, x) => (i, a.eval x))).run P w = .ok (.slice (some ⟨w.heap.size, 0, none⟩) n n) (w.alloc (.cells ⟨l'⟩ q.2)) := h2
    simp only [execOp, Sem.run_bind, h2, Result.andThen_ok, Sem.run_pure]
  | makeSlice t x y =>
    simp only [opOk, Bool.and_eq_true] at hop
    obtain ⟨q, hq, h⟩ := oc_eq_some h
    obtain rfl := Option.some.inj h
    obtain ⟨h1, h2, h3⟩ := ms_run (P := P) (w := w) hq (ev_ok (a := a) hT hop.1) (ev_ok (a := a) hT hop.2)
    refine ⟨fun c => by simp, .cells ⟨q.2.2.1⟩ q.2.2.2, q.2.2.1.length, .slice (some ⟨w.heap.size, 0, none⟩) q.1 q.2.1, ?_, by simpa using VR.slice 0 q.1 q.2.1 (hself q.2.2.1.length) h2, .lay (flatL_vr h1 σ) _ hX q.2.2.2⟩
    simp only [execOp, Sem.run_bind, h3, Result.andThen_ok, Sem.run_pure]
  | makeMap t r =>
    cases r with
    | some x => cases h
    | none =>
      obtain rfl := Option.some.inj h
      refine ⟨fun c => by simp, .map #[] 0, 0, .map (some w.heap.size), ?_, .map (hself 0), ⟨[], rfl, .nil _ _, rfl, rfl⟩⟩
      simp [execOp, Instr.makeMap, newObj, Sem.run_bind, Sem.run, World.alloc_eq]
  | _ => cases h

end Go.Proofs.Ythomkiindjhdmaa.Ax
