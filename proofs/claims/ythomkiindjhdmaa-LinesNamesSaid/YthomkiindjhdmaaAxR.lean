/-
  Calls in order. Own work, plain lemmas.
-/
import Derived.Test.YthomkiindjhdmaaAxQ
set_option linter.unusedSimpArgs false
set_option linter.unusedVariables false
set_option linter.unnecessarySimpa false
set_option linter.deprecated false
set_option linter.unusedSectionVars false
namespace Go.Proofs.Ythomkiindjhdmaa.Ax
open Go.RowKit
variable [Tabs]

/-! the way out -/
def isOpen (x : ABlk) : Bool :=
  match x with
  | .marks b => b
  | _ => false
noncomputable def closeM (D : List DItem) : AH → Option AH :=
  @List.rec DItem (fun _ => AH → Option AH) (fun H => some H) (fun d _ ih H => @DItem.rec (fun _ => Option AH) (fun b => oc (H.blocks.get b) none fun x => sel (isOpen x) (ih (H.setB b (.marks false))) none) (fun _ _ => none) d) D
theorem closeM_mark (b : Nat) (D : List DItem) (H : AH) : closeM (.mark b :: D) H = oc (H.blocks.get b) none fun x => sel (isOpen x) (closeM D (H.setB b (.marks false))) none := rfl
theorem closeM_call (g : Nat) (c : List Value) (D : List DItem) (H : AH) : closeM (.call g c :: D) H = none := rfl
theorem isOpen_eq {x : ABlk} (h : isOpen x = true) : x = .marks true := by
  unfold isOpen at h
  split at h
  · subst h; rfl
  · cases h
theorem closeM_low : ∀ {D : List DItem} {H H' : AH}, closeM D H = some H' → H'.low ≤ H.low
  | [], H, H', h => by obtain rfl := Option.some.inj h; exact Nat.le_refl _
  | .call g c :: D, H, H', h => by rw [closeM_call] at h; cases h
  | .mark b :: D, H, H', h => by
    rw [closeM_mark] at h
    obtain ⟨x, _, h⟩ := oc_eq_some h
    obtain ⟨_, h⟩ := sel_none h
    exact Nat.le_trans (closeM_low h) (Nat.min_le_left _ _)

noncomputable def res1 (P : Program) (T : Tr Value) (H : AH) (r : ResultVar) : Option Value :=
  match r with
  | .tmp i => some (tget T i)
  | .cell a t => oc (addrOf (tget T a)) none fun p => loadB P t H p.1 p.2
noncomputable def resL (P : Program) (T : Tr Value) (H : AH) (l : List ResultVar) : Option (List Value) :=
  @List.rec ResultVar (fun _ => Option (List Value)) (some []) (fun r _ ih => oc (res1 P T H r) none fun v => oc ih none fun l => some (v :: l)) l
theorem resL_cons (P : Program) (T : Tr Value) (H : AH) (r : ResultVar) (l : List ResultVar) : resL P T H (r :: l) = oc (res1 P T H r) none fun v => oc (resL P T H l) none fun l => some (v :: l) := rfl
def wrapR (l : List Value) : Value :=
  match l with
  | [v] => v
  | l => .tuple ⟨l⟩
/-- what a function hands back, one by one -/
def resOne (ts : Array Value) (r : ResultVar) : Sem Value :=
  match r with
  | .tmp t => pure (ts.getD t undef)
  | .cell a t => do loadVar t (← asAddr (ts.getD a undef))
theorem res1_ok {P : Program} {N : Nat} {n0 : Bs} {σ : Ren} {H : AH} {w : World} (hr : HR n0 σ H w) {T : Tr Value} {ts : Array Value} (hT : TR σ N T ts) {r : ResultVar} {v : Value} (h : res1 P T H r = some v) : ∃ v', VR σ v v' ∧ (resOne ts r).run P w = .ok v' w := by
  cases r with
  | tmp i =>
    obtain rfl := Option.some.inj h
    exact ⟨_, hT.slot i, rfl⟩
  | cell a t =>
    obtain ⟨p, hp, h⟩ := oc_eq_some h
    obtain ⟨c, d, m, hs, e⟩ := addrOf_vr hp (hT.slot a)
    obtain ⟨v', h1, h2⟩ := run_loadVarB (P := P) hr h hs
    refine ⟨v', h1, ?_⟩
    unfold resOne
    simp only [e, asAddr, Sem.run_bind, Sem.run_pure, Result.andThen_ok, h2]
theorem resL_ok {P : Program} {N : Nat} {n0 : Bs} {σ : Ren} {H : AH} {w : World} (hr : HR n0 σ H w) {T : Tr Value} {ts : Array Value} (hT : TR σ N T ts) : ∀ {l : List ResultVar} {vs : List Value}, resL P T H l = some vs → ∃ vs', VRs σ vs vs' ∧ (l.mapM (resOne ts)).run P w = .ok vs' w
  | [], vs, h => by
    obtain rfl := Option.some.inj h
    exact ⟨[], .nil, by simp⟩
  | r :: l, vs, h => by
    rw [resL_cons] at h
    obtain ⟨v, hv, h⟩ := oc_eq_some h
    obtain ⟨us, hus, h⟩ := oc_eq_some h
    obtain rfl := Option.some.inj h
    obtain ⟨v', h1, h2⟩ := res1_ok (P := P) hr hT hv
    obtain ⟨us', h3, h4⟩ := resL_ok (P := P) hr hT hus
    exact ⟨v' :: us', .cons h1 h3, by simp [List.mapM_cons, Sem.run_bind, h2, h4]⟩
theorem results_ok {P : Program} {N : Nat} {n0 : Bs} {σ : Ren} {H : AH} {w : World} (hr : HR n0 σ H w) {T : Tr Value} {ts : Array Value} (hT : TR σ N T ts) {fd : Func} {vs : List Value} (h : resL P T H fd.results.toList = some vs) : ∃ v', VR σ (wrapR vs) v' ∧ (results fd ts).run P w = .ok v' w := by
  obtain ⟨vs', h1, h2⟩ := resL_ok (P := P) hr hT h
  have e : results fd ts = (do let vs ← fd.results.toList.mapM (resOne ts); pure (if h : vs.toArray.size = 1 then vs.toArray[0] else .tuple vs.toArray)) := by
    unfold results
    rw [Array.mapM_eq_mapM_toList]
    simp only [map_eq_pure_bind, bind_assoc, pure_bind]
    rfl
  rw [e]
  simp only [Sem.run_bind, h2, Result.andThen_ok, Sem.run_pure]
  refine ⟨_, ?_, rfl⟩
  cases h1 with
  | nil => exact VRs.tuple .nil
  | cons hv hl =>
    cases hl with
    | nil => simpa [wrapR] using hv
    | cons hv2 hl2 => simpa [wrapR] using VRs.tuple (.cons hv (.cons hv2 hl2))

def exDone (e : Ex) : Bool :=
  match e with
  | .exit _ => false
  | _ => true
noncomputable def leaveF (P : Program) (fd : Func) (x : Ex × XSt) : VRes :=
  sel (exDone x.1) (oc (closeM x.2.2.1 x.2.2.2) none fun H => oc (resL P x.2.1 H fd.results.toList) none fun l => some (wrapR l, H)) none
def fuel : Nat := 1000000000
noncomputable def bodyF (rd : RegT) (P : Program) (ih : CallT) (fd : Func) (args : List Value) (H : AH) : VRes :=
  oc fd.body none fun c => sel (Nat.ble args.length fd.ntmps && !(fd.name == "runtime.NumGoroutine")) (oc (exec rd P ih none fd.ntmps fuel c (layT args, [], H)) none fun x => leaveF P fd x) none
def jumpOf (e : Ex) : Option Code :=
  match e with
  | .normal => none
  | .ret => some .ret
  | .exit i => some (.exit i)
noncomputable def setPs (N : Nat) (ps : List Tmp) : List Value → Tr Value → Option (Tr Value) :=
  @List.rec Tmp (fun _ => List Value → Tr Value → Option (Tr Value)) (fun vs T => some T) (fun t _ ih vs T => match vs with
    | [] => none
    | v :: vs => sel (Nat.blt t N) (ih vs (T.set t v)) none) ps
theorem setPs_cons (N : Nat) (t : Tmp) (ps : List Tmp) (v : Value) (vs : List Value) (T : Tr Value) : setPs N (t :: ps) (v :: vs) T = sel (Nat.blt t N) (setPs N ps vs (T.set t v)) none := rfl
noncomputable def endF (l : Nat) (x : Ex × XSt) : VRes := oc (loopAt x.2.2.2 l) none fun r => some (.bool (jumpOf x.1).isNone, x.2.2.2.setL l r (if (jumpOf x.1).isNone then .ready else .done) (jumpOf x.1))
def exNormal (e : Ex) : Bool :=
  match e with
  | .normal => true
  | _ => false
noncomputable def roundF (rd : RegT) (P : Program) (ih : CallT) (l : Nat) (args : List Value) (H : AH) : VRes :=
  oc (loopAt H l) none fun r => sel (Nat.beq args.length r.params.size) (oc (setPs r.N r.params.toList args r.T) none fun T => oc (exec rd P ih (some l) r.N fuel r.assign (T, [], H)) none fun x =>
    sel (exNormal x.1) (oc (loopAt x.2.2.2 l) none fun r2 => sel (stReady r2.st) (oc (exec rd P ih (some l) r.N fuel r.body (x.2.1, x.2.2.1, x.2.2.2.setL l r2 .busy r2.pend)) none fun y => endF l y) none) none) none
noncomputable def callGo (rd : RegT) (P : Program) (ih : CallT) (fn : Fn) (args : List Value) (H : AH) : VRes :=
  match fn with
  | .func f => oc (P.funcs[f]?) none fun fd => bodyF rd P ih fd args H
  | .yield l => roundF rd P ih l args H
  | _ => none
noncomputable def callF (rd : RegT) (P : Program) (n : Nat) : CallT := @Nat.rec (fun _ => CallT) (fun _ _ _ => none) (fun _ ih => callGo rd P ih) n
theorem callF_succ (rd : RegT) (P : Program) (n : Nat) : callF rd P (n + 1) = callGo rd P (callF rd P n) := rfl

theorem enter_TR {σ : Ren} {l : List Value} {args : Array Value} (h : VRs σ l args.toList) {N : Nat} (hN : l.length ≤ N) : TR σ N (layT l) (args ++ Array.replicate (N - args.size) undef) := by
  have hs : args.size = l.length := by have := h.length; simpa using this.symm
  refine ⟨by simp; omega, fun i => ?_⟩
  unfold tget
  rw [layT_get]
  by_cases hi : i < l.length
  · obtain ⟨v', h1, h2⟩ := h.get i l[i] (by simp [hi])
    have h1' : args[i]? = some v' := by simpa using h1
    have hlt : i < args.size := by omega
    simp only [List.getElem?_eq_getElem hi, oc_some]
    have : (args ++ Array.replicate (N - args.size) undef).getD i undef = v' := by
      simp only [Array.getD_eq_getD_getElem?, Array.getElem?_append_left hlt, h1']
      rfl
    rw [this]
    exact h2
  · simp only [List.getElem?_eq_none (Nat.le_of_not_lt hi), oc_none]
    have : (args ++ Array.replicate (N - args.size) undef).getD i undef = undef := by
      simp only [Array.getD_eq_getD_getElem?]
      rw [Array.getElem?_append_right (by omega)]
      by_cases h2 : i - args.size < N - args.size
      · simp [h2]
      · simp [h2]
    rw [this]
    exact vr_undef σ

theorem leaves_ok {P : Program} {F : Fence} {n N : Nat} {n0 : Bs} {fd : Func} {T : Tr Value} {ts : Array Value} {vs : List Value} {R : Ending → World → Prop} : ∀ {D : List DItem} {ds : List Deferred} {σ : Ren} {H H' : AH} {w : World}, closeM D H = some H' → DR σ D ds → TR σ N T ts → HR n0 σ H w → resL P T H' fd.results.toList = some vs →
    (∀ v' w', VR σ (wrapR vs) v' → HR n0 σ H' w' → Step n0 σ w H'.low σ w' → R (.returned v') w') → LeavesInM F n P fd ts R ds .returning w
  | [], ds, σ, H, H', w, hc, hD, hT, hr, hres, hR => by
    obtain rfl := Option.some.inj hc
    cases hD
    obtain ⟨v', h1, h2⟩ := results_ok (P := P) hr hT hres
    exact ⟨v', h2, hR v' w h1 hr (Step.refl _ _ _ _)⟩
  | .call g c :: D, ds, σ, H, H', w, hc, hD, hT, hr, hres, hR => by rw [closeM_call] at hc; cases hc
  | .mark b :: D, ds, σ, H, H', w, hc, hD, hT, hr, hres, hR => by
    rw [closeM_mark] at hc
    obtain ⟨x, hx, hc1⟩ := oc_eq_some hc
    clear hc
    obtain ⟨ho, hc2⟩ := sel_none hc1
    clear hc1
    obtain rfl := isOpen_eq ho
    cases hD with
    | @cons _ c _ ds hb hl =>
      obtain ⟨c', d', m', hs', hn, hB⟩ := hr.blk b _ hx
      rw [hb] at hs'
      injection hs' with hs'
      injection hs' with e1 hs'
      injection hs' with e2 e3
      subst e1 e2 e3
      have hobj : w.heap[c]? = some (.deferred (some [])) := by simpa using hB.1
      obtain ⟨g1, g2⟩ := hr.setObj hx hb (o := .deferred none) (x := .marks false) ⟨rfl, rfl, rfl⟩
      refine ⟨(fun h => by cases h), .inl ⟨c, setObjW w c (.deferred none), rfl, ?_, ?_⟩⟩
      · simp [Instr.takeDeferred, getObj, setObj, Sem.run, Sem.run_bind, hobj, setObjW]
      · exact leaves_ok hc2 hl hT g1 hres fun v' w' q1 q2 q3 => hR v' w' q1 q2 (g2.trans q3 (closeM_low hc2))

theorem setPs_ok {σ : Ren} {N : Nat} : ∀ {ps : List Tmp} {vs vs' : List Value} {T T' : Tr Value} {ts : Array Value}, setPs N ps vs T = some T' → VRs σ vs vs' → TR σ N T ts → TR σ N T' ((ps.zip vs').foldl (fun ts (x : Tmp × Value) => ts.setIfInBounds x.1 x.2) ts)
  | [], vs, vs', T, T', ts, h, hv, hT => by
    obtain rfl := Option.some.inj h
    simpa using hT
  | t :: ps, [], vs', T, T', ts, h, hv, hT => by cases h
  | t :: ps, v :: vs, vs', T, T', ts, h, hv, hT => by
    rw [setPs_cons] at h
    obtain ⟨ht, h⟩ := sel_none h
    cases hv with
    | cons h1 h2 =>
      simp only [List.zip_cons_cons, List.foldl_cons]
      exact setPs_ok h h2 (hT.set h1 (blt_lt ht))

theorem callGo_ok {P : Program} {n0 : Nat} {rd : RegT} (hrd : RdOK P n0 rd) (hlow : RdLow rd) {call : CallT} (ih : CallOK P n0 call) : CallOK P n0 (callGo rd P call) := by
    intro Q X fn args H v H' h σ w fn' args' hfn hargs hr
    unfold callGo at h
    cases hfn with
    | method s => cases h
    | func f =>
      obtain ⟨fd, hfd, h⟩ := oc_eq_some h
      obtain ⟨c, hc, h⟩ := oc_eq_some h
      obtain ⟨hb, h⟩ := sel_none h
      obtain ⟨x, hx, h⟩ := oc_eq_some h
      obtain ⟨hd, h⟩ := sel_none h
      obtain ⟨H2, hcl, h⟩ := oc_eq_some h
      obtain ⟨vs, hvs, h⟩ := oc_eq_some h
      obtain ⟨rfl, rfl⟩ := Prod.mk.inj (Option.some.inj h)
      simp only [Bool.and_eq_true, Bool.not_eq_true'] at hb
      refine ⟨⟨fd, hfd, hb.2, by rw [hc]; rfl⟩, fun n => ?_⟩
      have hN := ble_le hb.1
      refine callsIn_of_wp_marks hfd hc trivial ?_
      have hex := exec_ok (n0 := ⟨⟨n0, Q⟩, X⟩) ih hrd hlow fuel c _ x hx Fence.wide n σ w { tmps := args' ++ Array.replicate (fd.ntmps - args'.size) undef, defers := [] } ⟨none, rfl⟩ rfl (enter_TR hargs hN) .nil hr
      refine wpIn_mono hex ?_
      rintro e a' w' ⟨rfl, σ', q1, q2, q3, q4⟩
      have main : LeavesInM Fence.wide n P fd a'.tmps (RetOK ⟨⟨n0, Q⟩, X⟩ σ w (wrapR vs) H2) a'.defers .returning w' :=
        leaves_ok hcl q2 q1 q3 hvs fun v' w'' z1 z2 z3 => ⟨v', σ', rfl, z1, z2, q4.trans z3 (closeM_low hcl)⟩
      obtain ⟨e, s⟩ := x
      cases e with
      | normal => exact main
      | ret => exact main
      | exit i => cases hd
    | @yield l c hl =>
      obtain ⟨r, hlr, h⟩ := oc_eq_some h
      obtain ⟨hlen, h⟩ := sel_none h
      obtain ⟨T, hT, h⟩ := oc_eq_some h
      obtain ⟨x, hx, h⟩ := oc_eq_some h
      obtain ⟨hnx, h⟩ := sel_none h
      obtain ⟨r2, hr2, h⟩ := oc_eq_some h
      obtain ⟨hst, h⟩ := sel_none h
      obtain ⟨y, hy, h⟩ := oc_eq_some h
      obtain ⟨r3, hr3, h⟩ := oc_eq_some h
      obtain ⟨rfl, rfl⟩ := Prod.mk.inj (Option.some.inj h)
      obtain ⟨q, hq1, hq2, _, _⟩ := hr.loop hlr hl
      have hlen := Nat.eq_of_beq_eq_true hlen
      have hsz : args'.size = q.params.size := by rw [hq2.params, ← hlen]; have := hargs.length; simpa using this.symm
      refine ⟨q.fn, (q.params.zip args').foldl (fun ts (x : Tmp × Value) => ts.setIfInBounds x.1 x.2) q.tmps, q.assign, q.body, ?_, fun n => ?_⟩
      · simp [Instr.yield, Sem.run_bind, run_getLoop hq1, hsz]
      · have hTR : TR σ r.N T ((q.params.zip args').foldl (fun ts (x : Tmp × Value) => ts.setIfInBounds x.1 x.2) q.tmps) := by
          have := setPs_ok hT hargs hq2.tmps
          rw [← hq2.params] at this
          rwa [← Array.foldl_toList, Array.toList_zip]
        refine roundIn_of_wpIn trivial ?_
        have hF : WideF (Fence.wide.inRound c) := ⟨some c, rfl⟩
        have h1 := exec_ok (n0 := ⟨⟨n0, Q⟩, X⟩) ih hrd hlow fuel r.assign _ x hx (Fence.wide.inRound c) n σ w { tmps := (q.params.zip args').foldl (fun ts (x : Tmp × Value) => ts.setIfInBounds x.1 x.2) q.tmps, defers := [] } hF ⟨c, rfl, hl⟩ hTR .nil hr
        rw [hq2.assign, hq2.body]
        refine wpIn_mono h1 ?_
        rintro e a₁ w₁ ⟨rfl, σ₁, q1, q2, q3, q4⟩
        obtain ⟨ex, sx⟩ := x
        cases ex with
        | exit i => cases hnx
        | ret => cases hnx
        | normal =>
          obtain ⟨w₂, b1, b2, b3⟩ := begin_ok (P := P) q3 hr2 (q4.ext _ _ hl) hst
          refine ⟨w₂, b1, ?_⟩
          have h2 := exec_ok (n0 := ⟨⟨n0, Q⟩, X⟩) ih hrd hlow fuel r.body _ y hy (Fence.wide.inRound c) n σ₁ w₂ a₁ hF ⟨c, rfl, q4.ext _ _ hl⟩ q1 q2 b2
          have ly := exec_low (P := P) (call := call) (rnd := some l) (N := r.N) hlow fuel _ _ _ hy
          refine wpIn_mono h2 ?_
          rintro e₂ a₂ w₃ ⟨rfl, σ₂, z1, z2, z3, z4⟩
          obtain ⟨w₄, e1, e2, e3⟩ := end_ok (P := P) z3 hr3 (z4.ext _ _ (q4.ext _ _ hl)) (jumpOf y.1)
          have stA : Step ⟨⟨n0, Q⟩, X⟩ σ w y.2.2.2.low σ₂ w₃ := ((q4.trans b3 (setL_low _ _ _ _ _)).lower ly).trans z4 (Nat.le_refl _)
          have fin : RetOK ⟨⟨n0, Q⟩, X⟩ σ w (.bool (jumpOf y.1).isNone) (y.2.2.2.setL l r3 (if (jumpOf y.1).isNone then .ready else .done) (jumpOf y.1)) (.returned (.bool (jumpOf y.1).isNone)) w₄ :=
            ⟨_, σ₂, rfl, .bool _, e2, stA.trans e3 (setL_low _ _ _ _ _)⟩
          obtain ⟨ey, sy⟩ := y
          cases ey with
          | normal => exact ⟨_, w₄, e1, fin⟩
          | ret => exact ⟨_, w₄, e1, fin⟩
          | exit i => exact ⟨_, w₄, e1, fin⟩
theorem callF_ok {P : Program} {n0 : Nat} {rd : RegT} (hrd : RdOK P n0 rd) (hlow : RdLow rd) : ∀ k, CallOK P n0 (callF rd P k)
  | 0 => fun Q X fn args H v H' h => by cases h
  | k + 1 => callGo_ok hrd hlow (callF_ok hrd hlow k)

end Go.Proofs.Ythomkiindjhdmaa.Ax
