/-
  Code in order. Own work, plain lemmas.
-/
import Derived.Test.YthomkiindjhdmaaAxP
import Derived.Sort.LoopGhostIn
set_option linter.unusedSimpArgs false
set_option linter.unusedVariables false
set_option linter.unnecessarySimpa false
set_option linter.deprecated false
set_option linter.unusedSectionVars false
namespace Go.Proofs.Ythomkiindjhdmaa.Ax
open Go.RowKit
variable [Tabs]

section scopes
variable {F : Fence} {n : Nat} {P : Program} {b : Frame} {a : Act} {k : List Item} {cs : List Frame} {w : World} {Q : Exit → Act → World → Prop}
theorem stepR_scope {c : Code} : step P (lone (b.atR a (.code (.scope c) :: k)) cs w) = .next (lone (b.atR a (.code c :: .inScope c :: k)) cs w) :=
  step_lone_go (by simp [stepG, stepG.exec, Frame.atR])
theorem stepR_inScope {c : Code} : step P (lone (b.atR a (.inScope c :: k)) cs w) = .next (lone (b.atR a k) cs w) :=
  step_lone_go (by simp [stepG, stepG.exec, Frame.atR])
/-- a scope to whose labels nobody jumps -/
theorem wpIn_scope {c : Code} (hQ : ∀ l a w, ¬ Q (.goto l) a w) (h : c.wpIn F n P Q a w) : (Code.scope c).wpIn F n P Q a w := by
  intro b k cs hro hb hr
  have h0 : (lone (b.atR a (.code (.scope c) :: k)) cs w).fenced P F := fenced_calm hb hr rfl
  obtain ⟨e, a₁, w₁, hq, harr⟩ := h b (.inScope c :: k) cs hro hb hr
  cases e with
  | normal => exact ⟨.normal, a₁, w₁, hq, .head h0 stepR_scope (StepsIn.trans harr (.one (fenced_calm hb hr rfl) stepR_inScope))⟩
  | exit id =>
    have hx : exitTo id (.inScope c :: k) = exitTo id k := by simp [exitTo]
    exact ⟨.exit id, a₁, w₁, hq, fun k' hk => .head h0 stepR_scope (harr.1 k' (by rw [hx]; exact hk)),
      fun hr' hk => let ⟨k₁, h1, h2⟩ := harr.2 hr' (by rw [hx]; exact hk); ⟨k₁, h1, .head h0 stepR_scope h2⟩⟩
  | goto l => exact absurd hq (hQ _ _ _)
  | ret => exact ⟨_, a₁, w₁, hq, .of_steps (.one h0 stepR_scope) harr⟩
  | panic ch => exact ⟨_, a₁, w₁, hq, .of_steps (.one h0 stepR_scope) harr⟩
  | outgrown => exact ⟨_, a₁, w₁, hq, .of_steps (.one h0 stepR_scope) harr⟩
end scopes

inductive Ex where
  | normal
  | exit (i : Nat)
  | ret
def eR : Ex → Exit
  | .normal => .normal
  | .exit i => .exit i
  | .ret => .ret
abbrev XSt := Tr Value × List DItem × AH
abbrev XRes := Option (Ex × XSt)
abbrev RegT := CallT → Nat → List Oper → Tr Value → AH → Option (Tr Value × AH)

noncomputable def bindX (r : XRes) (k : XSt → XRes) : XRes := oc r none fun x => @Ex.rec (fun _ => XRes) (k x.2) (fun _ => r) r x.1
noncomputable def blockX (i : Nat) (r : XRes) : XRes := oc r none fun x => @Ex.rec (fun _ => XRes) r (fun j => sel (Nat.beq j i) (some (.normal, x.2)) r) r x.1
noncomputable def regionX (rd : RegT) (P : Program) (call : CallT) (N : Nat) (draw : Bool) (ops : List Oper) (s : XSt) : XRes :=
  oc (sel draw (rd call N ops s.1 s.2.2) (regSeq P call N ops s.1 s.2.2)) none fun r => some (.normal, (r.1, s.2.1, r.2))
noncomputable def condX (c : Operand) (s : XSt) (x y : XRes) : XRes := sel (opdOk c) (oc (asB (ev s.1 c)) none fun b => sel b x y) none

/-- the function that is ranged over, called with yield -/
noncomputable def callRF (call : CallT) (f : Operand) (T : Tr Value) (L : Nat) (H : AH) : Option AH :=
  oc (fnVal (ev T f) [.func (.yield L) #[] #[]]) none fun p => match p.1 with
    | .func _ => oc (call p.1 p.2 H.fresh) none fun r => some (r.2.back H.low)
    | _ => none
noncomputable def leaveRF (ih : Code → XSt → XRes) (T : Tr Value) (D : List DItem) (L : Nat) (H : AH) : XRes :=
  oc (loopAt H L) none fun r => sel (stBusy r.st) none
    (oc r.pend (some (.normal, (T, D, H.setL L r .exhausted r.pend))) fun c => ih c (T, D, H.setL L r .exhausted r.pend))
noncomputable def goRF (call : CallT) (ih : Code → XSt → XRes) (N : Nat) (f : Operand) (ps : Array Tmp) (as bd : Code) (T : Tr Value) (D : List DItem) (df : Nat) (H : AH) : XRes :=
  sel (opdOk f) (oc (callRF call f T H.next (H.push (.loop ⟨.ready, none, T, N, ps, as, bd, df⟩))) none fun H3 => leaveRF ih T D H.next H3) none
noncomputable def rangeX (call : CallT) (ih : Code → XSt → XRes) (rnd : Option Nat) (N : Nat) (f : Operand) (ps : Array Tmp) (as bd : Code) (s : XSt) : XRes :=
  oc rnd (goRF call ih N f ps as bd s.1 (.mark s.2.2.next :: s.2.1) s.2.2.next (s.2.2.push (.marks true)))
    fun l => oc (loopAt s.2.2 l) none fun r => goRF call ih N f ps as bd s.1 s.2.1 r.defers s.2.2

noncomputable def exec (rd : RegT) (P : Program) (call : CallT) (rnd : Option Nat) (N : Nat) (n : Nat) : Code → XSt → XRes :=
  @Nat.rec (fun _ => Code → XSt → XRes) (fun _ _ => none)
    (fun _ ih c s => @Code.rec (fun _ => XRes)
      (some (.normal, s))
      (fun _ ops draw => regionX rd P call N draw ops.toList s)
      (fun a b _ _ => bindX (ih a s) (ih b))
      (fun c a b _ _ => condX c s (ih a s) (ih b s))
      (fun i b _ => blockX i (ih b s))
      (fun b _ => bindX (ih b s) (ih (.loop b)))
      (fun f ps as bd _ _ => rangeX call ih rnd N f ps as bd s)
      (fun i => some (.exit i, s))
      (fun b _ => ih b s)
      (fun _ => some (.normal, s))
      (fun _ => none)
      (some (.ret, s))
      (fun _ => none) c) n

section eqs
variable (rd : RegT) (P : Program) (call : CallT) (rnd : Option Nat) (N n : Nat) (s : XSt)
theorem exec_zero (c : Code) : exec rd P call rnd N 0 c s = none := rfl
theorem exec_skip : exec rd P call rnd N (n + 1) .skip s = some (.normal, s) := rfl
theorem exec_label (l : Nat) : exec rd P call rnd N (n + 1) (.label l) s = some (.normal, s) := rfl
theorem exec_ret : exec rd P call rnd N (n + 1) .ret s = some (.ret, s) := rfl
theorem exec_exit (i : Nat) : exec rd P call rnd N (n + 1) (.exit i) s = some (.exit i, s) := rfl
theorem exec_region (id : Nat) (ops : Array Oper) (d : Bool) : exec rd P call rnd N (n + 1) (.region id ops d) s = regionX rd P call N d ops.toList s := rfl
theorem exec_seq (a b : Code) : exec rd P call rnd N (n + 1) (.seq a b) s = bindX (exec rd P call rnd N n a s) (exec rd P call rnd N n b) := rfl
theorem exec_cond (c : Operand) (a b : Code) : exec rd P call rnd N (n + 1) (.cond c a b) s = condX c s (exec rd P call rnd N n a s) (exec rd P call rnd N n b s) := rfl
theorem exec_block (i : Nat) (b : Code) : exec rd P call rnd N (n + 1) (.block i b) s = blockX i (exec rd P call rnd N n b s) := rfl
theorem exec_loop (b : Code) : exec rd P call rnd N (n + 1) (.loop b) s = bindX (exec rd P call rnd N n b s) (exec rd P call rnd N n (.loop b)) := rfl
theorem exec_scope (b : Code) : exec rd P call rnd N (n + 1) (.scope b) s = exec rd P call rnd N n b s := rfl
theorem exec_range (f : Operand) (ps : Array Tmp) (as bd : Code) : exec rd P call rnd N (n + 1) (.rangeFunc f ps as bd) s = rangeX call (exec rd P call rnd N n) rnd N f ps as bd s := rfl
end eqs

/-- where code comes to -/
def CodeAt (n0 : Bs) (N : Nat) (σ : Ren) (w : World) (x : Ex × XSt) (e : Exit) (a' : Act) (w' : World) : Prop :=
  e = eR x.1 ∧ ∃ σ', TR σ' N x.2.1 a'.tmps ∧ DR σ' x.2.2.1 a'.defers ∧ HR n0 σ' x.2.2.2 w' ∧ Step n0 σ w x.2.2.2.low σ' w'
def RndR (σ : Ren) : Option Nat → Option Nat → Prop
  | none, ro => ro = none
  | some l, ro => ∃ c, ro = some c ∧ σ l = some (c, 0, 0)
theorem RndR.mono {σ σ' : Ren} (h : σ.Ext σ') {r ro : Option Nat} (hr : RndR σ r ro) : RndR σ' r ro := by
  cases r with
  | none => exact hr
  | some l => obtain ⟨c, h1, h2⟩ := hr; exact ⟨c, h1, h _ _ h2⟩

def RdLow (rd : RegT) : Prop := ∀ call N ops T H T' H', rd call N ops T H = some (T', H') → H'.low ≤ H.low
def RdOK (P : Program) (n0 : Nat) (rd : RegT) : Prop :=
  ∀ (Q X : Nat → Prop) (call : CallT), CallOK P n0 call → ∀ (F : Fence), WideF F → ∀ (n N id : Nat) (ops : Array Oper) (T T' : Tr Value) (H H' : AH) (σ : Ren) (w : World) (a : Act), rd call N ops.toList T H = some (T', H') → TR σ N T a.tmps → HR ⟨⟨n0, Q⟩, X⟩ σ H w →
    ∀ (K : Exit → Act → World → Prop), (∀ a' w', At ⟨⟨n0, Q⟩, X⟩ N σ w T' H' a.defers a' w' → K .normal a' w') → (Code.region id ops true).wpIn F n P K a w

theorem bindX_eq {r : XRes} {k : XSt → XRes} {x : Ex × XSt} (h : bindX r k = some x) : (∃ s, r = some (.normal, s) ∧ k s = some x) ∨ (x.1 ≠ .normal ∧ r = some x) := by
  obtain ⟨⟨e, s⟩, hr, h⟩ := oc_eq_some h
  cases e with
  | normal => exact .inl ⟨s, hr, h⟩
  | exit i =>
    have h : r = some x := h
    rw [hr] at h
    obtain rfl := Option.some.inj h
    exact .inr ⟨(fun h => by cases h), hr⟩
  | ret =>
    have h : r = some x := h
    rw [hr] at h
    obtain rfl := Option.some.inj h
    exact .inr ⟨(fun h => by cases h), hr⟩

theorem setL_low (H : AH) (l : Nat) (r : ALoop) (st : LoopState) (p : Option Code) : (H.setL l r st p).low ≤ H.low := Nat.min_le_left _ _
theorem goRF_low {call : CallT} {ih : Code → XSt → XRes} (hih : ∀ c s x, ih c s = some x → x.2.2.2.low ≤ s.2.2.low) {N : Nat} {f : Operand} {ps : Array Tmp} {as bd : Code} {T : Tr Value} {D : List DItem} {df : Nat} {H : AH} {x : Ex × XSt} (h : goRF call ih N f ps as bd T D df H = some x) : x.2.2.2.low ≤ H.low := by
  obtain ⟨_, h⟩ := sel_none h
  obtain ⟨H3, h3, h⟩ := oc_eq_some h
  have l3 : H3.low ≤ H.low := by
    obtain ⟨p, _, h3⟩ := oc_eq_some h3
    split at h3
    · obtain ⟨r, _, h3⟩ := oc_eq_some h3
      obtain rfl := Option.some.inj h3
      exact Nat.min_le_left _ _
    · cases h3
  obtain ⟨r, _, h⟩ := oc_eq_some h
  obtain ⟨_, h⟩ := sel_none' h
  cases hp : r.pend with
  | none =>
    rw [hp] at h
    obtain rfl := Option.some.inj h
    exact Nat.le_trans (setL_low _ _ _ _ _) l3
  | some c =>
    rw [hp] at h
    exact Nat.le_trans (hih _ _ _ h) (Nat.le_trans (setL_low _ _ _ _ _) l3)
theorem exec_low {rd : RegT} (hrd : RdLow rd) {P : Program} {call : CallT} {rnd : Option Nat} {N : Nat} : ∀ (n : Nat) (c : Code) (s : XSt) (x : Ex × XSt), exec rd P call rnd N n c s = some x → x.2.2.2.low ≤ s.2.2.low := by
  intro n
  induction n with
  | zero => intro c s x h; cases h
  | succ n ih =>
    intro c s x h
    cases c with
    | skip => obtain rfl := Option.some.inj h; exact Nat.le_refl _
    | label l => obtain rfl := Option.some.inj h; exact Nat.le_refl _
    | ret => obtain rfl := Option.some.inj h; exact Nat.le_refl _
    | exit i => obtain rfl := Option.some.inj h; exact Nat.le_refl _
    | scope b =>
      rw [exec_scope] at h
      exact ih _ _ _ h
    | goto l => cases h
    | refuse y => cases h
    | region id ops d =>
      rw [exec_region] at h
      obtain ⟨r, hr, h⟩ := oc_eq_some h
      obtain rfl := Option.some.inj h
      rcases sel_eq_some hr with ⟨_, hr⟩ | ⟨_, hr⟩
      · exact hrd _ _ _ _ _ _ _ hr
      · exact execOps_low (sel_none hr).2
    | seq a b =>
      rw [exec_seq] at h
      rcases bindX_eq h with ⟨s1, h1, h2⟩ | ⟨_, h1⟩
      · exact Nat.le_trans (ih _ _ _ h2) (ih _ _ _ h1)
      · exact ih _ _ _ h1
    | loop b =>
      rw [exec_loop] at h
      rcases bindX_eq h with ⟨s1, h1, h2⟩ | ⟨_, h1⟩
      · exact Nat.le_trans (ih _ _ _ h2) (ih _ _ _ h1)
      · exact ih _ _ _ h1
    | cond c a b =>
      rw [exec_cond] at h
      obtain ⟨_, h⟩ := sel_none h
      obtain ⟨g, _, h⟩ := oc_eq_some h
      cases g
      · exact ih _ _ _ h
      · exact ih _ _ _ h
    | block i b =>
      rw [exec_block] at h
      obtain ⟨⟨e, s1⟩, h1, h⟩ := oc_eq_some h
      have l1 := ih _ _ _ h1
      cases e with
      | normal =>
        have h : exec rd P call rnd N n b s = some x := h
        rw [h1] at h
        obtain rfl := Option.some.inj h; exact l1
      | ret =>
        have h : exec rd P call rnd N n b s = some x := h
        rw [h1] at h
        obtain rfl := Option.some.inj h; exact l1
      | exit j =>
        have h : sel (Nat.beq j i) (some (.normal, s1)) (exec rd P call rnd N n b s) = some x := h
        rcases sel_eq_some h with ⟨_, h⟩ | ⟨_, h⟩
        · obtain rfl := Option.some.inj h; exact l1
        · rw [h1] at h
          obtain rfl := Option.some.inj h; exact l1
    | rangeFunc f ps as bd =>
      rw [exec_range] at h
      cases rnd with
      | none =>
        have h : goRF call (exec rd P call none N n) N f ps as bd s.1 (.mark s.2.2.next :: s.2.1) s.2.2.next (s.2.2.push (.marks true)) = some x := h
        have q := goRF_low (fun c s x h => ih c s x h) h
        exact q
      | some l =>
        obtain ⟨r, _, h⟩ := oc_eq_some h
        exact goRF_low (fun c s x h => ih c s x h) h

theorem CodeAt.trans {N : Nat} {n0 : Bs} {σ σ₁ : Ren} {w w₁ : World} {low : Nat} {x : Ex × XSt} {e : Exit} {a' : Act} {w' : World} (st : Step n0 σ w low σ₁ w₁) (h : CodeAt n0 N σ₁ w₁ x e a' w') (hl : x.2.2.2.low ≤ low) : CodeAt n0 N σ w x e a' w' := by
  obtain ⟨h1, σ', h2, h3, h4, h5⟩ := h
  exact ⟨h1, σ', h2, h3, h4, st.trans h5 hl⟩

/-- what is asked of the code of a round's and a loop's rest -/
def CodeOK (P : Program) (n0 : Bs) (rnd : Option Nat) (N : Nat) (f : Code → XSt → XRes) : Prop :=
  ∀ (c : Code) (s : XSt) (x : Ex × XSt), f c s = some x → ∀ (F : Fence) (n : Nat) (σ : Ren) (w : World) (a : Act), WideF F → RndR σ rnd F.round → TR σ N s.1 a.tmps → DR σ s.2.1 a.defers → HR n0 σ s.2.2 w → c.wpIn F n P (CodeAt n0 N σ w x) a w

theorem goRF_ok {P : Program} {N : Nat} {n0 : Bs} {call : CallT} (hcall : CallOK P n0.n.n call) {rnd : Option Nat} {ih : Code → XSt → XRes} (hih : CodeOK P n0 rnd N ih) (hlow : ∀ c s x, ih c s = some x → x.2.2.2.low ≤ s.2.2.low)
    {f : Operand} {ps : Array Tmp} {as bd : Code} {T : Tr Value} {D : List DItem} {df : Nat} {H : AH} {x : Ex × XSt} (h : goRF call ih N f ps as bd T D df H = some x) {F : Fence} {n : Nat} {σ : Ren} {w : World} {a : Act} (hF : WideF F) (hrnd : RndR σ rnd F.round)
    {mark : List Deferred} (hT : TR σ N T a.tmps) (hD : DR σ D (mark ++ a.defers)) (hr : HR n0 σ H w) {dc : Nat} (hdf : σ df = some (dc, 0, 0)) (fn : FuncId) :
    ∃ (d : Deferred) (w₁' : World) (g : FuncId) (args : Array Value) (w₂ : World),
      (resolve a.eval (rangeCall f w.heap.size) 0).run P (w.alloc (.loop { state := .ready, pending := none, fn := fn, tmps := a.tmps, params := ps, assign := as, body := bd, defers := dc })) = .ok d w₁' ∧
      (∀ f', Target.leads P w₁' d.target d.args = some f' → F.fn f') ∧ (invoke d.target d.args).run P w₁' = .ok (.enter g args) w₂ ∧ (F.depth.isSome = true → 1 ≤ n) ∧
      CallsIn F (n - 1) P g args w₂ (rangePost F n P w.heap.size (CodeAt n0 N σ w x) { a with defers := mark ++ a.defers }) := by
  obtain ⟨hof, h⟩ := sel_none h
  obtain ⟨H3, h3, h⟩ := oc_eq_some h
  obtain ⟨p, hp, h3⟩ := oc_eq_some h3
  have hx : BR (σ.put H.next (w.heap.size, 0, 0)) 0 0 (some (.loop { state := .ready, pending := none, fn := fn, tmps := a.tmps, params := ps, assign := as, body := bd, defers := dc })) (.loop ⟨.ready, none, T, N, ps, as, bd, df⟩) :=
    ⟨fn, a.tmps, dc, rfl, hT.mono (hr.ext_put _), hr.ext_put _ _ _ hdf, rfl, rfl⟩
  obtain ⟨hr1, st1⟩ := hr.alloc hx
  generalize hσ₁ : σ.put H.next (w.heap.size, 0, 0) = σ₁ at hr1 st1
  have hL : σ₁ H.next = some (w.heap.size, 0, 0) := by rw [← hσ₁]; exact Ren.put_self _ _ _
  generalize hw₁ : w.alloc (.loop { state := .ready, pending := none, fn := fn, tmps := a.tmps, params := ps, assign := as, body := bd, defers := dc }) = w₁ at hr1 st1 ⊢
  have hfv := ev_ok (a := a) (hT.mono st1.ext) hof
  have hyl : VRs σ₁ [.func (.yield H.next) #[] #[]] [.func (.yield w.heap.size) #[] #[]] := .cons (VRs.func (.yield hL) .nil .nil) .nil
  obtain ⟨fv, first, cap, e1, e2, e3⟩ := fnVal_vr hp hfv hyl
  rcases e3 with ⟨g, rfl, e3⟩ | ⟨l, rfl, e3⟩
  case inr =>
    split at h3
    · rename_i hq; rw [hq] at e2; cases e2
    · cases h3
  split at h3
  case h_2 => cases h3
  rename_i g' hg'
  obtain ⟨r, hr3, h3⟩ := oc_eq_some h3
  obtain rfl := Option.some.inj h3
  rw [hg'] at e2
  cases e2
  have hargs : VRs σ₁ p.2 (first ++ #[Value.func (.yield w.heap.size) #[] #[]] ++ cap).toList := by simpa using e3
  have hfn' : FnR σ₁ p.1 (.func g) := by rw [hg']; exact FnR.func g
  obtain ⟨⟨fd, f1, f2, f3⟩, hgo⟩ := hcall n0.n.Q n0.X p.1 p.2 _ r.1 r.2 hr3 σ₁ w₁ (.func g) _ hfn' hargs hr1.fresh'
  have f2' : ¬ fd.name = "runtime.NumGoroutine" := by simpa using f2
  have f3' : ¬ fd.body = none := fun e => by rw [e] at f3; cases f3
  refine ⟨{ target := .fn (.func g) cap, args := first ++ #[Value.func (.yield w.heap.size) #[] #[]] }, w₁, g, first ++ #[Value.func (.yield w.heap.size) #[] #[]] ++ cap, w₁, ?_, fun f' _ => hF.fn f', ?_, hF.depth, ?_⟩
  · have hcv : a.eval (.const (.func (.yield w.heap.size) #[] #[])) = .func (.yield w.heap.size) #[] #[] := rfl
    simp [resolve, e1, Deferred.ofValue, hcv]
  · simp [invoke, callFunc, program, Sem.run, Sem.run_bind, f1, f2', f3']
  · refine CallsIn.mono (hF.calls (hgo (n - 1))) ?_
    rintro e w₃ ⟨v', σ₃, rfl, q1, q2, q3⟩
    obtain ⟨rl, hrl, h⟩ := oc_eq_some h
    obtain ⟨hb, h⟩ := sel_none' h
    have hr3' : HR n0 σ₃ (r.2.back (H.push (.loop ⟨.ready, none, T, N, ps, as, bd, df⟩)).low) w₃ := q2.back _
    obtain ⟨w₄, z1, z2, z3⟩ := endLoop_ok (P := P) hr3' hrl (q3.ext _ _ hL) hb
    have stA : Step n0 σ w (Nat.min H.low r.2.low) σ₃ w₃ := (st1.lower (Nat.min_le_left _ _)).trans (q3.lower (Nat.min_le_right _ _)) (Nat.le_refl _)
    have stB : Step n0 σ w ((r.2.back (H.push (.loop ⟨.ready, none, T, N, ps, as, bd, df⟩)).low).setL H.next rl .exhausted rl.pend).low σ₃ w₄ := stA.trans z3 (setL_low _ _ _ _ _)
    refine ⟨rl.pend, w₄, z1, ?_⟩
    cases hpd : rl.pend with
    | none =>
      rw [hpd] at h stB z2
      obtain rfl := Option.some.inj h
      exact ⟨rfl, σ₃, hT.mono stB.ext, hD.mono stB.ext, z2, stB⟩
    | some c =>
      rw [hpd] at h stB z2
      have := hih c _ x h F n σ₃ w₄ { a with defers := mark ++ a.defers } hF (hrnd.mono stB.ext) (hT.mono stB.ext) (hD.mono stB.ext) z2
      exact wpIn_mono this fun e a' w' hq => hq.trans stB (hlow _ _ _ h)

theorem exec_ok {P : Program} {N : Nat} {n0 : Bs} {rd : RegT} {call : CallT} (hcall : CallOK P n0.n.n call) (hrd : RdOK P n0.n.n rd) (hlow : RdLow rd) {rnd : Option Nat} : ∀ (k : Nat), CodeOK P n0 rnd N (exec rd P call rnd N k) := by
  intro k
  induction k using Nat.strongRecOn with
  | _ k ihs =>
  cases k with
  | zero => intro c s x h; cases h
  | succ k =>
    have ih := ihs k (Nat.lt_succ_self k)
    intro c s x h F n σ w a hF hrnd hT hD hr
    have hlk := exec_low (P := P) (call := call) (rnd := rnd) (N := N) hlow k
    cases c with
    | skip => obtain rfl := Option.some.inj h; exact wpIn_skip ⟨rfl, σ, hT, hD, hr, Step.refl _ _ _ _⟩
    | label l => obtain rfl := Option.some.inj h; exact wpIn_label ⟨rfl, σ, hT, hD, hr, Step.refl _ _ _ _⟩
    | ret => obtain rfl := Option.some.inj h; exact wpIn_ret ⟨rfl, σ, hT, hD, hr, Step.refl _ _ _ _⟩
    | exit i => obtain rfl := Option.some.inj h; exact wpIn_exit ⟨rfl, σ, hT, hD, hr, Step.refl _ _ _ _⟩
    | scope b =>
      rw [exec_scope] at h
      refine wpIn_scope ?_ (ih b s x h F n σ w a hF hrnd hT hD hr)
      intro l a' w' hq
      have he := hq.1
      cases hx1 : x.1 <;> rw [hx1] at he <;> cases he
    | goto l => cases h
    | refuse y => cases h
    | region id ops d =>
      rw [exec_region] at h
      obtain ⟨r, hr1, h⟩ := oc_eq_some h
      obtain rfl := Option.some.inj h
      have post : ∀ a' w', At n0 N σ w r.1 r.2 a.defers a' w' → CodeAt n0 N σ w (.normal, (r.1, s.2.1, r.2)) .normal a' w' := by
        rintro a' w' ⟨σ', h1, h2, h3, h4⟩
        exact ⟨rfl, σ', h1, by rw [h2]; exact hD.mono h4.ext, h3, h4⟩
      rcases sel_eq_some hr1 with ⟨rfl, hr1⟩ | ⟨rfl, hr1⟩
      · exact hrd n0.n.Q n0.X call hcall F hF n N id ops _ _ _ _ σ w a hr1 hT hr _ post
      · exact regSeq_ok hcall hF hr1 hT hr post
    | seq b c =>
      rw [exec_seq] at h
      rcases bindX_eq h with ⟨s1, h1, h2⟩ | ⟨hne, h1⟩
      · refine wpIn_seq (wpIn_mono (ih b s _ h1 F n σ w a hF hrnd hT hD hr) ?_)
        rintro e a' w' ⟨rfl, σ', q1, q2, q3, q4⟩
        exact wpIn_mono (ih c s1 x h2 F n σ' w' a' hF (hrnd.mono q4.ext) q1 q2 q3) fun e a'' w'' hq => hq.trans q4 (hlk _ _ _ h2)
      · refine wpIn_seq (wpIn_mono (ih b s _ h1 F n σ w a hF hrnd hT hD hr) ?_)
        rintro e a' w' hq
        have he : e ≠ .normal := by
          rw [hq.1]; intro hx
          cases hx1 : x.1 <;> rw [hx1] at hx hne <;> first | exact hne rfl | cases hx
        cases e <;> first | exact absurd rfl he | exact hq
    | loop b =>
      refine wpIn_loop_ghost (fun j a' w' => j ≤ k + 1 ∧ ∃ s' σ' low, exec rd P call rnd N j (.loop b) s' = some x ∧ TR σ' N s'.1 a'.tmps ∧ DR σ' s'.2.1 a'.defers ∧ HR n0 σ' s'.2.2 w' ∧ Step n0 σ w low σ' w' ∧ x.2.2.2.low ≤ low)
        (k + 1) ⟨Nat.le_refl _, s, σ, x.2.2.2.low, h, hT, hD, hr, Step.refl _ _ _ _, Nat.le_refl _⟩ ?_
      rintro j a₁ w₁ ⟨hj, s', σ', low, h1, hT1, hD1, hr1, st1, hl1⟩
      cases j with
      | zero => cases h1
      | succ j =>
        rw [exec_loop] at h1
        have ihj := ihs j (by omega)
        have hlj := exec_low (P := P) (call := call) (rnd := rnd) (N := N) hlow j
        rcases bindX_eq h1 with ⟨s1, g1, g2⟩ | ⟨hne, g1⟩
        · refine wpIn_mono (ihj b s' _ g1 F n σ' w₁ a₁ hF (hrnd.mono st1.ext) hT1 hD1 hr1) ?_
          rintro e a' w' ⟨rfl, σ'', q1, q2, q3, q4⟩
          have l2 : x.2.2.2.low ≤ s1.2.2.low := hlj _ _ _ g2
          exact ⟨j, Nat.lt_succ_self j, by omega, s1, σ'', x.2.2.2.low, g2, q1, q2, q3, (st1.lower hl1).trans (q4.lower l2) (Nat.le_refl _), Nat.le_refl _⟩
        · refine wpIn_mono (ihj b s' _ g1 F n σ' w₁ a₁ hF (hrnd.mono st1.ext) hT1 hD1 hr1) ?_
          rintro e a' w' hq
          have he : e ≠ .normal := by
            rw [hq.1]; intro hx
            cases hx1 : x.1 <;> rw [hx1] at hx hne <;> first | exact hne rfl | cases hx
          have hq' := hq.trans st1 hl1
          cases e <;> first | exact absurd rfl he | exact hq'
    | cond c b d =>
      rw [exec_cond] at h
      obtain ⟨hc, h⟩ := sel_none h
      obtain ⟨g, hg, h⟩ := oc_eq_some h
      have hv := ev_ok (a := a) hT hc
      rw [asB_eq hg] at hv
      generalize hcv : a.eval c = cv at hv
      cases hv
      refine wpIn_cond hcv ?_
      cases g
      · exact ih d s x h F n σ w a hF hrnd hT hD hr
      · exact ih b s x h F n σ w a hF hrnd hT hD hr
    | block i b =>
      rw [exec_block] at h
      obtain ⟨⟨e, s1⟩, h1, h⟩ := oc_eq_some h
      have h1' := ih b s _ h1 F n σ w a hF hrnd hT hD hr
      refine wpIn_block (wpIn_mono h1' ?_)
      rintro e' a' w' ⟨rfl, hq⟩
      cases e with
      | normal =>
        have h : exec rd P call rnd N k b s = some x := h
        rw [h1] at h
        obtain rfl := Option.some.inj h; exact ⟨rfl, hq⟩
      | ret =>
        have h : exec rd P call rnd N k b s = some x := h
        rw [h1] at h
        obtain rfl := Option.some.inj h; exact ⟨rfl, hq⟩
      | exit j =>
        have h : sel (Nat.beq j i) (some (.normal, s1)) (exec rd P call rnd N k b s) = some x := h
        show (if j = i then _ else _)
        rcases sel_eq_some h with ⟨hji, h⟩ | ⟨hji, h⟩
        · obtain rfl := Option.some.inj h
          rw [if_pos (Nat.eq_of_beq_eq_true hji)]
          exact ⟨rfl, hq⟩
        · rw [h1] at h
          obtain rfl := Option.some.inj h
          rw [if_neg (fun e => by subst e; rw [Nat.beq_refl] at hji; cases hji)]
          exact ⟨rfl, hq⟩
    | rangeFunc f ps as bd =>
      rw [exec_range] at h
      refine wpIn_rangeFunc fun fn hfn => ?_
      cases rnd with
      | none =>
        have h : goRF call (exec rd P call none N k) N f ps as bd s.1 (.mark s.2.2.next :: s.2.1) s.2.2.next (s.2.2.push (.marks true)) = some x := h
        have hro : F.round = none := hrnd
        have hx : BR (σ.put s.2.2.next (w.heap.size, 0, 0)) 0 0 (some (.deferred (some []))) (.marks true) := ⟨rfl, rfl, rfl⟩
        obtain ⟨hr1, st1⟩ := hr.alloc hx
        have hL : (σ.put s.2.2.next (w.heap.size, 0, 0)) s.2.2.next = some (w.heap.size, 0, 0) := Ren.put_self _ _ _
        generalize σ.put s.2.2.next (w.heap.size, 0, 0) = σ₁ at hr1 st1 hL
        obtain ⟨d, w₁', g, args, w₂, z1, z2, z3, z4, z5⟩ := goRF_ok hcall ih hlk h (n := n) hF (hrnd.mono st1.ext) (a := a) (mark := [{ target := .collected w.heap.size, args := #[] }]) (hT.mono st1.ext) (.cons hL (hD.mono st1.ext)) hr1 hL fn
        refine ⟨_, [{ target := .collected w.heap.size, args := #[] }], _, d, w₁', g, args, w₂, ?_, z1, z2, z3, z4, CallsIn.mono z5 ?_⟩
        · rw [hro]; simp [Instr.enterLoop, newObj, Sem.run, Sem.run_bind, World.alloc_eq]
        · have hlx := goRF_low hlk h
          have hlx : x.2.2.2.low ≤ s.2.2.low := hlx
          intro e w₃ hq
          cases e with
          | returned v =>
            obtain ⟨jump, w₄, e1, e2⟩ := hq
            refine ⟨jump, w₄, e1, ?_⟩
            cases jump with
            | none => exact CodeAt.trans st1 e2 hlx
            | some c => exact wpIn_mono e2 fun e a' w' hq => hq.trans st1 hlx
          | panicked ch => exact CodeAt.trans st1 hq hlx
          | outgrown =>
            obtain ⟨a', w', hq⟩ := hq
            exact ⟨a', w', hq.trans st1 hlx⟩
      | some l =>
        obtain ⟨rl, hrl, h⟩ := oc_eq_some h
        obtain ⟨c, hro, hlc⟩ := hrnd
        obtain ⟨q, hq1, hq2, _, _⟩ := hr.loop hrl hlc
        obtain ⟨d, w₁', g, args, w₂, z1, z2, z3, z4, z5⟩ := goRF_ok hcall ih hlk h (n := n) hF ⟨c, hro, hlc⟩ (a := a) (mark := []) hT (by simpa using hD) hr hq2.defers fn
        refine ⟨_, _, _, d, w₁', g, args, w₂, ?_, z1, z2, z3, z4, z5⟩
        rw [hro]; simp [Instr.enterLoop, newObj, Sem.run, Sem.run_bind, World.alloc_eq, run_getLoop hq1]

end Go.Proofs.Ythomkiindjhdmaa.Ax
