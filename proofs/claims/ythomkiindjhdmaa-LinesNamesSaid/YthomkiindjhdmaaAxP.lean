/-
  Records of ranges over functions. Own work, plain lemmas.
-/
import Derived.Test.YthomkiindjhdmaaAxO
set_option linter.unusedSimpArgs false
set_option linter.unusedVariables false
set_option linter.unnecessarySimpa false
set_option linter.deprecated false
set_option linter.unusedSectionVars false
namespace Go.Proofs.Ythomkiindjhdmaa.Ax
open Go.RowKit
variable [Tabs]

def loopOf (x : ABlk) : Option ALoop :=
  match x with
  | .loop r => some r
  | _ => none
noncomputable def loopAt (H : AH) (l : Nat) : Option ALoop := oc (H.blocks.get l) none loopOf
theorem loopAt_eq {H : AH} {l : Nat} {r : ALoop} (h : loopAt H l = some r) : H.blocks.get l = some (.loop r) := by
  obtain ⟨y, hy, h⟩ := oc_eq_some h
  unfold loopOf at h
  split at h
  · obtain rfl := Option.some.inj h; exact hy
  · cases h

/-- the record that stands for r -/
structure LoopR (σ : Ren) (r : ALoop) (q : Loop) : Prop where
  st : q.state = r.st
  pend : q.pending = r.pend
  tmps : TR σ r.N r.T q.tmps
  params : q.params = r.params
  assign : q.assign = r.assign
  body : q.body = r.body
  defers : σ r.defers = some (q.defers, 0, 0)
theorem HR.loop {n0 : Bs} {σ : Ren} {H : AH} {w : World} (hr : HR n0 σ H w) {l : Nat} {r : ALoop} (h : loopAt H l = some r) {c d m : Nat} (hs : σ l = some (c, d, m)) : ∃ q, w.heap[c]? = some (.loop q) ∧ LoopR σ r q ∧ d = 0 ∧ m = 0 := by
  obtain ⟨c', d', m', hs', hn, hB⟩ := hr.blk l _ (loopAt_eq h)
  rw [hs] at hs'
  injection hs' with hs'
  injection hs' with e1 hs'
  injection hs' with e2 e3
  subst e1 e2 e3
  obtain ⟨fn, ts, dc, h1, h2, h3, h4, h5⟩ := hB
  exact ⟨_, h1, ⟨rfl, rfl, h2, rfl, rfl, rfl, h3⟩, h4, h5⟩
theorem LoopR.br {σ : Ren} {r : ALoop} {q : Loop} (h : LoopR σ r q) : BR σ 0 0 (some (.loop q)) (.loop r) := by
  obtain ⟨st, pend, fn, ts, ps, as, bd, df⟩ := q
  obtain ⟨rfl, rfl, h3, rfl, rfl, rfl, h7⟩ := h
  exact ⟨fn, ts, df, rfl, h3, h7, rfl, rfl⟩

theorem run_getLoop {P : Program} {w : World} {c : Nat} {q : Loop} (h : w.heap[c]? = some (.loop q)) : (Instr.getLoop c).run P w = .ok q w := by
  simp [Instr.getLoop, getObj, Sem.run, Sem.run_bind, h]
theorem run_setLoop {P : Program} {w : World} {c : Nat} {q : Loop} (h : w.heap[c]? = some (.loop q)) (o : Obj) : (setObj c o).run P w = .ok () (setObjW w c o) := by
  simp [setObj, Sem.run, h, setObjW]

def stReady (s : LoopState) : Bool :=
  match s with
  | .ready => true
  | _ => false
def stBusy (s : LoopState) : Bool :=
  match s with
  | .busy => true
  | _ => false
noncomputable def AH.setL (H : AH) (l : Nat) (r : ALoop) (st : LoopState) (pend : Option Code) : AH := H.setB l (.loop { r with st := st, pend := pend })
theorem setL_ok {n0 : Bs} {σ : Ren} {H : AH} {w : World} (hr : HR n0 σ H w) {l : Nat} {r : ALoop} (h : loopAt H l = some r) {c d m : Nat} (hs : σ l = some (c, d, m)) (st : LoopState) (pend : Option Code) :
    ∃ q, w.heap[c]? = some (.loop q) ∧ LoopR σ r q ∧ HR n0 σ (H.setL l r st pend) (setObjW w c (.loop { q with state := st, pending := pend })) ∧ Step n0 σ w (H.setL l r st pend).low σ (setObjW w c (.loop { q with state := st, pending := pend })) := by
  obtain ⟨q, h1, h2, rfl, rfl⟩ := hr.loop h hs
  have hl : LoopR σ { r with st := st, pend := pend } { q with state := st, pending := pend } := ⟨rfl, rfl, h2.tmps, h2.params, h2.assign, h2.body, h2.defers⟩
  obtain ⟨g1, g2⟩ := hr.setObj (loopAt_eq h) hs hl.br
  exact ⟨q, h1, h2, g1, g2⟩

theorem begin_ok {P : Program} {n0 : Bs} {σ : Ren} {H : AH} {w : World} (hr : HR n0 σ H w) {l : Nat} {r : ALoop} (h : loopAt H l = some r) {c d m : Nat} (hs : σ l = some (c, d, m)) (hst : stReady r.st = true) :
    ∃ w', (Instr.beginRound c).run P w = .ok () w' ∧ HR n0 σ (H.setL l r .busy r.pend) w' ∧ Step n0 σ w (H.setL l r .busy r.pend).low σ w' := by
  obtain ⟨q, h1, h2, g1, g2⟩ := setL_ok hr h hs .busy r.pend
  have hq : q.state = .ready := by
    rw [h2.st]
    cases hx : r.st <;> rw [hx] at hst <;> first | rfl | exact absurd hst Bool.false_ne_true
  rw [← h2.pend] at g1 g2
  refine ⟨_, ?_, by rw [← h2.pend]; exact g1, by rw [← h2.pend]; exact g2⟩
  simp [Instr.beginRound, Sem.run_bind, run_getLoop h1, run_setLoop h1, hq]
theorem end_ok {P : Program} {n0 : Bs} {σ : Ren} {H : AH} {w : World} (hr : HR n0 σ H w) {l : Nat} {r : ALoop} (h : loopAt H l = some r) {c d m : Nat} (hs : σ l = some (c, d, m)) (jump : Option Code) :
    ∃ w', (Instr.endRound c jump).run P w = .ok (.bool jump.isNone) w' ∧ HR n0 σ (H.setL l r (if jump.isNone then .ready else .done) jump) w' ∧ Step n0 σ w (H.setL l r (if jump.isNone then .ready else .done) jump).low σ w' := by
  obtain ⟨q, h1, h2, g1, g2⟩ := setL_ok hr h hs (if jump.isNone then .ready else .done) jump
  refine ⟨_, ?_, g1, g2⟩
  simp [Instr.endRound, Sem.run_bind, run_getLoop h1, run_setLoop h1]
theorem endLoop_ok {P : Program} {n0 : Bs} {σ : Ren} {H : AH} {w : World} (hr : HR n0 σ H w) {l : Nat} {r : ALoop} (h : loopAt H l = some r) {c d m : Nat} (hs : σ l = some (c, d, m)) (hst : stBusy r.st = false) :
    ∃ w', (Instr.endLoop c).run P w = .ok r.pend w' ∧ HR n0 σ (H.setL l r .exhausted r.pend) w' ∧ Step n0 σ w (H.setL l r .exhausted r.pend).low σ w' := by
  obtain ⟨q, h1, h2, g1, g2⟩ := setL_ok hr h hs .exhausted r.pend
  have hq : ¬ (q.state = .busy) := by
    rw [h2.st]
    intro e
    rw [e] at hst
    cases hst
  rw [← h2.pend] at g1 g2
  refine ⟨_, ?_, by rw [← h2.pend]; exact g1, by rw [← h2.pend]; exact g2⟩
  simp [Instr.endLoop, Sem.run_bind, run_getLoop h1, run_setLoop h1, hq, h2.pend]

/-- a deferred call: a mark, or a function with what it captures -/
inductive DItem where
  | mark (b : Nat)
  | call (g : Nat) (cap : List Value)
/-- deferred calls, and marks among them -/
inductive DR (σ : Ren) : List DItem → List Deferred → Prop
  | nil : DR σ [] []
  | cons {b c : Nat} {l : List DItem} {ds : List Deferred} (h : σ b = some (c, 0, 0)) (hl : DR σ l ds) : DR σ (.mark b :: l) ({ target := .collected c, args := #[] } :: ds)
  | call {g : Nat} {cap : List Value} {x : Array Value} {l : List DItem} {ds : List Deferred} (hx : VRs σ cap x.toList) (hl : DR σ l ds) : DR σ (.call g cap :: l) ({ target := .fn (.func g) x, args := #[] } :: ds)
theorem DR.mono {σ σ' : Ren} (h : σ.Ext σ') {l : List DItem} {ds : List Deferred} (hd : DR σ l ds) : DR σ' l ds := by
  induction hd with
  | nil => exact .nil
  | cons hb _ ih => exact .cons (h _ _ hb) ih
  | call hx _ ih => exact .call (hx.mono h) ih

theorem HR.push {n0 : Bs} {σ : Ren} {H : AH} {w : World} (hr : HR n0 σ H w) {x : ABlk} {o : Obj} (hx : BR (σ.put H.next (w.heap.size, 0, 0)) 0 0 (some o) x) :
    ∃ σ', σ'.Ext σ' ∧ σ' H.next = some (w.heap.size, 0, 0) ∧ HR n0 σ' (H.push x) (w.alloc o) ∧ Step n0 σ w H.low σ' (w.alloc o) :=
  ⟨_, .refl _, Ren.put_self _ _ _, (hr.alloc hx).1, (hr.alloc hx).2⟩

end Go.Proofs.Ythomkiindjhdmaa.Ax
