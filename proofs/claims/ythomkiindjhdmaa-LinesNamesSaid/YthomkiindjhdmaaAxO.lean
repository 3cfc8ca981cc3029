/-
  A region in order. Own work, plain lemmas.
-/
import Derived.Test.YthomkiindjhdmaaAxS
set_option linter.unusedSimpArgs false
set_option linter.unusedVariables false
set_option linter.unnecessarySimpa false
set_option linter.deprecated false
set_option linter.unusedSectionVars false
namespace Go.Proofs.Ythomkiindjhdmaa.Ax
open Go.RowKit
variable [Tabs]

noncomputable def AH.fresh (H : AH) : AH := ⟨H.blocks, H.next, H.next⟩
noncomputable def AH.back (H : AH) (low : Nat) : AH := ⟨H.blocks, H.next, Nat.min low H.low⟩
theorem HR.fresh' {n0 : Bs} {σ : Ren} {H : AH} {w : World} (hr : HR n0 σ H w) : HR n0 σ H.fresh w := hr.congr (fun _ => rfl) rfl
theorem HR.back {n0 : Bs} {σ : Ren} {H : AH} {w : World} (hr : HR n0 σ H w) (low : Nat) : HR n0 σ (H.back low) w := hr.congr (fun _ => rfl) rfl

noncomputable def putO (T : Tr Value) (d : Option Nat) (v : Value) : Tr Value := oc d T fun i => T.set i v
def dstOk (N : Nat) (d : Option Nat) : Bool :=
  match d with
  | none => true
  | some i => Nat.blt i N
theorem putO_ok {σ : Ren} {N : Nat} {T : Tr Value} {a : Act} (hT : TR σ N T a.tmps) {d : Option Nat} (hd : dstOk N d = true) {v v' : Value} (hv : VR σ v v') : TR σ N (putO T d v) (a.put d v').tmps := by
  cases d with
  | none => exact hT
  | some i => exact hT.set hv (blt_lt hd)

def boolIs (v : Value) (b : Bool) : Bool :=
  match v with
  | .bool c => c == b
  | _ => false
theorem boolIs_vr {σ : Ren} {v v' : Value} (h : VR σ v v') (hn : isAny v = false) (b : Bool) : boolIs v' b = boolIs v b := by
  cases h with
  | any _ => cases hn
  | _ => rfl
def dstOf (ops : List Oper) (j : Nat) : Option Nat := (ops[j]?).bind (·.dst)
noncomputable def wantedA (all : List Oper) (o : Oper) (T : Tr Value) : Bool := oc o.guard true fun g => oc (dstOf all g.1) false fun d => boolIs (tget T d) g.2
def operOk (N : Nat) (o : Oper) : Bool := opOk o.op && dstOk N o.dst
def opersOk (N : Nat) : List Oper → Bool
  | [] => true
  | o :: l => operOk N o && opersOk N l
theorem opersOk_mem {N : Nat} : ∀ {l : List Oper}, opersOk N l = true → ∀ o ∈ l, operOk N o = true
  | [], _, o, ho => by cases ho
  | x :: l, h, o, ho => by
    simp only [opersOk, Bool.and_eq_true] at h
    cases ho with
    | head => exact h.1
    | tail _ ho => exact opersOk_mem h.2 o ho

/-- the one that decides is known -/
noncomputable def guardOk (all : List Oper) (o : Oper) (T : Tr Value) : Bool := oc o.guard true fun g => oc (dstOf all g.1) true fun d => !isAny (tget T d)
theorem wantedA_ok {σ : Ren} {N : Nat} {T : Tr Value} {ts : Array Value} (hT : TR σ N T ts) {ops : Array Oper} (hall : opersOk N ops.toList = true) (o : Oper) (hk : guardOk ops.toList o T = true) : Region.wanted o (yielded ops ts) = wantedA ops.toList o T := by
  unfold guardOk at hk
  unfold Region.wanted wantedA
  cases hg : o.guard with
  | none => rfl
  | some g =>
    obtain ⟨j, want⟩ := g
    simp only [oc_some]
    unfold yielded dstOf
    simp only [Array.getElem?_toList]
    cases hj : ops[j]? with
    | none => simp
    | some oj =>
      simp only [Option.bind_some]
      cases hd : oj.dst with
      | none => simp
      | some d =>
        simp only [Option.bind_some, oc_some]
        have hok := opersOk_mem hall oj (by have := Array.mem_of_getElem? hj; simpa using this)
        simp only [operOk, Bool.and_eq_true, hd, dstOk] at hok
        have hlt : d < ts.size := by rw [hT.size]; exact blt_lt hok.2
        have hs := hT.slot d
        have h1 : ts[d]? = some (ts.getD d undef) := by simp [hlt]
        rw [h1]
        have hkn : isAny (tget T d) = false := by
          rw [hg, oc_some] at hk
          unfold dstOf at hk
          rw [Array.getElem?_toList, hj, Option.bind_some, hd, oc_some] at hk
          simpa using hk
        rw [← boolIs_vr hs hkn]
        generalize ts.getD d undef = v
        cases v <;> simp [boolIs]

/-- operations in the order of the text -/
noncomputable def execOps (P : Program) (call : CallT) (all : List Oper) (l : List Oper) : Tr Value → AH → Option (Tr Value × AH) :=
  @List.rec Oper (fun _ => Tr Value → AH → Option (Tr Value × AH)) (fun T H => some (T, H))
    (fun o _ ih T H => sel (guardOk all o T) (sel (wantedA all o T) (sel (isChg o.op || isFlt o.op) (oc (evalOp P call o.op o.type T H.fresh) none fun r => ih (putO T o.dst r.1) (r.2.back H.low)) (oc (evalOp P call o.op o.type T H) none fun r => ih (putO T o.dst r.1) H)) (ih (putO T o.dst undef) H)) none) l
theorem execOps_cons (P : Program) (call : CallT) (all : List Oper) (o : Oper) (l : List Oper) (T : Tr Value) (H : AH) :
    execOps P call all (o :: l) T H = sel (guardOk all o T) (sel (wantedA all o T) (sel (isChg o.op || isFlt o.op) (oc (evalOp P call o.op o.type T H.fresh) none fun r => execOps P call all l (putO T o.dst r.1) (r.2.back H.low)) (oc (evalOp P call o.op o.type T H) none fun r => execOps P call all l (putO T o.dst r.1) H)) (execOps P call all l (putO T o.dst undef) H)) none := rfl

theorem execOps_low {P : Program} {call : CallT} {all : List Oper} : ∀ {l : List Oper} {T T' : Tr Value} {H H' : AH}, execOps P call all l T H = some (T', H') → H'.low ≤ H.low
  | [], T, T', H, H', h => by obtain ⟨rfl, rfl⟩ := Prod.mk.inj (Option.some.inj h); exact Nat.le_refl _
  | o :: l, T, T', H, H', h => by
    rw [execOps_cons] at h
    obtain ⟨_, h⟩ := sel_none h
    rcases sel_eq_some h with ⟨_, h⟩ | ⟨_, h⟩
    · rcases sel_eq_some h with ⟨_, h⟩ | ⟨_, h⟩
      · obtain ⟨r, _, h⟩ := oc_eq_some h
        exact Nat.le_trans (execOps_low h) (Nat.min_le_left _ _)
      · obtain ⟨r, _, h⟩ := oc_eq_some h
        exact execOps_low h
    · exact execOps_low h

/-- where a run of the code comes to -/
def At (n0 : Bs) (N : Nat) (σ : Ren) (w : World) (T' : Tr Value) (H' : AH) (D : List Deferred) (a' : Act) (w' : World) : Prop :=
  ∃ σ', TR σ' N T' a'.tmps ∧ a'.defers = D ∧ HR n0 σ' H' w' ∧ Step n0 σ w H'.low σ' w'
theorem Act.put_defers' (a : Act) (d : Option Tmp) (v : Value) : (a.put d v).defers = a.defers := by cases d <;> rfl

theorem execOps_ok {P : Program} {F : Fence} {n N : Nat} {n0 : Bs} {call : CallT} (hcall : CallOK P n0.n.n call) (hF : WideF F) {ops : Array Oper} (hall : opersOk N ops.toList = true) {Q : Exit → Act → World → Prop} :
    ∀ (l : List Oper) (i : Nat), ops.toList.drop i = l → ∀ {T T' : Tr Value} {H H' : AH} {σ : Ren} {w : World} {a : Act}, execOps P call ops.toList l T H = some (T', H') → TR σ N T a.tmps → HR n0 σ H w →
      (∀ a' w', At n0 N σ w T' H' a.defers a' w' → Q .normal a' w') → wpOpsIn F n P ops Q (List.range' i l.length) a w := by
  intro l
  induction l with
  | nil =>
    intro i _ T T' H H' σ w a h hT hr hQ
    obtain ⟨rfl, rfl⟩ := Prod.mk.inj (Option.some.inj h)
    exact hQ a w ⟨σ, hT, rfl, hr, Step.refl _ _ _ _⟩
  | cons o l ih =>
    intro i hi T T' H H' σ w a h hT hr hQ
    have hget : ops[i]? = some o := by
      have := congrArg (fun m => m[0]?) hi
      simpa [List.getElem?_drop] using this
    have hdrop : ops.toList.drop (i + 1) = l := by
      have := congrArg (List.drop 1) hi
      simpa [List.drop_drop, Nat.add_comm] using this
    have hok := opersOk_mem hall o (by have := Array.mem_of_getElem? hget; simpa using this)
    simp only [operOk, Bool.and_eq_true] at hok
    rw [execOps_cons] at h
    obtain ⟨hgk, h⟩ := sel_none h
    simp only [List.length_cons, List.range'_succ, wpOpsIn, hget]
    rw [wantedA_ok hT hall o hgk]
    rcases sel_eq_some h with ⟨hw, h⟩ | ⟨hw, h⟩
    · rcases sel_eq_some h with ⟨hcf, h⟩ | ⟨hcf, h⟩
      case inr =>
        obtain ⟨r, hr1, h⟩ := oc_eq_some h
        rw [if_pos hw]
        simp only [Bool.or_eq_false_iff] at hcf
        obtain ⟨hsame, hd, v', q1, q2⟩ := still_ok (P := P) hT hr hok.1 hcf.1 hcf.2 hr1
        refine ⟨fun f _ => hF.fn f, ?_⟩
        rw [Oper.semAt_eq F.round a.eval o hd, q1]
        refine ih (i + 1) hdrop h (putO_ok hT hok.2 q2) hr ?_
        rintro a'' w'' ⟨σ'', h1, h2, h3, h4⟩
        exact hQ a'' w'' ⟨σ'', h1, by rw [h2, Act.put_defers'], h3, h4⟩
      obtain ⟨r, hr1, h⟩ := oc_eq_some h
      rw [if_pos hw]
      refine Oper.wpIn_mono ?_ (op_ok hcall hF hT hr.fresh' hok.1 hr1)
      rintro a' w' ⟨v', σ', rfl, hv, hr', st⟩
      refine ih (i + 1) hdrop h (putO_ok (hT.mono st.ext) hok.2 hv) (hr'.back _) ?_
      rintro a'' w'' ⟨σ'', h1, h2, h3, h4⟩
      refine hQ a'' w'' ⟨σ'', h1, by rw [h2, Act.put_defers'], h3, ?_⟩
      exact (st.lower (Nat.min_le_right H.low r.2.low)).trans h4 (execOps_low h)
    · rw [if_neg (by rw [hw]; exact Bool.false_ne_true)]
      refine ⟨fun f _ => hF.fn f, ih (i + 1) hdrop h (putO_ok hT hok.2 (vr_undef σ)) hr ?_⟩
      rintro a'' w'' ⟨σ'', h1, h2, h3, h4⟩
      exact hQ a'' w'' ⟨σ'', h1, by rw [h2, Act.put_defers'], h3, h4⟩

noncomputable def regSeq (P : Program) (call : CallT) (N : Nat) (ops : List Oper) (T : Tr Value) (H : AH) : Option (Tr Value × AH) := sel (opersOk N ops) (execOps P call ops ops T H) none
theorem regSeq_ok {P : Program} {F : Fence} {n N : Nat} {n0 : Bs} {call : CallT} (hcall : CallOK P n0.n.n call) (hF : WideF F) {id : Nat} {ops : Array Oper} {T T' : Tr Value} {H H' : AH} {σ : Ren} {w : World} {a : Act} (h : regSeq P call N ops.toList T H = some (T', H')) (hT : TR σ N T a.tmps) (hr : HR n0 σ H w)
    {Q : Exit → Act → World → Prop} (hQ : ∀ a' w', At n0 N σ w T' H' a.defers a' w' → Q .normal a' w') : (Code.region id ops false).wpIn F n P Q a w := by
  obtain ⟨hall, h⟩ := sel_none h
  refine wpIn_region ?_
  have := execOps_ok hcall hF hall (Q := Q) (n := n) ops.toList 0 (by simp) h hT hr hQ
  rwa [List.range_eq_range', show ops.size = ops.toList.length by simp]

end Go.Proofs.Ythomkiindjhdmaa.Ax
