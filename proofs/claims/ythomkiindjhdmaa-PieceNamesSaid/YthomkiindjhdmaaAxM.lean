/-
  One operation. Own work, plain lemmas.
-/
import Derived.Test.YthomkiindjhdmaaAx6
set_option linter.unusedSimpArgs false
set_option linter.unusedVariables false
set_option linter.unnecessarySimpa false
set_option linter.deprecated false
set_option linter.unusedSectionVars false
namespace Go.Proofs.Ythomkiindjhdmaa.Ax
open Go.RowKit
variable [Tabs]

noncomputable def ev (T : Tr Value) (x : Operand) : Value :=
  @Operand.rec (fun _ => Value) (fun i => tget T i) (fun v => v) (fun g => .pointer (some ⟨g, 0, some 0⟩)) (fun f => .func (.func f) #[] #[]) x
def opdOk (x : Operand) : Bool :=
  match x with
  | .tmp _ => true
  | .const v => flat v
  | .global _ => true
  | .func _ => true
theorem ev_ok {σ : Ren} {N : Nat} {T : Tr Value} {a : Act} (hT : TR σ N T a.tmps) {x : Operand} (hx : opdOk x = true) : VR σ (ev T x) (a.eval x) := by
  cases x with
  | tmp i => exact hT.slot i
  | const v => exact flat_vr hx σ
  | global g => exact .glob g 0
  | func f => exact VRs.func (.func f) .nil .nil
noncomputable def evL (T : Tr Value) (l : List Operand) : List Value := l.map (ev T)
def opdsOk : List Operand → Bool
  | [] => true
  | x :: l => opdOk x && opdsOk l
theorem evL_ok {σ : Ren} {N : Nat} {T : Tr Value} {a : Act} (hT : TR σ N T a.tmps) : ∀ {l : List Operand}, opdsOk l = true → VRs σ (evL T l) (l.map a.eval)
  | [], _ => .nil
  | x :: l, h => by
    simp only [opdsOk, Bool.and_eq_true] at h
    exact .cons (ev_ok hT h.1) (evL_ok hT h.2)
noncomputable def evP (T : Tr Value) (l : List (Nat × Operand)) : List (Nat × Value) := l.map fun p => (p.1, ev T p.2)
theorem evP_ok {σ : Ren} {N : Nat} {T : Tr Value} {a : Act} (hT : TR σ N T a.tmps) : ∀ {l : List (Nat × Operand)}, opdsOk (l.map (·.2)) = true → PRs σ (evP T l) (l.map fun p => (p.1, a.eval p.2))
  | [], _ => .nil
  | (i, x) :: l, h => by
    simp only [List.map_cons, opdsOk, Bool.and_eq_true] at h
    exact .cons i (ev_ok hT h.1) (evP_ok hT h.2)
noncomputable def evO (T : Tr Value) (x : Option Operand) : Option Value := x.map (ev T)
def optOk (x : Option Operand) : Bool :=
  match x with
  | none => true
  | some x => opdOk x
theorem evO_ok {σ : Ren} {N : Nat} {T : Tr Value} {a : Act} (hT : TR σ N T a.tmps) {x : Option Operand} (h : optOk x = true) : OR σ (evO T x) (x.map a.eval) := by
  cases x with
  | none => exact .none
  | some x => exact .some (ev_ok hT h)

abbrev CallT := Fn → List Value → AH → VRes

noncomputable def opGen (P : Program) (op : BinOp) (t : TypeId) (ox oy : Operand) (x y : Value) (H : AH) : VRes := opPure2 P (do eqGuard op t ox oy x y; binOp op t x y) x y H
noncomputable def opInt (P : Program) (op : BinOp) (t : TypeId) (ox oy : Operand) (k k' : IntKind) (a b : Int) (H : AH) : VRes :=
  sel (kindEq k k') (oc (intOp op k a b) (opGen P op t ox oy (.int k a) (.int k' b) H) fun v => some (v, H)) (opGen P op t ox oy (.int k a) (.int k' b) H)
noncomputable def opRest (P : Program) (op : BinOp) (t : TypeId) (ox oy : Operand) (x y : Value) (H : AH) : VRes :=
  oc (ptrPair x y) (oc (nilEq x y) (opGen P op t ox oy x y H) fun _ => opNilEq P op t x y H) fun _ => opPtrEq P op t x y H
noncomputable def opBin (P : Program) (op : BinOp) (t : TypeId) (ox oy : Operand) (x y : Value) (H : AH) : VRes :=
  match x, y with
  | .int k a, .int k' b => opInt P op t ox oy k k' a b H
  | x, y => opRest P op t ox oy x y H
theorem gen_ok {P : Program} {n0 : Bs} {σ : Ren} {H H' : AH} {w : World} (hr : HR n0 σ H w) {op : BinOp} {t : TypeId} {ox oy : Operand} {x x' y y' v : Value} (h : opGen P op t ox oy x y H = some (v, H')) (hx : VR σ x x') (hy : VR σ y y') :
    GivesP P n0 σ w H (do eqGuard op t ox oy x' y'; binOp op t x' y') v H' := by
  obtain ⟨hp, h⟩ := sel_none h
  simp only [Bool.and_eq_true] at hp
  rw [plain_same hp.1 hx, plain_same hp.2 hy]
  exact opPure_ok hr h
theorem rest_ok {P : Program} {n0 : Bs} {σ : Ren} {H H' : AH} {w : World} (hr : HR n0 σ H w) {op : BinOp} {t : TypeId} {ox oy : Operand} {x x' y y' v : Value} (h : opRest P op t ox oy x y H = some (v, H')) (hx : VR σ x x') (hy : VR σ y y') :
    GivesP P n0 σ w H (do eqGuard op t ox oy x' y'; binOp op t x' y') v H' := by
  unfold opRest at h
  cases hp : ptrPair x y with
  | some p => rw [hp] at h; exact ptrEq_ok hr h hx hy ox oy
  | none =>
    rw [hp, oc_none] at h
    cases hn : nilEq x y with
    | some b => rw [hn] at h; exact nilEq_ok hr h hx hy ox oy
    | none => rw [hn] at h; exact gen_ok hr h hx hy
theorem bin_ok {P : Program} {n0 : Bs} {σ : Ren} {H H' : AH} {w : World} (hr : HR n0 σ H w) {op : BinOp} {t : TypeId} {ox oy : Operand} {x x' y y' v : Value} (h : opBin P op t ox oy x y H = some (v, H')) (hx : VR σ x x') (hy : VR σ y y') :
    GivesP P n0 σ w H (do eqGuard op t ox oy x' y'; binOp op t x' y') v H' := by
  unfold opBin at h
  split at h
  · rename_i k a k' b
    rcases sel_eq_some h with ⟨hk, h⟩ | ⟨hk, h⟩
    · cases hi : intOp op k a b with
      | none => rw [hi] at h; exact gen_ok hr h hx hy
      | some u =>
        rw [hi] at h
        obtain ⟨rfl, rfl⟩ := Prod.mk.inj (Option.some.inj h)
        cases hx
        cases hy
        exact int_ok hr hk hi ox oy
    · exact gen_ok hr h hx hy
  · exact rest_ok hr h hx hy

theorem flat_conv {x : Value} {a b : VRes} {u : Value × AH} {g : Bool} (h : sel (g && !(flat x)) a (sel (flat x) b none) = some u) : (g = true ∧ a = some u) ∨ (flat x = true ∧ b = some u) := by
  rcases sel_eq_some h with ⟨h1, h⟩ | ⟨h1, h⟩
  · simp only [Bool.and_eq_true] at h1
    exact .inl ⟨h1.1, h⟩
  · exact .inr (sel_none h)
def fnOk (fn : Fn) : Bool :=
  match fn with
  | .func _ => true
  | .method _ => true
  | _ => false
theorem fnOk_vr {fn : Fn} (h : fnOk fn = true) (σ : Ren) : FnR σ fn fn := by
  unfold fnOk at h
  split at h
  · exact .func _
  · exact .method _
  · cases h
noncomputable def opNil (x : Value) (H : AH) : VRes := sel (nilOk x) (some (x, H)) none
noncomputable def opConv (P : Program) (s d : TypeId) (x : Value) (H : AH) : VRes := oc (convPtr P s d x H) (sel (isBytes P s d && !(flat x)) (oc (zerOf H x) (opBytes P s d x H) fun n => some (.chan (some n), H)) (sel (flat x) (opPure P (convert s d x) H) none)) fun u => some (u, H)

theorem conv_ok {P : Program} {n0 : Bs} {σ : Ren} {H H' : AH} {w : World} (hr : HR n0 σ H w) {s d : TypeId} {x x' v : Value} (h : opConv P s d x H = some (v, H')) (hx : VR σ x x') : GivesP P n0 σ w H (convert s d x') v H' := by
  unfold opConv at h
  cases hp : convPtr P s d x H with
  | some u =>
    rw [hp, oc_some] at h
    obtain ⟨rfl, rfl⟩ := Prod.mk.inj (Option.some.inj h)
    exact convPtr_ok hr hp hx
  | none =>
  rw [hp, oc_none] at h
  rcases flat_conv h with ⟨hby, h⟩ | ⟨hf, h⟩
  · cases hz : zerOf H x with
    | none => rw [hz, oc_none] at h; exact bytes_ok hr h hx
    | some n =>
      rw [hz, oc_some] at h
      obtain ⟨rfl, rfl⟩ := Prod.mk.inj (Option.some.inj h)
      exact zer_ok hr hby hz hx
  · rw [flat_same hf hx]; exact opPure_ok hr h

noncomputable def opLenZ (P : Program) (t : TypeId) (x : Value) (H : AH) : VRes := oc (zlen x) (opLen P t x H) fun n => sel (strB P t) (some (.int .i64 (.ofNat n), H)) none
theorem lenZ_ok {P : Program} {n0 : Bs} {σ : Ren} {H H' : AH} {w : World} (hr : HR n0 σ H w) {t ty : TypeId} {x x' v : Value} (h : opLenZ P t x H = some (v, H')) (hx : VR σ x x') : GivesP P n0 σ w H (Builtin.len_ #[t] ty #[x']) v H' := by
  unfold opLenZ at h
  cases hz : zlen x with
  | none => rw [hz, oc_none] at h; exact len_ok hr rfl h hx
  | some n =>
    rw [hz, oc_some] at h
    obtain ⟨hst, h⟩ := sel_none h
    obtain ⟨rfl, rfl⟩ := Prod.mk.inj (Option.some.inj h)
    exact zlen_ok hr hz hst hx
theorem lenZ_any {P : Program} {t : TypeId} {x v : Value} {H H1 : AH} (h : opLenZ P t x H = some (v, H1)) (H2 : AH) : opLenZ P t x H2 = some (v, H2) := by
  unfold opLenZ at h ⊢
  cases hz : zlen x with
  | none =>
    rw [hz, oc_none] at h
    obtain ⟨a, ha, h⟩ := oc_eq_some h
    obtain ⟨r, hr, h⟩ := oc_eq_some h
    obtain ⟨rfl, rfl⟩ := Prod.mk.inj (Option.some.inj h)
    simp only [opLen, ha, hr, oc_some, oc_none]
  | some n =>
    rw [hz, oc_some] at h
    obtain ⟨hst, h⟩ := sel_none h
    obtain ⟨rfl, rfl⟩ := Prod.mk.inj (Option.some.inj h)
    rw [oc_some, hst, sel_true]
noncomputable def opBuiltin (P : Program) (b : Builtin) (ts : List TypeId) (ty : TypeId) (args : List Value) (H : AH) : VRes :=
  match b, ts, args with
  | .len, [t], [x] => sel (flat x) (opPure P (Builtin.len_ #[t] ty #[x]) H) (opLenZ P t x H)
  | .cap, [t], [x] => opCap P t x H
  | .append, [t, u], [s, x] => opAppend3 P t u s x H
  | .copy, [t, _], [x, y] => opCopy P t x y H
  | .min, _, l => sel (flatL l) (opPure P (Builtin.min_ #[] ty ⟨l⟩) H) none
  | .max, _, l => sel (flatL l) (opPure P (Builtin.max_ #[] ty ⟨l⟩) H) none
  | .clear, [t], [x] => opClear P t x H
  | .unsafeSliceData, [_], [x] => opSliceData x H
  | .unsafeString, [t, _], [x, y] => opUStr P t x y H
  | _, _, _ => none
theorem arr1 {σ : Ren} {x : Value} {args : Array Value} (h : VRs σ [x] args.toList) : ∃ x', args = #[x'] ∧ VR σ x x' := by
  obtain ⟨l⟩ := args
  cases h with
  | cons h1 h2 =>
    cases h2
    exact ⟨_, rfl, h1⟩
theorem arr2 {σ : Ren} {x y : Value} {args : Array Value} (h : VRs σ [x, y] args.toList) : ∃ x' y', args = #[x', y'] ∧ VR σ x x' ∧ VR σ y y' := by
  obtain ⟨l⟩ := args
  cases h with
  | cons h1 h2 =>
    cases h2 with
    | cons h2 h3 =>
      cases h3
      exact ⟨_, _, rfl, h1, h2⟩
theorem builtin_ok {P : Program} {n0 : Bs} {σ : Ren} {H H' : AH} {w : World} (hr : HR n0 σ H w) {b : Builtin} {ts : Array TypeId} {ty : TypeId} {l : List Value} {args : Array Value} {v : Value} (h : opBuiltin P b ts.toList ty l H = some (v, H')) (hl : VRs σ l args.toList) :
    ∃ s, (∀ consts, builtin b ts ty consts args = (do pure (.value (← s)))) ∧ Gives P n0 σ w s v H' := by
  obtain ⟨tl⟩ := ts
  unfold opBuiltin at h
  simp only at h
  split at h
  · obtain ⟨x', rfl, hx⟩ := arr1 hl
    refine ⟨_, fun _ => rfl, ?_⟩
    rcases sel_eq_some h with ⟨hf, h⟩ | ⟨hf, h⟩
    · rw [flat_same hf hx]; exact (opPure_ok hr h).gives hr
    · exact (lenZ_ok hr h hx).gives hr
  · obtain ⟨x', rfl, hx⟩ := arr1 hl
    exact ⟨_, fun _ => rfl, (cap_ok hr rfl h hx).gives hr⟩
  · obtain ⟨x', y', rfl, hx, hy⟩ := arr2 hl
    exact ⟨_, fun _ => rfl, append3_ok hr h hx hy⟩
  · obtain ⟨x', y', rfl, hx, hy⟩ := arr2 hl
    exact ⟨_, fun _ => rfl, copy_ok hr rfl h hx hy⟩
  · obtain ⟨hf, h⟩ := sel_none h
    refine ⟨_, fun _ => rfl, ?_⟩
    have := flatL_same hf hl
    have e : args = ⟨_⟩ := Array.toList_inj.1 this
    rw [e]; exact (opPure_ok hr h).gives hr
  · obtain ⟨hf, h⟩ := sel_none h
    refine ⟨_, fun _ => rfl, ?_⟩
    have := flatL_same hf hl
    have e : args = ⟨_⟩ := Array.toList_inj.1 this
    rw [e]; exact (opPure_ok hr h).gives hr
  · obtain ⟨x', rfl, hx⟩ := arr1 hl
    exact ⟨_, fun _ => rfl, clear_ok hr rfl h hx⟩
  · obtain ⟨x', rfl, hx⟩ := arr1 hl
    exact ⟨_, fun _ => rfl, (sliceData_ok hr h hx).gives hr⟩
  · obtain ⟨x', y', rfl, hx, hy⟩ := arr2 hl
    exact ⟨_, fun _ => rfl, uStr_ok hr h hx hy⟩
  · cases h

def fnVal (v : Value) (args : List Value) : Option (Fn × List Value) :=
  match v with
  | .func (.func f) first cap => some (.func f, first.toList ++ args ++ cap.toList)
  | .func (.yield l) first _ => some (.yield l, first.toList ++ args)
  | _ => none
noncomputable def opCall (P : Program) (call : CallT) (c : Call) (ty : TypeId) (T : Tr Value) (H : AH) : VRes :=
  match c.callee with
  | .value f => oc (fnVal (ev T f) (evL T c.args.toList)) none fun p => oc (extF P p.1) (call p.1 p.2 H) fun x => opExt P x p.2 H
  | .builtin b => opBuiltin P b c.argTypes.toList ty (evL T c.args.toList) H
  | .invoke _ _ => none

/-- the alternatives hold nothing of what is around them, so that each step copies little -/
noncomputable def evalOp (P : Program) (call : CallT) (op : Op) (ty : TypeId) (T : Tr Value) (H : AH) : VRes :=
  @Op.rec (fun _ => Program → CallT → TypeId → Tr Value → AH → VRes)
    (fun x P call ty T H => some (ev T x, H))
    (fun x P call ty T H => some (ev T x, H))
    (fun c a b P call ty T H => opPick (ev T c) (ev T a) (ev T b) H)
    (fun e P call ty T H => opAlloc P e H)
    (fun e x P call ty T H => opBox e (ev T x) H)
    (fun t ps P call ty T H => opBuild P t (evP T ps.toList) H)
    (fun t n ps P call ty T H => sel (Nat.blt n big) (opBuildSlice P t n (evP T ps.toList) H) none)
    (fun t x k v P call ty T H => opUpdate P t (ev T x) (ev T k) (ev T v) H)
    (fun t a P call ty T H => opLoad P t (ev T a) H)
    (fun t a x P call ty T H => opStore P t (ev T a) (ev T x) H)
    (fun _ P call ty T H => none)
    (fun _ P call ty T H => none)
    (fun x P call ty T H => opNil (ev T x) H)
    (fun op t x y _ P call ty T H => opBin P op t x y (ev T x) (ev T y) H)
    (fun op _ x P call ty T H => opUn P op (ev T x) H)
    (fun s d x P call ty T H => opConv P s d (ev T x) H)
    (fun _ _ P call ty T H => none)
    (fun _ _ P call ty T H => none)
    (fun fn first cap P call ty T H => sel (fnOk fn) (some (.func fn ⟨evL T first.toList⟩ ⟨evL T cap.toList⟩, H)) none)
    (fun t r P call ty T H => opMakeMap P t (evO T r) H)
    (fun _ _ P call ty T H => none)
    (fun t l c P call ty T H => opMakeSlice P t (ev T l) (ev T c) H)
    (fun t x lo hi mx P call ty T H => opSlice P t (ev T x) (evO T lo) (evO T hi) (evO T mx) H)
    (fun t x f P call ty T H => opFieldAddr P t (ev T x) f H)
    (fun t x f P call ty T H => opField P t (ev T x) f H)
    (fun t x i P call ty T H => opIndexAddr P t (ev T x) (ev T i) H)
    (fun t x i P call ty T H => opIndex P t (ev T x) (ev T i) H)
    (fun t x k ok P call ty T H => opLookup P t (ev T x) (ev T k) ok H)
    (fun t x k v P call ty T H => opUpdate P t (ev T x) (ev T k) (ev T v) H)
    (fun _ _ _ P call ty T H => none)
    (fun _ _ _ _ P call ty T H => none)
    (fun t x P call ty T H => opRange P t (ev T x) H)
    (fun _ _ P call ty T H => none)
    (fun _ P call ty T H => none)
    (fun _ _ _ _ P call ty T H => none)
    (fun x i P call ty T H => opExtract (ev T x) i H)
    (fun c P call ty T H => opCall P call c ty T H)
    (fun _ P call ty T H => none)
    (fun _ P call ty T H => none)
    (fun _ P call ty T H => none)
    (fun _ _ P call ty T H => none)
    (fun _ _ _ P call ty T H => none)
    (fun _ _ P call ty T H => none)
    op P call ty T H

/-- what is asked of the calls -/
def RetOK (n0 : Bs) (σ : Ren) (w : World) (v : Value) (H' : AH) (e : Ending) (w' : World) : Prop := ∃ v' σ', e = .returned v' ∧ VR σ' v v' ∧ HR n0 σ' H' w' ∧ Step n0 σ w H'.low σ' w'
def CallGo (P : Program) (n0 : Bs) (σ : Ren) (w : World) (v : Value) (H' : AH) (args' : Array Value) : Fn → Prop
  | .func f => (∃ fd, P.funcs[f]? = some fd ∧ (fd.name == "runtime.NumGoroutine") = false ∧ fd.body.isNone = false) ∧ ∀ n, CallsIn Fence.wide n P f args' w (RetOK n0 σ w v H')
  | .yield l => ∃ g ts as bd, (Instr.yield l args').run P w = .ok (.round l g ts as bd) w ∧ ∀ n, RoundIn Fence.wide n P l g ts as bd w (RetOK n0 σ w v H')
  | _ => False
def CallOK (P : Program) (n : Nat) (call : CallT) : Prop :=
  ∀ (Q X : Nat → Prop) fn args H v H', call fn args H = some (v, H') → ∀ σ w fn' args', FnR σ fn fn' → VRs σ args args'.toList → HR ⟨⟨n, Q⟩, X⟩ σ H w → CallGo P ⟨⟨n, Q⟩, X⟩ σ w v H' args' fn'

/-- a fence that asks nothing, in a round or not -/
def WideF (F : Fence) : Prop := ∃ ro, F = { Fence.wide with round := ro }
theorem WideF.fn {F : Fence} (h : WideF F) (f : FuncId) : F.fn f := by obtain ⟨ro, rfl⟩ := h; trivial
theorem WideF.depth {F : Fence} (h : WideF F) {p : Prop} : F.depth.isSome = true → p := by obtain ⟨ro, rfl⟩ := h; intro h; cases h
theorem WideF.calls {F : Fence} (h : WideF F) {n : Nat} {P : Program} {f : FuncId} {args : Array Value} {w : World} {R : Ending → World → Prop} (hc : CallsIn Fence.wide n P f args w R) : CallsIn F n P f args w R := by obtain ⟨ro, rfl⟩ := h; exact hc
theorem WideF.rounds {F : Fence} (h : WideF F) {n : Nat} {P : Program} {l : Nat} {g : FuncId} {ts : Array Value} {as bd : Code} {w : World} {R : Ending → World → Prop} (hc : RoundIn Fence.wide n P l g ts as bd w R) : RoundIn F n P l g ts as bd w R := by obtain ⟨ro, rfl⟩ := h; exact hc

def After (n0 : Bs) (σ : Ren) (w : World) (dst : Option Tmp) (a : Act) (v : Value) (H' : AH) (a' : Act) (w' : World) : Prop :=
  ∃ v' σ', a' = a.put dst v' ∧ VR σ' v v' ∧ HR n0 σ' H' w' ∧ Step n0 σ w H'.low σ' w'

theorem wp_of_gives {P : Program} {F : Fence} {n : Nat} {n0 : Bs} {σ : Ren} {w : World} {o : Oper} {a : Act} {v : Value} {H' : AH} {Q : Exit → Act → World → Prop} (hF : WideF F) (hd : ∀ c, o.op ≠ .defer c) {s : Sem Value}
    (he : execOp a.eval o = (do pure (.value (← s)))) (hg : Gives P n0 σ w s v H') : o.wpIn F n P a w (After n0 σ w o.dst a v H') Q := by
  obtain ⟨v', σ', w', r1, r2, r3, r4⟩ := hg
  refine ⟨fun f _ => hF.fn f, ?_⟩
  rw [Oper.semAt_eq F.round a.eval o hd, he]
  have : (do pure (Next.value (← s)) : Sem Next).run P w = .ok (.value v') w' := by simp [Sem.run_bind, r1]
  rw [this]
  exact ⟨v', σ', rfl, r2, r3, r4⟩
theorem wp_of_unit {P : Program} {F : Fence} {n : Nat} {n0 : Bs} {σ : Ren} {w : World} {o : Oper} {a : Act} {H' : AH} {Q : Exit → Act → World → Prop} (hF : WideF F) (hd : ∀ c, o.op ≠ .defer c) {s : Sem Unit}
    (he : execOp a.eval o = (do s; pure .skip)) (hg : GivesU P n0 σ w s H') : o.wpIn F n P a w (After n0 σ w o.dst a undef H') Q := by
  obtain ⟨σ', w', r1, r3, r4⟩ := hg
  refine ⟨fun f _ => hF.fn f, ?_⟩
  rw [Oper.semAt_eq F.round a.eval o hd, he]
  have : (do s; pure Next.skip : Sem Next).run P w = .ok .skip w' := by simp [Sem.run_bind, r1]
  rw [this]
  exact ⟨undef, σ', rfl, vr_undef _, r3, r4⟩
theorem wp_of_pure {P : Program} {F : Fence} {n : Nat} {n0 : Bs} {σ : Ren} {H : AH} {w : World} (hr : HR n0 σ H w) {o : Oper} {a : Act} {v v' : Value} {Q : Exit → Act → World → Prop} (hF : WideF F) (hd : ∀ c, o.op ≠ .defer c)
    (he : (execOp a.eval o).run P w = .ok (.value v') w) (hv : VR σ v v') : o.wpIn F n P a w (After n0 σ w o.dst a v H) Q := by
  refine ⟨fun f _ => hF.fn f, ?_⟩
  rw [Oper.semAt_eq F.round a.eval o hd, he]
  exact ⟨v', σ, rfl, hv, hr, Step.refl _ _ _ _⟩

end Go.Proofs.Ythomkiindjhdmaa.Ax
