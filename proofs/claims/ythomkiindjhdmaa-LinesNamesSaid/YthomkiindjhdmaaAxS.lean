/-
  A region that draws its order, in the order of the text. Own work, plain lemmas.
-/
import Derived.Test.YthomkiindjhdmaaAxN
set_option linter.unusedSimpArgs false
set_option linter.unusedVariables false
set_option linter.unnecessarySimpa false
set_option linter.deprecated false
set_option linter.unusedSectionVars false
namespace Go.Proofs.Ythomkiindjhdmaa.Ax
open Go.RowKit
variable [Tabs]

/-! operations that leave memory alone -/
def isFlt (op : Op) : Bool :=
  match op with
  | .alloc _ => true
  | .box _ _ => true
  | .buildSlice _ _ _ => true
  | .makeSlice _ _ _ => true
  | .makeMap _ none => true
  | _ => false
def isChg (op : Op) : Bool :=
  match op with
  | .store _ _ _ => true
  | .insert _ _ _ _ => true
  | .mapUpdate _ _ _ _ => true
  | .makeMap _ (some _) => true
  | .range _ _ => true
  | .entry _ => true
  | .call c => match c.callee with
    | .builtin .append => true
    | .builtin .copy => true
    | .builtin .clear => true
    | .builtin .unsafeString => true
    | .builtin _ => false
    | _ => true
  | _ => false
theorem builtin_still {P : Program} {n0 : Bs} {σ : Ren} {H H' : AH} {w : World} (hr : HR n0 σ H w) {b : Builtin} (h1 : b ≠ .append) (h2 : b ≠ .copy) (h3 : b ≠ .clear) (h4 : b ≠ .unsafeString) {ts : Array TypeId} {ty : TypeId} {l : List Value} {args : Array Value} {v : Value} (h : opBuiltin P b ts.toList ty l H = some (v, H')) (hl : VRs σ l args.toList) :
    ∃ s, (∀ consts, builtin b ts ty consts args = (do pure (.value (← s)))) ∧ GivesP P n0 σ w H s v H' := by
  obtain ⟨tl⟩ := ts
  unfold opBuiltin at h
  simp only at h
  split at h
  · obtain ⟨x', rfl, hx⟩ := arr1 hl
    refine ⟨_, fun _ => rfl, ?_⟩
    rcases sel_eq_some h with ⟨hf, h⟩ | ⟨hf, h⟩
    · rw [flat_same hf hx]; exact opPure_ok hr h
    · exact lenZ_ok hr h hx
  · obtain ⟨x', rfl, hx⟩ := arr1 hl
    exact ⟨_, fun _ => rfl, cap_ok hr rfl h hx⟩
  · exact absurd rfl h1
  · exact absurd rfl h2
  · obtain ⟨hf, h⟩ := sel_none h
    refine ⟨_, fun _ => rfl, ?_⟩
    have := flatL_same hf hl
    have e : args = ⟨_⟩ := Array.toList_inj.1 this
    rw [e]; exact opPure_ok hr h
  · obtain ⟨hf, h⟩ := sel_none h
    refine ⟨_, fun _ => rfl, ?_⟩
    have := flatL_same hf hl
    have e : args = ⟨_⟩ := Array.toList_inj.1 this
    rw [e]; exact opPure_ok hr h
  · exact absurd rfl h3
  · obtain ⟨x', rfl, hx⟩ := arr1 hl
    exact ⟨_, fun _ => rfl, sliceData_ok hr h hx⟩
  · exact absurd rfl h4
  · cases h

/-- such an operation gives its value, and that is all -/
def Still (P : Program) (σ : Ren) (w : World) (o : Oper) (a : Act) (v : Value) (H H' : AH) : Prop :=
  H' = H ∧ (∀ c, o.op ≠ .defer c) ∧ ∃ v', (execOp a.eval o).run P w = .ok (.value v') w ∧ VR σ v v'
theorem Still.of_gives {P : Program} {n0 : Bs} {σ : Ren} {w : World} {o : Oper} {a : Act} {v : Value} {H H' : AH} (hd : ∀ c, o.op ≠ .defer c) {s : Sem Value} (he : execOp a.eval o = (do pure (.value (← s)))) (hg : GivesP P n0 σ w H s v H') : Still P σ w o a v H H' := by
  obtain ⟨h1, v', h2, h3⟩ := hg
  exact ⟨h1, hd, v', by rw [he]; simp [Sem.run_bind, h2], h3⟩
theorem still_ok {P : Program} {N : Nat} {n0 : Bs} {σ : Ren} {H H' : AH} {w : World} {call : CallT} {o : Oper} {a : Act} {T : Tr Value} (hT : TR σ N T a.tmps) (hr : HR n0 σ H w)
    (hop : opOk o.op = true) (hc : isChg o.op = false) (hf : isFlt o.op = false) {v : Value} (h : evalOp P call o.op o.type T H = some (v, H')) : Still P σ w o a v H H' := by
  obtain ⟨dst, op, ty, pos, after, guard⟩ := o
  cases op with
  | move x =>
    obtain ⟨rfl, rfl⟩ := Prod.mk.inj (Option.some.inj h)
    exact ⟨rfl, fun c => by simp, _, by simp [execOp], ev_ok (a := a) hT hop⟩
  | assign x =>
    obtain ⟨rfl, rfl⟩ := Prod.mk.inj (Option.some.inj h)
    exact ⟨rfl, fun c => by simp, _, by simp [execOp], ev_ok (a := a) hT hop⟩
  | pick c x y =>
    simp only [opOk, Bool.and_eq_true] at hop
    obtain ⟨g, hg, h⟩ := oc_eq_some h
    obtain ⟨rfl, rfl⟩ := Prod.mk.inj (Option.some.inj h)
    have hcc := ev_ok (a := a) hT hop.1.1
    have hx := ev_ok (a := a) hT hop.1.2
    have hy := ev_ok (a := a) hT hop.2
    rw [asB_eq hg] at hcc
    generalize hcv : a.eval c = cv at hcc
    cases hcc
    refine ⟨rfl, fun c => by simp, if g then a.eval x else a.eval y, by simp [execOp, hcv, asBool], ?_⟩
    cases g
    · exact hy
    · exact hx
  | build t ps => exact .of_gives (n0 := n0) (fun c => by simp) rfl (build_ok hr h (by simpa using evP_ok (a := a) hT hop))
  | lookup t x y ok =>
    simp only [opOk, Bool.and_eq_true] at hop
    exact .of_gives (n0 := n0) (fun c => by simp) rfl (lookup_ok hr h (ev_ok (a := a) hT hop.1) (ev_ok (a := a) hT hop.2))
  | load t x => exact .of_gives (n0 := n0) (fun c => by simp) rfl (load_ok hr h (ev_ok (a := a) hT hop))
  | nilCheck x =>
    obtain ⟨hn, h⟩ := sel_none h
    obtain ⟨rfl, rfl⟩ := Prod.mk.inj (Option.some.inj h)
    have hv := ev_ok (a := a) hT hop
    exact ⟨rfl, fun c => by simp, _, nil_run hn hv rfl, hv⟩
  | binOp op t x y yt =>
    simp only [opOk, Bool.and_eq_true] at hop
    exact .of_gives (n0 := n0) (fun c => by simp) rfl (bin_ok hr h (ev_ok (a := a) hT hop.1) (ev_ok (a := a) hT hop.2))
  | unOp op t x => exact .of_gives (n0 := n0) (fun c => by simp) rfl (un_ok hr h (ev_ok (a := a) hT hop))
  | convert s d x => exact .of_gives (n0 := n0) (fun c => by simp) rfl (conv_ok hr h (ev_ok (a := a) hT hop))
  | makeFunc fn first cap =>
    simp only [opOk, Bool.and_eq_true] at hop
    obtain ⟨hf, h⟩ := sel_none h
    obtain ⟨rfl, rfl⟩ := Prod.mk.inj (Option.some.inj h)
    exact ⟨rfl, fun c => by simp, .func fn (first.map a.eval) (cap.map a.eval), by simp [execOp, Instr.makeFunc], VRs.func (fnOk_vr hf σ) (by simpa using evL_ok (a := a) hT hop.1) (by simpa using evL_ok (a := a) hT hop.2)⟩
  | slice t x lo hi mx =>
    simp only [opOk, Bool.and_eq_true] at hop
    exact .of_gives (n0 := n0) (fun c => by simp) rfl (slice_ok hr h (ev_ok (a := a) hT hop.1.1.1) (evO_ok (a := a) hT hop.1.1.2) (evO_ok (a := a) hT hop.1.2) (evO_ok (a := a) hT hop.2))
  | fieldAddr t x f => exact .of_gives (n0 := n0) (fun c => by simp) rfl (fieldAddr_ok hr h (ev_ok (a := a) hT hop))
  | field t x f => exact .of_gives (n0 := n0) (fun c => by simp) rfl (field_ok hr h (ev_ok (a := a) hT hop))
  | indexAddr t x y =>
    simp only [opOk, Bool.and_eq_true] at hop
    exact .of_gives (n0 := n0) (fun c => by simp) rfl (indexAddr_ok hr h (ev_ok (a := a) hT hop.1) (ev_ok (a := a) hT hop.2))
  | index t x y =>
    simp only [opOk, Bool.and_eq_true] at hop
    exact .of_gives (n0 := n0) (fun c => by simp) rfl (index_ok hr h (ev_ok (a := a) hT hop.1) (ev_ok (a := a) hT hop.2))
  | extract x i => exact .of_gives (n0 := n0) (fun c => by simp) rfl (extract_ok hr h (ev_ok (a := a) hT hop))
  | call c =>
    have h : opCall P call c ty T H = some (v, H') := h
    have hop : callOpds c = true := hop
    unfold opCall at h
    unfold callOpds at hop
    have hcc : (match c.callee with
      | .builtin .append => true
      | .builtin .copy => true
      | .builtin .clear => true
      | .builtin .unsafeString => true
      | .builtin _ => false
      | _ => true) = false := hc
    cases hcl : c.callee with
    | invoke r m => rw [hcl] at hcc; cases hcc
    | value f => rw [hcl] at hcc; cases hcc
    | builtin b =>
      rw [hcl] at h hop hcc
      simp only at h hop
      have hl := evL_ok (a := a) hT hop
      have hl' : VRs σ (evL T c.args.toList) (c.args.map a.eval).toList := by simpa using hl
      have b1 : b ≠ .append := fun e => by subst e; cases hcc
      have b2 : b ≠ .copy := fun e => by subst e; cases hcc
      obtain ⟨s, e1, e2⟩ := builtin_still hr b1 b2 (fun e => by subst e; cases hcc) (fun e => by subst e; cases hcc) h hl'
      refine .of_gives (n0 := n0) (fun c => by simp) ?_ e2
      simp [execOp, resolve, hcl, invoke, e1]
  | alloc e => cases hf
  | box e x => cases hf
  | buildSlice t k ps => cases hf
  | store t x y => cases hc
  | insert t x y z => cases hc
  | mapUpdate t x y z => cases hc
  | range t x => cases hc
  | entry x => cases hc
  | makeMap t r =>
    cases r with
    | none => cases hf
    | some x => cases hc
  | makeSlice t x y => cases hf
  | _ => cases h

/-! what an operation looks at -/
theorem ev_congr {T T' : Tr Value} {x : Operand} (h : ∀ t, x = .tmp t → tget T t = tget T' t) : ev T x = ev T' x := by
  cases x with
  | tmp t => exact h t rfl
  | _ => rfl
theorem evL_congr {T T' : Tr Value} {l : List Operand} (h : ∀ x ∈ l, ev T x = ev T' x) : evL T l = evL T' l := List.map_congr_left h
theorem evP_congr {T T' : Tr Value} {l : List (Nat × Operand)} (h : ∀ x ∈ l.map (·.2), ev T x = ev T' x) : evP T l = evP T' l :=
  List.map_congr_left fun p hp => by rw [h p.2 (List.mem_map.2 ⟨p, hp, rfl⟩)]
theorem evO_congr {T T' : Tr Value} {x : Option Operand} (h : ∀ y, x = some y → ev T y = ev T' y) : evO T x = evO T' x := by
  cases x with
  | none => rfl
  | some y => simp only [evO, Option.map_some, h y rfl]
theorem evalOp_congr {P : Program} {call : CallT} {op : Op} {ty : TypeId} {T T' : Tr Value} {H : AH} (h : ∀ x ∈ op.operands, ev T x = ev T' x) : evalOp P call op ty T H = evalOp P call op ty T' H := by
  cases op <;> simp only [Op.operands] at h <;> simp only [evalOp]
  case build t ps => rw [evP_congr fun x hx => h x (by simpa using hx)]
  case buildSlice t k ps => rw [evP_congr fun x hx => h x (by simpa using hx)]
  case makeFunc fn first cap => rw [evL_congr fun x hx => h x (by have hx' : x ∈ first := (by simpa using hx); simp [hx']), evL_congr (l := cap.toList) fun x hx => h x (by have hx' : x ∈ cap := (by simpa using hx); simp [hx'])]
  case makeMap t r => rw [evO_congr fun y hy => h y (by simp [hy])]
  case slice t x lo hi mx =>
    rw [h x (by simp), evO_congr fun y hy => h y (by simp [hy]), evO_congr (x := hi) fun y hy => h y (by simp [hy]), evO_congr (x := mx) fun y hy => h y (by simp [hy])]
  case call c =>
    unfold opCall
    cases hc : c.callee with
    | value f =>
      simp only
      rw [h f (by simp [Call.operands, hc]), evL_congr fun x hx => h x (by have hx' : x ∈ c.args := (by simpa using hx); simp [Call.operands, hc, hx'])]
    | builtin b =>
      simp only
      rw [evL_congr fun x hx => h x (by have hx' : x ∈ c.args := (by simpa using hx); simp [Call.operands, hc, hx'])]
    | invoke r m => rfl
  all_goals (first | rfl | (simp_all; done))

/-! operations that look at memory -/
noncomputable def isMem (P : Program) (op : Op) : Bool :=
  match op with
  | .convert s d _ => isBytes P s d || isUns P s d
  | .lookup _ _ _ _ => true
  | .load _ _ => true
  | .binOp .eql _ _ _ _ => true
  | .binOp .neq _ _ _ _ => true
  | _ => false
theorem opPure_any {P : Program} {s : Sem Value} {H H1 : AH} {v : Value} (h : opPure P s H = some (v, H1)) (H2 : AH) : opPure P s H2 = some (v, H2) := by
  obtain ⟨u, hu, h⟩ := oc_eq_some h
  obtain ⟨hf, h⟩ := sel_none h
  obtain ⟨rfl, rfl⟩ := Prod.mk.inj (Option.some.inj h)
  simp only [opPure, hu, oc_some, hf, sel_true]
theorem opGen_any {P : Program} {op : BinOp} {t : TypeId} {ox oy : Operand} {x y v : Value} {H H1 : AH} (h : opGen P op t ox oy x y H = some (v, H1)) (H2 : AH) : opGen P op t ox oy x y H2 = some (v, H2) := by
  obtain ⟨hp, h⟩ := sel_none h
  show sel _ _ _ = _
  rw [hp, sel_true]
  exact opPure_any h H2
theorem cmp_none {op : BinOp} (h1 : op ≠ .eql) (h2 : op ≠ .neq) (b : Bool) : cmpOp op b = none := by cases op <;> first | rfl | exact absurd rfl h1 | exact absurd rfl h2
theorem opBin_any {P : Program} {op : BinOp} (h1 : op ≠ .eql) (h2 : op ≠ .neq) {t : TypeId} {ox oy : Operand} {x y v : Value} {H H1 : AH} (h : opBin P op t ox oy x y H = some (v, H1)) (H2 : AH) : opBin P op t ox oy x y H2 = some (v, H2) := by
  unfold opBin at h ⊢
  split at h
  · rename_i k a k' b
    unfold opInt at h ⊢
    rcases sel_eq_some h with ⟨hk, h⟩ | ⟨hk, h⟩
    · rw [hk, sel_true]
      cases hi : intOp op k a b with
      | none => rw [hi] at h; exact opGen_any h H2
      | some u =>
        rw [hi] at h
        obtain ⟨rfl, rfl⟩ := Prod.mk.inj (Option.some.inj h)
        rfl
    · rw [hk, sel_false]; exact opGen_any h H2
  · unfold opRest at h ⊢
    cases hp : ptrPair x y with
    | some p =>
      rw [hp] at h
      obtain ⟨p', _, h⟩ := oc_eq_some h
      obtain ⟨d, _, h⟩ := oc_eq_some h
      split at h
      · obtain ⟨n, _, h⟩ := oc_eq_some h
        obtain ⟨_, h⟩ := sel_none' h
        rw [cmp_none h1 h2] at h; cases h
      · cases h
    | none =>
      rw [hp, oc_none] at h
      cases hn : nilEq x y with
      | none => rw [hn] at h; exact opGen_any h H2
      | some b =>
        rw [hn] at h
        obtain ⟨b', _, h⟩ := oc_eq_some h
        obtain ⟨d, _, h⟩ := oc_eq_some h
        obtain ⟨_, h⟩ := sel_none h
        rw [cmp_none h1 h2] at h; cases h
/-- an operation that asks nothing of memory gives the same over any -/
theorem pure_any {P : Program} {call : CallT} {op : Op} {ty : TypeId} {T : Tr Value} {H H1 : AH} {v : Value} (hc : isChg op = false) (hf : isFlt op = false) (hm : isMem P op = false) (h : evalOp P call op ty T H = some (v, H1)) (H2 : AH) : evalOp P call op ty T H2 = some (v, H2) := by
  cases op with
  | move x => obtain ⟨rfl, rfl⟩ := Prod.mk.inj (Option.some.inj h); rfl
  | assign x => obtain ⟨rfl, rfl⟩ := Prod.mk.inj (Option.some.inj h); rfl
  | pick c x y =>
    obtain ⟨g, hg, h⟩ := oc_eq_some h
    obtain ⟨rfl, rfl⟩ := Prod.mk.inj (Option.some.inj h)
    show oc _ _ _ = _
    rw [hg]; rfl
  | build t ps =>
    obtain ⟨hn, h⟩ := sel_none h
    obtain ⟨g, hg, h⟩ := oc_eq_some h
    obtain ⟨g2, hg2, h⟩ := oc_eq_some h
    obtain ⟨rfl, rfl⟩ := Prod.mk.inj (Option.some.inj h)
    show sel _ _ _ = _
    rw [hn, sel_true, hg, oc_some, hg2]; rfl
  | load t x => cases hm
  | lookup t x y ok => cases hm
  | nilCheck x =>
    obtain ⟨hn, h⟩ := sel_none h
    obtain ⟨rfl, rfl⟩ := Prod.mk.inj (Option.some.inj h)
    show sel _ _ _ = _
    rw [hn]; rfl
  | binOp op t x y yt =>
    refine opBin_any (fun e => ?_) (fun e => ?_) h H2
    · subst e; cases hm
    · subst e; cases hm
  | unOp op t x =>
    obtain ⟨hn, h⟩ := sel_none h
    show sel _ _ _ = _
    rw [hn, sel_true]; exact opPure_any h H2
  | convert s d x =>
    have hm : (isBytes P s d || isUns P s d) = false := hm
    simp only [Bool.or_eq_false_iff] at hm
    obtain ⟨hm, hu⟩ := hm
    have h : opConv P s d (ev T x) H = some (v, H1) := h
    show opConv P s d (ev T x) H2 = some (v, H2)
    unfold opConv at h ⊢
    have e1 : ∀ K, convPtr P s d (ev T x) K = none := fun K => by unfold convPtr; rw [hu]; rfl
    rw [e1, oc_none, hm, Bool.false_and, sel_false] at h ⊢
    obtain ⟨hn, h⟩ := sel_none h
    rw [hn, sel_true]; exact opPure_any h H2
  | makeFunc fn first cap =>
    obtain ⟨hn, h⟩ := sel_none h
    obtain ⟨rfl, rfl⟩ := Prod.mk.inj (Option.some.inj h)
    show sel _ _ _ = _
    rw [hn]; rfl
  | slice t x lo hi mx =>
    have h : opSlice P t (ev T x) (evO T lo) (evO T hi) (evO T mx) H = some (v, H1) := h
    show opSlice P t (ev T x) (evO T lo) (evO T hi) (evO T mx) H2 = some (v, H2)
    unfold opSlice at h ⊢
    rcases sel_eq_some h with ⟨hn, h⟩ | ⟨hn, h⟩
    · rw [hn, sel_true]; exact opPure_any h H2
    · rw [hn, sel_false]
      rcases sel_eq_some h with ⟨hn, h⟩ | ⟨hn, h⟩
      · rw [hn, sel_true]
        obtain ⟨a, ha, h⟩ := oc_eq_some h
        obtain ⟨r, hr, h⟩ := oc_eq_some h
        obtain ⟨s, hs, h⟩ := oc_eq_some h
        obtain ⟨hb, h⟩ := sel_none h
        obtain ⟨u, hu, h⟩ := oc_eq_some h
        obtain ⟨rfl, rfl⟩ := Prod.mk.inj (Option.some.inj h)
        simp only [opSliceArr, ha, hr, hs, hb, hu, oc_some, sel_true]
      · rw [hn, sel_false]
        rcases sel_eq_some h with ⟨hq, h⟩ | ⟨hq, h⟩
        · rw [hq, sel_true]
          obtain ⟨a, ha, h⟩ := oc_eq_some h
          obtain ⟨q, hqq, h⟩ := oc_eq_some h
          obtain ⟨r, hr, h⟩ := oc_eq_some h
          obtain ⟨s, hs, h⟩ := oc_eq_some h
          obtain ⟨u, hu, h⟩ := oc_eq_some h
          obtain ⟨hb, h⟩ := sel_none h
          obtain ⟨rfl, rfl⟩ := Prod.mk.inj (Option.some.inj h)
          simp only [opSliceLow, ha, hqq, hr, hs, hu, hb, oc_some, sel_true]
        · rw [hq, sel_false]
          obtain ⟨a, ha, h⟩ := oc_eq_some h
          obtain ⟨r, hr, h⟩ := oc_eq_some h
          obtain ⟨s, hs, h⟩ := oc_eq_some h
          obtain ⟨u, hu, h⟩ := oc_eq_some h
          obtain ⟨rfl, rfl⟩ := Prod.mk.inj (Option.some.inj h)
          simp only [opSliceSome, ha, hr, hs, hu, oc_some]
  | fieldAddr t x f =>
    obtain ⟨a, ha, h⟩ := oc_eq_some h
    obtain ⟨r, hr, h⟩ := oc_eq_some h
    obtain ⟨rfl, rfl⟩ := Prod.mk.inj (Option.some.inj h)
    show oc _ _ _ = _
    rw [ha, oc_some, hr]; rfl
  | field t x f =>
    obtain ⟨a, ha, h⟩ := oc_eq_some h
    obtain ⟨r, hr, h⟩ := oc_eq_some h
    obtain ⟨u, hu, h⟩ := oc_eq_some h
    obtain ⟨rfl, rfl⟩ := Prod.mk.inj (Option.some.inj h)
    show oc _ _ _ = _
    rw [ha, oc_some, hr, oc_some, hu]; rfl
  | indexAddr t x y =>
    have h : opIndexAddr P t (ev T x) (ev T y) H = some (v, H1) := h
    show opIndexAddr P t (ev T x) (ev T y) H2 = some (v, H2)
    unfold opIndexAddr at h ⊢
    rcases sel_eq_some h with ⟨hn, h⟩ | ⟨hn, h⟩
    · rw [hn, sel_true]
      unfold opIndexArr at h
      cases ha : addrOf (ev T x) with
      | some a =>
        rw [ha, oc_some] at h
        obtain ⟨r, hr, h⟩ := oc_eq_some h
        obtain ⟨s, hs, h⟩ := oc_eq_some h
        obtain ⟨u, hu, h⟩ := oc_eq_some h
        obtain ⟨rfl, rfl⟩ := Prod.mk.inj (Option.some.inj h)
        simp only [opIndexArr, ha, hr, hs, hu, oc_some]
      | none =>
        rw [ha, oc_none] at h
        obtain ⟨a, hg, h⟩ := oc_eq_some h
        obtain ⟨r, hr, h⟩ := oc_eq_some h
        obtain ⟨s, hs, h⟩ := oc_eq_some h
        obtain ⟨u, hu, h⟩ := oc_eq_some h
        obtain ⟨rfl, rfl⟩ := Prod.mk.inj (Option.some.inj h)
        simp only [opIndexArr, ha, hg, hr, hs, hu, oc_some, oc_none]
    · rw [hn, sel_false]
      obtain ⟨a, ha, h⟩ := oc_eq_some h
      obtain ⟨r, hr, h⟩ := oc_eq_some h
      obtain ⟨s, hs, h⟩ := oc_eq_some h
      obtain ⟨u, hu, h⟩ := oc_eq_some h
      obtain ⟨rfl, rfl⟩ := Prod.mk.inj (Option.some.inj h)
      simp only [opIndexSlice, ha, hr, hs, hu, oc_some]
  | index t x y =>
    have h : opIndex P t (ev T x) (ev T y) H = some (v, H1) := h
    show opIndex P t (ev T x) (ev T y) H2 = some (v, H2)
    unfold opIndex at h ⊢
    rcases sel_eq_some h with ⟨hn, h⟩ | ⟨hn, h⟩
    · rw [hn, sel_true]; exact opPure_any h H2
    · rw [hn, sel_false]
      obtain ⟨a, ha, h⟩ := oc_eq_some h
      obtain ⟨r, hr, h⟩ := oc_eq_some h
      obtain ⟨s, hs, h⟩ := oc_eq_some h
      obtain ⟨u, hu, h⟩ := oc_eq_some h
      obtain ⟨q, hq, h⟩ := oc_eq_some h
      obtain ⟨rfl, rfl⟩ := Prod.mk.inj (Option.some.inj h)
      simp only [opIndexV, ha, hr, hs, hu, hq, oc_some]
  | extract x i =>
    obtain ⟨a, ha, h⟩ := oc_eq_some h
    obtain ⟨rfl, rfl⟩ := Prod.mk.inj (Option.some.inj h)
    show oc _ _ _ = _
    rw [ha]; rfl
  | call c =>
    have h : opCall P call c ty T H = some (v, H1) := h
    show opCall P call c ty T H2 = some (v, H2)
    have hcc : (match c.callee with
      | .builtin .append => true
      | .builtin .copy => true
      | .builtin .clear => true
      | .builtin .unsafeString => true
      | .builtin _ => false
      | _ => true) = false := hc
    unfold opCall at h ⊢
    cases hcl : c.callee with
    | invoke r m => rw [hcl] at hcc; cases hcc
    | value f => rw [hcl] at hcc; cases hcc
    | builtin b =>
      rw [hcl] at h hcc
      simp only at h ⊢
      generalize c.argTypes.toList = ts at h ⊢
      generalize evL T c.args.toList = l at h ⊢
      unfold opBuiltin at h ⊢
      split at h
      · rcases sel_eq_some h with ⟨hn, h⟩ | ⟨hn, h⟩
        · rw [hn, sel_true]; exact opPure_any h H2
        · rw [hn, sel_false]
          exact lenZ_any h H2
      · obtain ⟨a, ha, h⟩ := oc_eq_some h
        obtain ⟨r, hr, h⟩ := oc_eq_some h
        obtain ⟨hb, h⟩ := sel_none h
        obtain ⟨rfl, rfl⟩ := Prod.mk.inj (Option.some.inj h)
        simp only [opCap, ha, hr, hb, oc_some, sel_true]
      · cases hcc
      · cases hcc
      · obtain ⟨hb, h⟩ := sel_none h
        simp only [hb, sel_true]
        exact opPure_any h H2
      · obtain ⟨hb, h⟩ := sel_none h
        simp only [hb, sel_true]
        exact opPure_any h H2
      · cases hcc
      · unfold opSliceData at h
        split at h
        · obtain ⟨rfl, rfl⟩ := Prod.mk.inj (Option.some.inj h)
          rfl
        · obtain ⟨hn, h⟩ := sel_none2 h
          obtain ⟨rfl, rfl⟩ := Prod.mk.inj (Option.some.inj h)
          simp only [opSliceData, hn, sel_false]
        · cases h
      · cases hcc
      · cases h
  | alloc e => cases hf
  | box e x => cases hf
  | buildSlice t k ps => cases hf
  | store t x y => cases hc
  | insert t x y z => cases hc
  | mapUpdate t x y z => cases hc
  | range t x => cases hc
  | entry x => cases hc
  | makeMap t r =>
    cases r with
    | none => cases hf
    | some x => cases hc
  | makeSlice t x y => cases hf
  | _ => cases h

end Go.Proofs.Ythomkiindjhdmaa.Ax
