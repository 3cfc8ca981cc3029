/-
  Code whose operations, ways and cuts are told. Own work, plain lemmas.
-/
import Derived.Test.YthomkiindjhdmaaSxE
set_option linter.unusedSimpArgs false
set_option linter.unusedVariables false
set_option linter.unnecessarySimpa false
set_option linter.deprecated false
set_option linter.unusedSectionVars false
namespace Go.Proofs.Ythomkiindjhdmaa.Ax
open Go.RowKit
variable [Tabs]

theorem evA_EvOK (P : Program) (A : Tr Ans) (k : Nat) : EvOK P (fun j => evA P (A.get (Nat.add k j))) := fun j op ty T H r ps h hp => evA_ok h hp

/-- a piece of code that is told: what is kept of the state, how it ends, in which state -/
structure LAns where
  wk : WkS
  ex : Ex
  s' : XSt
abbrev XO := Option ((Ex × XSt × Nat) × List Prop)
noncomputable def bindO (r : XO) (k : XSt → Nat → XO) : XO := oc r none fun x => @Ex.rec (fun _ => XO) (addP x.2 (k x.1.2.1 x.1.2.2)) (fun i => some x) (some x) x.1.1
noncomputable def blockO (i : Nat) (r : XO) : XO := oc r none fun x => @Ex.rec (fun _ => XO) (some x) (fun j => sel (Nat.beq j i) (some ((.normal, x.1.2), x.2)) (some x)) (some x) x.1.1
noncomputable def regO (P : Program) (A : Tr Ans) (N : Nat) (draw : Bool) (ops : List Oper) (k : Nat) (s : XSt) : XO :=
  oc (regionO (fun j => evA P (A.get (Nat.add k j))) P N draw ops s.1 s.2.2) none fun r => some ((.normal, (r.1.1, s.2.1, r.1.2), Nat.add k ops.length), r.2)
noncomputable def condO (A : Tr Ans) (c : Operand) (k : Nat) (s : XSt) (x y : XO) : XO :=
  sel (opdOk c) (oc (A.get k) (oc (asB (ev s.1 c)) none fun b => sel b x y) fun a => match a with
    | .val (.bool g) => addP [ev s.1 c = .bool g] (sel g x y)
    | _ => none) none
noncomputable def cutO (P : Program) (N m : Nat) (c : Code) (k : Nat) (s : XSt) (l : LAns) : XO :=
  oc (weakF N m l.wk s) none fun r => some ((l.ex, l.s', Nat.succ k), CG P none N m c r.1 (l.ex, l.s') :: r.2)
noncomputable def execA (P : Program) (A : Tr Ans) (L : Tr LAns) (N m : Nat) (n : Nat) : Code → Nat → XSt → XO :=
  @Nat.rec (fun _ => Code → Nat → XSt → XO) (fun _ _ _ => none)
    (fun _ ih c k s => @Code.rec (fun _ => XO)
      (some ((.normal, s, k), []))
      (fun _ ops draw => regO P A N draw ops.toList k s)
      (fun a b _ _ => oc (L.get k) (bindO (ih a (Nat.succ k) s) fun s k => ih b k s) (cutO P N m (.seq a b) k s))
      (fun c a b _ _ => oc (L.get k) (condO A c k s (ih a (Nat.succ k) s) (ih b (Nat.succ k) s)) (cutO P N m (.cond c a b) k s))
      (fun i b _ => oc (L.get k) (blockO i (ih b (Nat.succ k) s)) (cutO P N m (.block i b) k s))
      (fun b _ => oc (L.get k) none (cutO P N m (.loop b) k s))
      (fun _ _ _ _ _ _ => none)
      (fun i => some ((.exit i, s, k), []))
      (fun b _ => ih b k s)
      (fun _ => some ((.normal, s, k), []))
      (fun _ => none)
      (some ((.ret, s, k), []))
      (fun _ => none) c) n

section eqs
variable (P : Program) (A : Tr Ans) (L : Tr LAns) (N m n k : Nat) (s : XSt)
theorem execA_seq (a b : Code) : execA P A L N m (n + 1) (.seq a b) k s = oc (L.get k) (bindO (execA P A L N m n a (k + 1) s) fun s k => execA P A L N m n b k s) (cutO P N m (.seq a b) k s) := rfl
theorem execA_cond (c : Operand) (a b : Code) : execA P A L N m (n + 1) (.cond c a b) k s = oc (L.get k) (condO A c k s (execA P A L N m n a (k + 1) s) (execA P A L N m n b (k + 1) s)) (cutO P N m (.cond c a b) k s) := rfl
theorem execA_block (i : Nat) (b : Code) : execA P A L N m (n + 1) (.block i b) k s = oc (L.get k) (blockO i (execA P A L N m n b (k + 1) s)) (cutO P N m (.block i b) k s) := rfl
theorem execA_loop (b : Code) : execA P A L N m (n + 1) (.loop b) k s = oc (L.get k) none (cutO P N m (.loop b) k s) := rfl
theorem execA_scope (b : Code) : execA P A L N m (n + 1) (.scope b) k s = execA P A L N m n b k s := rfl
theorem execA_region (id : Nat) (ops : Array Oper) (d : Bool) : execA P A L N m (n + 1) (.region id ops d) k s = regO P A N d ops.toList k s := rfl
end eqs

theorem bindO_eq {r : XO} {k : XSt → Nat → XO} {y : Ex × XSt × Nat} {ps : List Prop} (h : bindO r k = some (y, ps)) :
    (∃ s j qs rs, r = some ((.normal, s, j), qs) ∧ k s j = some (y, rs) ∧ ps = qs ++ rs) ∨ (y.1 ≠ .normal ∧ r = some (y, ps)) := by
  obtain ⟨⟨⟨e, s, j⟩, qs⟩, hr, h⟩ := oc_eq_some h
  cases e with
  | normal =>
    obtain ⟨rs, h1, h2⟩ := addP_eq h
    exact .inl ⟨s, j, qs, rs, hr, h1, h2⟩
  | exit i =>
    obtain ⟨rfl, rfl⟩ := Prod.mk.inj (Option.some.inj h)
    exact .inr ⟨(fun h => by cases h), hr⟩
  | ret =>
    obtain ⟨rfl, rfl⟩ := Prod.mk.inj (Option.some.inj h)
    exact .inr ⟨(fun h => by cases h), hr⟩

theorem CG.refl (P : Program) (rnd : Option Nat) (N m : Nat) (s : XSt) {c : Code} {e : Ex} (h : ∀ (F : Fence) (n : Nat) (Q : Exit → Act → World → Prop) (a : Act) (w : World), Q (eR e) a w → c.wpIn F n P Q a w) : CG P rnd N m c s (e, s) :=
  fun n0 F n σe we a w h1 h2 h3 h4 h5 => h F n _ a w ⟨rfl, h5⟩
theorem CG.seq {P : Program} {rnd : Option Nat} {N m : Nat} {a b : Code} {s s1 : XSt} {x : Ex × XSt} (h : CG P rnd N m a s (.normal, s1)) (k : CG P rnd N m b s1 x) : CG P rnd N m (.seq a b) s x :=
  fun n0 F n σe we a w h1 h2 h3 h4 h5 => wpIn_seq (wpIn_mono (h n0 F n σe we a w h1 h2 h3 h4 h5) (by
    rintro e a' w' ⟨rfl, q⟩
    exact k n0 F n σe we a' w' h1 h2 h3 h4 q))
theorem CG.seqOut {P : Program} {rnd : Option Nat} {N m : Nat} {a b : Code} {s : XSt} {x : Ex × XSt} (h : CG P rnd N m a s x) (hx : x.1 ≠ .normal) : CG P rnd N m (.seq a b) s x :=
  fun n0 F n σe we a w h1 h2 h3 h4 h5 => wpIn_seq (wpIn_mono (h n0 F n σe we a w h1 h2 h3 h4 h5) (by
    rintro e a' w' hq
    have he : e ≠ .normal := by
      rw [hq.1]; intro hx'
      cases hx1 : x.1 <;> rw [hx1] at hx' hx <;> first | exact hx rfl | cases hx'
    cases e <;> first | exact absurd rfl he | exact hq))
theorem CG.cond {P : Program} {rnd : Option Nat} {N m : Nat} {c : Operand} {a b : Code} {s : XSt} {x : Ex × XSt} {g : Bool} (hc : opdOk c = true) (hg : ev s.1 c = .bool g) (h : CG P rnd N m (sel g a b) s x) : CG P rnd N m (.cond c a b) s x := by
  intro n0 F n σe we a w h1 h2 h3 h4 h5
  have h6 := h n0 F n σe we a w h1 h2 h3 h4 h5
  obtain ⟨σ, hT, _⟩ := h5
  have hv := ev_ok (a := a) hT hc
  rw [hg] at hv
  generalize hcv : a.eval c = cv at hv
  cases hv
  refine wpIn_cond hcv ?_
  cases g
  · exact h6
  · exact h6
theorem CG.block {P : Program} {rnd : Option Nat} {N m i : Nat} {b : Code} {s : XSt} {x : Ex × XSt} (h : CG P rnd N m b s x) : CG P rnd N m (.block i b) s (@Ex.rec (fun _ => Ex × XSt) x (fun j => sel (Nat.beq j i) (.normal, x.2) x) x x.1) := by
  intro n0 F n σe we a w h1 h2 h3 h4 h5
  refine wpIn_block (wpIn_mono (h n0 F n σe we a w h1 h2 h3 h4 h5) ?_)
  rintro e' a' w' ⟨rfl, hq⟩
  obtain ⟨e, s1⟩ := x
  cases e with
  | normal => exact ⟨rfl, hq⟩
  | ret => exact ⟨rfl, hq⟩
  | exit j =>
    show (if j = i then _ else _)
    by_cases hji : j = i
    · subst hji
      rw [if_pos rfl]
      show Exit.normal = eR (sel (Nat.beq j j) (Ex.normal, s1) (Ex.exit j, s1)).1 ∧ InvS n0 N m σe we (sel (Nat.beq j j) (Ex.normal, s1) (Ex.exit j, s1)).2 a' w'
      rw [Nat.beq_refl]
      exact ⟨rfl, hq⟩
    · rw [if_neg hji]
      show Exit.exit j = eR (sel (Nat.beq j i) (Ex.normal, s1) (Ex.exit j, s1)).1 ∧ InvS n0 N m σe we (sel (Nat.beq j i) (Ex.normal, s1) (Ex.exit j, s1)).2 a' w'
      have : Nat.beq j i = false := by
        cases hb : Nat.beq j i with
        | false => rfl
        | true => exact absurd (Nat.eq_of_beq_eq_true hb) hji
      rw [this]
      exact ⟨rfl, hq⟩
theorem CG.scope {P : Program} {rnd : Option Nat} {N m : Nat} {b : Code} {s : XSt} {x : Ex × XSt} (h : CG P rnd N m b s x) : CG P rnd N m (.scope b) s x := by
  intro n0 F n σe we a w h1 h2 h3 h4 h5
  refine wpIn_scope ?_ (h n0 F n σe we a w h1 h2 h3 h4 h5)
  intro l a' w' hq
  have he := hq.1
  cases hx1 : x.1 <;> rw [hx1] at he <;> cases he
theorem CG.region {P : Program} (hm : P.follows .mixedOrders = true) {E : EvT} (hE : EvOK P E) {rnd : Option Nat} {N m id : Nat} {draw : Bool} {ops : Array Oper} {T T' : Tr Value} {D : List DItem} {H H' : AH} {ps : List Prop} (h : regionO E P N draw ops.toList T H = some ((T', H'), ps)) (hp : AllP ps) :
    CG P rnd N m (.region id ops draw) (T, D, H) (.normal, (T', D, H')) := by
  obtain ⟨hl, hgo⟩ := regionO_ok hm hE h hp
  intro n0 F n σe we a w h1 h2 h3 h4 ⟨σ, hT, hD, hr, st⟩
  refine hgo n0 F n id σ w a h1 hT hr _ ?_
  rintro a' w' ⟨σ', q1, q2, q3, q4⟩
  refine ⟨rfl, σ', q1, by rw [q2]; exact hD.mono q4.ext, q3, ?_⟩
  have q4 : Step n0 σ w H'.low σ' w' := q4
  have hle : Nat.min H'.low m ≤ Nat.min H.low m := Nat.le_min.2 ⟨Nat.le_trans (Nat.min_le_left _ _) hl, Nat.min_le_right _ _⟩
  exact st.trans (q4.lower (Nat.min_le_left _ _)) hle

theorem execA_ok {P : Program} (hm : P.follows .mixedOrders = true) {A : Tr Ans} {L : Tr LAns} {N m : Nat} : ∀ (n : Nat) (c : Code) (k : Nat) (s : XSt) (x : Ex × XSt × Nat) (ps : List Prop), execA P A L N m n c k s = some (x, ps) → AllP ps → CG P none N m c s (x.1, x.2.1) := by
  intro n
  induction n with
  | zero => intro c k s x ps h; cases h
  | succ n ih =>
    intro c k s x ps h hp
    have cut : ∀ {c : Code} {l : LAns}, cutO P N m c k s l = some (x, ps) → CG P none N m c s (x.1, x.2.1) := fun {c l} h => by
      obtain ⟨⟨s0, qs⟩, hw, h⟩ := oc_eq_some h
      obtain ⟨rfl, rfl⟩ := Prod.mk.inj (Option.some.inj h)
      exact CG.pre (weakF_ok hw hp.2) hp.1
    cases c with
    | skip => obtain ⟨rfl, rfl⟩ := Prod.mk.inj (Option.some.inj h); exact CG.refl P none N m s fun F n Q a w q => wpIn_skip q
    | label l => obtain ⟨rfl, rfl⟩ := Prod.mk.inj (Option.some.inj h); exact CG.refl P none N m s fun F n Q a w q => wpIn_label q
    | ret => obtain ⟨rfl, rfl⟩ := Prod.mk.inj (Option.some.inj h); exact CG.refl P none N m s fun F n Q a w q => wpIn_ret q
    | exit i => obtain ⟨rfl, rfl⟩ := Prod.mk.inj (Option.some.inj h); exact CG.refl P none N m s fun F n Q a w q => wpIn_exit q
    | goto l => cases h
    | refuse y => cases h
    | rangeFunc f ps as bd => cases h
    | scope b =>
      rw [execA_scope] at h
      exact (ih _ _ _ _ _ h hp).scope
    | region id ops d =>
      rw [execA_region] at h
      obtain ⟨⟨⟨T', H'⟩, qs⟩, hr, h⟩ := oc_eq_some h
      obtain ⟨rfl, rfl⟩ := Prod.mk.inj (Option.some.inj h)
      exact CG.region hm (evA_EvOK P A k) hr hp
    | loop b =>
      rw [execA_loop] at h
      obtain ⟨l, hl, h⟩ := oc_eq_some h
      exact cut h
    | seq a b =>
      rw [execA_seq] at h
      cases hl : L.get k with
      | some l => rw [hl] at h; exact cut h
      | none =>
        rw [hl, oc_none] at h
        rcases bindO_eq h with ⟨s1, j, qs, rs, g1, g2, rfl⟩ | ⟨hne, g1⟩
        · obtain ⟨p1, p2⟩ := AllP.append hp
          exact (ih _ _ _ _ _ g1 p1).seq (ih _ _ _ _ _ g2 p2)
        · exact (ih _ _ _ _ _ g1 hp).seqOut hne
    | cond c a b =>
      rw [execA_cond] at h
      cases hl : L.get k with
      | some l => rw [hl] at h; exact cut h
      | none =>
        rw [hl, oc_none] at h
        obtain ⟨hc, h⟩ := sel_none h
        cases ha : A.get k with
        | none =>
          rw [ha, oc_none] at h
          obtain ⟨g, hg, h⟩ := oc_eq_some h
          refine CG.cond hc (asB_eq hg) ?_
          cases g
          · exact ih _ _ _ _ _ h hp
          · exact ih _ _ _ _ _ h hp
        | some an =>
          rw [ha, oc_some] at h
          split at h
          · rename_i g
            obtain ⟨rs, hh, e'⟩ := addP_eq h
            subst e'
            refine CG.cond hc hp.1 ?_
            cases g
            · exact ih _ _ _ _ _ hh hp.2
            · exact ih _ _ _ _ _ hh hp.2
          · cases h
    | block i b =>
      rw [execA_block] at h
      cases hl : L.get k with
      | some l => rw [hl] at h; exact cut h
      | none =>
        rw [hl, oc_none] at h
        obtain ⟨⟨⟨e, s1, j⟩, qs⟩, h1, h⟩ := oc_eq_some h
        cases e with
        | normal =>
          obtain ⟨rfl, rfl⟩ := Prod.mk.inj (Option.some.inj h)
          exact (ih _ _ _ _ _ h1 hp).block
        | ret =>
          obtain ⟨rfl, rfl⟩ := Prod.mk.inj (Option.some.inj h)
          exact (ih _ _ _ _ _ h1 hp).block
        | exit q =>
          have hb := fun p => (ih _ _ _ _ _ h1 p).block (i := i)
          rcases sel_eq_some h with ⟨hji, h⟩ | ⟨hji, h⟩
          · obtain ⟨rfl, rfl⟩ := Prod.mk.inj (Option.some.inj h)
            have := hb hp
            simp only [hji, sel_true] at this
            exact this
          · obtain ⟨rfl, rfl⟩ := Prod.mk.inj (Option.some.inj h)
            have := hb hp
            simp only [hji, sel_false] at this
            exact this

/-! a function -/
theorem InvS.start {n0 : Bs} {N : Nat} {σ : Ren} {w : World} {s : XSt} {a : Act} (hT : TR σ N s.1 a.tmps) (hD : DR σ s.2.1 a.defers) (hr : HR n0 σ s.2.2 w) (m : Nat) : InvS n0 N m σ w s a w := ⟨σ, hT, hD, hr, Step.refl _ _ _ _⟩
noncomputable def codeOf (P : Program) (f : Nat) (p : List Bool) : Code := oc (P.funcs[f]?) .skip fun fd => oc fd.body .skip fun c => oc (codeAt c p) .skip fun c => c
noncomputable def fnOkB (P : Program) (f n : Nat) : Bool := oc (P.funcs[f]?) false fun fd => oc fd.body false fun _ => Nat.ble n fd.ntmps && !(fd.name == "runtime.NumGoroutine")
noncomputable def fnN (P : Program) (f : Nat) : Nat := oc (P.funcs[f]?) 0 fun fd => fd.ntmps
noncomputable def fnRes (P : Program) (f : Nat) : List ResultVar := oc (P.funcs[f]?) [] fun fd => fd.results.toList
/-- the way out of a function -/
noncomputable def leaveA (P : Program) (f m : Nat) (x : Ex × XSt) : VRes :=
  sel (exDone x.1) (oc (closeM x.2.2.1 x.2.2.2) none fun H => oc (resL P x.2.1 H (fnRes P f)) none fun l => some (wrapR l, ⟨H.blocks, H.next, Nat.min H.low m⟩)) none
theorem fn_ok {P : Program} {f : FuncId} {args : List Value} {H H' : AH} {v : Value} {x : Ex × XSt} (hf : fnOkB P f args.length = true) (h : CG P none (fnN P f) H.next (codeOf P f []) (layT args, [], H) x) (hl : leaveA P f H.next x = some (v, H')) : Gv P (.func f) args H v H' := by
  unfold fnOkB at hf
  cases hfd : P.funcs[f]? with
  | none => rw [hfd] at hf; cases hf
  | some fd =>
    rw [hfd, oc_some] at hf
    cases hc : fd.body with
    | none => rw [hc] at hf; cases hf
    | some c =>
      rw [hc, oc_some] at hf
      simp only [Bool.and_eq_true, Bool.not_eq_true'] at hf
      have e1 : codeOf P f [] = c := by unfold codeOf; rw [hfd, oc_some, hc]; rfl
      have e2 : fnN P f = fd.ntmps := by unfold fnN; rw [hfd]; rfl
      have e3 : fnRes P f = fd.results.toList := by unfold fnRes; rw [hfd]; rfl
      rw [e1, e2] at h
      obtain ⟨hd, hl⟩ := sel_none hl
      obtain ⟨H2, hcl, hl⟩ := oc_eq_some hl
      obtain ⟨vs, hvs, hl⟩ := oc_eq_some hl
      obtain ⟨rfl, rfl⟩ := Prod.mk.inj (Option.some.inj hl)
      rw [e3] at hvs
      intro n0 σ w fn' args' hfn hargs hr
      cases hfn
      refine ⟨⟨fd, hfd, hf.2, by rw [hc]; rfl⟩, fun n => ?_⟩
      have hN := ble_le hf.1
      refine callsIn_of_wp_marks hfd hc trivial ?_
      have hex := h n0 Fence.wide n σ w { tmps := args' ++ Array.replicate (fd.ntmps - args'.size) undef, defers := [] } w ⟨none, rfl⟩ rfl (fun b t hb => hr.dom b t hb) (fun b hb => (hr.hol b hb).1) (InvS.start (enter_TR hargs hN) .nil hr _)
      refine wpIn_mono hex ?_
      rintro e a' w' ⟨rfl, σ', q1, q2, q3, q4⟩
      have hlow : Nat.min H2.low H.next ≤ Nat.min x.2.2.2.low H.next := Nat.le_min.2 ⟨Nat.le_trans (Nat.min_le_left _ _) (closeM_low hcl), Nat.min_le_right _ _⟩
      have main : LeavesInM Fence.wide n P fd a'.tmps (RetOK n0 σ w (wrapR vs) ⟨H2.blocks, H2.next, Nat.min H2.low H.next⟩) a'.defers .returning w' :=
        leaves_ok hcl q2 q1 q3 hvs fun v' w'' z1 z2 z3 => ⟨v', σ', rfl, z1, ⟨z2.base, z2.blk, z2.inj, z2.dom, z2.img, z2.hol⟩, (q4.lower hlow).trans (z3.lower (Nat.min_le_left _ _)) (Nat.le_refl _)⟩
      obtain ⟨e, s⟩ := x
      cases e with
      | normal => exact main
      | ret => exact main
      | exit i => cases hd

/-- a law: whatever memory was there is as it was -/
theorem law_ok {P : Program} {f : FuncId} {args args' : List Value} {k : Nat} {B : Tr ABlk} {H' : AH} (h : Gv P (.func f) args ⟨B, k, k⟩ (.bool true) H') {w : World} {n0 : Bs} {σ : Ren} (hargs : VRs σ args args') (hr : HR n0 σ ⟨B, k, k⟩ w) :
    Calls P f ⟨args'⟩ w fun e w' => e = .returned (.bool true) ∧ ∃ σ', Step n0 σ w H'.low σ' w' := by
  obtain ⟨_, hgo⟩ := h n0 σ w (.func f) ⟨args'⟩ (.func f) hargs hr
  refine (callsIn_wide (n := 0)).1 (CallsIn.mono (hgo 0) ?_)
  rintro e w' ⟨v', σ', rfl, h1, _, h3⟩
  cases h1
  exact ⟨rfl, σ', h3⟩

end Go.Proofs.Ythomkiindjhdmaa.Ax
