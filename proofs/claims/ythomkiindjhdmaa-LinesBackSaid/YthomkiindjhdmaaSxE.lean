/-
  Regions whose operations are told. Own work, plain lemmas.
-/
import Derived.Test.YthomkiindjhdmaaSxD
set_option linter.unusedSimpArgs false
set_option linter.unusedVariables false
set_option linter.unnecessarySimpa false
set_option linter.deprecated false
set_option linter.unusedSectionVars false
namespace Go.Proofs.Ythomkiindjhdmaa.Ax
open Go.RowKit
variable [Tabs]

noncomputable def addP {α : Type} (ps : List Prop) (x : Option (α × List Prop)) : Option (α × List Prop) := oc x none fun y => some (y.1, ps ++ y.2)
theorem addP_eq {α : Type} {ps : List Prop} {x : Option (α × List Prop)} {y : α} {qs : List Prop} (h : addP ps x = some (y, qs)) : ∃ rs, x = some (y, rs) ∧ qs = ps ++ rs := by
  obtain ⟨⟨a, b⟩, h1, h⟩ := oc_eq_some h
  obtain ⟨rfl, rfl⟩ := Prod.mk.inj (Option.some.inj h)
  exact ⟨b, h1, rfl⟩

abbrev EvT := Nat → Op → TypeId → Tr Value → AH → VO
def EvOK (P : Program) (E : EvT) : Prop := ∀ j op ty T H r ps, E j op ty T H = some (r, ps) → AllP ps → ∃ call, CallU P call ∧ evalOp P call op ty T H = some r

/-! in the order of the text -/
noncomputable def execOpsO (E : EvT) (all : List Oper) (l : List Oper) : Nat → Tr Value → AH → Option ((Tr Value × AH) × List Prop) :=
  @List.rec Oper (fun _ => Nat → Tr Value → AH → Option ((Tr Value × AH) × List Prop)) (fun _ T H => some ((T, H), []))
    (fun o _ ih j T H => sel (guardOk all o T) (sel (wantedA all o T) (sel (isChg o.op || isFlt o.op) (oc (E j o.op o.type T H.fresh) none fun r => addP r.2 (ih (Nat.succ j) (putO T o.dst r.1.1) (r.1.2.back H.low))) (oc (E j o.op o.type T H) none fun r => addP r.2 (ih (Nat.succ j) (putO T o.dst r.1.1) H))) (ih (Nat.succ j) (putO T o.dst undef) H)) none) l
theorem execOpsO_cons (E : EvT) (all : List Oper) (o : Oper) (l : List Oper) (j : Nat) (T : Tr Value) (H : AH) :
    execOpsO E all (o :: l) j T H = sel (guardOk all o T) (sel (wantedA all o T) (sel (isChg o.op || isFlt o.op) (oc (E j o.op o.type T H.fresh) none fun r => addP r.2 (execOpsO E all l (j + 1) (putO T o.dst r.1.1) (r.1.2.back H.low))) (oc (E j o.op o.type T H) none fun r => addP r.2 (execOpsO E all l (j + 1) (putO T o.dst r.1.1) H))) (execOpsO E all l (j + 1) (putO T o.dst undef) H)) none := rfl
theorem execOpsO_low {E : EvT} {all : List Oper} : ∀ {l : List Oper} {j : Nat} {T T' : Tr Value} {H H' : AH} {ps : List Prop}, execOpsO E all l j T H = some ((T', H'), ps) → H'.low ≤ H.low
  | [], j, T, T', H, H', ps, h => by
    obtain ⟨h1, _⟩ := Prod.mk.inj (Option.some.inj h)
    obtain ⟨rfl, rfl⟩ := Prod.mk.inj h1; exact Nat.le_refl _
  | o :: l, j, T, T', H, H', ps, h => by
    rw [execOpsO_cons] at h
    obtain ⟨_, h⟩ := sel_none h
    rcases sel_eq_some h with ⟨_, h⟩ | ⟨_, h⟩
    · rcases sel_eq_some h with ⟨_, h⟩ | ⟨_, h⟩
      · obtain ⟨r, _, h⟩ := oc_eq_some h
        obtain ⟨rs, h, _⟩ := addP_eq h
        exact Nat.le_trans (execOpsO_low h) (Nat.min_le_left _ _)
      · obtain ⟨r, _, h⟩ := oc_eq_some h
        obtain ⟨rs, h, _⟩ := addP_eq h
        exact execOpsO_low h
    · exact execOpsO_low h
theorem execOpsO_ok {P : Program} {F : Fence} {n N : Nat} {n0 : Bs} {E : EvT} (hE : EvOK P E) (hF : WideF F) {ops : Array Oper} (hall : opersOk N ops.toList = true) {Q : Exit → Act → World → Prop} :
    ∀ (l : List Oper) (i : Nat), ops.toList.drop i = l → ∀ {j : Nat} {T T' : Tr Value} {H H' : AH} {ps : List Prop} {σ : Ren} {w : World} {a : Act}, execOpsO E ops.toList l j T H = some ((T', H'), ps) → AllP ps → TR σ N T a.tmps → HR n0 σ H w →
      (∀ a' w', At n0 N σ w T' H' a.defers a' w' → Q .normal a' w') → wpOpsIn F n P ops Q (List.range' i l.length) a w := by
  intro l
  induction l with
  | nil =>
    intro i _ j T T' H H' ps σ w a h hp hT hr hQ
    obtain ⟨h1, _⟩ := Prod.mk.inj (Option.some.inj h)
    obtain ⟨rfl, rfl⟩ := Prod.mk.inj h1
    exact hQ a w ⟨σ, hT, rfl, hr, Step.refl _ _ _ _⟩
  | cons o l ih =>
    intro i hi j T T' H H' ps σ w a h hp hT hr hQ
    have hget : ops[i]? = some o := by
      have := congrArg (fun m => m[0]?) hi
      simpa [List.getElem?_drop] using this
    have hdrop : ops.toList.drop (i + 1) = l := by
      have := congrArg (List.drop 1) hi
      simpa [List.drop_drop, Nat.add_comm] using this
    have hok := opersOk_mem hall o (by have := Array.mem_of_getElem? hget; simpa using this)
    simp only [operOk, Bool.and_eq_true] at hok
    rw [execOpsO_cons] at h
    obtain ⟨hgk, h⟩ := sel_none h
    simp only [List.length_cons, List.range'_succ, wpOpsIn, hget]
    rw [wantedA_ok hT hall o hgk]
    rcases sel_eq_some h with ⟨hw, h⟩ | ⟨hw, h⟩
    · rcases sel_eq_some h with ⟨hcf, h⟩ | ⟨hcf, h⟩
      case inr =>
        obtain ⟨r, hr1, h⟩ := oc_eq_some h
        obtain ⟨rs, hh, e'⟩ := addP_eq h; subst e'; clear h; have h := hh; clear hh
        obtain ⟨hp1, hp2⟩ := AllP.append hp
        obtain ⟨call, hcall, hr1⟩ := hE _ _ _ _ _ _ _ hr1 hp1
        rw [if_pos hw]
        simp only [Bool.or_eq_false_iff] at hcf
        obtain ⟨hsame, hd, v', q1, q2⟩ := still_ok (P := P) hT hr hok.1 hcf.1 hcf.2 hr1
        refine ⟨fun f _ => hF.fn f, ?_⟩
        rw [Oper.semAt_eq F.round a.eval o hd, q1]
        refine ih (i + 1) hdrop h hp2 (putO_ok hT hok.2 q2) hr ?_
        rintro a'' w'' ⟨σ'', h1, h2, h3, h4⟩
        exact hQ a'' w'' ⟨σ'', h1, by rw [h2, Act.put_defers'], h3, h4⟩
      obtain ⟨r, hr1, h⟩ := oc_eq_some h
      obtain ⟨rs, hh, e'⟩ := addP_eq h; subst e'; clear h; have h := hh; clear hh
      obtain ⟨hp1, hp2⟩ := AllP.append hp
      obtain ⟨call, hcall, hr1⟩ := hE _ _ _ _ _ _ _ hr1 hp1
      rw [if_pos hw]
      refine Oper.wpIn_mono ?_ (op_ok (hcall n0.n.n) hF hT hr.fresh' hok.1 hr1)
      rintro a' w' ⟨v', σ', rfl, hv, hr', st⟩
      refine ih (i + 1) hdrop h hp2 (putO_ok (hT.mono st.ext) hok.2 hv) (hr'.back _) ?_
      rintro a'' w'' ⟨σ'', h1, h2, h3, h4⟩
      refine hQ a'' w'' ⟨σ'', h1, by rw [h2, Act.put_defers'], h3, ?_⟩
      exact (st.lower (Nat.min_le_right H.low r.1.2.low)).trans h4 (execOpsO_low h)
    · rw [if_neg (by rw [hw]; exact Bool.false_ne_true)]
      refine ⟨fun f _ => hF.fn f, ih (i + 1) hdrop h hp (putO_ok hT hok.2 (vr_undef σ)) hr ?_⟩
      rintro a'' w'' ⟨σ'', h1, h2, h3, h4⟩
      exact hQ a'' w'' ⟨σ'', h1, by rw [h2, Act.put_defers'], h3, h4⟩

/-! in an order that is drawn -/
noncomputable def chgStepO (E : EvT) (P : Program) (p : Plan) (ops : List Oper) (base : Nat) (rd : Nat → List Nat) (o : Oper) (j : Nat) (T : Tr Value) (H : AH) : Option (((Value × AH) × List Nat) × List Prop) :=
  oc (E j o.op o.type T H.fresh) none fun r => sel (Nat.ble r.1.2.next big && (Nat.ble H.next r.1.2.low || barrier P p ops base j H || exactOk P p ops base rd o j T H)) (some (((r.1.1, r.1.2.back H.low), sel (Nat.ble H.next r.1.2.low) [] (wrB o.op T)), r.2)) none
noncomputable def drawGoO (E : EvT) (P : Program) (all : List Oper) (p : Plan) (base : Nat) (l : List Oper) : Nat → Tr Value → AH → List AH → Tr ABlk → Tr (List Nat) → List Nat → Option ((Tr Value × AH × Tr ABlk) × List Prop) :=
  @List.rec Oper (fun _ => Nat → Tr Value → AH → List AH → Tr ABlk → Tr (List Nat) → List Nat → Option ((Tr Value × AH × Tr ABlk) × List Prop)) (fun _ T H hs F _ _ => some ((T, H, F), []))
    (fun o _ ih j T H hs F R W => sel (guardOk all o T) (sel (wantedA all o T)
      (sel (isFlt o.op) (oc (fltOp P o.op T (Nat.add base j)) none fun r => ih (Nat.succ j) (putO T o.dst r.1) H hs (F.set j r.2) R W)
        (sel (isChg o.op) (oc (chgStepO E P p all base (rdOf R) o j T (addFs F.get base (p.f j) H)) none fun r => addP r.2 (sel (nilN r.1.2) (ih (Nat.succ j) (putO T o.dst r.1.1.1) r.1.1.2 (r.1.1.2 :: hs) F R W) (ih (Nat.succ j) (putO T o.dst r.1.1.1) r.1.1.2 (r.1.1.2 :: hs) F (R.set j r.1.2) (j :: W))))
          (sel (isMem P o.op) (oc (hs[Nat.sub (p.n j) (p.c j)]?) none fun G => oc (E j o.op o.type T (oneB (rdsOp T o.op) (addFs F.get base (p.f j) G))) none fun r => addP r.2 (sel (lateOk p base F hs R W j (rdsOp T o.op)) (ih (Nat.succ j) (putO T o.dst r.1.1) H hs F (R.set j (rdsOp T o.op)) W) none))
            (oc (E j o.op o.type T H) none fun r => addP r.2 (ih (Nat.succ j) (putO T o.dst r.1.1) H hs F R W)))))
      (sel (isChg o.op) (ih (Nat.succ j) (putO T o.dst undef) (addFs F.get base (p.f j) H) (addFs F.get base (p.f j) H :: hs) F R W) (ih (Nat.succ j) (putO T o.dst undef) H hs F R W))) none) l
theorem drawGoO_cons (E : EvT) (P : Program) (all : List Oper) (p : Plan) (base : Nat) (o : Oper) (l : List Oper) (j : Nat) (T : Tr Value) (H : AH) (hs : List AH) (F : Tr ABlk) (R : Tr (List Nat)) (W : List Nat) : drawGoO E P all p base (o :: l) j T H hs F R W = sel (guardOk all o T) (sel (wantedA all o T)
      (sel (isFlt o.op) (oc (fltOp P o.op T (Nat.add base j)) none fun r => drawGoO E P all p base l (j + 1) (putO T o.dst r.1) H hs (F.set j r.2) R W)
        (sel (isChg o.op) (oc (chgStepO E P p all base (rdOf R) o j T (addFs F.get base (p.f j) H)) none fun r => addP r.2 (sel (nilN r.1.2) (drawGoO E P all p base l (j + 1) (putO T o.dst r.1.1.1) r.1.1.2 (r.1.1.2 :: hs) F R W) (drawGoO E P all p base l (j + 1) (putO T o.dst r.1.1.1) r.1.1.2 (r.1.1.2 :: hs) F (R.set j r.1.2) (j :: W))))
          (sel (isMem P o.op) (oc (hs[Nat.sub (p.n j) (p.c j)]?) none fun G => oc (E j o.op o.type T (oneB (rdsOp T o.op) (addFs F.get base (p.f j) G))) none fun r => addP r.2 (sel (lateOk p base F hs R W j (rdsOp T o.op)) (drawGoO E P all p base l (j + 1) (putO T o.dst r.1.1) H hs F (R.set j (rdsOp T o.op)) W) none))
            (oc (E j o.op o.type T H) none fun r => addP r.2 (drawGoO E P all p base l (j + 1) (putO T o.dst r.1.1) H hs F R W)))))
      (sel (isChg o.op) (drawGoO E P all p base l (j + 1) (putO T o.dst undef) (addFs F.get base (p.f j) H) (addFs F.get base (p.f j) H :: hs) F R W) (drawGoO E P all p base l (j + 1) (putO T o.dst undef) H hs F R W))) none := rfl
theorem drawGo_congr {P : Program} {call call' : Nat → CallT} {all : List Oper} {p : Plan} {base : Nat} : ∀ (l : List Oper) (j : Nat) (T : Tr Value) (H : AH) (hs : List AH) (F : Tr ABlk) (R : Tr (List Nat)) (W : List Nat), (∀ k, j ≤ k → call k = call' k) → drawGo P call all p base l j T H hs F R W = drawGo P call' all p base l j T H hs F R W
  | [], j, T, H, hs, F, R, W, h => rfl
  | o :: l, j, T, H, hs, F, R, W, h => by
    rw [drawGo_cons, drawGo_cons, h j (Nat.le_refl _)]
    have ih : ∀ T H hs F R W, drawGo P call all p base l (j + 1) T H hs F R W = drawGo P call' all p base l (j + 1) T H hs F R W := fun T H hs F R W => drawGo_congr l (j + 1) T H hs F R W fun k hk => h k (by omega)
    simp only [ih]
open Classical in
theorem drawGoO_ok {E : EvT} {P : Program} (hE : EvOK P E) {all : List Oper} {p : Plan} {base : Nat} : ∀ (l : List Oper) (j : Nat) (T : Tr Value) (H : AH) (hs : List AH) (F : Tr ABlk) (R : Tr (List Nat)) (W : List Nat) (x : Tr Value × AH × Tr ABlk) (ps : List Prop),
    drawGoO E P all p base l j T H hs F R W = some (x, ps) → AllP ps → ∃ call : Nat → CallT, (∀ k, CallU P (call k)) ∧ drawGo P call all p base l j T H hs F R W = some x
  | [], j, T, H, hs, F, R, W, x, ps, h, hp => by
    obtain ⟨rfl, rfl⟩ := Prod.mk.inj (Option.some.inj h)
    exact ⟨fun _ => noC, fun _ => noneC_ok P, rfl⟩
  | o :: l, j, T, H, hs, F, R, W, x, ps, h, hp => by
    have join : ∀ {c : CallT} {rest : Nat → CallT}, CallU P c → (∀ k, CallU P (rest k)) → ∀ {T H hs F R W y}, drawGo P rest all p base l (j + 1) T H hs F R W = y → (∀ k, CallU P (if k = j then c else rest k)) ∧ (if j = j then c else rest j) = c ∧ drawGo P (fun k => if k = j then c else rest k) all p base l (j + 1) T H hs F R W = y := by
      intro c rest hc hrest T H hs F R W y hy
      refine ⟨fun k => ?_, if_pos rfl, ?_⟩
      · by_cases hk : k = j
        · rw [if_pos hk]; exact hc
        · rw [if_neg hk]; exact hrest k
      · rw [← hy]
        exact drawGo_congr l (j + 1) T H hs F R W fun k hk => if_neg (by omega)
    rw [drawGoO_cons] at h
    obtain ⟨hg, h⟩ := sel_none h
    rcases sel_eq_some h with ⟨hw, h⟩ | ⟨hw, h⟩
    · rcases sel_eq_some h with ⟨hf, h⟩ | ⟨hf, h⟩
      · obtain ⟨r, hr, h⟩ := oc_eq_some h
        obtain ⟨call, h1, h2⟩ := drawGoO_ok hE _ _ _ _ _ _ _ _ _ _ h hp
        refine ⟨call, h1, ?_⟩
        rw [drawGo_cons, hg, sel_true, hw, sel_true, hf, sel_true, hr, oc_some, h2]
      · rcases sel_eq_some h with ⟨hc, h⟩ | ⟨hc, h⟩
        · obtain ⟨r, hr, h⟩ := oc_eq_some h
          obtain ⟨rs, hh, e'⟩ := addP_eq h; subst e'; clear h; have h := hh; clear hh
          obtain ⟨hp1, hp2⟩ := AllP.append hp
          obtain ⟨q, hq, hr⟩ := oc_eq_some hr
          obtain ⟨hb, hr⟩ := sel_none hr
          obtain rfl := Option.some.inj hr
          obtain ⟨c, hcall, hev⟩ := hE _ _ _ _ _ _ _ hq hp1
          have main : ∀ {rest : Nat → CallT}, (∀ k, CallU P (rest k)) → (sel (nilN (sel (Nat.ble (addFs F.get base (p.f j) H).next q.1.2.low) [] (wrB o.op T))) (drawGo P rest all p base l (j + 1) (putO T o.dst q.1.1) (q.1.2.back (addFs F.get base (p.f j) H).low) (q.1.2.back (addFs F.get base (p.f j) H).low :: hs) F R W) (drawGo P rest all p base l (j + 1) (putO T o.dst q.1.1) (q.1.2.back (addFs F.get base (p.f j) H).low) (q.1.2.back (addFs F.get base (p.f j) H).low :: hs) F (R.set j (sel (Nat.ble (addFs F.get base (p.f j) H).next q.1.2.low) [] (wrB o.op T))) (j :: W)) = some x) →
              ∃ call : Nat → CallT, (∀ k, CallU P (call k)) ∧ drawGo P call all p base (o :: l) j T H hs F R W = some x := by
            intro rest hrest hgo
            refine ⟨fun k => if k = j then c else rest k, fun k => ?_, ?_⟩
            · by_cases hk : k = j
              · simp only [if_pos hk]; exact hcall
              · simp only [if_neg hk]; exact hrest k
            · rw [drawGo_cons, hg, sel_true, hw, sel_true, hf, sel_false, hc, sel_true, if_pos rfl]
              unfold chgStep
              rw [hev, oc_some, hb, sel_true, oc_some]
              have cg : ∀ T H hs F R W, drawGo P (fun k => if k = j then c else rest k) all p base l (j + 1) T H hs F R W = drawGo P rest all p base l (j + 1) T H hs F R W := fun T H hs F R W => drawGo_congr l (j + 1) T H hs F R W fun k hk => if_neg (by omega)
              simp only [cg]
              exact hgo
          rcases sel_eq_some h with ⟨hn, h⟩ | ⟨hn, h⟩
          · obtain ⟨call, h1, h2⟩ := drawGoO_ok hE _ _ _ _ _ _ _ _ _ _ h hp2
            exact main h1 (by simp only at hn; rw [hn, sel_true]; exact h2)
          · obtain ⟨call, h1, h2⟩ := drawGoO_ok hE _ _ _ _ _ _ _ _ _ _ h hp2
            exact main h1 (by simp only at hn; rw [hn, sel_false]; exact h2)
        · rcases sel_eq_some h with ⟨hm, h⟩ | ⟨hm, h⟩
          · obtain ⟨G, hG, h⟩ := oc_eq_some h
            obtain ⟨r, hr, h⟩ := oc_eq_some h
            obtain ⟨rs, hh, e'⟩ := addP_eq h; subst e'; clear h; have h := hh; clear hh
            obtain ⟨hp1, hp2⟩ := AllP.append hp
            obtain ⟨hl, h⟩ := sel_none h
            obtain ⟨c, hcall, hev⟩ := hE _ _ _ _ _ _ _ hr hp1
            obtain ⟨rest, h1, h2⟩ := drawGoO_ok hE _ _ _ _ _ _ _ _ _ _ h hp2
            obtain ⟨j1, j2, j3⟩ := join hcall h1 h2
            refine ⟨fun k => if k = j then c else rest k, j1, ?_⟩
            rw [drawGo_cons, hg, sel_true, hw, sel_true, hf, sel_false, hc, sel_false, hm, sel_true, hG, oc_some, if_pos rfl, hev, oc_some, hl, sel_true, j3]
          · obtain ⟨r, hr, h⟩ := oc_eq_some h
            obtain ⟨rs, hh, e'⟩ := addP_eq h; subst e'; clear h; have h := hh; clear hh
            obtain ⟨hp1, hp2⟩ := AllP.append hp
            obtain ⟨c, hcall, hev⟩ := hE _ _ _ _ _ _ _ hr hp1
            obtain ⟨rest, h1, h2⟩ := drawGoO_ok hE _ _ _ _ _ _ _ _ _ _ h hp2
            obtain ⟨j1, j2, j3⟩ := join hcall h1 h2
            refine ⟨fun k => if k = j then c else rest k, j1, ?_⟩
            rw [drawGo_cons, hg, sel_true, hw, sel_true, hf, sel_false, hc, sel_false, hm, sel_false, if_pos rfl, hev, oc_some, j3]
    · rcases sel_eq_some h with ⟨hc, h⟩ | ⟨hc, h⟩
      · obtain ⟨call, h1, h2⟩ := drawGoO_ok hE _ _ _ _ _ _ _ _ _ _ h hp
        exact ⟨call, h1, by rw [drawGo_cons, hg, sel_true, hw, sel_false, hc, sel_true, h2]⟩
      · obtain ⟨call, h1, h2⟩ := drawGoO_ok hE _ _ _ _ _ _ _ _ _ _ h hp
        exact ⟨call, h1, by rw [drawGo_cons, hg, sel_true, hw, sel_false, hc, sel_false, h2]⟩

noncomputable def regDrawO (E : EvT) (P : Program) (N : Nat) (ops : List Oper) (T : Tr Value) (H : AH) : Option ((Tr Value × AH) × List Prop) :=
  sel (drawOk (planOf ops) N ops) (sel (Nat.ble (Nat.add H.next (planOf ops).wd) big) (oc (drawGoO E P ops (planOf ops) H.next ops 0 T ⟨H.blocks, Nat.add H.next (planOf ops).wd, H.low⟩ [⟨H.blocks, Nat.add H.next (planOf ops).wd, H.low⟩] .nil .nil []) none fun r => some ((r.1.1, addFs r.1.2.2.get H.next (planOf ops).fin r.1.2.1), r.2)) none) none
theorem regDrawO_ok {E : EvT} {P : Program} (hE : EvOK P E) {N : Nat} {ops : List Oper} {T : Tr Value} {H : AH} {x : Tr Value × AH} {ps : List Prop} (h : regDrawO E P N ops T H = some (x, ps)) (hp : AllP ps) : ∃ call : Nat → CallT, (∀ k, CallU P (call k)) ∧ regDrawF P call N ops T H = some x := by
  obtain ⟨h1, h⟩ := sel_none h
  obtain ⟨h2, h⟩ := sel_none h
  obtain ⟨r, hr, h⟩ := oc_eq_some h
  obtain ⟨rfl, rfl⟩ := Prod.mk.inj (Option.some.inj h)
  obtain ⟨call, c1, c2⟩ := drawGoO_ok hE _ _ _ _ _ _ _ _ _ _ hr hp
  refine ⟨call, c1, ?_⟩
  unfold regDrawF
  rw [h1, sel_true, h2, sel_true, c2, oc_some]
theorem regDrawF_low {P : Program} {call : Nat → CallT} {N : Nat} {ops : List Oper} {T T' : Tr Value} {H H' : AH} (h : regDrawF P call N ops T H = some (T', H')) : H'.low ≤ H.low := by
  obtain ⟨_, h⟩ := sel_none h
  obtain ⟨_, h⟩ := sel_none h
  obtain ⟨⟨a, b, c⟩, hr, h⟩ := oc_eq_some h
  obtain ⟨rfl, rfl⟩ := Prod.mk.inj (Option.some.inj h)
  have := drawGo_low hr
  exact this

/-- a region, drawn or not -/
noncomputable def regionO (E : EvT) (P : Program) (N : Nat) (draw : Bool) (ops : List Oper) (T : Tr Value) (H : AH) : Option ((Tr Value × AH) × List Prop) :=
  sel draw (regDrawO E P N ops T H) (sel (opersOk N ops) (execOpsO E ops ops 0 T H) none)
theorem regionO_ok {E : EvT} {P : Program} (hm : P.follows .mixedOrders = true) (hE : EvOK P E) {N : Nat} {draw : Bool} {ops : Array Oper} {T T' : Tr Value} {H H' : AH} {ps : List Prop} (h : regionO E P N draw ops.toList T H = some ((T', H'), ps)) (hp : AllP ps) :
    H'.low ≤ H.low ∧ ∀ (n0 : Bs) (F : Fence) (nn id : Nat) (σ : Ren) (w : World) (a : Act), WideF F → TR σ N T a.tmps → HR n0 σ H w → ∀ Q : Exit → Act → World → Prop, (∀ a' w', At n0 N σ w T' H' a.defers a' w' → Q .normal a' w') → (Code.region id ops draw).wpIn F nn P Q a w := by
  rcases sel_eq_some h with ⟨rfl, h⟩ | ⟨rfl, h⟩
  · obtain ⟨call, h1, h2⟩ := regDrawO_ok hE h hp
    exact ⟨regDrawF_low h2, fun n0 F nn id σ w a hF hT hr Q hQ => regDrawF_ok (n0 := n0.n.n) (QQ := n0.n.Q) (X := n0.X) hm (fun j => h1 j n0.n.n) hF h2 hT hr hQ⟩
  · obtain ⟨hall, h⟩ := sel_none h
    refine ⟨execOpsO_low h, fun n0 F nn id σ w a hF hT hr Q hQ => wpIn_region ?_⟩
    have := execOpsO_ok (n0 := n0) (n := nn) hE hF hall (Q := Q) ops.toList 0 (by simp) h hp hT hr hQ
    rwa [List.range_eq_range', show ops.size = ops.toList.length by simp]

end Go.Proofs.Ythomkiindjhdmaa.Ax
