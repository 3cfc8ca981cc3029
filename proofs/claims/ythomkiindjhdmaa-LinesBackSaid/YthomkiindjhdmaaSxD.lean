/-
  One operation whose outcome is told, and what must be so for it. Own work, plain lemmas.
-/
import Derived.Test.YthomkiindjhdmaaSxC
set_option linter.unusedSimpArgs false
set_option linter.unusedVariables false
set_option linter.unnecessarySimpa false
set_option linter.deprecated false
set_option linter.unusedSectionVars false
namespace Go.Proofs.Ythomkiindjhdmaa.Ax
open Go.RowKit
variable [Tabs]

/-- what is told of an append: what is appended, what was there, the whole, its length; whether the capacity is known -/
structure AppA where
  src : Option (Nat × List Value)
  old : List Value
  new : List Value
  len : Nat
  known : Bool
inductive Ans where
  | val (v : Value)
  | pur (v : Value)
  | ld (v : Value)
  | sto (c : Tr Value)
  | app (p : AppA)
  | call (c : CallA)
  | eq (v : Value) (H' : AH)
abbrev VO := Option ((Value × AH) × List Prop)
noncomputable def noC : CallT := fun _ _ _ => none

def aggV (v : Value) : Option (List Value) :=
  match v with
  | .agg x => some x.toList
  | _ => none
noncomputable def ldP (P : Program) (t : TypeId) (p v : Value) (H : AH) : Option Prop :=
  oc (addrOf p) (some (loadG P t p h0 = some (v, h0))) fun a => oc (blkCells H a.1) none fun x => oc (aggB P t) none fun g => sel g (oc (sizeB P t) none fun n => oc (aggV v) none fun l => some (rdT x.1 n a.2 = some l)) (some (x.1.get a.2 = some v))
theorem ldP_ok {P : Program} {t : TypeId} {p v : Value} {H : AH} {q : Prop} (h : ldP P t p v H = some q) (hq : q) : opLoad P t p H = some (v, H) := by
  unfold ldP at h
  unfold opLoad
  cases ha : addrOf p with
  | none =>
    rw [ha, oc_none] at h
    obtain rfl := Option.some.inj h
    rw [oc_none]
    obtain ⟨a, ha, hq⟩ := oc_eq_some hq
    obtain ⟨l, hl, hq⟩ := oc_eq_some hq
    obtain ⟨u, hu, hq⟩ := oc_eq_some hq
    obtain ⟨g, hg, hq⟩ := oc_eq_some hq
    obtain ⟨hb, hq⟩ := sel_none hq
    obtain ⟨rfl, _⟩ := Prod.mk.inj (Option.some.inj hq)
    simp only [loadG, ha, hl, hu, hg, hb, oc_some, sel_true]
  | some a =>
    rw [ha, oc_some] at h
    obtain ⟨x, hx, h⟩ := oc_eq_some h
    obtain ⟨g, hg, h⟩ := oc_eq_some h
    rw [oc_some, loosen_cells hx]
    unfold loadB
    rw [hx, oc_some, hg, oc_some]
    rcases sel_eq_some h with ⟨rfl, h⟩ | ⟨rfl, h⟩
    · obtain ⟨n, hn, h⟩ := oc_eq_some h
      obtain ⟨l, hl, h⟩ := oc_eq_some h
      obtain rfl := Option.some.inj h
      unfold aggV at hl
      split at hl
      · obtain rfl := Option.some.inj hl
        rw [sel_true, hn, oc_some, hq, oc_some, oc_some]
      · cases hl
    · obtain rfl := Option.some.inj h
      rw [sel_false, hq, oc_some]
noncomputable def ldO (P : Program) (op : Op) (T : Tr Value) (H : AH) (v : Value) : VO :=
  match op with
  | .load t x => oc (ldP P t (ev T x) v H) none fun q => some ((v, H), [q])
  | _ => none
noncomputable def stoP (P : Program) (t : TypeId) (p v : Value) (H : AH) (c : Tr Value) : VO :=
  oc (addrOf p) none fun a => oc (sizeB P t) none fun n => sel (Nat.beq (cellsL v).length n && !isAny v) (oc (blkCells H a.1) none fun y => sel (allCells (cellsL v)) (some ((undef, H.store a.1 c y.2), [∃ old, rdT y.1 (cellsL v).length a.2 = some old, layL (cellsL v) a.2 y.1 = c])) none) none
theorem stoP_ok {P : Program} {t : TypeId} {p v : Value} {H : AH} {c : Tr Value} {r : Value × AH} {ps : List Prop} (h : stoP P t p v H c = some (r, ps)) (hp : AllP ps) : opStore P t p v H = some r := by
  obtain ⟨a, ha, h⟩ := oc_eq_some h
  obtain ⟨n, hn, h⟩ := oc_eq_some h
  obtain ⟨hb, h⟩ := sel_none h
  obtain ⟨y, hy, h⟩ := oc_eq_some h
  obtain ⟨hc, h⟩ := sel_none h
  obtain ⟨rfl, rfl⟩ := Prod.mk.inj (Option.some.inj h)
  obtain ⟨⟨old, h1⟩, h2, _⟩ := hp
  unfold opStore
  rw [ha, oc_some, hn, oc_some, hb, sel_true]
  have hpo : pairOf H a.1 = none := by unfold pairOf; rw [blkCells_eq hy, oc_some]; rfl
  unfold storeB2
  rw [hpo, oc_none]
  unfold storeB
  rw [hy, oc_some, h1, oc_some, hc, sel_true, oc_some, h2]
noncomputable def stoO (P : Program) (op : Op) (T : Tr Value) (H : AH) (c : Tr Value) : VO :=
  match op with
  | .store t x y => stoP P t (ev T x) (ev T y) H c
  | _ => none
noncomputable def srcP (P : Program) (H : AH) (sz : Nat) (x : Value) (a : Option (Nat × List Value)) : Option ((Nat × List Value) × List Prop) :=
  oc a (oc (srcB P H sz x) none fun r => some (r, [])) fun r => match x with
    | .slice (some ⟨b, o, none⟩) n _ => oc (blkCells H b) none fun y => some (r, [r.1 = n, rdT y.1 (Nat.mul n sz) o = some r.2])
    | .string bs => sel (Nat.beq sz 1) (some (r, [r = (bs.size, bs.data.toList.map fun b => Value.int .u8 b.toNat)])) none
    | _ => none
theorem srcP_ok {P : Program} {H : AH} {sz : Nat} {x : Value} {a : Option (Nat × List Value)} {r : Nat × List Value} {ps : List Prop} (h : srcP P H sz x a = some (r, ps)) (hp : AllP ps) : srcB P H sz x = some r := by
  unfold srcP at h
  cases a with
  | none =>
    rw [oc_none] at h
    obtain ⟨q, hq, h⟩ := oc_eq_some h
    obtain ⟨rfl, rfl⟩ := Prod.mk.inj (Option.some.inj h)
    exact hq
  | some q =>
    rw [oc_some] at h
    split at h
    · obtain ⟨y, hy, h⟩ := oc_eq_some h
      obtain ⟨rfl, rfl⟩ := Prod.mk.inj (Option.some.inj h)
      obtain ⟨p1, p2, _⟩ := hp
      obtain ⟨a, b⟩ := q
      simp only at p1 p2
      subst p1
      unfold srcB
      simp only [hy, oc_some, p2]
    · obtain ⟨hz, h⟩ := sel_none h
      obtain ⟨rfl, rfl⟩ := Prod.mk.inj (Option.some.inj h)
      obtain ⟨p1, _⟩ := hp
      show sel (Nat.beq sz 1) _ none = _
      rw [hz, sel_true, p1]
    · cases h
noncomputable def appK (H : AH) (e bs sz : Nat) (r : Nat × List Value) (y : Tr Value × TypeId) (a : Nat × Nat × Nat × Nat) (p : AppA) : VO :=
  sel p.known
    (some ((.slice (some ⟨H.next, 0, none⟩) p.len (Nat.add big sz), H.push (.cells (layT p.new) e)), [0 < r.1, a.2.2.2 < big, a.2.2.2 < Nat.add a.2.2.1 r.1, rdT y.1 (Nat.mul a.2.2.1 sz) a.2.1 = some p.old, fits (Nat.add a.2.2.1 r.1) bs = true, p.old ++ r.2 = p.new, Nat.add a.2.2.1 r.1 = p.len]))
    (sel (Nat.beq a.2.2.2 (Nat.add big sz) && Nat.beq y.2 e) (some ((.slice (some ⟨H.next, 0, none⟩) p.len (Nat.add big sz), H.grow a.1 p.new e), [0 < r.1, rdT y.1 (Nat.mul a.2.2.1 sz) a.2.1 = some p.old, fits (Nat.add a.2.2.1 r.1) bs = true, allCells r.2 = true, allCells p.old = true, p.old ++ r.2 = p.new, Nat.add a.2.2.1 r.1 = p.len])) none)
noncomputable def appN (H : AH) (e bs sz : Nat) (r : Nat × List Value) (p : AppA) : VO :=
  some ((.slice (some ⟨H.next, 0, none⟩) p.len (Nat.add big sz), H.push (.cells (layT p.new) e)), [0 < r.1, fits r.1 bs = true, r.2 = p.new, r.1 = p.len])
noncomputable def appS (H : AH) (e bs sz : Nat) (r : Nat × List Value) (s : Value) (p : AppA) : VO :=
  match s with
  | .slice none 0 0 => appN H e bs sz r p
  | .slice (some ⟨b, o, none⟩) n k => oc (blkCells H b) none fun y => appK H e bs sz r y (b, o, n, k) p
  | _ => none
noncomputable def appP (P : Program) (t u : TypeId) (s x : Value) (H : AH) (p : AppA) : VO :=
  oc (zCount s x) (oc (elemB P t) none fun e => oc (P.underlying u) none fun d => oc (zeroB P e) none fun z => oc (sizeB P e) none fun sz => oc (bytesB P e) none fun bs =>
    sel (notInt d && Nat.beq z.length sz && Nat.blt sz big) (oc (srcP P H sz x p.src) none fun r => oc (appS H e bs sz r.1 s p) none fun q => some (q.1, r.2 ++ q.2)) none) fun _ => none
theorem blt_no {n k : Nat} (h : ¬ n < k) : Nat.blt n k = false := by
  cases hc : Nat.blt n k with
  | false => rfl
  | true => exact absurd (blt_lt hc) h
theorem ble_no {n k : Nat} (h : ¬ n ≤ k) : Nat.ble n k = false := by
  cases hc : Nat.ble n k with
  | false => rfl
  | true => exact absurd (ble_le hc) h
theorem beq_no {n k : Nat} (h : n ≠ k) : Nat.beq n k = false := by
  cases hc : Nat.beq n k with
  | false => rfl
  | true => exact absurd (Nat.eq_of_beq_eq_true hc) h
theorem blt_yes {n k : Nat} (h : n < k) : Nat.blt n k = true := by simpa [Nat.blt_eq] using h
theorem appS_ok {H : AH} {e bs sz : Nat} {q : Nat × List Value} {s : Value} {p : AppA} {r : Value × AH} {ps : List Prop} (hr : appS H e bs sz q s p = some (r, ps)) (hp : AllP ps) (hszb : sz < big) : appTop H sz e bs q s = some r := by
  have hadd : ∀ a b, Nat.add a b = a + b := fun _ _ => rfl
  unfold appS at hr
  split at hr
  · obtain ⟨rfl, rfl⟩ := Prod.mk.inj (Option.some.inj hr)
    obtain ⟨p1, p2, p3, p4, _⟩ := hp
    unfold appTop
    rw [show roomL sz q (.slice none 0 0) = none from rfl, oc_none]
    show appNil H sz e bs q 0 0 = _
    unfold appNil
    rw [show (Nat.beq 0 0 && Nat.beq 0 0) = true from rfl, sel_true, beq_no (show q.1 ≠ 0 by omega), sel_false, p2, sel_true, p3, p4]
  · rename_i b o n k
    obtain ⟨y, hy, hr⟩ := oc_eq_some hr
    unfold appK at hr
    simp only at hr
    rcases sel_eq_some hr with ⟨_, hr⟩ | ⟨_, hr⟩
    · obtain ⟨rfl, rfl⟩ := Prod.mk.inj (Option.some.inj hr)
      obtain ⟨p1, p2, p3, p4, p5, p6, p7, _⟩ := hp
      rw [hadd] at p3
      have hdiv : Nat.div k big = 0 := Nat.div_eq_of_lt p2
      have hroom : roomL sz q (.slice (some ⟨b, o, none⟩) n k) = none := by
        show oc (capL n k) none _ = none
        unfold capL
        rw [hdiv]; rfl
      unfold appTop
      rw [hroom, oc_none]
      have hw : weakL (.slice (some ⟨b, o, none⟩) n k) = .slice (some ⟨b, o, none⟩) n k := by
        show sel (Nat.ble (Nat.div k big) 1) _ _ = _
        rw [hdiv]; rfl
      rw [hw]
      show sel (Nat.beq q.1 0) _ (oc (blkCells H b) none fun y => appSome H sz e bs q b o n k y) = _
      rw [beq_no (show q.1 ≠ 0 by omega), sel_false, hy, oc_some]
      unfold appSome
      rw [p4, oc_some, blt_yes p2, sel_true, ble_no (show ¬ Nat.add n q.1 ≤ k by rw [hadd]; omega), sel_false, p5, sel_true, p6, p7]
    · obtain ⟨hk, hr⟩ := sel_none hr
      obtain ⟨rfl, rfl⟩ := Prod.mk.inj (Option.some.inj hr)
      obtain ⟨p1, p2, p3, p4, p5, p6, p7, _⟩ := hp
      simp only [Bool.and_eq_true] at hk
      obtain rfl := Nat.eq_of_beq_eq_true hk.1
      have hdiv : Nat.div (Nat.add big sz) big = 1 := by
        show (big + sz) / big = 1
        rw [Nat.add_div_left _ (by decide), Nat.div_eq_of_lt hszb]
      have hroom : roomL sz q (.slice (some ⟨b, o, none⟩) n (Nat.add big sz)) = none := by
        show oc (capL n (Nat.add big sz)) none _ = none
        unfold capL
        rw [hdiv, show Nat.beq 1 0 = false from rfl, sel_false, show Nat.beq 1 1 = true from rfl, sel_true]
        cases hn : Nat.blt 0 n with
        | false => rfl
        | true =>
          rw [sel_true, oc_some]
          show sel (Nat.ble (Nat.add n q.1) n && Nat.blt 0 q.1) _ none = none
          rw [ble_no (show ¬ Nat.add n q.1 ≤ n by rw [hadd]; omega)]; rfl
      unfold appTop
      rw [hroom, oc_none]
      have hw : weakL (.slice (some ⟨b, o, none⟩) n (Nat.add big sz)) = .slice (some ⟨b, o, none⟩) n (Nat.add big sz) := by
        show sel (Nat.ble (Nat.div (Nat.add big sz) big) 1) _ _ = _
        rw [hdiv]; rfl
      rw [hw]
      show sel (Nat.beq q.1 0) _ (oc (blkCells H b) none fun y => appSome H sz e bs q b o n (Nat.add big sz) y) = _
      rw [beq_no (show q.1 ≠ 0 by omega), sel_false, hy, oc_some]
      unfold appSome
      rw [p2, oc_some, blt_no (show ¬ Nat.add big sz < big by rw [hadd]; omega), sel_false, hk.1, hk.2, p3, p4, p5]
      show some _ = some _
      rw [p6, p7]
  · cases hr
theorem appP_ok {P : Program} {t u : TypeId} {s x : Value} {H : AH} {p : AppA} {r : Value × AH} {ps : List Prop} (h : appP P t u s x H p = some (r, ps)) (hp : AllP ps) : opAppend3 P t u s x H = some r := by
  unfold appP at h
  cases hzc : zCount s x with
  | some n => rw [hzc] at h; cases h
  | none =>
  rw [hzc, oc_none] at h
  obtain ⟨e, he, h⟩ := oc_eq_some h
  obtain ⟨d, hd, h⟩ := oc_eq_some h
  obtain ⟨z, hz, h⟩ := oc_eq_some h
  obtain ⟨sz, hsz, h⟩ := oc_eq_some h
  obtain ⟨bs, hbs, h⟩ := oc_eq_some h
  obtain ⟨hb, h⟩ := sel_none h
  obtain ⟨⟨q, qs⟩, hq, h⟩ := oc_eq_some h
  obtain ⟨⟨r', rs⟩, hr, h⟩ := oc_eq_some h
  obtain ⟨rfl, rfl⟩ := Prod.mk.inj (Option.some.inj h)
  obtain ⟨hp1, hp⟩ := AllP.append hp
  have hsrc := srcP_ok hq hp1
  have hb' := hb
  simp only [Bool.and_eq_true] at hb'
  have hszb : sz < big := blt_lt hb'.2
  unfold opAppend3
  rw [hzc, oc_none]
  unfold opAppend2
  rw [he, oc_some, hd, oc_some, hz, oc_some, hsz, oc_some, hbs, oc_some, hb, sel_true, hsrc, oc_some]
  exact appS_ok hr hp hszb
noncomputable def appO (P : Program) (op : Op) (T : Tr Value) (H : AH) (p : AppA) : VO :=
  match op with
  | .call c => (match c.callee, c.argTypes.toList, c.args.toList with
    | .builtin .append, [t, u], [s, x] => appP P t u (ev T s) (ev T x) H p
    | _, _, _ => none)
  | _ => none
noncomputable def isFuncN (f : Fn) : Option Nat :=
  match f with
  | .func g => some g
  | _ => none
noncomputable def callA1 (P : Program) (op : Op) (T : Tr Value) (H : AH) (a : CallA) : VO :=
  match op with
  | .call c => (match c.callee with
    | .value f => oc (fnVal (ev T f) (evL T c.args.toList)) none fun p => oc (isFuncN p.1) none fun g => oc (frameR a p.2 H) none fun r => oc (extF P p.1)
        (some (r.2, Gv P (.func g) r.1.1 ⟨r.1.2, a.k, a.k⟩ a.v a.H1 :: (flatPs H.blocks a.ins ++ flatPs a.H1.blocks a.outs))) fun _ => none
    | _ => none)
  | _ => none

noncomputable def evA (P : Program) (a : Option Ans) (op : Op) (ty : TypeId) (T : Tr Value) (H : AH) : VO :=
  oc a (oc (evalOp P noC op ty T H) none fun r => some (r, [])) fun a => match a with
    | .val v => oc (evalOp P noC op ty T H) none fun r => some ((v, r.2), [r.1 = v])
    | .pur v => sel (!isChg op && !isFlt op && !isMem P op) (some ((v, H), [evalOp P noC op ty T h0 = some (v, h0)])) none
    | .ld v => ldO P op T H v
    | .sto c => stoO P op T H c
    | .app p => appO P op T H p
    | .call c => callA1 P op T H c
    | .eq v H' => some ((v, H'), [evalOp P noC op ty T H = some (v, H')])

theorem evA_ok {P : Program} {a : Option Ans} {op : Op} {ty : TypeId} {T : Tr Value} {H : AH} {r : Value × AH} {ps : List Prop} (h : evA P a op ty T H = some (r, ps)) (hp : AllP ps) : ∃ call, CallU P call ∧ evalOp P call op ty T H = some r := by
  have hno : CallU P noC := noneC_ok P
  cases a with
  | none =>
    obtain ⟨q, hq, h⟩ := oc_eq_some (o := evalOp P noC op ty T H) h
    obtain ⟨rfl, rfl⟩ := Prod.mk.inj (Option.some.inj h)
    exact ⟨noC, hno, hq⟩
  | some a =>
    cases a with
    | val v =>
      obtain ⟨q, hq, h⟩ := oc_eq_some (o := evalOp P noC op ty T H) h
      obtain ⟨rfl, rfl⟩ := Prod.mk.inj (Option.some.inj h)
      refine ⟨noC, hno, ?_⟩
      rw [hq, ← hp.1]
    | pur v =>
      obtain ⟨hb, h⟩ := sel_none (b := !isChg op && !isFlt op && !isMem P op) h
      obtain ⟨rfl, rfl⟩ := Prod.mk.inj (Option.some.inj h)
      simp only [Bool.and_eq_true, Bool.not_eq_true'] at hb
      exact ⟨noC, hno, pure_any hb.1.1 hb.1.2 hb.2 hp.1 H⟩
    | ld v =>
      replace h : ldO P op T H v = some (r, ps) := h
      unfold ldO at h
      split at h
      · obtain ⟨q, hq, h⟩ := oc_eq_some h
        obtain ⟨rfl, rfl⟩ := Prod.mk.inj (Option.some.inj h)
        exact ⟨noC, hno, ldP_ok hq hp.1⟩
      · cases h
    | sto c =>
      replace h : stoO P op T H c = some (r, ps) := h
      unfold stoO at h
      split at h
      · exact ⟨noC, hno, stoP_ok h hp⟩
      · cases h
    | app p =>
      replace h : appO P op T H p = some (r, ps) := h
      unfold appO at h
      split at h
      · rename_i c
        split at h
        · rename_i t u s x h1 h2 h3
          refine ⟨noC, hno, ?_⟩
          show opCall P noC c ty T H = some r
          unfold opCall
          rw [h1]
          show opBuiltin P .append c.argTypes.toList ty (evL T c.args.toList) H = some r
          rw [h2, h3]
          exact appP_ok h hp
        · cases h
      · cases h
    | call ca =>
      replace h : callA1 P op T H ca = some (r, ps) := h
      unfold callA1 at h
      split at h
      · rename_i c
        split at h
        · rename_i f hf
          obtain ⟨p, hp1, h⟩ := oc_eq_some h
          obtain ⟨g, hg, h⟩ := oc_eq_some h
          obtain ⟨q, hq, h⟩ := oc_eq_some h
          cases hex : extF P p.1 with
          | some _ => rw [hex, oc_some] at h; cases h
          | none =>
          rw [hex, oc_none] at h
          obtain ⟨rfl, rfl⟩ := Prod.mk.inj (Option.some.inj h)
          obtain ⟨⟨a0, B0⟩, ⟨v, H'⟩⟩ := q
          obtain ⟨p1, p2⟩ := hp
          obtain ⟨p2, p3⟩ := AllP.append p2
          have hpg : p.1 = .func g := by
            unfold isFuncN at hg
            split at hg
            · obtain rfl := Option.some.inj hg; assumption
            · cases hg
          refine ⟨oneC (.func g) p.2 H (v, H'), oneC_ok (frame_ok hq p1 p2 p3), ?_⟩
          show opCall P _ c ty T H = some (v, H')
          unfold opCall
          rw [hf]
          show oc (fnVal (ev T f) (evL T c.args.toList)) none (fun p => oc (extF P p.1) (oneC (.func g) _ H (v, H') p.1 p.2 H) _) = _
          rw [hp1, oc_some, hex, oc_none, hpg]
          exact oneC_hit _ _ _ _
        · cases h
      · cases h
    | eq v H' =>
      obtain ⟨rfl, rfl⟩ := Prod.mk.inj (Option.some.inj h)
      exact ⟨noC, hno, hp.1⟩

end Go.Proofs.Ythomkiindjhdmaa.Ax
