/-
  What told runs are made of: whole pieces of code, loops, lists in memory. Own work, plain lemmas.
-/
import Derived.Test.YthomkiindjhdmaaSxF
set_option linter.unusedSimpArgs false
set_option linter.unusedVariables false
set_option linter.unnecessarySimpa false
set_option linter.deprecated false
set_option linter.unusedSectionVars false
namespace Go.Proofs.Ythomkiindjhdmaa.Ax
open Go.RowKit
variable [Tabs]

noncomputable def sT (N : Nat) (l : List (Nat × Value)) : Tr Value := @List.rec (Nat × Value) (fun _ => Tr Value) (anyT N) (fun x _ ih => ih.set x.1 x.2) l
noncomputable def sB (l : List (Nat × Option ABlk)) : Tr ABlk := @List.rec (Nat × Option ABlk) (fun _ => Tr ABlk) .nil (fun x _ ih => oc x.2 ih fun y => ih.set x.1 y) l
noncomputable def aT (l : List (Nat × Ans)) : Tr Ans := @List.rec (Nat × Ans) (fun _ => Tr Ans) .nil (fun x _ ih => ih.set x.1 x.2) l
noncomputable def lT (l : List (Nat × LAns)) : Tr LAns := @List.rec (Nat × LAns) (fun _ => Tr LAns) .nil (fun x _ ih => ih.set x.1 x.2) l

noncomputable def runC (P : Program) (A : Tr Ans) (L : Tr LAns) (N m : Nat) (wk : WkS) (c : Code) (s : XSt) : Option ((Ex × XSt) × List Prop) :=
  oc (execA P A L N m fuel c 0 s) none fun r => oc (weakF N m wk r.1.2.1) none fun q => some ((r.1.1, q.1), r.2 ++ q.2)
theorem runC_ok {P : Program} (hm : P.follows .mixedOrders = true) {A : Tr Ans} {L : Tr LAns} {N m : Nat} {wk : WkS} {c : Code} {s : XSt} {x : Ex × XSt} {ps : List Prop} (h : runC P A L N m wk c s = some (x, ps)) (hp : AllP ps) : CG P none N m c s x := by
  obtain ⟨⟨⟨e, s1, k⟩, qs⟩, h1, h⟩ := oc_eq_some h
  obtain ⟨⟨s2, rs⟩, h2, h⟩ := oc_eq_some h
  obtain ⟨rfl, rfl⟩ := Prod.mk.inj (Option.some.inj h)
  obtain ⟨p1, p2⟩ := AllP.append hp
  exact (execA_ok hm _ _ _ _ _ _ h1 p1).post (weakF_ok h2 p2)
noncomputable def runF (P : Program) (A : Tr Ans) (L : Tr LAns) (f : Nat) (wk : WkS) (args : List Value) (H : AH) : Option ((Value × AH) × List Prop) :=
  sel (fnOkB P f args.length) (oc (execA P A L (fnN P f) H.next fuel (codeOf P f []) 0 (layT args, [], H)) none fun r => oc (weakF (fnN P f) H.next wk r.1.2.1) none fun q => oc (leaveA P f H.next (r.1.1, q.1)) none fun y => some (y, r.2 ++ q.2)) none
theorem runF_ok {P : Program} (hm : P.follows .mixedOrders = true) {A : Tr Ans} {L : Tr LAns} {f : Nat} {wk : WkS} {args : List Value} {H H' : AH} {v : Value} {ps : List Prop} (h : runF P A L f wk args H = some ((v, H'), ps)) (hp : AllP ps) : Gv P (.func f) args H v H' := by
  obtain ⟨hf, h⟩ := sel_none h
  obtain ⟨⟨⟨e, s1, k⟩, qs⟩, h1, h⟩ := oc_eq_some h
  obtain ⟨⟨s2, rs⟩, h2, h⟩ := oc_eq_some h
  obtain ⟨y, h3, h⟩ := oc_eq_some h
  obtain ⟨rfl, rfl⟩ := Prod.mk.inj (Option.some.inj h)
  obtain ⟨p1, p2⟩ := AllP.append hp
  exact fn_ok hf ((execA_ok hm _ _ _ _ _ _ h1 p1).post (weakF_ok h2 p2)) h3

/-! loops -/
def iterM {α β : Type} (body : α → Option (α ⊕ β)) : Nat → α → Option β
  | 0, _ => none
  | n + 1, s => (body s).bind fun o => match o with
    | .inl s => iterM body n s
    | .inr r => some r
theorem iterM_succ {α β : Type} (body : α → Option (α ⊕ β)) (n : Nat) (s : α) : iterM body (n + 1) s = (body s).bind fun o => match o with
    | .inl s => iterM body n s
    | .inr r => some r := rfl
theorem LG.iter {P : Program} {N m : Nat} {b : Code} {α β : Type} {body : α → Option (α ⊕ β)} {S : α → XSt} {X : β → Ex × XSt} (h1 : ∀ s s', body s = some (.inl s') → CG P none N m b (S s) (.normal, S s')) (h2 : ∀ s r, body s = some (.inr r) → CG P none N m b (S s) (X r)) (hX : ∀ r, (X r).1 ≠ .normal) :
    ∀ (n : Nat) (s : α) (r : β), iterM body n s = some r → LG P none N m b (S s) (X r)
  | 0, s, r, h => by cases h
  | n + 1, s, r, h => by
    rw [iterM_succ] at h
    cases hb : body s with
    | none => rw [hb] at h; cases h
    | some o =>
      rw [hb] at h
      cases o with
      | inl s' => exact LG.step (h1 s s' hb) (LG.iter h1 h2 hX n s' r h)
      | inr r' =>
        obtain rfl := Option.some.inj h
        exact LG.done (h2 s r' hb) (hX r')
theorem CG.iter {P : Program} {N m : Nat} {c b : Code} (hc : c = .loop b) {α β : Type} {body : α → Option (α ⊕ β)} {S : α → XSt} {X : β → Ex × XSt} (h1 : ∀ s s', body s = some (.inl s') → CG P none N m b (S s) (.normal, S s')) (h2 : ∀ s r, body s = some (.inr r) → CG P none N m b (S s) (X r)) (hX : ∀ r, (X r).1 ≠ .normal)
    {n : Nat} {s : α} {r : β} (h : iterM body n s = some r) : CG P none N m c (S s) (X r) := by
  subst hc
  exact (LG.iter h1 h2 hX n s r h).cg

/-! a function that was run: what it leaves is forgotten -/
theorem Gv.forget {P : Program} {f : Nat} {args : List Value} {H H1 : AH} {v : Value} (h : Gv P (.func f) args H v H1) (hv : flat v = true) : Gv P (.func f) args H v ⟨.nil, H.next, Nat.min H1.low H.next⟩ := by
  intro n0 σ w fn' args' hfn hargs hr
  cases hfn
  obtain ⟨g1, g2⟩ := h n0 σ w (.func f) args' (.func f) hargs hr
  refine ⟨g1, fun n => CallsIn.mono (g2 n) ?_⟩
  rintro e w' ⟨v', σ', rfl, q1, q2, q3⟩
  have := flat_same hv q1
  subst this
  refine ⟨_, σ, rfl, flat_vr hv σ, ⟨q2.base, fun b x hb => (by cases hb), fun b₁ b₂ x₁ x₂ c d₁ m₁ d₂ m₂ h1 => (by cases h1), hr.dom, fun b c d m hb => Nat.lt_of_lt_of_le (hr.img b c d m hb) q3.below.size, hr.hol⟩, ⟨.refl σ, q3.below, fun c hc hq => ?_⟩⟩
  have := q3.keep c hc (hq.imp id fun hq b d m hs => Nat.lt_of_lt_of_le (hq b d m hs) (Nat.min_le_left _ _))
  exact ⟨this.1, fun _ _ _ hs => hs⟩
/-- a function of no argument that was run in order -/
theorem Gv.run {P : Program} (hm : P.follows .mixedOrders = true) {f : FuncId} {args : List Value} {H H' : AH} {v : Value} (h : callP P (.func f) args H = some (v, H')) : Gv P (.func f) args H v H' :=
  fun n0 σ w fn' args' hfn hargs hr => callF_ok (regDraw_ok hm n0.n.n) (regDraw_low P) 100000 n0.n.Q n0.X _ _ _ _ _ h σ w fn' args' hfn hargs hr

theorem Gv.ofTrue {P : Program} (hm : P.follows .mixedOrders = true) {f : FuncId} (h : isTrue (callP P (.func f) [] Go.Proofs.Ythomkiindjhdmaa.Ax.h0) = true) : Gv P (.func f) [] Go.Proofs.Ythomkiindjhdmaa.Ax.h0 (.bool true) Go.Proofs.Ythomkiindjhdmaa.Ax.h0 := by
  unfold isTrue at h
  split at h
  · rename_i H' hc
    have := (Gv.run hm hc).forget rfl
    have e : (⟨.nil, Go.Proofs.Ythomkiindjhdmaa.Ax.h0.next, Nat.min H'.low Go.Proofs.Ythomkiindjhdmaa.Ax.h0.next⟩ : AH) = Go.Proofs.Ythomkiindjhdmaa.Ax.h0 := by
      show AH.mk .nil 0 (min H'.low 0) = _
      rw [Nat.min_zero]; rfl
    rw [e] at this
    exact this
  · cases h

/-! numbers -/
abbrev w64 (x : Int) : Int := IntKind.i64.wrap x
theorem vbT {c : Prop} [Decidable c] (h : c) : Value.bool (decide c) = Value.bool true := by rw [decide_eq_true h]
theorem vbF {c : Prop} [Decidable c] (h : ¬ c) : Value.bool (decide c) = Value.bool false := by rw [decide_eq_false h]
theorem veT {a b : Int} (h : a = b) : Value.bool (a == b) = Value.bool true := by rw [beq_iff_eq.2 h]
theorem veF {a b : Int} (h : ¬ a = b) : Value.bool (a == b) = Value.bool false := by rw [beq_eq_false_iff_ne.2 h]
theorem vnT {a b : Int} (h : ¬ a = b) : Value.bool (a != b) = Value.bool true := by simp [h]
theorem vnF {a b : Int} (h : a = b) : Value.bool (a != b) = Value.bool false := by simp [h]
theorem vB {a b : Bool} (h : a = b) : Value.bool a = Value.bool b := by rw [h]
theorem vBn {a b : Bool} (h : a = !b) : Value.bool (!a) = Value.bool b := by rw [h]; simp

/-! lists in memory -/
theorem setF_same {α : Type} (x y : Option α) : ∀ (f : Nat) (t : Tr α) (n : Nat), n < f → Tr.setF f (Tr.setF f t n x) n y = Tr.setF f t n y := by
  intro f
  induction f with
  | zero => intro t n h; omega
  | succ f ih =>
    intro t n h
    rw [Tr.setF_succ, Tr.setF_succ, Tr.setF_succ]
    by_cases h0 : n = 0
    · subst h0; simp [trL, trR]
    · rw [if_neg h0, if_neg h0, if_neg h0]
      by_cases h1 : n % 2 = 1
      · rw [if_pos h1, if_pos h1, if_pos h1]
        simp only [trL, trV, trR]
        rw [ih _ _ (by omega)]
      · rw [if_neg h1, if_neg h1, if_neg h1]
        simp only [trL, trV, trR]
        rw [ih _ _ (by omega)]
theorem setF_fuel {α : Type} (x : Option α) : ∀ (f g : Nat) (t : Tr α) (n : Nat), n < f → n < g → Tr.setF f t n x = Tr.setF g t n x := by
  intro f
  induction f with
  | zero => intro g t n h; omega
  | succ f ih =>
    intro g t n h hg
    cases g with
    | zero => omega
    | succ g =>
      rw [Tr.setF_succ, Tr.setF_succ]
      by_cases h0 : n = 0
      · rw [if_pos h0, if_pos h0]
      · rw [if_neg h0, if_neg h0]
        by_cases h1 : n % 2 = 1
        · rw [if_pos h1, if_pos h1, ih g _ _ (by omega) (by omega)]
        · rw [if_neg h1, if_neg h1, ih g _ _ (by omega) (by omega)]
theorem setF_comm {α : Type} (x y : Option α) : ∀ (f : Nat) (t : Tr α) (n m : Nat), n < f → m < f → n ≠ m → Tr.setF f (Tr.setF f t n x) m y = Tr.setF f (Tr.setF f t m y) n x := by
  intro f
  induction f with
  | zero => intro t n m h; omega
  | succ f ih =>
    intro t n m hn hm hne
    rw [Tr.setF_succ f t n, Tr.setF_succ f t m]
    by_cases n0 : n = 0
    · have m0 : m ≠ 0 := by omega
      rw [if_pos n0, if_neg m0]
      by_cases m1 : m % 2 = 1
      · rw [if_pos m1, Tr.setF_succ, Tr.setF_succ, if_neg m0, if_pos m1, if_pos n0]; rfl
      · rw [if_neg m1, Tr.setF_succ, Tr.setF_succ, if_neg m0, if_neg m1, if_pos n0]; rfl
    · rw [if_neg n0]
      by_cases m0 : m = 0
      · rw [if_pos m0]
        by_cases n1 : n % 2 = 1
        · rw [if_pos n1, Tr.setF_succ, Tr.setF_succ, if_pos m0, if_neg n0, if_pos n1]; rfl
        · rw [if_neg n1, Tr.setF_succ, Tr.setF_succ, if_pos m0, if_neg n0, if_neg n1]; rfl
      · rw [if_neg m0]
        by_cases n1 : n % 2 = 1
        · by_cases m1 : m % 2 = 1
          · rw [if_pos n1, if_pos m1, Tr.setF_succ, Tr.setF_succ, if_neg m0, if_pos m1, if_neg n0, if_pos n1]
            simp only [trL, trV, trR]
            rw [ih _ _ _ (by omega) (by omega) (by omega)]
          · rw [if_pos n1, if_neg m1, Tr.setF_succ, Tr.setF_succ, if_neg m0, if_neg m1, if_neg n0, if_pos n1]; rfl
        · by_cases m1 : m % 2 = 1
          · rw [if_neg n1, if_pos m1, Tr.setF_succ, Tr.setF_succ, if_neg m0, if_pos m1, if_neg n0, if_neg n1]; rfl
          · rw [if_neg n1, if_neg m1, Tr.setF_succ, Tr.setF_succ, if_neg m0, if_neg m1, if_neg n0, if_neg n1]
            simp only [trL, trV, trR]
            rw [ih _ _ _ (by omega) (by omega) (by omega)]
theorem set_same {α : Type} (t : Tr α) (n : Nat) (x y : α) : (t.set n x).set n y = t.set n y := setF_same _ _ _ t n (Nat.lt_succ_self n)
theorem set_comm {α : Type} (t : Tr α) {n m : Nat} (h : n ≠ m) (x y : α) : (t.set n x).set m y = (t.set m y).set n x := by
  show Tr.setF (m + 1) (Tr.setF (n + 1) t n (some x)) m (some y) = Tr.setF (n + 1) (Tr.setF (m + 1) t m (some y)) n (some x)
  rw [setF_fuel _ (m + 1) (n + m + 1) _ m (by omega) (by omega), setF_fuel _ (n + 1) (n + m + 1) t n (by omega) (by omega), setF_fuel _ (n + 1) (n + m + 1) _ n (by omega) (by omega), setF_fuel _ (m + 1) (n + m + 1) t m (by omega) (by omega)]
  exact setF_comm _ _ _ t n m (by omega) (by omega) h
theorem layL_set_lt {α : Type} (v : α) : ∀ (l : List α) (i j : Nat) (t : Tr α), i < j → (layL l j t).set i v = layL l j (t.set i v)
  | [], i, j, t, h => rfl
  | a :: l, i, j, t, h => by
    rw [layL_cons, layL_cons, layL_set_lt v l i (j + 1) _ (by omega), set_comm t (show j ≠ i by omega)]
theorem layL_set {α : Type} (v : α) : ∀ (l : List α) (k i : Nat) (t : Tr α), k < l.length → (layL l i t).set (i + k) v = layL (l.set k v) i t
  | [], k, i, t, h => by simp at h
  | a :: l, 0, i, t, h => by
    show (layL l (i + 1) (t.set i a)).set i v = layL l (i + 1) (t.set i v)
    rw [layL_set_lt v l i (i + 1) _ (by omega), set_same]
  | a :: l, k + 1, i, t, h => by
    rw [layL_cons, List.set_cons_succ, layL_cons, show i + (k + 1) = i + 1 + k from by omega]
    exact layL_set v l k (i + 1) _ (by simpa using h)
theorem layT_set {α : Type} (v : α) (l : List α) (k : Nat) (h : k < l.length) : (layT l).set k v = layT (l.set k v) := by
  have := layL_set v l k 0 .nil h
  rwa [Nat.zero_add] at this
theorem rdT_some {α : Type} {c : Tr α} : ∀ (n i : Nat) (l : List α), l.length = n → (∀ j, j < n → c.get (i + j) = l[j]?) → rdT c n i = some l
  | 0, i, l, h, _ => by obtain rfl := List.length_eq_zero_iff.1 h; rfl
  | n + 1, i, [], h, _ => by simp at h
  | n + 1, i, v :: l, h, hj => by
    rw [rdT_succ]
    have h0 := hj 0 (by omega)
    simp only [Nat.add_zero, List.getElem?_cons_zero] at h0
    rw [h0, oc_some, rdT_some n (i + 1) l (by simpa using h) fun j hlt => ?_, oc_some]
    have := hj (j + 1) (by omega)
    rw [List.getElem?_cons_succ] at this
    rw [← this]; congr 1; omega
theorem rdT_layT {α : Type} (l : List α) : rdT (layT l) l.length 0 = some l := rdT_some _ _ _ rfl fun j _ => by rw [layT_get, Nat.zero_add]
theorem rdT_layT1 {α : Type} (l : List α) (n : Nat) (h : n = l.length) : rdT (layT l) (Nat.mul n 1) 0 = some l := by
  subst h
  rw [show Nat.mul l.length 1 = l.length from Nat.mul_one _]; exact rdT_layT l

/-! lists of numbers -/
def iv (L : List Int) : List Value := L.map (Value.int .i64)
theorem iv_length (L : List Int) : (iv L).length = L.length := by simp [iv]
theorem iv_ld (L : List Int) (i : Nat) (h : i < L.length) : (layT (iv L)).get i = some (.int .i64 (L.getD i 0)) := by
  rw [layT_get]; simp [iv, h]
theorem iv_st (L : List Int) (i : Nat) (x : Int) (h : i < L.length) : ∃ old, rdT (layT (iv L)) 1 i = some old ∧ layL [Value.int .i64 x] i (layT (iv L)) = layT (iv (L.set i x)) := by
  refine ⟨[.int .i64 (L.getD i 0)], rdT_some _ _ _ rfl fun j hj => ?_, ?_⟩
  · obtain rfl : j = 0 := by omega
    rw [Nat.add_zero, iv_ld L i h]; rfl
  · show (layT (iv L)).set i (.int .i64 x) = _
    rw [layT_set _ _ _ (by rw [iv_length]; exact h)]
    simp [iv, List.map_set]
theorem iv_rd (L : List Int) : rdT (layT (iv L)) (Nat.mul L.length 1) 0 = some (iv L) := rdT_layT1 _ _ (iv_length L).symm
theorem iv_cells (L : List Int) : allCells (iv L) = true := by
  induction L with
  | nil => rfl
  | cons a l ih => exact ih
theorem iv_flat (L : List Int) (e : TypeId) : FlatB (.cells (layT (iv L)) e) := by
  intro i v h
  rw [layT_get] at h
  simp only [iv, List.getElem?_map, Option.map_eq_some_iff] at h
  obtain ⟨a, _, rfl⟩ := h
  rfl
theorem iv_app (L : List Int) (x : Int) : iv L ++ [Value.int .i64 x] = iv (L ++ [x]) := by simp [iv]
theorem iv_app2 (L K : List Int) : iv L ++ iv K = iv (L ++ K) := by simp [iv]
theorem fits_ok {n b : Nat} (h : n * b ≤ 140737488355328) (h2 : n ≤ 9223372036854775807) : fits n b = true := by
  unfold fits
  rw [Nat.ble_eq_true_of_le (show Nat.mul n b ≤ _ from h), Nat.ble_eq_true_of_le h2]; rfl

/-! places in lists -/
theorem ixS {P : Program} {t e : TypeId} {b n k es : Nat} {kd : IntKind} {i : Int} (he : elemB P t = some e) (hs : sizeB P e = some es) (hz : 0 ≤ i) (hn : i < (n : Int)) : opIndexAddr P t (.slice (some ⟨b, 0, none⟩) n k) (.int kd i) Go.Proofs.Ythomkiindjhdmaa.Ax.h0 = some (.pointer (some ⟨b, i.toNat * es, none⟩), Go.Proofs.Ythomkiindjhdmaa.Ax.h0) := by
  obtain ⟨j, rfl⟩ := Int.eq_ofNat_of_zero_le hz
  have hj : Nat.blt j n = true := by simp [Nat.blt_eq]; omega
  unfold opIndexAddr
  rw [show isAddr (.slice (some ⟨b, 0, none⟩) n k) = false from rfl, sel_false]
  unfold opIndexSlice
  rw [show sliceOf (.slice (some ⟨b, 0, none⟩) n k) = some (b, 0, n, k) from rfl, oc_some]
  have : idx (.int kd (.ofNat j)) n = some j := by show (match Nat.blt j n with | true => some j | false => none) = _; rw [hj]
  show oc (idx (.int kd (.ofNat j)) n) none _ = _
  rw [this, oc_some, he, oc_some, hs, oc_some]
  simp
theorem ixS1 {P : Program} {t e : TypeId} {b n k : Nat} {kd : IntKind} {i : Int} (he : elemB P t = some e) (hs : sizeB P e = some 1) (h : 0 ≤ i ∧ i < (n : Int)) : opIndexAddr P t (.slice (some ⟨b, 0, none⟩) n k) (.int kd i) Go.Proofs.Ythomkiindjhdmaa.Ax.h0 = some (.pointer (some ⟨b, i.toNat, none⟩), Go.Proofs.Ythomkiindjhdmaa.Ax.h0) := by
  have := ixS (b := b) (k := k) (kd := kd) he hs h.1 h.2
  rwa [Nat.mul_one] at this
theorem toNatLt {i : Int} {n : Nat} (h : 0 ≤ i ∧ i < (n : Int)) : i.toNat < n := by omega
/-- the byte at a place of a text -/
def byteAt (s : ByteArray) (i : Nat) : Int := ((s.data.getD i 0).toNat : Int)
theorem pureS_bind {α β : Type} (P : Program) (f : α → Sem β) : ∀ (s : Sem α), pureS P (s >>= f) = oc (pureS P s) none fun a => pureS P (f a) := by
  intro s
  induction s with
  | pure x => rfl
  | program k ih => exact ih P
  | mark m k ih => exact ih
  | _ => rfl
theorem pureS_under {P : Program} {t : TypeId} {d : TypeDesc} (h : P.underlying t = some d) : pureS P (underlying t) = some d := by
  unfold underlying
  show pureS P (match P.underlying t with | some d => _ | none => _) = some d
  rw [h]
  rfl
theorem ixStr {P : Program} {t : TypeId} {s : ByteArray} {kd : IntKind} {i : Int} (hu : P.underlying t = some .string) (h : 0 ≤ i ∧ i < ((s.size : Nat) : Int)) : opIndex P t (.string s) (.int kd i) Go.Proofs.Ythomkiindjhdmaa.Ax.h0 = some (.int .u8 (byteAt s i.toNat), Go.Proofs.Ythomkiindjhdmaa.Ax.h0) := by
  unfold opIndex
  rw [show (flat (Value.string s) && flat (.int kd i)) = true from rfl, sel_true]
  unfold opPure Instr.index
  rw [pureS_bind, show pureS P (asIntOf (.int kd i)) = some (kd, i) from rfl, oc_some, pureS_bind, pureS_under hu, oc_some]
  have hlt : i.toNat < s.size := by omega
  have : (if 0 ≤ i then s[i.toNat]? else none) = some (s.data.getD i.toNat 0) := by
    rw [if_pos h.1]
    have hd : i.toNat < s.data.size := hlt
    rw [getElem?_pos s i.toNat hlt]
    simp only [Array.getD_eq_getD_getElem?, getElem?_pos s.data i.toNat hd, Option.getD_some]
    rfl
  simp only [this]
  rfl
/-- a slice of numbers that is nil as long as it is empty -/
def slN (L : List Int) (b : Nat) : Value :=
  match L with
  | [] => .slice none 0 0
  | a :: l => .slice (some ⟨b, 0, none⟩) (a :: l).length (Nat.add big 1)
noncomputable def nblk (L : List Int) (e : TypeId) : Option ABlk :=
  match L with
  | [] => none
  | a :: l => some (.cells (layT (iv (a :: l))) e)
theorem addLen (L : List Int) (x : Int) : Nat.add L.length 1 = (L ++ [x]).length := by simp
theorem addLen2 (L K : List Int) : Nat.add L.length K.length = (L ++ K).length := by simp

end Go.Proofs.Ythomkiindjhdmaa.Ax
