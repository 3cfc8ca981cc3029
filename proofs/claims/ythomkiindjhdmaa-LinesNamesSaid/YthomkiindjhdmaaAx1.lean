/-
  A long run in parts: a call that was run before, on its own, is answered as it was. Own work, plain lemmas.
-/
import Derived.Test.YthomkiindjhdmaaAx3
set_option linter.unusedSimpArgs false
set_option linter.unusedVariables false
set_option linter.unnecessarySimpa false
set_option linter.deprecated false
set_option linter.unusedSectionVars false
namespace Go.Proofs.Ythomkiindjhdmaa.Ax
open Go.RowKit
variable [Tabs]

/-! values that are written out are the same -/
def u8L : List UInt8 → List UInt8 → Bool
  | [], [] => true
  | a :: l, b :: k => Nat.beq a.toNat b.toNat && u8L l k
  | _, _ => false
theorem u8L_eq : ∀ {l k : List UInt8}, u8L l k = true → l = k
  | [], [], _ => rfl
  | [], _ :: _, h => by cases h
  | _ :: _, [], h => by cases h
  | a :: l, b :: k, h => by
    simp only [u8L, Bool.and_eq_true] at h
    rw [UInt8.toNat_inj.1 (Nat.eq_of_beq_eq_true h.1), u8L_eq h.2]
def bytesEq (a b : ByteArray) : Bool := u8L a.data.toList b.data.toList
theorem bytesEq_eq {a b : ByteArray} (h : bytesEq a b = true) : a = b := by
  cases a with
  | mk x =>
    cases b with
    | mk y =>
      have := u8L_eq h
      simp only at this
      congr 1
      cases x; cases y
      simpa using this
def intEq (a b : Int) : Bool :=
  match a with
  | .ofNat x => (match b with
    | .ofNat y => Nat.beq x y
    | _ => false)
  | .negSucc x => (match b with
    | .negSucc y => Nat.beq x y
    | _ => false)
theorem intEq_eq {a b : Int} (h : intEq a b = true) : a = b := by
  unfold intEq at h
  split at h <;> split at h <;> first | (rw [Nat.eq_of_beq_eq_true h]) | cases h
def optEq (a b : Option Nat) : Bool :=
  match a with
  | none => (match b with
    | none => true
    | _ => false)
  | some x => (match b with
    | some y => Nat.beq x y
    | _ => false)
theorem optEq_eq {a b : Option Nat} (h : optEq a b = true) : a = b := by
  unfold optEq at h
  split at h <;> split at h <;> first | rfl | (rw [Nat.eq_of_beq_eq_true h]) | cases h
def addrEq (a b : Option Addr) : Bool :=
  match a with
  | none => (match b with
    | none => true
    | _ => false)
  | some x => (match b with
    | some y => Nat.beq x.block y.block && (Nat.beq x.off y.off && optEq x.spot y.spot)
    | _ => false)
theorem addrEq_eq {a b : Option Addr} (h : addrEq a b = true) : a = b := by
  unfold addrEq at h
  split at h <;> split at h
  · rfl
  · cases h
  · rename_i x _ y
    simp only [Bool.and_eq_true] at h
    cases x; cases y
    simp only at h
    rw [Nat.eq_of_beq_eq_true h.1, Nat.eq_of_beq_eq_true h.2.1, optEq_eq h.2.2]
  · cases h
def veqL (f : Value → Value → Bool) : List Value → List Value → Bool
  | [], [] => true
  | a :: l, b :: k => f a b && veqL f l k
  | _, _ => false
theorem veqL_eq {f : Value → Value → Bool} (hf : ∀ a b, f a b = true → a = b) : ∀ {l k : List Value}, veqL f l k = true → l = k
  | [], [], _ => rfl
  | [], _ :: _, h => by cases h
  | _ :: _, [], h => by cases h
  | a :: l, b :: k, h => by
    simp only [veqL, Bool.and_eq_true] at h
    rw [hf _ _ h.1, veqL_eq hf h.2]
theorem arr_eq {x y : Array Value} (h : x.toList = y.toList) : x = y := by cases x; cases y; simpa using h
def isBool (b : Bool) (v : Value) : Bool :=
  match v with
  | .bool c => (match b with
    | true => c
    | false => !c)
  | _ => false
theorem isBool_eq {b : Bool} {v : Value} (h : isBool b v = true) : Value.bool b = v := by
  cases v with
  | bool c => cases b <;> cases c <;> first | rfl | cases h
  | _ => cases h
def isInt (k : IntKind) (a : Int) (v : Value) : Bool :=
  match v with
  | .int k' b => kindEq k k' && intEq a b
  | _ => false
def isStr (s : ByteArray) (v : Value) : Bool :=
  match v with
  | .string t => bytesEq s t
  | _ => false
def isPtr (a : Option Addr) (v : Value) : Bool :=
  match v with
  | .pointer b => addrEq a b
  | _ => false
def isSl (a : Option Addr) (n k : Nat) (v : Value) : Bool :=
  match v with
  | .slice b n' k' => addrEq a b && (Nat.beq n n' && Nat.beq k k')
  | _ => false
def isMp (a : Option Nat) (v : Value) : Bool :=
  match v with
  | .map b => optEq a b
  | _ => false
def isNf (v : Value) : Bool :=
  match v with
  | .nilFunc => true
  | _ => false
def isNi (v : Value) : Bool :=
  match v with
  | .nilIface => true
  | _ => false
def isAgg (f : Value → Value → Bool) (x : List Value) (v : Value) : Bool :=
  match v with
  | .agg y => veqL f x y.toList
  | _ => false
def isTup (f : Value → Value → Bool) (x : List Value) (v : Value) : Bool :=
  match v with
  | .tuple y => veqL f x y.toList
  | _ => false
def isIf (f : Value → Value → Bool) (t : TypeId) (u : Value) (v : Value) : Bool :=
  match v with
  | .iface t' u' => Nat.beq t t' && f u u'
  | _ => false
noncomputable def sameFn (f g : Fn) : Bool := oc (fnNum f) false fun a => oc (fnNum g) false fun b => Nat.beq a b
theorem sameFn_eq {f g : Fn} (h : sameFn f g = true) : f = g := by
  unfold sameFn at h
  cases hf : fnNum f with
  | none => rw [hf] at h; cases h
  | some a =>
    cases hg : fnNum g with
    | none => rw [hf, hg] at h; cases h
    | some b =>
      rw [hf, hg] at h
      rw [fnNum_eq hf, fnNum_eq hg, Nat.eq_of_beq_eq_true h]
noncomputable def isFn (f : Value → Value → Bool) (g : Fn) (x y : List Value) (v : Value) : Bool :=
  match v with
  | .func g' x' y' => sameFn g g' && (veqL f x x'.toList && veqL f y y'.toList)
  | _ => false
def isCh (r : Option Nat) (v : Value) : Bool :=
  match r with
  | none => (match v with
    | .chan none => true
    | _ => false)
  | some n => (match v with
    | .chan (some m) => Nat.beq n m
    | _ => false)
theorem isCh_eq {r : Option Nat} {v : Value} (h : isCh r v = true) : .chan r = v := by
  unfold isCh at h
  split at h
  · split at h
    · rfl
    · cases h
  · split at h
    · rw [Nat.eq_of_beq_eq_true h]
    · cases h
noncomputable def veqN (f : Value → Value → Bool) (v v' : Value) : Bool :=
  match v with
  | .bool b => isBool b v'
  | .int k n => isInt k n v'
  | .string s => isStr s v'
  | .pointer a => isPtr a v'
  | .slice a n k => isSl a n k v'
  | .map r => isMp r v'
  | .nilFunc => isNf v'
  | .nilIface => isNi v'
  | .iface t u => isIf f t u v'
  | .agg x => isAgg f x.toList v'
  | .tuple x => isTup f x.toList v'
  | .func g x y => isFn f g x.toList y.toList v'
  | .chan r => isCh r v'
  | _ => false
theorem veqN_eq {f : Value → Value → Bool} (hf : ∀ a b, f a b = true → a = b) {v v' : Value} (h : veqN f v v' = true) : v = v' := by
  unfold veqN at h
  split at h
  · exact isBool_eq h
  · unfold isInt at h
    split at h
    · simp only [Bool.and_eq_true] at h
      rw [kindEq_eq h.1, intEq_eq h.2]
    · cases h
  · unfold isStr at h
    split at h
    · rw [bytesEq_eq h]
    · cases h
  · unfold isPtr at h
    split at h
    · rw [addrEq_eq h]
    · cases h
  · unfold isSl at h
    split at h
    · simp only [Bool.and_eq_true] at h
      rw [addrEq_eq h.1, Nat.eq_of_beq_eq_true h.2.1, Nat.eq_of_beq_eq_true h.2.2]
    · cases h
  · unfold isMp at h
    split at h
    · rw [optEq_eq h]
    · cases h
  · unfold isNf at h
    split at h
    · rfl
    · cases h
  · unfold isNi at h
    split at h
    · rfl
    · cases h
  · unfold isIf at h
    split at h
    · simp only [Bool.and_eq_true] at h
      rw [Nat.eq_of_beq_eq_true h.1, hf _ _ h.2]
    · cases h
  · unfold isAgg at h
    split at h
    · rw [arr_eq (veqL_eq hf h)]
    · cases h
  · unfold isTup at h
    split at h
    · rw [arr_eq (veqL_eq hf h)]
    · cases h
  · unfold isFn at h
    split at h
    · simp only [Bool.and_eq_true] at h
      rw [sameFn_eq h.1, arr_eq (veqL_eq hf h.2.1), arr_eq (veqL_eq hf h.2.2)]
    · cases h
  · exact isCh_eq h
  · cases h
noncomputable def veqF (n : Nat) : Value → Value → Bool := @Nat.rec (fun _ => Value → Value → Bool) (fun _ _ => false) (fun _ ih => veqN ih) n
theorem veqF_eq : ∀ (n : Nat) (a b : Value), veqF n a b = true → a = b
  | 0, _, _, h => by cases h
  | n + 1, a, b, h => veqN_eq (veqF_eq n) h
noncomputable def veq : Value → Value → Bool := veqF 9
theorem veq_eq {a b : Value} (h : veq a b = true) : a = b := veqF_eq 9 a b h

/-! short words for what is written out -/
def Y : Value := .chan none
def U : Value := .tuple #[]
def T : Value := .bool true
def F : Value := .bool false
def I (n : Nat) : Value := .int .i64 (.ofNat n)
def M (n : Nat) : Value := .int .i64 (.negSucc n)
def A (b o : Nat) : Value := .pointer (some ⟨b, o, none⟩)
def S (b o n k : Nat) : Value := .slice (some ⟨b, o, none⟩) n k

/-! blocks that are written out -/
inductive LB where
  | cells (e : TypeId) (l : List Value)
  | map (l : List MapEntry) (clock : Nat)
  | iter (m clock : Nat)
  | pair (e : TypeId) (l : List Value)
structure LBlk where
  num : Nat
  blk : LB
noncomputable def LB.lay (b : LB) : ABlk :=
  match b with
  | .cells e l => .cells (layT l) e
  | .map l c => .map l c
  | .iter m c => .iter m c
  | .pair e l => .pair (layT l) e
noncomputable def subL (c : Tr Value) : List Value → Nat → Bool
  | [], _ => true
  | v :: l, i => oc (c.get i) false (fun u => veq u v) && subL c l (Nat.succ i)
theorem subL_get {c : Tr Value} : ∀ {l : List Value} {i : Nat}, subL c l i = true → ∀ j v, l[j]? = some v → c.get (i + j) = some v
  | [], i, _, j, v, hj => by simp at hj
  | u :: l, i, h, j, v, hj => by
    simp only [subL, Bool.and_eq_true] at h
    cases j with
    | zero =>
      simp at hj
      subst hj
      cases hc : c.get i with
      | none => rw [hc] at h; exact absurd h.1 Bool.false_ne_true
      | some x =>
        rw [hc] at h
        have e : x = u := veq_eq h.1
        rw [e]
    | succ j =>
      have := subL_get h.2 j v (by simpa using hj)
      rw [← this]
      congr 1
      omega
/-- one entry is taken out -/
noncomputable def takeE (b : MapEntry) : List MapEntry → Option (List MapEntry)
  | [] => none
  | a :: l => sel (veq a.key b.key && veq a.val b.val) (some l) (oc (takeE b l) none fun k => some (a :: k))
noncomputable def entL : List MapEntry → List MapEntry → Bool
  | [], es => nilE es
  | b :: l, es => oc (takeE b es) false fun es' => entL l es'
where nilE : List MapEntry → Bool
  | [] => true
  | _ => false
theorem takeE_ok {b : MapEntry} : ∀ {es es' : List MapEntry}, takeE b es = some es' → ∃ a, a.key = b.key ∧ a.val = b.val ∧ es.Perm (a :: es')
  | [], es', h => by cases h
  | a :: l, es', h => by
    have h : sel (veq a.key b.key && veq a.val b.val) (some l) (oc (takeE b l) none fun k => some (a :: k)) = some es' := h
    rcases sel_eq_some h with ⟨h1, h2⟩ | ⟨_, h2⟩
    · simp only [Bool.and_eq_true] at h1
      obtain rfl := Option.some.inj h2
      exact ⟨a, veq_eq h1.1, veq_eq h1.2, .refl _⟩
    · obtain ⟨k, hk, h2⟩ := oc_eq_some h2
      obtain rfl := Option.some.inj h2
      obtain ⟨x, h3, h4, h5⟩ := takeE_ok hk
      exact ⟨x, h3, h4, (h5.cons a).trans (.swap ..)⟩
theorem MRs.perm {σ : Ren} {es es' : List MapEntry} (hp : es.Perm es') : ∀ {L : List MapEntry}, MRs σ es L → ∃ L', L.Perm L' ∧ MRs σ es' L' := by
  induction hp with
  | nil => intro L h; cases h; exact ⟨[], .nil, .nil⟩
  | cons x _ ih =>
    intro L h
    cases h with
    | @cons _ e' _ l' hk hv hl =>
      obtain ⟨L', h1, h2⟩ := ih hl
      exact ⟨e' :: L', h1.cons _, .cons hk hv h2⟩
  | swap x y l =>
    intro L h
    cases h with
    | @cons _ a _ l1 hk hv hl =>
      cases hl with
      | @cons _ b _ l2 hk2 hv2 hl2 => exact ⟨b :: a :: l2, .swap .., .cons hk2 hv2 (.cons hk hv hl2)⟩
  | trans _ _ ih1 ih2 =>
    intro L h
    obtain ⟨L1, h1, h2⟩ := ih1 h
    obtain ⟨L2, h3, h4⟩ := ih2 h2
    exact ⟨L2, h1.trans h3, h4⟩
theorem entL_ok {σ : Ren} : ∀ {l es : List MapEntry}, entL l es = true → ∀ {L : List MapEntry}, MRs σ es L → ∃ L', L.Perm L' ∧ MRs σ l L'
  | [], es, h, L, hL => by
    cases es with
    | nil => cases hL; exact ⟨[], .nil, .nil⟩
    | cons => cases h
  | b :: l, es, h, L, hL => by
    have h : oc (takeE b es) false (fun es' => entL l es') = true := h
    cases ht : takeE b es with
    | none => rw [ht] at h; cases h
    | some es' =>
      rw [ht, oc_some] at h
      obtain ⟨a, h1, h2, h3⟩ := takeE_ok ht
      obtain ⟨L1, h4, h5⟩ := hL.perm h3
      cases h5 with
      | @cons _ e' _ l' hk hv hl =>
        obtain ⟨L2, h6, h7⟩ := entL_ok h hl
        exact ⟨e' :: L2, h4.trans (h6.cons _), .cons (hk.trans h1) (h2 ▸ hv) h7⟩
theorem entL_mp {σ : Ren} {l es ES : List MapEntry} {clock : Nat} (h : entL l es = true) (hm : MPs σ es ES clock) : MPs σ l ES clock := by
  obtain ⟨⟨L, h1, h2⟩, h3⟩ := hm
  obtain ⟨L', h4, h5⟩ := entL_ok h h2
  exact ⟨⟨L', h4.symm.trans h1, h5⟩, h3⟩
noncomputable def LB.sub (b : LB) (x : ABlk) : Bool :=
  match b with
  | .cells e l => (match x with
    | .cells c e' => Nat.beq e' e && subL c l 0
    | _ => false)
  | .map l n => (match x with
    | .map es n' => Nat.beq n' n && entL l es
    | _ => false)
  | .iter b n => (match x with
    | .iter b' n' => Nat.beq b' b && Nat.beq n' n
    | _ => false)
  | .pair e l => (match x with
    | .pair c e' => Nat.beq e' e && subL c l 0
    | _ => false)
theorem LB.sub_br {b : LB} {x : ABlk} (h : b.sub x = true) {σ : Ren} {d m : Nat} {o : Option Obj} (hx : BR σ d m o x) : BR σ d m o b.lay := by
  cases b with
  | cells e l =>
    cases x with
    | cells c e' =>
      simp only [LB.sub, Bool.and_eq_true] at h
      obtain rfl := Nat.eq_of_beq_eq_true h.1
      obtain ⟨C, h1, h2, h3⟩ := hx
      refine ⟨C, h1, h2, fun i v hv => h3 i v ?_⟩
      rw [layT_get] at hv
      have := subL_get h.2 i v hv
      rwa [Nat.zero_add] at this
    | loop _ => cases h
    | marks _ => cases h
    | iter _ _ => cases h
    | iterAt _ _ _ => cases h
    | box _ _ => cases h
    | pair _ _ => cases h
    | zeros _ _ => cases h
    | map _ _ => cases h
  | map l n =>
    cases x with
    | map es n' =>
      simp only [LB.sub, Bool.and_eq_true] at h
      obtain rfl := Nat.eq_of_beq_eq_true h.1
      obtain ⟨ES, h1, h2, h3⟩ := hx
      exact ⟨ES, h1, entL_mp h.2 h2, h3⟩
    | cells _ _ => cases h
    | loop _ => cases h
    | marks _ => cases h
    | iter _ _ => cases h
    | iterAt _ _ _ => cases h
    | box _ _ => cases h
    | pair _ _ => cases h
    | zeros _ _ => cases h
  | iter b n =>
    cases x with
    | iter b' n' =>
      simp only [LB.sub, Bool.and_eq_true] at h
      obtain rfl := Nat.eq_of_beq_eq_true h.1
      obtain rfl := Nat.eq_of_beq_eq_true h.2
      exact hx
    | cells _ _ => cases h
    | loop _ => cases h
    | marks _ => cases h
    | map _ _ => cases h
    | iterAt _ _ _ => cases h
    | box _ _ => cases h
    | pair _ _ => cases h
    | zeros _ _ => cases h
  | pair e l =>
    cases x with
    | pair c e' =>
      simp only [LB.sub, Bool.and_eq_true] at h
      obtain rfl := Nat.eq_of_beq_eq_true h.1
      obtain ⟨C, h1, h2, h3, h4⟩ := hx
      refine ⟨C, h1, h2, fun i v hv => h3 i v ?_, h4⟩
      rw [layT_get] at hv
      have := subL_get h.2 i v hv
      rwa [Nat.zero_add] at this
    | cells _ _ => cases h
    | loop _ => cases h
    | marks _ => cases h
    | iter _ _ => cases h
    | iterAt _ _ _ => cases h
    | box _ _ => cases h
    | map _ _ => cases h
    | zeros _ _ => cases h
noncomputable def layO (t : Tr ABlk) : List LBlk → Tr ABlk
  | [] => t
  | b :: l => (layO t l).set b.num b.blk.lay
theorem layO_get {t : Tr ABlk} : ∀ {l : List LBlk} {n : Nat} {x : ABlk}, (layO t l).get n = some x → (∃ b ∈ l, b.num = n ∧ x = b.blk.lay) ∨ t.get n = some x
  | [], n, x, h => .inr h
  | b :: l, n, x, h => by
    rw [layO, Tr.get_set] at h
    by_cases hn : n = b.num
    · rw [if_pos hn] at h
      exact .inl ⟨b, List.mem_cons_self .., hn.symm, (Option.some.inj h).symm⟩
    · rw [if_neg hn] at h
      rcases layO_get h with ⟨c, hc, h1⟩ | h1
      · exact .inl ⟨c, List.mem_cons_of_mem _ hc, h1⟩
      · exact .inr h1
noncomputable def insOk (t : Tr ABlk) : List LBlk → Bool
  | [] => true
  | b :: l => oc (t.get b.num) false (fun x => b.blk.sub x) && insOk t l
theorem insOk_get {t : Tr ABlk} : ∀ {l : List LBlk}, insOk t l = true → ∀ b ∈ l, ∃ x, t.get b.num = some x ∧ b.blk.sub x = true
  | [], _, b, hb => by cases hb
  | a :: l, h, b, hb => by
    simp only [insOk, Bool.and_eq_true] at h
    rcases List.mem_cons.1 hb with rfl | hb
    · cases hc : t.get b.num with
      | none => rw [hc] at h; exact absurd h.1 Bool.false_ne_true
      | some x => rw [hc] at h; exact ⟨x, rfl, h.1⟩
    · exact insOk_get h.2 b hb
def allGe (n : Nat) : List LBlk → Bool
  | [] => true
  | b :: l => Nat.ble n b.num && allGe n l
theorem allGe_get {n : Nat} : ∀ {l : List LBlk}, allGe n l = true → ∀ b ∈ l, n ≤ b.num
  | [], _, b, hb => by cases hb
  | a :: l, h, b, hb => by
    simp only [allGe, Bool.and_eq_true] at h
    rcases List.mem_cons.1 hb with rfl | hb
    · exact Nat.le_of_ble_eq_true h.1
    · exact allGe_get h.2 b hb

theorem ins_hr {n0 : Bs} {σ : Ren} {H : AH} {w : World} (hr : HR n0 σ H w) {ins : List LBlk} (h : insOk H.blocks ins = true) : HR n0 σ ⟨layO .nil ins, H.next, H.next⟩ w := by
  have old : ∀ {b x}, (layO .nil ins).get b = some x → ∃ y, H.blocks.get b = some y ∧ ∀ {d m o}, BR σ d m o y → BR σ d m o x := by
    intro b x hx
    rcases layO_get hx with ⟨c, hc, rfl, rfl⟩ | h0
    · obtain ⟨y, h1, h2⟩ := insOk_get h c hc
      exact ⟨y, h1, fun q => LB.sub_br h2 q⟩
    · rw [Tr.get_nil] at h0; cases h0
  refine ⟨hr.base, ?_, ?_, hr.dom, hr.img, hr.hol⟩
  · intro b x hx
    obtain ⟨y, h1, h2⟩ := old hx
    obtain ⟨c, d, m, q1, q2, q3⟩ := hr.blk b y h1
    exact ⟨c, d, m, q1, q2, h2 q3⟩
  · intro b₁ b₂ x₁ x₂ c d₁ m₁ d₂ m₂ h1 h2 s1 s2
    obtain ⟨y₁, h1, _⟩ := old h1
    obtain ⟨y₂, h2, _⟩ := old h2
    exact hr.inj b₁ b₂ y₁ y₂ c d₁ m₁ d₂ m₂ h1 h2 s1 s2

theorem out_hr {n0 : Bs} {σ σ₁ : Ren} {H H1 : AH} {w w' : World} (hr : HR n0 σ H w) (hr1 : HR n0 σ₁ H1 w') (st : Step n0 σ w H1.low σ₁ w') (hlow : H.next ≤ H1.low) {nx lo : Nat} (hnx : H1.next ≤ nx) {outs : List LBlk} (h : insOk H1.blocks outs = true) (hge : allGe H.next outs = true) :
    HR n0 σ₁ ⟨layO H.blocks outs, nx, lo⟩ w' := by
  have calm := st.calm hr hlow
  have cases2 : ∀ {b x}, (layO H.blocks outs).get b = some x → (H.next ≤ b ∧ ∃ y, H1.blocks.get b = some y ∧ ∀ {d m o}, BR σ₁ d m o y → BR σ₁ d m o x) ∨ (H.blocks.get b = some x) := by
    intro b x hx
    rcases layO_get hx with ⟨c, hc, rfl, rfl⟩ | h0
    · obtain ⟨y, h1, h2⟩ := insOk_get h c hc
      exact .inl ⟨allGe_get hge c hc, y, h1, fun q => LB.sub_br h2 q⟩
    · exact .inr h0
  refine ⟨hr1.base, ?_, ?_, fun b t ht => Nat.lt_of_lt_of_le (hr1.dom b t ht) hnx, hr1.img, fun b hb => ⟨Nat.lt_of_lt_of_le (hr1.hol b hb).1 hnx, (hr1.hol b hb).2⟩⟩
  · intro b x hx
    rcases cases2 hx with ⟨_, y, h1, h2⟩ | h1
    · obtain ⟨c, d, m, q1, q2, q3⟩ := hr1.blk b y h1
      exact ⟨c, d, m, q1, q2, h2 q3⟩
    · obtain ⟨c, d, m, q1, q2, q3⟩ := hr.blk b x h1
      exact ⟨c, d, m, st.ext _ _ q1, q2, by rw [(calm c (hr.img _ _ _ _ q1)).1]; exact q3.mono st.ext⟩
  · have on : ∀ {b₁ b₂ x c d₁ m₁ d₂ m₂}, H.blocks.get b₁ = some x → H.next ≤ b₂ → σ₁ b₁ = some (c, d₁, m₁) → σ₁ b₂ = some (c, d₂, m₂) → False := by
      intro b₁ b₂ x c d₁ m₁ d₂ m₂ h1 h2 s1 s2
      obtain ⟨c', d, m, q1, _, _⟩ := hr.blk b₁ x h1
      have e := st.ext _ _ q1
      rw [s1] at e
      injection e with e
      injection e with e _
      subst e
      have := (calm c (hr.img _ _ _ _ q1)).2 _ _ _ s2
      exact absurd (hr.dom _ _ this) (Nat.not_lt.2 h2)
    intro b₁ b₂ x₁ x₂ c d₁ m₁ d₂ m₂ h1 h2 s1 s2
    rcases cases2 h1 with ⟨g1, y₁, h1, _⟩ | h1
    · rcases cases2 h2 with ⟨g2, y₂, h2, _⟩ | h2
      · exact hr1.inj b₁ b₂ y₁ y₂ c d₁ m₁ d₂ m₂ h1 h2 s1 s2
      · exact (on h2 g1 s2 s1).elim
    · rcases cases2 h2 with ⟨g2, y₂, h2, _⟩ | h2
      · exact (on h1 g2 s1 s2).elim
      · obtain ⟨c₁, d, m, q1, _, _⟩ := hr.blk b₁ x₁ h1
        obtain ⟨c₂, d', m', q2, _, _⟩ := hr.blk b₂ x₂ h2
        have e1 := st.ext _ _ q1
        have e2 := st.ext _ _ q2
        rw [s1] at e1
        rw [s2] at e2
        injection e1 with e1
        injection e1 with e1 _
        injection e2 with e2
        injection e2 with e2 _
        exact hr.inj b₁ b₂ x₁ x₂ c d m d' m' h1 h2 (e1 ▸ q1) (e2 ▸ q2)

/-- a call that was run: with these arguments, the next block's number that, these blocks to look at; what it gave, and the blocks that it made -/
structure Entry where
  f : FuncId
  args : List Value
  ins : List LBlk
  num : Nat
  val : Value
  outs : List LBlk
  next : Nat
noncomputable def outH (H : AH) (e : Entry) : AH := ⟨layO H.blocks e.outs, e.next, Nat.min H.low e.num⟩
def EntryOK (P : Program) (e : Entry) : Prop :=
  ∀ (n : Base) (X : Nat → Prop) H σ w args', insOk H.blocks e.ins = true → H.next = e.num → VRs σ e.args args'.toList → HR ⟨n, X⟩ σ H w → CallGo P ⟨n, X⟩ σ w e.val (outH H e) args' (.func e.f)
def AllOK (P : Program) : List Entry → Prop
  | [] => True
  | e :: l => EntryOK P e ∧ AllOK P l
noncomputable def layE (l : List Entry) : Tr Entry := @List.rec Entry (fun _ => Tr Entry) .nil (fun e _ ih => ih.set e.num e) l
theorem layE_cons (e : Entry) (l : List Entry) : layE (e :: l) = (layE l).set e.num e := rfl
theorem layE_ok {P : Program} : ∀ {l : List Entry}, AllOK P l → ∀ k e, (layE l).get k = some e → EntryOK P e
  | [], _, k, e, h => by cases h
  | a :: l, hl, k, e, h => by
    rw [layE_cons, Tr.get_set] at h
    by_cases hk : k = a.num
    · rw [if_pos hk] at h
      obtain rfl := Option.some.inj h
      exact hl.1
    · rw [if_neg hk] at h
      exact layE_ok hl.2 k e h
noncomputable def hitE (e : Entry) (fn : Fn) (args : List Value) (H : AH) : Bool := oc (fnNum fn) false (fun g => Nat.beq g e.f) && (Nat.beq H.next e.num && (veqL veq args e.args && insOk H.blocks e.ins))
noncomputable def lookO (O : Tr Entry) (fn : Fn) (args : List Value) (H : AH) : Option Entry := oc (O.get H.next) none fun e => sel (hitE e fn args H) (some e) none
noncomputable def goO (rd : RegT) (P : Program) (K : List SK) (O : Tr Entry) (ih : CallT) (fn : Fn) (args : List Value) (H : AH) : VRes :=
  oc (lookO O fn args H) (oc (skAll K fn args H) (callGo rd P ih fn args H) fun r => some r) fun e => some (e.val, outH H e)
noncomputable def callO (rd : RegT) (P : Program) (K : List SK) (O : Tr Entry) (n : Nat) : CallT := @Nat.rec (fun _ => CallT) (fun _ _ _ => none) (fun _ ih => goO rd P K O ih) n
theorem callO_succ (rd : RegT) (P : Program) (K : List SK) (O : Tr Entry) (n : Nat) : callO rd P K O (n + 1) = goO rd P K O (callO rd P K O n) := rfl
theorem callO_ok {P : Program} {n0 : Nat} {rd : RegT} (hrd : RdOK P n0 rd) (hlow : RdLow rd) {K : List SK} (hK : SKsOK P K) {O : Tr Entry} (hO : ∀ k e, O.get k = some e → EntryOK P e) : ∀ k, CallOK P n0 (callO rd P K O k) := by
  intro k
  induction k with
  | zero => intro Q X fn args H v H' h; cases h
  | succ k ih =>
    intro Q X fn args H v H' h σ w fn' args' hfn hargs hr
    rw [callO_succ] at h
    unfold goO at h
    cases hl : lookO O fn args H with
    | none =>
      rw [hl] at h
      have h : oc (skAll K fn args H) (callGo rd P (callO rd P K O k) fn args H) (fun r => some r) = some (v, H') := h
      cases hk : skAll K fn args H with
      | none =>
        rw [hk] at h
        exact callGo_ok hrd hlow ih Q X fn args H v H' h σ w fn' args' hfn hargs hr
      | some r =>
        rw [hk] at h
        obtain rfl := Option.some.inj h
        exact skAll_ok hK n0 Q X fn args H v H' hk σ w fn' args' hfn hargs hr
    | some e =>
      rw [hl] at h
      obtain ⟨rfl, rfl⟩ := Prod.mk.inj (Option.some.inj h)
      obtain ⟨e', he, hl⟩ := oc_eq_some hl
      obtain ⟨hh, hl⟩ := sel_none hl
      obtain rfl := Option.some.inj hl
      simp only [hitE, Bool.and_eq_true] at hh
      obtain ⟨h1, h2, h3, h4⟩ := hh
      cases hf : fnNum fn with
      | none => rw [hf] at h1; exact absurd h1 Bool.false_ne_true
      | some g =>
        rw [hf] at h1
        obtain rfl := Nat.eq_of_beq_eq_true h1
        obtain rfl := fnNum_eq hf
        cases hfn
        obtain rfl := veqL_eq (fun a b h => veq_eq h) h3
        exact hO _ _ he ⟨n0, Q⟩ X H σ w args' h4 (Nat.eq_of_beq_eq_true h2) hargs hr

noncomputable def callQ (P : Program) (K : List SK) (l : List Entry) : CallT := callO (regDraw P) P K (layE l) 100000
noncomputable def chkR (e : Entry) (r : VRes) : Bool :=
  oc r false fun x => veq x.1 e.val && (Nat.ble e.num x.2.low && (Nat.ble x.2.next e.next && (insOk x.2.blocks e.outs && allGe e.num e.outs)))
noncomputable def chkE (P : Program) (K : List SK) (l : List Entry) (e : Entry) : Bool := chkR e (callQ P K l (.func e.f) e.args ⟨layO .nil e.ins, e.num, e.num⟩)
theorem part {P : Program} (hm : P.follows .mixedOrders = true) {K : List SK} (hK : SKsOK P K) {l : List Entry} (hl : AllOK P l) {e : Entry} (h : chkE P K l e = true) : EntryOK P e := by
  intro n X H σ w args' hins hnum hargs hr
  unfold chkE chkR at h
  cases hc : callQ P K l (.func e.f) e.args ⟨layO .nil e.ins, e.num, e.num⟩ with
  | none => rw [hc] at h; cases h
  | some x =>
    rw [hc] at h
    obtain ⟨v, H1⟩ := x
    have h : (veq v e.val && (Nat.ble e.num H1.low && (Nat.ble H1.next e.next && (insOk H1.blocks e.outs && allGe e.num e.outs)))) = true := h
    simp only [Bool.and_eq_true] at h
    obtain ⟨h1, h2, h3, h4, h5⟩ := h
    have h1 := veq_eq h1
    have h2 := Nat.le_of_ble_eq_true h2
    have h3 := Nat.le_of_ble_eq_true h3
    rw [← hnum] at hc h2 h5
    obtain ⟨g1, g2⟩ := callO_ok (regDraw_ok hm n.n) (regDraw_low P) hK (layE_ok hl) 100000 n.Q X _ _ _ _ _ hc σ w _ args' (.func e.f) hargs (ins_hr hr hins)
    refine ⟨g1, fun k => CallsIn.mono (g2 k) ?_⟩
    rintro en w' ⟨v', σ', rfl, q1, q2, q3⟩
    refine ⟨v', σ', rfl, h1 ▸ q1, out_hr hr q2 q3 h2 h3 h4 h5, q3.lower ?_⟩
    show Nat.min H.low e.num ≤ H1.low
    exact Nat.le_trans (Nat.min_le_right _ _) (hnum ▸ h2)

theorem run_argsQ {P : Program} (hm : P.follows .mixedOrders = true) {K : List SK} (hK : SKsOK P K) {l : List Entry} (hl : AllOK P l) {f : FuncId} {args : List Value} (hargs : VRs (fun _ => none) args args) (h : isTrue (callQ P K l (.func f) args h0) = true) (w : World) (ht : TabsOK w.heap.size w) :
    Calls P f ⟨args⟩ w fun e w' => e = .returned (.bool true) ∧ Below w.heap.size w w' := by
  unfold isTrue at h
  split at h
  · rename_i H' hc
    obtain ⟨_, hgo⟩ := callO_ok (regDraw_ok hm w.heap.size) (regDraw_low P) hK (layE_ok hl) 100000 (fun _ => False) (fun _ => False) _ _ _ _ _ hc (fun _ => none) w _ ⟨args⟩ (.func f) hargs (hr_start w ht)
    refine (callsIn_wide (n := 0)).1 (CallsIn.mono (hgo 0) ?_)
    rintro e w' ⟨v', σ', rfl, h1, _, h3⟩
    cases h1
    exact ⟨rfl, h3.below⟩
  · cases h
theorem run_trueQ {P : Program} (hm : P.follows .mixedOrders = true) {K : List SK} (hK : SKsOK P K) {l : List Entry} (hl : AllOK P l) {f : FuncId} (h : isTrue (callQ P K l (.func f) [] h0) = true) (w : World) (ht : TabsOK w.heap.size w) :
    Calls P f #[] w fun e w' => e = .returned (.bool true) ∧ Below w.heap.size w w' := run_argsQ hm hK hl .nil h w ht

end Go.Proofs.Ythomkiindjhdmaa.Ax
