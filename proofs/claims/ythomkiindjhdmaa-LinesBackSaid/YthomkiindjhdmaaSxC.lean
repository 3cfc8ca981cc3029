/-
  A call, told once over a small memory, serves in any memory that holds its like. Own work, plain lemmas.
-/
import Derived.Test.YthomkiindjhdmaaSxB
set_option linter.unusedSimpArgs false
set_option linter.unusedVariables false
set_option linter.unnecessarySimpa false
set_option linter.deprecated false
set_option linter.unusedSectionVars false
namespace Go.Proofs.Ythomkiindjhdmaa.Ax
open Go.RowKit
variable [Tabs]

/-- function fn with these arguments over memory H gives v and leaves H' -/
def Gv (P : Program) (fn : Fn) (args : List Value) (H : AH) (v : Value) (H' : AH) : Prop :=
  ∀ (n0 : Bs) (σ : Ren) (w : World) (fn' : Fn) (args' : Array Value), FnR σ fn fn' → VRs σ args args'.toList → HR n0 σ H w → CallGo P n0 σ w v H' args' fn'
def CallU (P : Program) (call : CallT) : Prop := ∀ n, CallOK P n call

open Classical in
noncomputable def oneC (fn0 : Fn) (args0 : List Value) (H0 : AH) (r : Value × AH) : CallT := fun fn args H => if fn = fn0 ∧ args = args0 ∧ H = H0 then some r else none
theorem oneC_hit (fn : Fn) (args : List Value) (H : AH) (r : Value × AH) : oneC fn args H r fn args H = some r := by simp [oneC]
theorem oneC_ok {P : Program} {fn0 : Fn} {args0 : List Value} {H0 H0' : AH} {v0 : Value} (h : Gv P fn0 args0 H0 v0 H0') : CallU P (oneC fn0 args0 H0 (v0, H0')) := by
  intro n Q X fn args H v H' hc σ w fn' args' hfn hargs hr
  unfold oneC at hc
  split at hc
  · rename_i he
    obtain ⟨rfl, rfl, rfl⟩ := he
    obtain ⟨rfl, rfl⟩ := Prod.mk.inj (Option.some.inj hc)
    exact h ⟨⟨n, Q⟩, X⟩ σ w fn' args' hfn hargs hr
  · cases hc
theorem noneC_ok (P : Program) : CallU P (fun _ _ _ => none) := fun n Q X fn args H v H' h => by cases h

/-! blocks told anew -/
abbrev BL := List (Nat × Nat × Bool)
noncomputable def addK (κ : Nat → Option Nat) (B base : Tr ABlk) (l : BL) : Option (Tr ABlk) :=
  @List.rec (Nat × Nat × Bool) (fun _ => Option (Tr ABlk)) (some base) (fun x _ ih => oc (B.get x.2.1) none fun b => oc (renB κ x.2.2 b) none fun y => oc ih none fun t => some (t.set x.1 y)) l
theorem addK_cons (κ : Nat → Option Nat) (B base : Tr ABlk) (x : Nat × Nat × Bool) (l : BL) : addK κ B base (x :: l) = oc (B.get x.2.1) none fun b => oc (renB κ x.2.2 b) none fun y => oc (addK κ B base l) none fun t => some (t.set x.1 y) := rfl
theorem addK_get {κ : Nat → Option Nat} {B base : Tr ABlk} : ∀ {l : BL} {B' : Tr ABlk}, addK κ B base l = some B' → ∀ b y, B'.get b = some y → (∃ x ∈ l, x.1 = b ∧ ∃ z, B.get x.2.1 = some z ∧ renB κ x.2.2 z = some y) ∨ base.get b = some y
  | [], B', h, b, y, hb => by obtain rfl := Option.some.inj h; exact .inr hb
  | x :: l, B', h, b, y, hb => by
    rw [addK_cons] at h
    obtain ⟨z, hz, h⟩ := oc_eq_some h
    obtain ⟨u, hu, h⟩ := oc_eq_some h
    obtain ⟨t, ht, h⟩ := oc_eq_some h
    obtain rfl := Option.some.inj h
    rw [Tr.get_set] at hb
    by_cases hbx : b = x.1
    · rw [if_pos hbx] at hb
      obtain rfl := Option.some.inj hb
      exact .inl ⟨x, List.mem_cons_self .., hbx.symm, z, hz, hu⟩
    · rw [if_neg hbx] at hb
      rcases addK_get ht b y hb with ⟨x', h1, h2⟩ | h1
      · exact .inl ⟨x', List.mem_cons_of_mem _ h1, h2⟩
      · exact .inr h1
theorem addK_all {κ : Nat → Option Nat} {B base : Tr ABlk} : ∀ {l : BL} {B' : Tr ABlk}, addK κ B base l = some B' → ∀ x ∈ l, ∃ z, B.get x.2.1 = some z
  | [], B', h, x, hx => by cases hx
  | y :: l, B', h, x, hx => by
    rw [addK_cons] at h
    obtain ⟨z, hz, h⟩ := oc_eq_some h
    obtain ⟨u, hu, h⟩ := oc_eq_some h
    obtain ⟨t, ht, h⟩ := oc_eq_some h
    rcases List.mem_cons.1 hx with rfl | hx
    · exact ⟨z, hz⟩
    · exact addK_all ht x hx
noncomputable def dropK (lo : Nat) (B : Tr ABlk) (l : BL) : Tr ABlk :=
  @List.rec (Nat × Nat × Bool) (fun _ => Tr ABlk) B (fun x _ ih => sel (Nat.ble lo x.1) (ih.put x.2.1 none) ih) l
theorem dropK_cons (lo : Nat) (B : Tr ABlk) (x : Nat × Nat × Bool) (l : BL) : dropK lo B (x :: l) = sel (Nat.ble lo x.1) ((dropK lo B l).put x.2.1 none) (dropK lo B l) := rfl
theorem dropK_get {lo : Nat} {B : Tr ABlk} : ∀ {l : BL} {b : Nat} {y : ABlk}, (dropK lo B l).get b = some y → B.get b = some y ∧ ∀ x ∈ l, lo ≤ x.1 → x.2.1 ≠ b
  | [], b, y, h => ⟨h, fun x hx => by cases hx⟩
  | x :: l, b, y, h => by
    rw [dropK_cons] at h
    cases hx : Nat.ble lo x.1 with
    | false =>
      rw [hx, sel_false] at h
      obtain ⟨h1, h2⟩ := dropK_get h
      refine ⟨h1, fun x' hx' hl => ?_⟩
      rcases List.mem_cons.1 hx' with rfl | hx'
      · rw [Nat.ble_eq_true_of_le hl] at hx; cases hx
      · exact h2 x' hx' hl
    | true =>
      rw [hx, sel_true, Tr.get_put] at h
      by_cases hb : b = x.2.1
      · rw [if_pos hb] at h; cases h
      · rw [if_neg hb] at h
        obtain ⟨h1, h2⟩ := dropK_get h
        refine ⟨h1, fun x' hx' hl => ?_⟩
        rcases List.mem_cons.1 hx' with rfl | hx'
        · exact fun e => hb e.symm
        · exact h2 x' hx' hl
noncomputable def lowK (lo low : Nat) (l : BL) : Nat :=
  @List.rec (Nat × Nat × Bool) (fun _ => Nat) low (fun x _ ih => sel (Nat.ble lo x.1) (Nat.min ih x.2.1) ih) l
theorem lowK_cons (lo low : Nat) (x : Nat × Nat × Bool) (l : BL) : lowK lo low (x :: l) = sel (Nat.ble lo x.1) (Nat.min (lowK lo low l) x.2.1) (lowK lo low l) := rfl
theorem lowK_le {lo low : Nat} : ∀ {l : BL}, lowK lo low l ≤ low ∧ ∀ x ∈ l, lo ≤ x.1 → lowK lo low l ≤ x.2.1
  | [] => ⟨Nat.le_refl _, fun x hx => by cases hx⟩
  | x :: l => by
    obtain ⟨h1, h2⟩ := lowK_le (lo := lo) (low := low) (l := l)
    rw [lowK_cons]
    cases hx : Nat.ble lo x.1 with
    | false =>
      rw [sel_false]
      refine ⟨h1, fun x' hx' hl => ?_⟩
      rcases List.mem_cons.1 hx' with rfl | hx'
      · rw [Nat.ble_eq_true_of_le hl] at hx; cases hx
      · exact h2 x' hx' hl
    | true =>
      rw [sel_true]
      refine ⟨Nat.le_trans (Nat.min_le_left _ _) h1, fun x' hx' hl => ?_⟩
      rcases List.mem_cons.1 hx' with rfl | hx'
      · exact Nat.min_le_right _ _
      · exact Nat.le_trans (Nat.min_le_left _ _) (h2 x' hx' hl)
def findOld (l : BL) (i : Nat) : Option Nat :=
  match l with
  | [] => none
  | x :: l => match Nat.beq x.1 i with
    | true => some x.2.1
    | false => findOld l i
noncomputable def rhoK (l : BL) (k nx i : Nat) : Option Nat := sel (Nat.blt i k) (findOld l i) (some (Nat.add nx (Nat.sub i k)))
def canOk (k : Nat) : BL → Bool
  | [] => true
  | x :: l => Nat.blt x.1 k && (freshB x.1 l && freshO x.2.1 l) && canOk k l
theorem canOk_lt {k : Nat} : ∀ {l : BL}, canOk k l = true → ∀ x ∈ l, x.1 < k
  | [], _, x, hx => by cases hx
  | y :: l, h, x, hx => by
    simp only [canOk, Bool.and_eq_true] at h
    rcases List.mem_cons.1 hx with rfl | hx
    · exact blt_lt h.1.1
    · exact canOk_lt h.2 x hx
theorem canOk_inj {k : Nat} : ∀ {l : BL}, canOk k l = true → ∀ x ∈ l, ∀ y ∈ l, (x.1 = y.1 ∨ x.2.1 = y.2.1) → x = y
  | [], _, x, hx => by cases hx
  | z :: l, h, x, hx => by
    intro y hy he
    simp only [canOk, Bool.and_eq_true] at h
    obtain ⟨⟨_, h1, h2⟩, h3⟩ := h
    rcases List.mem_cons.1 hx with e1 | hx1 <;> rcases List.mem_cons.1 hy with e2 | hy1
    · rw [e1, e2]
    · subst e1
      rcases he with he | he
      · exact absurd he.symm (freshB_not h1 y hy1)
      · exact absurd he.symm (freshO_not h2 y hy1)
    · subst e2
      rcases he with he | he
      · exact absurd he (freshB_not h1 x hx1)
      · exact absurd he (freshO_not h2 x hx1)
    · exact canOk_inj h3 x hx1 y hy1 he
theorem findOld_mem {l : BL} {i b : Nat} (h : findOld l i = some b) : ∃ fl, (i, b, fl) ∈ l := by
  induction l with
  | nil => cases h
  | cons x l ih =>
    unfold findOld at h
    split at h
    · rename_i he
      obtain rfl := Option.some.inj h
      obtain rfl := Nat.eq_of_beq_eq_true he
      exact ⟨x.2.2, List.mem_cons_self ..⟩
    · obtain ⟨fl, hf⟩ := ih h
      exact ⟨fl, List.mem_cons_of_mem _ hf⟩
theorem mem_findOld {l : BL} {x : Nat × Nat × Bool} (hx : x ∈ l) : ∃ b, findOld l x.1 = some b := by
  induction l with
  | nil => cases hx
  | cons y l ih =>
    unfold findOld
    split
    · exact ⟨_, rfl⟩
    · rename_i he
      rcases List.mem_cons.1 hx with rfl | hx
      · rw [Nat.beq_refl] at he; cases he
      · exact ih hx
theorem canOk_find {k : Nat} {l : BL} (h : canOk k l = true) {x : Nat × Nat × Bool} (hx : x ∈ l) : findOld l x.1 = some x.2.1 := by
  obtain ⟨b, hb⟩ := mem_findOld hx
  obtain ⟨fl, hf⟩ := findOld_mem hb
  have := canOk_inj h _ hf _ hx (.inl rfl)
  rw [hb, ← this]

/-- what is told of a call: which of my blocks are its own (its number, mine), what it gives over these alone, which of its blocks I keep (my number, its) -/
structure CallA where
  k : Nat
  ins : BL
  v : Value
  H1 : AH
  outs : BL
noncomputable def outsOk (l : BL) (k nx : Nat) : BL → Bool
  | [] => true
  | x :: m => oc (rhoK l k nx x.2.1) false (fun b => Nat.beq b x.1) && outsOk l k nx m
theorem outsOk_mem {l : BL} {k nx : Nat} : ∀ {m : BL}, outsOk l k nx m = true → ∀ x ∈ m, rhoK l k nx x.2.1 = some x.1
  | [], _, x, hx => by cases hx
  | y :: m, h, x, hx => by
    simp only [outsOk, Bool.and_eq_true] at h
    rcases List.mem_cons.1 hx with rfl | hx
    · cases hr : rhoK l k nx x.2.1 with
      | none => rw [hr] at h; exact absurd h.1 Bool.false_ne_true
      | some b => rw [hr] at h; rw [Nat.eq_of_beq_eq_true h.1]
    · exact outsOk_mem h.2 x hx
noncomputable def frameR (c : CallA) (args : List Value) (H : AH) : Option ((List Value × Tr ABlk) × (Value × AH)) :=
  sel (canOk c.k c.ins && (Nat.ble c.k c.H1.next && outsOk c.ins c.k H.next c.outs)) (oc (mapO (renV (findNew c.ins) 9) args) none fun a0 => oc (addK (findNew c.ins) H.blocks .nil c.ins) none fun B0 =>
    oc (renV (rhoK c.ins c.k H.next) 9 c.v) none fun v => oc (addK (rhoK c.ins c.k H.next) c.H1.blocks (dropK c.H1.low H.blocks c.ins) c.outs) none fun B1 =>
      some ((a0, B0), (v, ⟨B1, Nat.add H.next (Nat.sub c.H1.next c.k), lowK c.H1.low H.low c.ins⟩))) none

theorem frame_ok {P : Program} {f : FuncId} {c : CallA} {args a0 : List Value} {H H' : AH} {B0 : Tr ABlk} {v : Value} (h : frameR c args H = some ((a0, B0), (v, H'))) (hG : Gv P (.func f) a0 ⟨B0, c.k, c.k⟩ c.v c.H1) (hf1 : AllP (flatPs H.blocks c.ins)) (hf2 : AllP (flatPs c.H1.blocks c.outs)) :
    Gv P (.func f) args H v H' := by
  obtain ⟨k, ins, v0, H1, outs⟩ := c
  obtain ⟨hb, h⟩ := sel_none h
  obtain ⟨a0', ha, h⟩ := oc_eq_some h
  obtain ⟨B0', hB0, h⟩ := oc_eq_some h
  obtain ⟨v', hv, h⟩ := oc_eq_some h
  obtain ⟨B1, hB1, h⟩ := oc_eq_some h
  have h := Option.some.inj h
  obtain ⟨h1, h2⟩ := Prod.mk.inj h
  obtain ⟨rfl, rfl⟩ := Prod.mk.inj h1
  obtain ⟨rfl, rfl⟩ := Prod.mk.inj h2
  simp only [Bool.and_eq_true] at hb
  obtain ⟨hcan, hkn, houts⟩ := hb
  have hkn := ble_le hkn
  simp only at ha hB0 hv hB1 hcan hkn houts hG hf1 hf2
  have hadd : ∀ a b, Nat.add a b = a + b := fun _ _ => rfl
  have hsub : ∀ a b, Nat.sub a b = a - b := fun _ _ => rfl
  intro n0 σ w fn' args' hfn hargs hr
  cases hfn
  let σ0 : Ren := fun i => if i < k then (findOld ins i).bind σ else none
  have hmem : ∀ x ∈ ins, σ0 x.1 = σ x.2.1 := fun x hx => by
    show (if x.1 < k then (findOld ins x.1).bind σ else none) = σ x.2.1
    rw [if_pos (canOk_lt hcan x hx), canOk_find hcan hx]; rfl
  have hback : ∀ i t, σ0 i = some t → ∃ x ∈ ins, x.1 = i ∧ σ x.2.1 = some t := fun i t ht => by
    have ht : (if i < k then (findOld ins i).bind σ else none) = some t := ht
    by_cases hi : i < k
    · rw [if_pos hi] at ht
      cases hf : findOld ins i with
      | none => rw [hf] at ht; cases ht
      | some b =>
        rw [hf] at ht
        obtain ⟨fl, hm⟩ := findOld_mem hf
        exact ⟨_, hm, rfl, ht⟩
    · rw [if_neg hi] at ht; cases ht
  have h0dom : ∀ i t, σ0 i = some t → i < k := fun i t ht => by
    obtain ⟨x, hx, rfl, _⟩ := hback i t ht
    exact canOk_lt hcan x hx
  have hκ : RenOK (findNew ins) σ σ0 := fun b b' hbb t ht => by
    obtain ⟨fl, hm⟩ := findNew_mem hbb
    rw [hmem _ hm]; exact ht
  have hpres : ∀ x ∈ ins, ∃ z, H.blocks.get x.2.1 = some z := fun x hx => addK_all hB0 x hx
  let Q' : Nat → Prop := fun c => n0.n.Q c ∨ ∃ b y d m, H.blocks.get b = some y ∧ (∀ x ∈ ins, x.2.1 ≠ b) ∧ σ b = some (c, d, m)
  have hr0 : HR ⟨⟨n0.n.n, Q'⟩, fun _ => False⟩ σ0 ⟨B0', k, k⟩ w := by
    refine ⟨⟨hr.base.1, fun c hc => ?_, hr.base.2.2⟩, ?_, ?_, fun i t ht => h0dom i t ht, ?_, fun b hb => hb.elim⟩
    · rcases hc with hc | ⟨b, y, d, m, _, _, hs⟩
      · exact hr.base.2.1 c hc
      · exact hr.img _ _ _ _ hs
    · intro i y hy
      rcases addK_get hB0 i y hy with ⟨x, hx, rfl, z, hz, hzy⟩ | hn
      · obtain ⟨c, d, m, h1, h2, h3⟩ := hr.blk _ _ hz
        refine ⟨c, d, m, by rw [hmem x hx]; exact h1, ⟨h2.1, fun hq => ?_⟩, renB_br hκ hzy (fun hf => flatPs_mem hf1 x hx hf z hz) h3⟩
        rcases hq with hq | ⟨b, y', d', m', g1, g2, g3⟩
        · exact h2.2 hq
        · exact g2 x hx (hr.inj _ _ _ _ _ _ _ _ _ hz g1 h1 g3)
      · cases hn
    · intro i₁ i₂ x₁ x₂ c d₁ m₁ d₂ m₂ h1 h2 s1 s2
      rcases addK_get hB0 i₁ x₁ h1 with ⟨y₁, hy₁, rfl, z₁, hz₁, _⟩ | hn
      · rcases addK_get hB0 i₂ x₂ h2 with ⟨y₂, hy₂, rfl, z₂, hz₂, _⟩ | hn
        · rw [hmem _ hy₁] at s1
          rw [hmem _ hy₂] at s2
          have := hr.inj _ _ _ _ _ _ _ _ _ hz₁ hz₂ s1 s2
          rw [canOk_inj hcan _ hy₁ _ hy₂ (.inr this)]
        · cases hn
      · cases hn
    · intro i c d m hi
      obtain ⟨x, hx, rfl, hs⟩ := hback i _ hi
      exact hr.img _ _ _ _ hs
  obtain ⟨g1, g2⟩ := hG ⟨⟨n0.n.n, Q'⟩, fun _ => False⟩ σ0 w (.func f) args' (.func f) (mapO_vr (fun v u v' a b => renV_vr hκ _ _ _ _ a b) ha hargs) hr0
  refine ⟨g1, fun n => CallsIn.mono (g2 n) ?_⟩
  rintro e w' ⟨u, σ1, rfl, q1, q2, q3⟩
  let nx' := H.next + (H1.next - k)
  let σ' : Ren := fun b => if b < H.next then σ b else if b < nx' then σ1 (k + (b - H.next)) else none
  have hlow' : ∀ b, b < H.next → σ' b = σ b := fun b hb => if_pos hb
  have hnew' : ∀ i, k ≤ i → i < H1.next → σ' (H.next + (i - k)) = σ1 i := fun i h1 h2 => by
    show (if H.next + (i - k) < H.next then _ else if H.next + (i - k) < nx' then σ1 (k + (H.next + (i - k) - H.next)) else none) = _
    rw [if_neg (by omega), if_pos (by show H.next + (i - k) < H.next + (H1.next - k); omega)]
    congr 1; omega
  have hext : σ.Ext σ' := fun b t hb => by rw [hlow' b (hr.dom b t hb)]; exact hb
  have hback' : ∀ b t, σ' b = some t → (b < H.next ∧ σ b = some t) ∨ (b < nx' ∧ k ≤ k + (b - H.next) ∧ H.next ≤ b ∧ σ1 (k + (b - H.next)) = some t) := fun b t hb => by
    have hb : (if b < H.next then σ b else if b < nx' then σ1 (k + (b - H.next)) else none) = some t := hb
    by_cases h1 : b < H.next
    · rw [if_pos h1] at hb; exact .inl ⟨h1, hb⟩
    · rw [if_neg h1] at hb
      by_cases h2 : b < nx'
      · rw [if_pos h2] at hb; exact .inr ⟨h2, Nat.le_add_right _ _, Nat.le_of_not_lt h1, hb⟩
      · rw [if_neg h2] at hb; cases hb
  have hρ : RenOK (rhoK ins k H.next) σ1 σ' := fun i b' hbb t ht => by
    rcases sel_eq_some hbb with ⟨h1, h2⟩ | ⟨h1, h2⟩
    · obtain ⟨fl, hm⟩ := findOld_mem h2
      obtain ⟨z, hz⟩ := hpres _ hm
      obtain ⟨c, d, m, s1, _, _⟩ := hr.blk _ _ hz
      have s0 : σ0 i = some (c, d, m) := by rw [hmem _ hm]; exact s1
      have e := q3.ext _ _ s0
      rw [ht] at e
      rw [hext _ _ s1, e]
    · obtain rfl := Option.some.inj h2
      have hk : k ≤ i := by
        rcases Nat.lt_or_ge i k with hl | hl
        · have : Nat.blt i k = true := by simpa [Nat.blt_eq] using hl
          rw [this] at h1; cases h1
        · exact hl
      rw [hadd, hsub, hnew' i hk (q2.dom _ _ ht)]; exact ht
  have hlk := lowK_le (lo := H1.low) (low := H.low) (l := ins)
  have keepQ : ∀ c, c < w.heap.size → (n0.n.Q c ∨ ∀ b d m, σ b = some (c, d, m) → b < lowK H1.low H.low ins) → w'.heap[c]? = w.heap[c]? ∧ ∀ b d m, σ1 b = some (c, d, m) → σ0 b = some (c, d, m) := fun c hc hq => by
    refine q3.keep c hc ?_
    rcases hq with hq | hq
    · exact .inl (.inl hq)
    · refine .inr fun i d m hs => ?_
      obtain ⟨x, hx, rfl, h1⟩ := hback i _ hs
      rcases Nat.lt_or_ge x.1 H1.low with hl | hl
      · exact hl
      · have a1 := hq _ _ _ h1
        have a2 := hlk.2 x hx hl
        omega
  have keepO : ∀ b y c d m, H.blocks.get b = some y → (∀ x ∈ ins, H1.low ≤ x.1 → x.2.1 ≠ b) → σ b = some (c, d, m) → w'.heap[c]? = w.heap[c]? ∧ ∀ b d m, σ1 b = some (c, d, m) → σ0 b = some (c, d, m) := fun b y c d m hb hne hs => by
    refine q3.keep c (hr.img _ _ _ _ hs) ?_
    by_cases hin : ∃ x ∈ ins, x.2.1 = b
    · refine .inr fun i d' m' hi => ?_
      obtain ⟨x, hx, rfl, h1⟩ := hback i _ hi
      obtain ⟨z, hz⟩ := hpres x hx
      have e := hr.inj _ _ _ _ _ _ _ _ _ hz hb h1 hs
      rcases Nat.lt_or_ge x.1 H1.low with hl | hl
      · exact hl
      · exact absurd e (hne x hx hl)
    · exact .inl (.inr ⟨b, y, d, m, hb, fun x hx e => hin ⟨x, hx, e⟩, hs⟩)
  refine ⟨u, σ', rfl, renV_vr hρ _ _ _ _ hv q1, ⟨⟨q2.base.1, fun c hc => q2.base.2.1 c (.inl hc), q2.base.2.2⟩, ?_, ?_, ?_, ?_, ?_⟩, ⟨hext, q3.below, ?_⟩⟩
  · intro b y hy
    rcases addK_get hB1 b y hy with ⟨x, hx, rfl, z, hz, hzy⟩ | hold
    · obtain ⟨c, d, m, h1, h2, h3⟩ := q2.blk _ _ hz
      exact ⟨c, d, m, hρ _ _ (outsOk_mem houts x hx) _ h1, ⟨h2.1, fun hq => h2.2 (.inl hq)⟩, renB_br hρ hzy (fun hf => flatPs_mem hf2 x hx hf z hz) h3⟩
    · obtain ⟨h0, hne⟩ := dropK_get hold
      obtain ⟨c, d, m, h1, h2, h3⟩ := hr.blk _ _ h0
      exact ⟨c, d, m, hext _ _ h1, h2, by rw [(keepO b y c d m h0 hne h1).1]; exact h3.mono hext⟩
  · have cases2 : ∀ {b y c d m}, B1.get b = some y → σ' b = some (c, d, m) → (∃ i z, H1.blocks.get i = some z ∧ rhoK ins k H.next i = some b ∧ σ1 i = some (c, d, m)) ∨ (H.blocks.get b = some y ∧ (∀ x ∈ ins, H1.low ≤ x.1 → x.2.1 ≠ b) ∧ σ b = some (c, d, m)) := by
      intro b y c d m hy hs
      rcases addK_get hB1 b y hy with ⟨x, hx, rfl, z, hz, hzy⟩ | hold
      · obtain ⟨c', d', m', h1, h2, h3⟩ := q2.blk _ _ hz
        have e := hρ _ _ (outsOk_mem houts x hx) _ h1
        rw [hs] at e
        exact .inl ⟨x.2.1, z, hz, outsOk_mem houts x hx, by rw [h1]; exact e.symm⟩
      · obtain ⟨h0, hne⟩ := dropK_get hold
        obtain ⟨c', d', m', h1, h2, h3⟩ := hr.blk _ _ h0
        have e := hext _ _ h1
        rw [hs] at e
        exact .inr ⟨h0, hne, by rw [h1]; exact e.symm⟩
    have cross : ∀ {i z b b₁ y c d₁ m₁ d₂ m₂}, H1.blocks.get i = some z → rhoK ins k H.next i = some b₁ → σ1 i = some (c, d₁, m₁) → H.blocks.get b = some y → (∀ x ∈ ins, H1.low ≤ x.1 → x.2.1 ≠ b) → σ b = some (c, d₂, m₂) → b₁ = b := by
      intro i z b b₁ y c d₁ m₁ d₂ m₂ h1 h2 h3 h4 h5 h6
      have s0 := (keepO b y c d₂ m₂ h4 h5 h6).2 _ _ _ h3
      obtain ⟨x, hx, rfl, h7⟩ := hback i _ s0
      obtain ⟨z', hz'⟩ := hpres x hx
      have e := hr.inj _ _ _ _ _ _ _ _ _ hz' h4 h7 h6
      have e2 : rhoK ins k H.next x.1 = some x.2.1 := by
        show sel (Nat.blt x.1 k) (findOld ins x.1) _ = _
        have : Nat.blt x.1 k = true := by simpa [Nat.blt_eq] using canOk_lt hcan x hx
        rw [this, sel_true, canOk_find hcan hx]
      rw [h2] at e2
      rw [Option.some.inj e2, e]
    intro b₁ b₂ x₁ x₂ c d₁ m₁ d₂ m₂ h1 h2 s1 s2
    rcases cases2 h1 s1 with ⟨i₁, z₁, a1, a2, a3⟩ | ⟨a1, a2, a3⟩
    · rcases cases2 h2 s2 with ⟨i₂, z₂, c1, c2, c3⟩ | ⟨c1, c2, c3⟩
      · have e := q2.inj _ _ _ _ _ _ _ _ _ a1 c1 a3 c3
        subst e
        rw [a2] at c2
        exact Option.some.inj c2
      · exact cross a1 a2 a3 c1 c2 c3
    · rcases cases2 h2 s2 with ⟨i₂, z₂, c1, c2, c3⟩ | ⟨c1, c2, c3⟩
      · exact (cross c1 c2 c3 a1 a2 a3).symm
      · exact hr.inj _ _ _ _ _ _ _ _ _ a1 c1 a3 c3
  · intro b t hb
    show b < H.next + (H1.next - k)
    rcases hback' b t hb with ⟨h1, _⟩ | ⟨h1, _⟩
    · omega
    · exact h1
  · intro b c d m hb
    rcases hback' b _ hb with ⟨_, h1⟩ | ⟨_, _, _, h1⟩
    · exact Nat.lt_of_lt_of_le (hr.img _ _ _ _ h1) q3.below.size
    · exact q2.img _ _ _ _ h1
  · intro b hb
    have hx := hr.hol b hb
    refine ⟨by show b < H.next + (H1.next - k); omega, ?_⟩
    rw [hlow' b hx.1]; exact hx.2
  · intro c hc hq
    obtain ⟨h1, h2⟩ := keepQ c hc hq
    refine ⟨h1, fun b d m hs => ?_⟩
    rcases hback' b _ hs with ⟨_, h3⟩ | ⟨_, h4, _, h3⟩
    · exact h3
    · have := h0dom _ _ (h2 _ _ _ h3)
      omega

end Go.Proofs.Ythomkiindjhdmaa.Ax
