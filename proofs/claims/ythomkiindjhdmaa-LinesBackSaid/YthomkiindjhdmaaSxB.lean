/-
  Code from one state to another; states that say less. Own work, plain lemmas.
-/
import Derived.Test.YthomkiindjhdmaaSxA
set_option linter.unusedSimpArgs false
set_option linter.unusedVariables false
set_option linter.unnecessarySimpa false
set_option linter.deprecated false
set_option linter.unusedSectionVars false
namespace Go.Proofs.Ythomkiindjhdmaa.Ax
open Go.RowKit
variable [Tabs]

def AllP : List Prop → Prop
  | [] => True
  | p :: l => p ∧ AllP l
theorem AllP.append : ∀ {l k : List Prop}, AllP (l ++ k) → AllP l ∧ AllP k
  | [], _, h => ⟨trivial, h⟩
  | _ :: _, _, h => ⟨⟨h.1, (AllP.append h.2).1⟩, (AllP.append h.2).2⟩

/-- a run that began at σe, we, with numbers below m, is at the state s -/
def InvS (n0 : Bs) (N m : Nat) (σe : Ren) (we : World) (s : XSt) (a : Act) (w : World) : Prop :=
  ∃ σ, TR σ N s.1 a.tmps ∧ DR σ s.2.1 a.defers ∧ HR n0 σ s.2.2 w ∧ Step n0 σe we (Nat.min s.2.2.low m) σ w
/-- the code leads from s to x -/
def CG (P : Program) (rnd : Option Nat) (N m : Nat) (c : Code) (s : XSt) (x : Ex × XSt) : Prop :=
  ∀ (n0 : Bs) (F : Fence) (n : Nat) (σe : Ren) (we : World) (a : Act) (w : World), WideF F → RndR σe rnd F.round → (∀ b t, σe b = some t → b < m) → (∀ b, n0.X b → b < m) → InvS n0 N m σe we s a w →
    c.wpIn F n P (fun e a' w' => e = eR x.1 ∧ InvS n0 N m σe we x.2 a' w') a w
/-- the loop leads from s to x -/
def LG (P : Program) (rnd : Option Nat) (N m : Nat) (b : Code) (s : XSt) (x : Ex × XSt) : Prop :=
  ∃ M, ∀ (n0 : Bs) (F : Fence) (n : Nat) (σe : Ren) (we : World) (a : Act) (w : World), WideF F → RndR σe rnd F.round → (∀ b t, σe b = some t → b < m) → (∀ b, n0.X b → b < m) → InvS n0 N m σe we s a w →
    Code.roundsIn F n P b (fun e a' w' => e = eR x.1 ∧ InvS n0 N m σe we x.2 a' w') M a w
/-- s' says no more than s -/
def Wk (N m : Nat) (s s' : XSt) : Prop :=
  ∀ (n0 : Bs) (σe : Ren) (we : World) (a : Act) (w : World), (∀ b t, σe b = some t → b < m) → (∀ b, n0.X b → b < m) → InvS n0 N m σe we s a w → InvS n0 N m σe we s' a w

theorem LG.cg {P : Program} {rnd : Option Nat} {N m : Nat} {b : Code} {s : XSt} {x : Ex × XSt} (h : LG P rnd N m b s x) : CG P rnd N m (.loop b) s x := by
  obtain ⟨M, h⟩ := h
  exact fun n0 F n σe we a w h1 h2 h3 h4 h5 => wpIn_loop_rounds M (h n0 F n σe we a w h1 h2 h3 h4 h5)
theorem LG.step {P : Program} {rnd : Option Nat} {N m : Nat} {b : Code} {s s1 : XSt} {x : Ex × XSt} (h : CG P rnd N m b s (.normal, s1)) (k : LG P rnd N m b s1 x) : LG P rnd N m b s x := by
  obtain ⟨M, k⟩ := k
  refine ⟨M + 1, fun n0 F n σe we a w h1 h2 h3 h4 h5 => ?_⟩
  rw [roundsIn_succ]
  refine wpIn_mono (h n0 F n σe we a w h1 h2 h3 h4 h5) ?_
  rintro e a' w' ⟨rfl, hi⟩
  exact k n0 F n σe we a' w' h1 h2 h3 h4 hi
theorem LG.done {P : Program} {rnd : Option Nat} {N m : Nat} {b : Code} {s : XSt} {x : Ex × XSt} (h : CG P rnd N m b s x) (hx : x.1 ≠ .normal) : LG P rnd N m b s x := by
  refine ⟨1, fun n0 F n σe we a w h1 h2 h3 h4 h5 => ?_⟩
  rw [roundsIn_succ]
  refine wpIn_mono (h n0 F n σe we a w h1 h2 h3 h4 h5) ?_
  rintro e a' w' hq
  have he : e ≠ .normal := by
    rw [hq.1]; intro hx'
    cases hx1 : x.1 <;> rw [hx1] at hx' hx <;> first | exact hx rfl | cases hx'
  cases e <;> first | exact absurd rfl he | exact hq
theorem Wk.refl (N m : Nat) (s : XSt) : Wk N m s s := fun _ _ _ _ _ _ _ h => h
theorem Wk.trans {N m : Nat} {s s1 s2 : XSt} (h : Wk N m s s1) (k : Wk N m s1 s2) : Wk N m s s2 := fun n0 σe we a w h1 h2 h3 => k n0 σe we a w h1 h2 (h n0 σe we a w h1 h2 h3)
theorem CG.pre {P : Program} {rnd : Option Nat} {N m : Nat} {c : Code} {s s' : XSt} {x : Ex × XSt} (h : Wk N m s s') (k : CG P rnd N m c s' x) : CG P rnd N m c s x :=
  fun n0 F n σe we a w h1 h2 h3 h4 h5 => k n0 F n σe we a w h1 h2 h3 h4 (h n0 σe we a w h3 h4 h5)
theorem LG.pre {P : Program} {rnd : Option Nat} {N m : Nat} {c : Code} {s s' : XSt} {x : Ex × XSt} (h : Wk N m s s') (k : LG P rnd N m c s' x) : LG P rnd N m c s x := by
  obtain ⟨M, k⟩ := k
  exact ⟨M, fun n0 F n σe we a w h1 h2 h3 h4 h5 => k n0 F n σe we a w h1 h2 h3 h4 (h n0 σe we a w h3 h4 h5)⟩
theorem CG.post {P : Program} {rnd : Option Nat} {N m : Nat} {c : Code} {s : XSt} {e : Ex} {s1 s2 : XSt} (h : CG P rnd N m c s (e, s1)) (k : Wk N m s1 s2) : CG P rnd N m c s (e, s2) :=
  fun n0 F n σe we a w h1 h2 h3 h4 h5 => wpIn_mono (h n0 F n σe we a w h1 h2 h3 h4 h5) fun e' a' w' hq => ⟨hq.1, k n0 σe we a' w' h3 h4 hq.2⟩

/-! what is kept: slots; blocks, told anew -/
structure WkS where
  slots : List Nat
  blks : List (Nat × Nat × Bool)
  next : Nat
  low : Nat
def findNew (l : List (Nat × Nat × Bool)) (b : Nat) : Option Nat :=
  match l with
  | [] => none
  | x :: l => match Nat.beq x.2.1 b with
    | true => some x.1
    | false => findNew l b
noncomputable def kapW (m : Nat) (l : List (Nat × Nat × Bool)) (b : Nat) : Option Nat := sel (Nat.blt b m) (some b) (findNew l b)
def freshB (b : Nat) : List (Nat × Nat × Bool) → Bool
  | [] => true
  | x :: l => !(Nat.beq x.1 b) && freshB b l
def freshO (b : Nat) : List (Nat × Nat × Bool) → Bool
  | [] => true
  | x :: l => !(Nat.beq x.2.1 b) && freshO b l
def blksOk (m nx : Nat) : List (Nat × Nat × Bool) → Bool
  | [] => true
  | x :: l => (Nat.blt x.1 nx && (match Nat.blt x.2.1 m with
    | true => Nat.beq x.1 x.2.1
    | false => Nat.ble m x.1)) && (freshB x.1 l && freshO x.2.1 l) && blksOk m nx l
noncomputable def anyT (N : Nat) : Tr Value := layT (List.replicate N (.chan none))
noncomputable def keepT (κ : Nat → Option Nat) (N : Nat) (T : Tr Value) (l : List Nat) : Option (Tr Value) :=
  @List.rec Nat (fun _ => Option (Tr Value)) (some (anyT N)) (fun i _ ih => sel (Nat.blt i N) (oc (renV κ 9 (tget T i)) none fun v => oc ih none fun t => some (t.set i v)) none) l
noncomputable def keepB (κ : Nat → Option Nat) (B : Tr ABlk) (l : List (Nat × Nat × Bool)) : Option (Tr ABlk) :=
  @List.rec (Nat × Nat × Bool) (fun _ => Option (Tr ABlk)) (some .nil) (fun x _ ih => oc (B.get x.2.1) none fun b => oc (renB κ x.2.2 b) none fun y => oc ih none fun t => some (t.set x.1 y)) l
noncomputable def flatPs (B : Tr ABlk) (l : List (Nat × Nat × Bool)) : List Prop :=
  @List.rec (Nat × Nat × Bool) (fun _ => List Prop) [] (fun x _ ih => sel x.2.2 (oc (B.get x.2.1) ih fun b => FlatB b :: ih) ih) l
noncomputable def weakF (N m : Nat) (k : WkS) (s : XSt) : Option (XSt × List Prop) :=
  sel (Nat.ble m k.next && blksOk m k.next k.blks) (oc (keepT (kapW m k.blks) N s.1 k.slots) none fun T => oc (mapO (renD (kapW m k.blks)) s.2.1) none fun D => oc (keepB (kapW m k.blks) s.2.2.blocks k.blks) none fun B =>
    some ((T, D, ⟨B, k.next, Nat.min (Nat.min s.2.2.low m) k.low⟩), flatPs s.2.2.blocks k.blks)) none

theorem findNew_mem {l : List (Nat × Nat × Bool)} {b b' : Nat} (h : findNew l b = some b') : ∃ fl, (b', b, fl) ∈ l := by
  induction l with
  | nil => cases h
  | cons x l ih =>
    unfold findNew at h
    split at h
    · rename_i he
      obtain rfl := Option.some.inj h
      obtain rfl := Nat.eq_of_beq_eq_true he
      exact ⟨x.2.2, List.mem_cons_self ..⟩
    · obtain ⟨fl, hf⟩ := ih h
      exact ⟨fl, List.mem_cons_of_mem _ hf⟩
theorem freshB_not {b : Nat} : ∀ {l : List (Nat × Nat × Bool)}, freshB b l = true → ∀ x ∈ l, x.1 ≠ b
  | [], _, x, hx => by cases hx
  | y :: l, h, x, hx => by
    simp only [freshB, Bool.and_eq_true, Bool.not_eq_true'] at h
    rcases List.mem_cons.1 hx with rfl | hx
    · intro e; rw [e, Nat.beq_refl] at h; cases h.1
    · exact freshB_not h.2 x hx
theorem freshO_not {b : Nat} : ∀ {l : List (Nat × Nat × Bool)}, freshO b l = true → ∀ x ∈ l, x.2.1 ≠ b
  | [], _, x, hx => by cases hx
  | y :: l, h, x, hx => by
    simp only [freshO, Bool.and_eq_true, Bool.not_eq_true'] at h
    rcases List.mem_cons.1 hx with rfl | hx
    · intro e; rw [e, Nat.beq_refl] at h; cases h.1
    · exact freshO_not h.2 x hx
theorem blksOk_mem {m nx : Nat} : ∀ {l : List (Nat × Nat × Bool)}, blksOk m nx l = true → ∀ x ∈ l, x.1 < nx ∧ (x.2.1 < m → x.1 = x.2.1) ∧ (m ≤ x.2.1 → m ≤ x.1)
  | [], _, x, hx => by cases hx
  | y :: l, h, x, hx => by
    simp only [blksOk, Bool.and_eq_true] at h
    rcases List.mem_cons.1 hx with rfl | hx
    · obtain ⟨⟨⟨h1, h2⟩, _⟩, _⟩ := h
      refine ⟨blt_lt h1, fun hl => ?_, fun hl => ?_⟩
      · have : Nat.blt x.2.1 m = true := by simpa [Nat.blt_eq] using hl
        rw [this] at h2
        exact Nat.eq_of_beq_eq_true h2
      · have : Nat.blt x.2.1 m = false := by
          cases hb : Nat.blt x.2.1 m with
          | false => rfl
          | true => exact absurd (blt_lt hb) (by omega)
        rw [this] at h2
        exact ble_le h2
    · exact blksOk_mem h.2 x hx
theorem blksOk_inj {m nx : Nat} : ∀ {l : List (Nat × Nat × Bool)}, blksOk m nx l = true → ∀ x ∈ l, ∀ y ∈ l, (x.1 = y.1 ∨ x.2.1 = y.2.1) → x = y
  | [], _, x, hx => by cases hx
  | z :: l, h, x, hx => by
    intro y hy he
    simp only [blksOk, Bool.and_eq_true] at h
    obtain ⟨⟨_, h1, h2⟩, h3⟩ := h
    rcases List.mem_cons.1 hx with e1 | hx1 <;> rcases List.mem_cons.1 hy with e2 | hy1
    · rw [e1, e2]
    · subst e1
      rcases he with he | he
      · exact absurd he.symm (freshB_not h1 y hy1)
      · exact absurd he.symm (freshO_not h2 y hy1)
    · subst e2
      rcases he with he | he
      · exact absurd he (freshB_not h1 x hx1)
      · exact absurd he (freshO_not h2 x hx1)
    · exact blksOk_inj h3 x hx1 y hy1 he

theorem anyT_TR {N : Nat} {ts : Array Value} (h : ts.size = N) (σ : Ren) : TR σ N (anyT N) ts := by
  refine ⟨h, fun i => ?_⟩
  unfold tget anyT
  rw [layT_get]
  by_cases hi : i < N
  · rw [show (List.replicate N (Value.chan none))[i]? = some (.chan none) from by simp [hi], oc_some]
    exact .any _
  · rw [show (List.replicate N (Value.chan none))[i]? = none from by simp; omega, oc_none]
    have : ts.getD i undef = undef := by rw [Array.getD_eq_getD_getElem?, Array.getElem?_eq_none (by omega)]; rfl
    rw [this]; exact vr_undef σ
theorem keepT_ok {κ : Nat → Option Nat} {σ σ' : Ren} (hκ : RenOK κ σ σ') {N : Nat} {T : Tr Value} {ts : Array Value} (hT : TR σ N T ts) : ∀ {l : List Nat} {T' : Tr Value}, keepT κ N T l = some T' → TR σ' N T' ts
  | [], T', h => by obtain rfl := Option.some.inj h; exact anyT_TR hT.size σ'
  | i :: l, T', h => by
    obtain ⟨hi, h⟩ := sel_none (b := Nat.blt i N) (x := oc (renV κ 9 (tget T i)) none fun v => oc (keepT κ N T l) none fun t => some (t.set i v)) h
    obtain ⟨v, hv, h⟩ := oc_eq_some h
    obtain ⟨t, ht, h⟩ := oc_eq_some h
    obtain rfl := Option.some.inj h
    have ih := keepT_ok hκ hT ht
    refine ⟨ih.size, fun j => ?_⟩
    rw [tget_set]
    by_cases hj : j = i
    · subst hj; rw [if_pos rfl]; exact renV_vr hκ _ _ _ _ hv (hT.slot j)
    · rw [if_neg hj]; exact ih.slot j
theorem keepB_get {κ : Nat → Option Nat} {B : Tr ABlk} : ∀ {l : List (Nat × Nat × Bool)} {B' : Tr ABlk}, keepB κ B l = some B' → ∀ b y, B'.get b = some y → ∃ x ∈ l, x.1 = b ∧ ∃ z, B.get x.2.1 = some z ∧ renB κ x.2.2 z = some y
  | [], B', h, b, y, hb => by obtain rfl := Option.some.inj h; cases hb
  | x :: l, B', h, b, y, hb => by
    obtain ⟨z, hz, h⟩ := oc_eq_some (o := B.get x.2.1) (f := fun b => oc (renB κ x.2.2 b) none fun y => oc (keepB κ B l) none fun t => some (t.set x.1 y)) h
    obtain ⟨u, hu, h⟩ := oc_eq_some h
    obtain ⟨t, ht, h⟩ := oc_eq_some h
    obtain rfl := Option.some.inj h
    rw [Tr.get_set] at hb
    by_cases hbx : b = x.1
    · rw [if_pos hbx] at hb
      obtain rfl := Option.some.inj hb
      exact ⟨x, List.mem_cons_self .., hbx.symm, z, hz, hu⟩
    · rw [if_neg hbx] at hb
      obtain ⟨x', h1, h2⟩ := keepB_get ht b y hb
      exact ⟨x', List.mem_cons_of_mem _ h1, h2⟩
theorem flatPs_mem {B : Tr ABlk} : ∀ {l : List (Nat × Nat × Bool)}, AllP (flatPs B l) → ∀ x ∈ l, x.2.2 = true → ∀ z, B.get x.2.1 = some z → FlatB z
  | [], _, x, hx => by cases hx
  | y :: l, h, x, hx => by
    intro hf z hz
    have h : AllP (sel y.2.2 (oc (B.get y.2.1) (flatPs B l) fun b => FlatB b :: flatPs B l) (flatPs B l)) := h
    have hl : AllP (flatPs B l) := by
      cases hy : y.2.2 with
      | false => rw [hy] at h; exact h
      | true =>
        rw [hy, sel_true] at h
        cases hg : B.get y.2.1 with
        | none => rw [hg] at h; exact h
        | some b => rw [hg] at h; exact h.2
    rcases List.mem_cons.1 hx with rfl | hx
    · rw [hf, sel_true, hz] at h
      exact h.1
    · exact flatPs_mem hl x hx hf z hz

theorem weakF_ok {N m : Nat} {k : WkS} {s s' : XSt} {ps : List Prop} (h : weakF N m k s = some (s', ps)) (hps : AllP ps) : Wk N m s s' := by
  intro n0 σe we a w hm hX ⟨σ, hT, hD, hr, st⟩
  obtain ⟨hb, h⟩ := sel_none h
  obtain ⟨T, hT', h⟩ := oc_eq_some h
  obtain ⟨D, hD', h⟩ := oc_eq_some h
  obtain ⟨B, hB, h⟩ := oc_eq_some h
  obtain ⟨rfl, rfl⟩ := Prod.mk.inj (Option.some.inj h)
  simp only [Bool.and_eq_true] at hb
  obtain ⟨hmn, hbl⟩ := hb
  have hmn := ble_le hmn
  -- the new names
  let old : Nat → Option Nat := fun b => if b < m then some b else (k.blks.find? fun x => x.1 == b).map (·.2.1)
  let σ' : Ren := fun b => if b < k.next then (old b).bind σ else none
  have hlow : ∀ b, b < m → σ' b = σ b := fun b hb => by
    show (if b < k.next then (old b).bind σ else none) = σ b
    rw [if_pos (Nat.lt_of_lt_of_le hb hmn)]
    show ((if b < m then some b else _ : Option Nat)).bind σ = σ b
    rw [if_pos hb]; rfl
  have hmem : ∀ x ∈ k.blks, m ≤ x.2.1 → σ' x.1 = σ x.2.1 := fun x hx hge => by
    obtain ⟨h1, h2, h3⟩ := blksOk_mem hbl x hx
    show (if x.1 < k.next then (old x.1).bind σ else none) = σ x.2.1
    rw [if_pos h1]
    show ((if x.1 < m then some x.1 else (k.blks.find? fun y => y.1 == x.1).map (·.2.1) : Option Nat)).bind σ = _
    rw [if_neg (Nat.not_lt.2 (h3 hge))]
    cases hf : k.blks.find? (fun y => y.1 == x.1) with
    | none =>
      have := List.find?_eq_none.1 hf x hx
      simp at this
    | some y =>
      have hy := List.find?_some hf
      have hym := List.mem_of_find?_eq_some hf
      have : y = x := blksOk_inj hbl y hym x hx (.inl (by simpa using hy))
      subst this
      rfl
  have hback : ∀ b t, σ' b = some t → (b < m ∧ σ b = some t) ∨ (m ≤ b ∧ ∃ x ∈ k.blks, x.1 = b ∧ m ≤ x.2.1 ∧ σ x.2.1 = some t) := fun b t ht => by
    by_cases hb : b < m
    · rw [hlow b hb] at ht; exact .inl ⟨hb, ht⟩
    · refine .inr ⟨Nat.le_of_not_lt hb, ?_⟩
      have ht : (if b < k.next then (old b).bind σ else none) = some t := ht
      by_cases hn : b < k.next
      · rw [if_pos hn] at ht
        have ht : ((if b < m then some b else (k.blks.find? fun y => y.1 == b).map (·.2.1) : Option Nat)).bind σ = some t := ht
        rw [if_neg hb] at ht
        cases hf : k.blks.find? (fun y => y.1 == b) with
        | none => rw [hf] at ht; cases ht
        | some y =>
          rw [hf] at ht
          have hy := List.find?_some hf
          have hy : y.1 = b := by simpa using hy
          have hym := List.mem_of_find?_eq_some hf
          refine ⟨y, hym, hy, ?_, ht⟩
          rcases Nat.lt_or_ge y.2.1 m with hl | hl
          · have := (blksOk_mem hbl y hym).2.1 hl
            omega
          · exact hl
      · rw [if_neg hn] at ht; cases ht
  have hκ : RenOK (kapW m k.blks) σ σ' := fun b b' hbb t ht => by
    rcases sel_eq_some hbb with ⟨h1, h2⟩ | ⟨h1, h2⟩
    · obtain rfl := Option.some.inj h2
      rw [hlow _ (blt_lt h1)]; exact ht
    · obtain ⟨fl, hf⟩ := findNew_mem h2
      have hge : m ≤ b := by
        rcases Nat.lt_or_ge b m with hl | hl
        · have : Nat.blt b m = true := by simpa [Nat.blt_eq] using hl
          rw [this] at h1; cases h1
        · exact hl
      rw [hmem _ hf hge]; exact ht
  have himg : ∀ b c d mm, σ' b = some (c, d, mm) → c < w.heap.size := fun b c d mm hb => by
    rcases hback b _ hb with ⟨_, h1⟩ | ⟨_, x, _, _, _, h1⟩
    · exact hr.img _ _ _ _ h1
    · exact hr.img _ _ _ _ h1
  refine ⟨σ', keepT_ok hκ hT hT', mapO_DR hκ hD' hD, ⟨hr.base, ?_, ?_, ?_, himg, ?_⟩, ?_⟩
  · intro b y hby
    obtain ⟨x, hx, rfl, z, hz, hzy⟩ := keepB_get hB b y hby
    obtain ⟨c, d, mm, h1, h2, h3⟩ := hr.blk _ _ hz
    refine ⟨c, d, mm, ?_, h2, renB_br hκ hzy (fun hf => flatPs_mem hps x hx hf z hz) h3⟩
    rcases Nat.lt_or_ge x.2.1 m with hl | hl
    · rw [(blksOk_mem hbl x hx).2.1 hl, hlow _ hl]; exact h1
    · rw [hmem x hx hl]; exact h1
  · intro b₁ b₂ x₁ x₂ c d₁ m₁ d₂ m₂ h1 h2 s1 s2
    obtain ⟨y₁, hy₁, rfl, z₁, hz₁, _⟩ := keepB_get hB b₁ x₁ h1
    obtain ⟨y₂, hy₂, rfl, z₂, hz₂, _⟩ := keepB_get hB b₂ x₂ h2
    have e : ∀ y ∈ k.blks, σ' y.1 = σ y.2.1 := fun y hy => by
      rcases Nat.lt_or_ge y.2.1 m with hl | hl
      · rw [(blksOk_mem hbl y hy).2.1 hl, hlow _ hl]
      · exact hmem y hy hl
    rw [e _ hy₁] at s1
    rw [e _ hy₂] at s2
    have := hr.inj _ _ _ _ _ _ _ _ _ hz₁ hz₂ s1 s2
    rw [blksOk_inj hbl _ hy₁ _ hy₂ (.inr this)]
  · intro b t hb
    show b < k.next
    rcases hback b t hb with ⟨h1, _⟩ | ⟨_, x, hx, rfl, _, _⟩
    · exact Nat.lt_of_lt_of_le h1 hmn
    · exact (blksOk_mem hbl x hx).1
  · intro b hb
    have hbm := hX b hb
    refine ⟨Nat.lt_of_lt_of_le hbm hmn, ?_⟩
    rw [hlow b hbm]; exact (hr.hol b hb).2
  · have st : Step n0 σe we (Nat.min s.2.2.low m) σ w := st
    show Step n0 σe we (Nat.min (Nat.min (Nat.min s.2.2.low m) k.low) m) σ' w
    refine Step.lower (low := Nat.min s.2.2.low m) ?_ (Nat.le_trans (Nat.min_le_left _ _) (Nat.min_le_left _ _))
    refine ⟨fun b t ht => ?_, st.below, fun c hc hb => ?_⟩
    · rw [hlow b (hm b t ht)]; exact st.ext b t ht
    · obtain ⟨h1, h2⟩ := st.keep c hc hb
      refine ⟨h1, fun b d mm hs => ?_⟩
      rcases hback b _ hs with ⟨_, h3⟩ | ⟨hge, x, hx, rfl, hxm, h3⟩
      · exact h2 b d mm h3
      · exact absurd (hm _ _ (h2 _ d mm h3)) (Nat.not_lt.2 hxm)

end Go.Proofs.Ythomkiindjhdmaa.Ax
