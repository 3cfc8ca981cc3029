/-
  A region that draws its order comes to where it comes in the order of the text. Own work, plain lemmas.
-/
import Derived.Test.YthomkiindjhdmaaAxU
set_option linter.unusedSimpArgs false
set_option linter.unusedVariables false
set_option linter.unnecessarySimpa false
set_option linter.deprecated false
set_option linter.unusedSectionVars false
namespace Go.Proofs.Ythomkiindjhdmaa.Ax
open Go.RowKit
variable [Tabs]

theorem testBit_edgeMask {ms : List Nat} {i : Nat} : ∀ {l : List Edge}, (edgeMask ms l).testBit i = true → ∃ e ∈ l, Region.binds .any e = true ∧ (i = e.on ∨ (ms.getD e.on 0).testBit i = true)
  | [], h => by simp [edgeMask] at h
  | e :: l, h => by
    unfold edgeMask at h
    cases hb : Region.binds .any e with
    | false =>
      rw [hb, cond_false] at h
      obtain ⟨e', h1, h2⟩ := testBit_edgeMask h
      exact ⟨e', .tail _ h1, h2⟩
    | true =>
      rw [hb, cond_true, Nat.testBit_or, Nat.testBit_or, Bool.or_eq_true, Bool.or_eq_true] at h
      rcases h with (h | h) | h
      · refine ⟨e, .head _, hb, .inl ?_⟩
        rw [Nat.testBit_two_pow] at h
        have : e.on = i := by simpa using h
        exact this.symm
      · exact ⟨e, .head _, hb, .inr h⟩
      · obtain ⟨e', h1, h2⟩ := testBit_edgeMask h
        exact ⟨e', .tail _ h1, h2⟩

/-! the last one that wrote a slot -/
def lastW (ops : List Oper) (S : Nat → Bool) (t : Nat) : Nat → Option Nat
  | 0 => none
  | j + 1 => if S j = true ∧ dstOf ops j = some t then some j else lastW ops S t j
noncomputable def TS (ops : List Oper) (v : Nat → Value) (T0 : Tr Value) (S : Nat → Bool) : Nat → Tr Value
  | 0 => T0
  | j + 1 => if S j = true then putO (TS ops v T0 S j) (dstOf ops j) (v j) else TS ops v T0 S j
theorem tget_putO (T : Tr Value) (d : Option Nat) (x : Value) (t : Nat) : tget (putO T d x) t = if d = some t then x else tget T t := by
  cases d with
  | none => simp [putO]
  | some i =>
    show tget (T.set i x) t = _
    rw [tget_set]
    by_cases h : t = i
    · subst h; simp
    · rw [if_neg h, if_neg (by simpa using fun e => h e.symm)]
theorem tget_TS (ops : List Oper) (v : Nat → Value) (T0 : Tr Value) (S : Nat → Bool) (t : Nat) : ∀ j, tget (TS ops v T0 S j) t = match lastW ops S t j with | some i => v i | none => tget T0 t
  | 0 => rfl
  | j + 1 => by
    unfold TS lastW
    by_cases hS : S j = true
    · rw [if_pos hS, tget_putO]
      by_cases hd : dstOf ops j = some t
      · rw [if_pos hd, if_pos ⟨hS, hd⟩]
      · rw [if_neg hd, if_neg (fun h => hd h.2)]
        exact tget_TS ops v T0 S t j
    · rw [if_neg hS, if_neg (fun h => hS h.1)]
      exact tget_TS ops v T0 S t j
theorem Tseq_eq (ops : List Oper) (v : Nat → Value) (T0 : Tr Value) : ∀ j, Tseq ops v T0 j = TS ops v T0 (fun _ => true) j
  | 0 => rfl
  | j + 1 => by
    unfold Tseq TS
    rw [if_pos rfl, Tseq_eq ops v T0 j]
theorem lastW_past {ops : List Oper} {S : Nat → Bool} {t j : Nat} : ∀ {m : Nat}, j ≤ m → (∀ i, j ≤ i → i < m → dstOf ops i = some t → S i = false) → lastW ops S t m = lastW ops S t j
  | 0, h, _ => by have : j = 0 := by omega
                  subst this; rfl
  | m + 1, h, hs => by
    by_cases e : j = m + 1
    · subst e; rfl
    · have hm : ¬ (S m = true ∧ dstOf ops m = some t) := fun q => by
        have := hs m (by omega) (by omega) q.2
        rw [this] at q; exact absurd q.1 Bool.false_ne_true
      show (if _ then _ else _) = _
      rw [if_neg hm]
      exact lastW_past (by omega) fun i h1 h2 h3 => hs i h1 (by omega) h3
theorem lastW_same {ops : List Oper} {S S' : Nat → Bool} {t : Nat} : ∀ {m : Nat}, (∀ i, i < m → dstOf ops i = some t → S i = S' i) → lastW ops S t m = lastW ops S' t m
  | 0, _ => rfl
  | m + 1, h => by
    unfold lastW
    have ih := lastW_same (m := m) fun i hi hd => h i (by omega) hd
    by_cases hd : dstOf ops m = some t
    · rw [h m (by omega) hd, ih]
    · rw [if_neg (fun q => hd q.2), if_neg (fun q => hd q.2), ih]
theorem TS_agree {ops : List Oper} {v : Nat → Value} {T0 : Tr Value} {S : Nat → Bool} {t j n : Nat} (hj : j ≤ n) (h : ∀ i, i < n → dstOf ops i = some t → (S i = true ↔ i < j)) : tget (TS ops v T0 S n) t = tget (Tseq ops v T0 j) t := by
  rw [Tseq_eq, tget_TS, tget_TS]
  have e1 : lastW ops S t n = lastW ops S t j := lastW_past hj fun i h1 h2 h3 => by
    cases hs : S i with
    | false => rfl
    | true => exact absurd ((h i h2 h3).1 hs) (by omega)
  have e2 : lastW ops S t j = lastW ops (fun _ => true) t j := lastW_same fun i hi hd => (h i (by omega) hd).2 hi
  rw [e1, e2]
def withJ (S : Nat → Bool) (j : Nat) : Nat → Bool := fun i => if i = j then true else S i
theorem TS_next {ops : List Oper} {v : Nat → Value} {T0 : Tr Value} {S : Nat → Bool} {t j n : Nat} (hj : j < n) (h : ∀ i, j < i → i < n → dstOf ops i = some t → dstOf ops j = some t → S i = false) :
    tget (TS ops v T0 (withJ S j) n) t = tget (putO (TS ops v T0 S n) (dstOf ops j) (v j)) t := by
  rw [tget_putO]
  by_cases hd : dstOf ops j = some t
  · rw [if_pos hd, tget_TS]
    have e1 : lastW ops (withJ S j) t n = lastW ops (withJ S j) t (j + 1) := lastW_past hj fun i h1 h2 h3 => by
      unfold withJ
      rw [if_neg (by omega)]
      exact h i (by omega) h2 h3 hd
    have e2 : lastW ops (withJ S j) t (j + 1) = some j := by
      unfold lastW
      rw [if_pos ⟨by simp [withJ], hd⟩]
    rw [e1, e2]
  · rw [if_neg hd, tget_TS, tget_TS]
    have : lastW ops (withJ S j) t n = lastW ops S t n := lastW_same fun i hi hdi => by
      unfold withJ
      by_cases e : i = j
      · subst e; exact absurd hdi hd
      · rw [if_neg e]
    rw [this]
theorem TR.congr {σ : Ren} {N : Nat} {T T' : Tr Value} {ts : Array Value} (h : TR σ N T ts) (he : ∀ t, tget T' t = tget T t) : TR σ N T' ts := ⟨h.size, fun i => by rw [he]; exact h.slot i⟩

theorem HR.wide {n0 : Bs} {σ : Ren} {H : AH} {w : World} (hr : HR n0 σ H w) (hb : H.next ≤ big) : HR n0 σ (wideB H) w :=
  ⟨hr.base, hr.blk, hr.inj, fun b t h => Nat.lt_of_lt_of_le (hr.dom b t h) hb, hr.img, fun b h => ⟨Nat.lt_of_lt_of_le (hr.hol b h).1 hb, (hr.hol b h).2⟩⟩
theorem HR.setX {n : Base} {X Y : Nat → Prop} {σ : Ren} {H : AH} {w : World} (hr : HR ⟨n, X⟩ σ H w) (h : ∀ b, Y b → X b) : HR ⟨n, Y⟩ σ H w :=
  ⟨hr.base, hr.blk, hr.inj, hr.dom, hr.img, fun b hb => hr.hol b (h b hb)⟩
theorem Step.setX {n : Base} {X Y : Nat → Prop} {σ σ' : Ren} {w w' : World} {low : Nat} (st : Step ⟨n, X⟩ σ w low σ' w') : Step ⟨n, Y⟩ σ w low σ' w' := ⟨st.ext, st.below, st.keep⟩
/-- what was there is as it was: an elder heap stands too -/
theorem HR.calm {n : Base} {X Y : Nat → Prop} {σ σ' : Ren} {H : AH} {w w' : World} {low : Nat} (hr : HR ⟨n, X⟩ σ H w) (st : Step ⟨n, X⟩ σ w low σ' w') (hl : ∀ b t, σ b = some t → b < low) (hd : ∀ b t, σ' b = some t → b < H.next) (hi : ∀ b c d m, σ' b = some (c, d, m) → c < w'.heap.size)
    (hY : ∀ b, Y b → b < H.next ∧ σ' b = none) : HR ⟨n, Y⟩ σ' H w' := by
  refine ⟨base_size hr.base st.below.size st.below.block, fun b x hx => ?_, fun b₁ b₂ x₁ x₂ c d₁ m₁ d₂ m₂ h1 h2 s1 s2 => ?_, hd, hi, hY⟩
  · obtain ⟨c, d, m, hs, hn, hB⟩ := hr.blk b x hx
    refine ⟨c, d, m, st.ext _ _ hs, hn, ?_⟩
    rw [(st.keep c (hr.img b c d m hs) (.inr fun b' d' m' h => hl b' _ h)).1]
    exact hB.mono st.ext
  · obtain ⟨c₁, d₁', m₁', hs₁, _, _⟩ := hr.blk b₁ x₁ h1
    obtain ⟨c₂, d₂', m₂', hs₂, _, _⟩ := hr.blk b₂ x₂ h2
    have e1 := st.ext _ _ hs₁
    have e2 := st.ext _ _ hs₂
    rw [s1] at e1
    rw [s2] at e2
    injection e1 with e1
    injection e1 with e1 _
    injection e2 with e2
    injection e2 with e2 _
    exact hr.inj b₁ b₂ x₁ x₂ c d₁' m₁' d₂' m₂' h1 h2 (by rw [e1]; exact hs₁) (by rw [e2]; exact hs₂)

/-! a new thing under a number that was kept for it -/
theorem ext_kept {σ : Ren} {b : Nat} (h : σ b = none) (t : Nat × Nat × Nat) : σ.Ext (σ.put b t) := fun x u hx => by
  have : x ≠ b := fun e => by rw [e, h] at hx; cases hx
  rw [Ren.put_other σ t this]; exact hx
theorem HR.kept {n : Base} {X Y : Nat → Prop} {σ : Ren} {H : AH} {w : World} (hr : HR ⟨n, X⟩ σ H w) {b : Nat} (hb : X b) (o : Obj) (m : Nat) (hY : ∀ x, Y x → X x ∧ x ≠ b) : HR ⟨n, Y⟩ (σ.put b (w.heap.size, 0, m)) H (w.alloc o) := by
  obtain ⟨hlt, hno⟩ := hr.hol b hb
  have hext := ext_kept hno (w.heap.size, 0, m)
  have hne : ∀ x y, H.blocks.get x = some y → x ≠ b := fun x y hx e => by
    obtain ⟨c, d, m', hs, _⟩ := hr.blk x y hx
    rw [e, hno] at hs; cases hs
  refine ⟨base_size hr.base (by rw [alloc_size]; exact Nat.le_succ _) ((Below.refl n.n w).alloc hr.base.1 o).block, fun x y hx => ?_, fun b₁ b₂ x₁ x₂ c d₁ m₁ d₂ m₂ h1 h2 s1 s2 => ?_, fun x t hx => ?_, fun x c d m' hx => ?_, fun x hx => ?_⟩
  · obtain ⟨c, d, m', hs, hn, hB⟩ := hr.blk x y hx
    refine ⟨c, d, m', hext _ _ hs, hn, ?_⟩
    rw [Below.heap_alloc w o c (hr.img x c d m' hs)]
    exact hB.mono hext
  · rw [Ren.put_other _ _ (hne _ _ h1)] at s1
    rw [Ren.put_other _ _ (hne _ _ h2)] at s2
    exact hr.inj b₁ b₂ x₁ x₂ c d₁ m₁ d₂ m₂ h1 h2 s1 s2
  · by_cases e : x = b
    · rw [e]; exact hlt
    · rw [Ren.put_other _ _ e] at hx; exact hr.dom x t hx
  · have hz := alloc_size w o
    by_cases e : x = b
    · rw [e, Ren.put_self] at hx
      injection hx with hx
      injection hx with hx _
      omega
    · rw [Ren.put_other _ _ e] at hx
      have := hr.img x c d m' hx
      omega
  · obtain ⟨h1, h2⟩ := hY x hx
    rw [Ren.put_other _ _ h2]; exact hr.hol x h1
theorem Step.kept {n : Base} {X Y : Nat → Prop} {σ : Ren} {H : AH} {w : World} (hr : HR ⟨n, X⟩ σ H w) {b : Nat} (hb : X b) (o : Obj) (m low : Nat) : Step ⟨n, Y⟩ σ w low (σ.put b (w.heap.size, 0, m)) (w.alloc o) := by
  obtain ⟨hlt, hno⟩ := hr.hol b hb
  refine ⟨ext_kept hno _, (Below.refl n.n w).alloc hr.base.1 o, fun c hc _ => ⟨Below.heap_alloc w o c hc, fun x d m' hx => ?_⟩⟩
  by_cases e : x = b
  · rw [e, Ren.put_self] at hx
    injection hx with hx
    injection hx with hx _
    omega
  · rwa [Ren.put_other _ _ e] at hx
/-- the thing under b stands as it was made -/
def Whole (n : Base) (σ : Ren) (w : World) (b : Nat) (x : ABlk) : Prop :=
  ∃ cf m, σ b = some (cf, 0, m) ∧ n.Own cf ∧ cf < w.heap.size ∧ BR σ 0 m (w.heap[cf]?) x ∧ ∀ b' d' m', σ b' = some (cf, d', m') → b' = b
theorem Whole.calm {n0 : Bs} {n : Base} {σ σ' : Ren} {w w' : World} {low b : Nat} {x : ABlk} (h : Whole n σ w b x) (st : Step n0 σ w low σ' w') (hl : b < low) : Whole n σ' w' b x := by
  obtain ⟨cf, m, h1, h2, h3, h4, h5⟩ := h
  have hk := st.keep cf h3 (.inr fun b' d' m' hb => by rw [h5 b' d' m' hb]; exact hl)
  refine ⟨cf, m, st.ext _ _ h1, h2, Nat.lt_of_lt_of_le h3 st.below.size, by rw [hk.1]; exact h4.mono st.ext, fun b' d' m' hb => h5 b' d' m' (hk.2 b' d' m' hb)⟩
theorem Whole.safe {n : Nat} {Q X : Nat → Prop} {s : Base} {σ σ' : Ren} {w w' : World} {low b : Nat} {x : ABlk} (h : Whole s σ w b x) (st : Step ⟨⟨n, Q⟩, X⟩ σ w low σ' w') (hq : ∀ cf m, σ b = some (cf, 0, m) → Q cf) : Whole s σ' w' b x := by
  obtain ⟨cf, m, h1, h2, h3, h4, h5⟩ := h
  have hk := st.keep cf h3 (.inl (hq cf m h1))
  exact ⟨cf, m, st.ext _ _ h1, h2, Nat.lt_of_lt_of_le h3 st.below.size, by rw [hk.1]; exact h4.mono st.ext, fun b' d' m' hb => h5 b' d' m' (hk.2 b' d' m' hb)⟩
/-- more blocks that nobody touches, none of them of the heap's -/
theorem HR.addQ {n : Nat} {Q Q' X : Nat → Prop} {σ : Ren} {H : AH} {w : World} (hr : HR ⟨⟨n, Q⟩, X⟩ σ H w) (hs : ∀ c, Q' c → c < w.heap.size) (hn : ∀ b x c d m, H.blocks.get b = some x → σ b = some (c, d, m) → ¬ Q' c) : HR ⟨⟨n, fun c => Q c ∨ Q' c⟩, X⟩ σ H w :=
  ⟨⟨hr.base.1, fun c hc => hc.elim (hr.base.2.1 c) (hs c), hr.base.2.2⟩, fun b x hb => let ⟨c, d, m, h1, h2, h3⟩ := hr.blk b x hb; ⟨c, d, m, h1, ⟨h2.1, fun hq => hq.elim h2.2 (hn b x c d m hb h1)⟩, h3⟩, hr.inj, hr.dom, hr.img, hr.hol⟩
theorem Whole.kept {n : Base} {X : Nat → Prop} {σ : Ren} {H : AH} {w : World} (hr : HR ⟨n, X⟩ σ H w) {b b' : Nat} (hb : X b) (o : Obj) (m : Nat) {x : ABlk} (h : Whole n σ w b' x) : Whole n (σ.put b (w.heap.size, 0, m)) (w.alloc o) b' x := by
  exact h.calm (Step.kept (Y := X) hr hb o m (b' + 1)) (Nat.lt_succ_self _)
theorem Whole.new {n : Base} {X : Nat → Prop} {σ : Ren} {H : AH} {w : World} (hr : HR ⟨n, X⟩ σ H w) {b : Nat} (o : Obj) (m : Nat) {x : ABlk} (h : BR (σ.put b (w.heap.size, 0, m)) 0 m (some o) x) : Whole n (σ.put b (w.heap.size, 0, m)) (w.alloc o) b x := by
  refine ⟨w.heap.size, m, Ren.put_self _ _ _, hr.own_new, by rw [alloc_size]; exact Nat.lt_succ_self _, by rw [alloc_self]; exact h, fun b' d' m' hb' => ?_⟩
  by_cases e : b' = b
  · exact e
  · rw [Ren.put_other _ _ e] at hb'
    exact absurd (hr.img b' _ d' m' hb') (Nat.lt_irrefl _)
theorem HR.addOne {n : Base} {X : Nat → Prop} {σ : Ren} {H : AH} {w : World} (hr : HR ⟨n, X⟩ σ H w) {b : Nat} {x : ABlk} (h : Whole n σ w b x) : HR ⟨n, X⟩ σ ⟨H.blocks.set b x, H.next, H.low⟩ w := by
  obtain ⟨cf, m, h1, h2, h3, h4, h5⟩ := h
  refine ⟨hr.base, fun b' y hy => ?_, fun b₁ b₂ x₁ x₂ c d₁ m₁ d₂ m₂ g1 g2 s1 s2 => ?_, hr.dom, hr.img, hr.hol⟩
  · simp only [Tr.get_set] at hy
    by_cases e : b' = b
    · rw [if_pos e] at hy
      obtain rfl := Option.some.inj hy
      exact ⟨cf, 0, m, by rw [e]; exact h1, h2, h4⟩
    · rw [if_neg e] at hy
      exact hr.blk b' y hy
  · simp only [Tr.get_set] at g1 g2
    by_cases e1 : b₁ = b
    · rw [e1, h1] at s1
      injection s1 with s1
      injection s1 with s1 _
      rw [← s1] at s2
      rw [e1]; exact (h5 _ _ _ s2).symm
    · by_cases e2 : b₂ = b
      · rw [e2, h1] at s2
        injection s2 with s2
        injection s2 with s2 _
        rw [← s2] at s1
        rw [e2]; exact h5 _ _ _ s1
      · rw [if_neg e1] at g1
        rw [if_neg e2] at g2
        exact hr.inj b₁ b₂ x₁ x₂ c d₁ m₁ d₂ m₂ g1 g2 s1 s2
theorem HR.addFs {n : Base} {X : Nat → Prop} {σ : Ren} {H : AH} {w : World} (hr : HR ⟨n, X⟩ σ H w) {g : Nat → Option ABlk} {base : Nat} : ∀ {fs : List Nat}, (∀ f ∈ fs, ∀ x, g f = some x → Whole n σ w (base + f) x) → HR ⟨n, X⟩ σ (addFs g base fs H) w
  | [], _ => hr
  | f :: fs, h => by
    have ih := HR.addFs hr (g := g) (base := base) (fs := fs) fun k hk => h k (.tail _ hk)
    cases hg : g f with
    | none =>
      have e : Ax.addFs g base (f :: fs) H = Ax.addFs g base fs H := by
        show AH.mk (oc (g f) (addB g base fs H.blocks) (fun x => (addB g base fs H.blocks).set (Nat.add base f) x)) _ _ = _
        rw [hg]; rfl
      rw [e]; exact ih
    | some x =>
      have e : Ax.addFs g base (f :: fs) H = ⟨(Ax.addFs g base fs H).blocks.set (base + f) x, (Ax.addFs g base fs H).next, (Ax.addFs g base fs H).low⟩ := by
        show AH.mk (oc (g f) (addB g base fs H.blocks) (fun x => (addB g base fs H.blocks).set (Nat.add base f) x)) _ _ = _
        rw [hg]; rfl
      rw [e]
      exact ih.addOne (h f (.head _) x hg)

theorem HR.small {n0 : Bs} {σ : Ren} {H : AH} {w : World} (hr : HR n0 σ H w) (hb : H.next ≤ big) (bs : List Nat) : HR n0 σ (oneB bs H) w :=
  ⟨hr.base, fun b x h => hr.blk b x (pickB_get h).2, fun b₁ b₂ x₁ x₂ c d₁ m₁ d₂ m₂ h1 h2 => hr.inj b₁ b₂ x₁ x₂ c d₁ m₁ d₂ m₂ (pickB_get h1).2 (pickB_get h2).2, fun b t h => Nat.lt_of_lt_of_le (hr.dom b t h) hb, hr.img, fun b h => ⟨Nat.lt_of_lt_of_le (hr.hol b h).1 hb, (hr.hol b h).2⟩⟩
/-- only block k of the world is another one -/
theorem HR.aside {n0 : Bs} {σ : Ren} {H : AH} {w w' : World} (hr : HR n0 σ H w) {k : Nat} (hbl : ∀ q, q < n0.n.n → w'.heap[q]? = w.heap[q]?) (hq : ∀ q, q ≠ k → w'.heap[q]? = w.heap[q]?) (hsz : w.heap.size ≤ w'.heap.size) (hne : ∀ b x c d m, H.blocks.get b = some x → σ b = some (c, d, m) → c ≠ k) : HR n0 σ H w' := by
  refine ⟨base_size hr.base hsz hbl, fun b x hx => ?_, hr.inj, hr.dom, fun b c d m h => Nat.lt_of_lt_of_le (hr.img b c d m h) hsz, hr.hol⟩
  obtain ⟨c, d, m, hs, hn, hB⟩ := hr.blk b x hx
  exact ⟨c, d, m, hs, hn, by rw [hq c (hne b x c d m hx hs)]; exact hB⟩
theorem Whole.aside {n : Base} {σ : Ren} {w w' : World} {b : Nat} {x : ABlk} (h : Whole n σ w b x) {k : Nat} (hq : ∀ q, q ≠ k → w'.heap[q]? = w.heap[q]?) (hsz : w.heap.size ≤ w'.heap.size) {b0 d m : Nat} (h0 : σ b0 = some (k, d, m)) (hne : b0 ≠ b) : Whole n σ w' b x := by
  obtain ⟨cf, m', h1, h2, h3, h4, h5⟩ := h
  have : cf ≠ k := fun e => hne (h5 b0 d m (by rw [e]; exact h0))
  exact ⟨cf, m', h1, h2, Nat.lt_of_lt_of_le h3 hsz, by rw [hq cf this]; exact h4, h5⟩
/-- a store, and all that it leaves -/
theorem storeOp_ok {P : Program} {N : Nat} {n0 : Bs} {σ : Ren} {H H' : AH} {w : World} {call : CallT} {o : Oper} {a : Act} {T : Tr Value} (hT : TR σ N T a.tmps) (hr : HR n0 σ H w) (hop : opOk o.op = true) {t : TypeId} {x y : Operand} (ho : o.op = .store t x y) {v : Value}
    (h : evalOp P call o.op o.type T H = some (v, H')) {ad : Nat × Nat} (had : addrOf (ev T x) = some ad) :
    (∀ c, o.op ≠ .defer c) ∧ ∃ k d m w', σ ad.1 = some (k, d, m) ∧ (∃ z, H.blocks.get ad.1 = some z) ∧ (execOp a.eval o).run P w = .ok .skip w' ∧ v = undef ∧ HR n0 σ H' w' ∧ Step n0 σ w H'.low σ w' ∧ ∀ q, q ≠ k → w'.heap[q]? = w.heap[q]? := by
  obtain ⟨dst, op, ty, pos, after, guard⟩ := o
  obtain rfl : op = .store t x y := ho
  simp only [opOk, Bool.and_eq_true] at hop
  obtain ⟨rfl, a', ha', k, d, m, w', h1, h2, h3, h4, h5, h6⟩ := store_exact (P := P) hr h (ev_ok (a := a) hT hop.1) (ev_ok (a := a) hT hop.2)
  rw [had] at ha'
  obtain rfl := Option.some.inj ha'
  exact ⟨fun c => by simp, k, d, m, w', h1, h2, by simp only [execOp, Sem.run_bind, h3, Result.andThen_ok, Sem.run_pure], rfl, h4, h5, h6⟩

theorem HR.aside2 {n : Base} {X Y : Nat → Prop} {σ σ' : Ren} {H : AH} {w w' : World} (hr : HR ⟨n, X⟩ σ H w) {k : Nat} (hbl : ∀ q, q < n.n → w'.heap[q]? = w.heap[q]?) (hext : σ.Ext σ') (hq : ∀ q, q < w.heap.size → q ≠ k → w'.heap[q]? = w.heap[q]?) (hsz : w.heap.size ≤ w'.heap.size) (hne : ∀ b x c d m, H.blocks.get b = some x → σ b = some (c, d, m) → c ≠ k)
    (hd : ∀ b t, σ' b = some t → b < H.next) (hi : ∀ b c d m, σ' b = some (c, d, m) → c < w'.heap.size) (hY : ∀ b, Y b → b < H.next ∧ σ' b = none) : HR ⟨n, Y⟩ σ' H w' := by
  refine ⟨base_size hr.base hsz hbl, fun b x hx => ?_, fun b₁ b₂ x₁ x₂ c d₁ m₁ d₂ m₂ h1 h2 s1 s2 => ?_, hd, hi, hY⟩
  · obtain ⟨c, d, m, hs, hn, hB⟩ := hr.blk b x hx
    exact ⟨c, d, m, hext _ _ hs, hn, by rw [hq c (hr.img b c d m hs) (hne b x c d m hx hs)]; exact hB.mono hext⟩
  · obtain ⟨c₁, d₁', m₁', hs₁, _, _⟩ := hr.blk b₁ x₁ h1
    obtain ⟨c₂, d₂', m₂', hs₂, _, _⟩ := hr.blk b₂ x₂ h2
    have e1 := hext _ _ hs₁
    have e2 := hext _ _ hs₂
    rw [s1] at e1
    rw [s2] at e2
    injection e1 with e1
    injection e1 with e1 _
    injection e2 with e2
    injection e2 with e2 _
    exact hr.inj b₁ b₂ x₁ x₂ c d₁' m₁' d₂' m₂' h1 h2 (by rw [e1]; exact hs₁) (by rw [e2]; exact hs₂)
theorem Whole.aside2 {n : Base} {σ σ' : Ren} {w w' : World} {b : Nat} {x : ABlk} (h : Whole n σ w b x) {k : Nat} (hext : σ.Ext σ') (hq : ∀ q, q < w.heap.size → q ≠ k → w'.heap[q]? = w.heap[q]?) (hsz : w.heap.size ≤ w'.heap.size) {b0 d m : Nat} (h0 : σ b0 = some (k, d, m)) (hne : b0 ≠ b)
    (hnew : ∀ b' c d' m', σ' b' = some (c, d', m') → σ b' = some (c, d', m') ∨ c = k ∨ w.heap.size ≤ c) : Whole n σ' w' b x := by
  obtain ⟨cf, m', h1, h2, h3, h4, h5⟩ := h
  have : cf ≠ k := fun e => hne (h5 b0 d m (by rw [e]; exact h0))
  refine ⟨cf, m', hext _ _ h1, h2, Nat.lt_of_lt_of_le h3 hsz, by rw [hq cf h3 this]; exact h4.mono hext, fun b' d' m'' hb => ?_⟩
  rcases hnew _ _ _ _ hb with h | h | h
  · exact h5 _ _ _ h
  · exact absurd h this
  · exact absurd h3 (Nat.not_lt.2 h)
theorem exB_congr {op : Op} {T T' : Tr Value} (h : ∀ x ∈ op.operands, ev T x = ev T' x) : exB op T = exB op T' := by
  unfold exB
  cases op with
  | store t x y =>
    have : ev T x = ev T' x := h x (by simp [Op.operands])
    simp only [this]
  | call c =>
    simp only
    unfold exCall
    split
    · rename_i t u s y hb ht hl
      have : ev T s = ev T' s := h s (by
        have hs : s ∈ c.args.toList := by rw [hl]; simp
        simp [Op.operands, Call.operands, hb] at *
        exact hs)
      rw [this]
    · rfl
  | _ => rfl
/-- an operation that may write one block alone, and all that it leaves -/
theorem exactOp_ok {P : Program} {N : Nat} {n0 : Bs} {σ : Ren} {H H' : AH} {w : World} {call : CallT} {o : Oper} {a : Act} {T : Tr Value} (hT : TR σ N T a.tmps) (hr : HR n0 σ H w) (hop : opOk o.op = true) {b : Nat} (hb : exB o.op T = some b) (hh : hasB H b = true) {v : Value}
    (h : evalOp P call o.op o.type T H = some (v, H')) :
    (∀ c, o.op ≠ .defer c) ∧ ∃ k d m w' v' σ', σ b = some (k, d, m) ∧ (∃ z, H.blocks.get b = some z) ∧ ((execOp a.eval o).run P w = .ok (.value v') w' ∨ ((execOp a.eval o).run P w = .ok .skip w' ∧ v' = undef)) ∧ VR σ' v v' ∧ HR n0 σ' H' w' ∧ Step n0 σ w H'.low σ' w' ∧
      (∀ q, q < w.heap.size → q ≠ k → w'.heap[q]? = w.heap[q]?) ∧ ∀ b' c d' m', σ' b' = some (c, d', m') → σ b' = some (c, d', m') ∨ c = k ∨ w.heap.size ≤ c := by
  have hz : ∃ z, H.blocks.get b = some z := by
    unfold hasB at hh
    cases hz : H.blocks.get b with
    | none => rw [hz] at hh; cases hh
    | some z => exact ⟨z, rfl⟩
  unfold exB at hb
  split at hb
  · rename_i t x y e
    obtain ⟨ad, had, hb⟩ := oc_eq_some hb
    obtain rfl := Option.some.inj hb
    obtain ⟨hd, k, d, m, w', g1, g2, r1, r2, g3, g4, g5⟩ := storeOp_ok (P := P) hT hr hop e h had
    exact ⟨hd, k, d, m, w', undef, σ, g1, hz, .inr ⟨r1, rfl⟩, by rw [r2]; exact vr_undef σ, g3, g4, fun q _ hq => g5 q hq, fun _ _ _ _ h => .inl h⟩
  · rename_i c e
    unfold exCall at hb
    split at hb
    · rename_i t u s y hcl hts hargs
      obtain ⟨dst, op, ty, pos, after, guard⟩ := o
      obtain rfl : op = .call c := e
      have hop : callOpds c = true := hop
      have h : opCall P call c ty T H = some (v, H') := h
      unfold opCall at h
      unfold callOpds at hop
      rw [hcl] at h hop
      simp only at h hop
      have hl := evL_ok (a := a) hT hop
      rw [hts, hargs] at h
      rw [hargs] at hl
      have h : opAppend3 P t u (ev T s) (ev T y) H = some (v, H') := h
      have hl : VRs σ [ev T s, ev T y] [a.eval s, a.eval y] := hl
      cases hl with
      | cons hs hl =>
        cases hl with
        | cons hy _ =>
          obtain ⟨v', σ', w', r1, r2, r3, r4, k, d, m, r5, r6, r7⟩ := append_exact (P := P) (ty := ty) hr h hs hy hb
          refine ⟨fun c => by simp, k, d, m, w', v', σ', r5, hz, .inl ?_, r2, r3, r4, r6, r7⟩
          have e1 : c.args.map a.eval = #[a.eval s, a.eval y] := by
            apply Array.ext'
            rw [Array.toList_map, hargs]; rfl
          have e2 : c.argTypes = #[t, u] := by
            apply Array.ext'
            rw [hts]
          simp only [execOp, resolve, hcl, invoke, Sem.run_bind, Sem.run_pure, Result.andThen_ok, e1, e2]
          have e3 : ∀ consts, builtin .append #[t, u] ty consts #[a.eval s, a.eval y] = (do pure (.value (← Builtin.append_ #[t, u] ty #[a.eval s, a.eval y]))) := fun _ => rfl
          simp [e3, Sem.run_bind, r1]
    · cases hb
  · cases hb
theorem mem_not {P : Program} {op : Op} (h : isMem P op = true) : isFlt op = false ∧ isChg op = false := by
  cases op <;> first | exact ⟨rfl, rfl⟩ | cases h

/-! the rows of the plan -/
def Seen (p : Plan) (ops : List Oper) (f c : Nat) : Prop := ∃ i, i < ops.length ∧ chgAt ops i = true ∧ p.n i < c ∧ p.before f i = true
theorem seenBy_not {p : Plan} {ops : List Oper} {f c : Nat} (h : seenBy p ops f c = false) : ¬ Seen p ops f c := by
  rintro ⟨i, h1, h2, h3, h4⟩
  unfold seenBy at h
  rw [List.any_eq_false] at h
  refine h i (by simpa using h1) ?_
  simp only [Bool.and_eq_true]
  exact ⟨⟨h2, by simpa [Nat.blt_eq] using h3⟩, h4⟩
structure Row (p : Plan) (ops : List Oper) (j : Nat) (o : Oper) : Prop where
  edge : ∀ e ∈ o.after.toList, Region.binds .any e = true → e.on < j
  mask : p.m j = edgeMask p.ms o.after.toList
  next : p.n (j + 1) = if isChg o.op = true then p.n j + 1 else p.n j
  le : p.c j ≤ p.n j
  full : isChg o.op = true → p.c j = p.n j
  pair : ∀ i, i < j → (p.before i j = true ∨ apartAt ops i j = true) ∧ (chgAt ops i = true → (p.before i j = true ↔ p.n i < p.c j))
  news : ∀ f ∈ p.f j, f < j ∧ p.before f j = true ∧ ¬ Seen p ops f (p.c j)
  wide : isFlt o.op = true → j < p.wd
theorem row_of {p : Plan} {ops : List Oper} {j : Nat} (h : rowOk p ops j = true) : ∃ o, ops[j]? = some o ∧ Row p ops j o := by
  unfold rowOk at h
  split at h
  · cases h
  · rename_i o ho
    simp only [Bool.and_eq_true] at h
    obtain ⟨⟨⟨⟨⟨⟨⟨h1, h2⟩, h3⟩, h4⟩, h5⟩, h6⟩, h7⟩, h8⟩ := h
    refine ⟨o, ho, ⟨fun e he hb => ?_, Nat.eq_of_beq_eq_true h2, ?_, ble_le h4, fun hc => ?_, fun i hi => ?_, fun f hf => ?_, fun hf => ?_⟩⟩
    · have := List.all_eq_true.1 h1 e he
      simp only [Bool.or_eq_true, Bool.not_eq_true'] at this
      rcases this with h | h
      · rw [hb] at h; cases h
      · exact blt_lt h
    · have := Nat.eq_of_beq_eq_true h3
      rw [this]
      cases isChg o.op <;> rfl
    · rw [hc] at h5
      exact Nat.eq_of_beq_eq_true (by simpa using h5)
    · have := List.all_eq_true.1 h6 i (by simpa using hi)
      unfold pairOk at this
      simp only [Bool.and_eq_true, Bool.or_eq_true, Bool.not_eq_true'] at this
      refine ⟨this.1, fun hc => ?_⟩
      rcases this.2 with h | h
      · rw [hc] at h; cases h
      · have h := eq_of_beq h
        rw [h]
        exact ⟨blt_lt, fun h => by simpa [Nat.blt_eq] using h⟩
    · have := List.all_eq_true.1 h7 f hf
      simp only [newOk, Bool.and_eq_true, Bool.not_eq_true'] at this
      exact ⟨blt_lt this.1.1, this.1.2, seenBy_not this.2⟩
    · rw [hf] at h8
      exact blt_lt (by simpa using h8)

section rows
variable {p : Plan} {ops : List Oper} (hrow : ∀ j, j < ops.length → ∃ o, ops[j]? = some o ∧ Row p ops j o)
include hrow
theorem n_mono {i j : Nat} (hij : i ≤ j) (hj : j ≤ ops.length) : p.n i ≤ p.n j := by
  induction j with
  | zero => have : i = 0 := by omega
            subst this; exact Nat.le_refl _
  | succ j ih =>
    by_cases e : i = j + 1
    · subst e; exact Nat.le_refl _
    · obtain ⟨o, ho, r⟩ := hrow j (by omega)
      have := ih (by omega) (by omega)
      rw [r.next]
      split <;> omega
theorem n_lt {i j : Nat} (hij : i < j) (hj : j ≤ ops.length) (hc : chgAt ops i = true) : p.n i < p.n j := by
  obtain ⟨o, ho, r⟩ := hrow i (by omega)
  have hco : isChg o.op = true := by simpa [chgAt, ho] using hc
  have h1 : p.n (i + 1) = p.n i + 1 := by rw [r.next, if_pos hco]
  have := n_mono hrow (i := i + 1) (j := j) hij hj
  omega
theorem n_hit (h0 : p.n 0 = 0) {c j : Nat} (hj : j ≤ ops.length) (hc : c < p.n j) : ∃ i, i < j ∧ chgAt ops i = true ∧ p.n i = c := by
  induction j with
  | zero => omega
  | succ j ih =>
    obtain ⟨o, ho, r⟩ := hrow j (by omega)
    by_cases h : c < p.n j
    · obtain ⟨i, h1, h2, h3⟩ := ih (by omega) h
      exact ⟨i, by omega, h2, h3⟩
    · rw [r.next] at hc
      split at hc
      · rename_i hco
        exact ⟨j, by omega, by simpa [chgAt, ho] using hco, by omega⟩
      · omega
/-- who is before a ready one has come -/
theorem before_listed {S : Nat → Bool} (hcl : ∀ j o, S j = true → ops[j]? = some o → ∀ e ∈ o.after.toList, Region.binds .any e = true → S e.on = true) :
    ∀ (j : Nat), j < ops.length → (∀ o, ops[j]? = some o → ∀ e ∈ o.after.toList, Region.binds .any e = true → S e.on = true) → ∀ i, p.before i j = true → S i = true := by
  intro j
  induction j using Nat.strongRecOn with
  | _ j ih =>
    intro hj hed i hi
    obtain ⟨o, ho, r⟩ := hrow j hj
    unfold Plan.before at hi
    rw [r.mask] at hi
    obtain ⟨e, he, hb, hcase⟩ := testBit_edgeMask hi
    have hS := hed o ho e he hb
    rcases hcase with rfl | hcase
    · exact hS
    · exact ih e.on (r.edge e he hb) (by have := r.edge e he hb; omega) (fun o' ho' e' he' hb' => hcl e.on o' hS ho' e' he' hb') i hcase
theorem before_lt : ∀ (j : Nat), j < ops.length → ∀ i, p.before i j = true → i < j := by
  intro j
  induction j using Nat.strongRecOn with
  | _ j ih =>
    intro hj i hi
    obtain ⟨o, ho, r⟩ := hrow j hj
    unfold Plan.before at hi
    rw [r.mask] at hi
    obtain ⟨e, he, hb, hcase⟩ := testBit_edgeMask hi
    have h1 := r.edge e he hb
    rcases hcase with rfl | hcase
    · exact h1
    · exact Nat.lt_trans (ih e.on h1 (by omega) i hcase) h1
end rows

end Go.Proofs.Ythomkiindjhdmaa.Ax
