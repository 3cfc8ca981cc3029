/-
  Told runs: maps from numbers. Own work, plain lemmas. No condition.
-/
import Derived.Test.YtkdeabcaijfdfaaSxG
set_option linter.unusedSimpArgs false
set_option linter.unusedVariables false
set_option linter.unnecessarySimpa false
set_option linter.deprecated false
set_option linter.unusedSectionVars false

/-! Told runs: maps from numbers. Own work, plain lemmas. -/
namespace Go.Proofs.Ytkdeabcaijfdfaa.Ax
open Go.RowKit
def mputL {α : Type} (k : Int) (v : α) : List (Int × α) → List (Int × α)
  | [] => [(k, v)]
  | p :: l => if p.1 = k then (k, v) :: l else p :: mputL k v l
def mgetL {α : Type} (k : Int) : List (Int × α) → Option α
  | [] => none
  | p :: l => if p.1 = k then some p.2 else mgetL k l
theorem mputL_mem {α : Type} {k x : Int} {v : α} : ∀ {l : List (Int × α)}, x ∈ (mputL k v l).map Prod.fst → x = k ∨ x ∈ l.map Prod.fst
  | [], h => by simpa [mputL] using h
  | p :: l, h => by
    unfold mputL at h
    split at h
    · rename_i e
      simp only [List.map_cons, List.mem_cons] at h ⊢
      rcases h with h | h
      · exact .inl h
      · exact .inr (.inr h)
    · simp only [List.map_cons, List.mem_cons] at h ⊢
      rcases h with h | h
      · exact .inr (.inl h)
      · rcases mputL_mem h with h | h
        · exact .inl h
        · exact .inr (.inr h)
theorem mputL_nodup {α : Type} {k : Int} {v : α} : ∀ {l : List (Int × α)}, (l.map Prod.fst).Nodup → ((mputL k v l).map Prod.fst).Nodup
  | [], _ => by simp [mputL]
  | p :: l, h => by
    unfold mputL
    simp only [List.map_cons, List.nodup_cons] at h
    split
    · rename_i e
      simp only [List.map_cons, List.nodup_cons]
      exact ⟨e ▸ h.1, h.2⟩
    · rename_i e
      simp only [List.map_cons, List.nodup_cons]
      refine ⟨fun hm => ?_, mputL_nodup h.2⟩
      rcases mputL_mem hm with hm | hm
      · exact e hm
      · exact h.1 hm
structure MapI (α : Type) where
  l : List (Int × α)
  nd : (l.map Prod.fst).Nodup
def mNil {α : Type} : MapI α := ⟨[], .nil⟩
def mPut {α : Type} (M : MapI α) (k : Int) (v : α) : MapI α := ⟨mputL k v M.l, mputL_nodup M.nd⟩
def mGet {α : Type} (M : MapI α) (k : Int) : Option α := mgetL k M.l
def mGetI (M : MapI Int) (k : Int) : Int := (mGet M k).getD 0
def mHas {α : Type} (M : MapI α) (k : Int) : Bool := (mGet M k).isSome
def mLen {α : Type} (M : MapI α) : Nat := M.l.length
variable [Tabs]
def mEsL {α : Type} (f : α → Value) : Nat → List (Int × α) → List MapEntry
  | _, [] => []
  | i, p :: l => ⟨.int .i64 p.1, f p.2, i⟩ :: mEsL f (i + 1) l
def mEs {α : Type} (f : α → Value) (M : MapI α) : List MapEntry := mEsL f 0 M.l
theorem mEsL_len {α : Type} (f : α → Value) : ∀ (i : Nat) (l : List (Int × α)), (mEsL f i l).length = l.length
  | _, [] => rfl
  | i, _ :: l => congrArg (· + 1) (mEsL_len f (i + 1) l)
theorem mLen_ok {α : Type} (f : α → Value) (M : MapI α) : (Value.int .i64 (.ofNat (mEs f M).length)) = Value.int .i64 ((mLen M : Nat) : Int) := by
  show Value.int .i64 (.ofNat (mEsL f 0 M.l).length) = _
  rw [mEsL_len]
  rfl
abbrev mvI (x : Int) : Value := .int .i64 x
abbrev mvU (_ : Unit) : Value := .agg #[]
def mpos {α : Type} (k : Int) : Nat → List (Int × α) → Option (Nat × α)
  | _, [] => none
  | j, p :: l => if p.1 = k then some (j, p.2) else mpos k (j + 1) l
theorem mpos_cons {α : Type} (k : Int) (j : Nat) (p : Int × α) (l : List (Int × α)) : mpos k j (p :: l) = if p.1 = k then some (j, p.2) else mpos k (j + 1) l := rfl
theorem mpos_get {α : Type} {k : Int} : ∀ {j : Nat} {l : List (Int × α)}, (mpos k j l).map (·.2) = mgetL k l
  | j, [] => rfl
  | j, p :: l => by
    unfold mpos mgetL
    split
    · rfl
    · exact mpos_get
theorem mpos_none {α : Type} {k : Int} : ∀ {j : Nat} {l : List (Int × α)}, k ∉ l.map Prod.fst → mpos k j l = none
  | j, [], _ => rfl
  | j, p :: l, h => by
    simp only [List.map_cons, List.mem_cons, not_or] at h
    unfold mpos
    rw [if_neg (fun e => h.1 e.symm)]
    exact mpos_none h.2
theorem findU_pos {α : Type} (f : α → Value) {k : Int} : ∀ {l : List (Int × α)} (i j : Nat), (l.map Prod.fst).Nodup → findU (.int .i64) (.int .i64 k) (mEsL f i l) j = some ((mpos k j l).map fun p => (p.1, f p.2))
  | [], i, j, _ => rfl
  | p :: l, i, j, h => by
    simp only [List.map_cons, List.nodup_cons] at h
    show findU _ _ (⟨.int .i64 p.1, f p.2, i⟩ :: mEsL f (i + 1) l) j = _
    rw [findU_cons, findU_pos f (i + 1) (j + 1) h.2]
    have hs : Instr.sameNow (.int .i64) (.int .i64 k) (.int .i64 p.1) = some (k == p.1) := by
      unfold Instr.sameNow
      simp
    show oc (Instr.sameNow (.int .i64) (.int .i64 k) (.int .i64 p.1)) none _ = _
    rw [hs, oc_some, oc_some, mpos_cons]
    by_cases e : p.1 = k
    · rw [if_pos e, show (k == p.1) = true by simp [e], sel_true, mpos_none (e ▸ h.1)]
      rfl
    · rw [if_neg e, show (k == p.1) = false by simp; exact fun h => e h.symm, sel_false]
theorem mlookI {P : Program} {e : TypeId} (hz : zeroV P e = some (.int .i64 0)) (M : MapI Int) (k : Int) : ∀ H : AH, oc (findU (.int .i64) (.int .i64 k) (mEs mvI M) 0) none (fun r => lookRes P e false H r) = some (.int .i64 (mGetI M k), H) := fun H => by
  show oc (findU (.int .i64) (.int .i64 k) (mEsL mvI 0 M.l) 0) none _ = _
  rw [findU_pos mvI 0 0 M.nd, oc_some]
  have h : (mpos k 0 M.l).map (·.2) = mGet M k := mpos_get
  unfold mGetI
  rw [← h]
  cases mpos k 0 M.l with
  | none =>
    show oc (zeroV P e) none _ = _
    rw [hz, oc_some]; rfl
  | some p => rfl
theorem mlookI2 {P : Program} {e : TypeId} (hz : zeroV P e = some (.int .i64 0)) (M : MapI Int) (k : Int) : ∀ H : AH, oc (findU (.int .i64) (.int .i64 k) (mEs mvI M) 0) none (fun r => lookRes P e true H r) = some (.tuple #[.int .i64 (mGetI M k), .bool (mHas M k)], H) := fun H => by
  show oc (findU (.int .i64) (.int .i64 k) (mEsL mvI 0 M.l) 0) none _ = _
  rw [findU_pos mvI 0 0 M.nd, oc_some]
  have h : (mpos k 0 M.l).map (·.2) = mGet M k := mpos_get
  unfold mGetI mHas
  rw [← h]
  cases mpos k 0 M.l with
  | none =>
    show oc (zeroV P e) none _ = _
    rw [hz, oc_some]; rfl
  | some p => rfl
theorem mlookU2 {P : Program} {e : TypeId} (hz : zeroV P e = some (.agg #[])) (M : MapI Unit) (k : Int) : ∀ H : AH, oc (findU (.int .i64) (.int .i64 k) (mEs mvU M) 0) none (fun r => lookRes P e true H r) = some (.tuple #[.agg #[], .bool (mHas M k)], H) := fun H => by
  show oc (findU (.int .i64) (.int .i64 k) (mEsL mvU 0 M.l) 0) none _ = _
  rw [findU_pos mvU 0 0 M.nd, oc_some]
  have h : (mpos k 0 M.l).map (·.2) = mGet M k := mpos_get
  unfold mHas
  rw [← h]
  cases mpos k 0 M.l with
  | none =>
    show oc (zeroV P e) none _ = _
    rw [hz, oc_some]; rfl
  | some p => rfl
theorem mEsL_put {α : Type} (f : α → Value) (k : Int) (v : α) : ∀ (l : List (Int × α)) (i j : Nat), mEsL f i (mputL k v l) = match mpos k j l with
    | none => mEsL f i l ++ [⟨.int .i64 k, f v, i + l.length⟩]
    | some p => (mEsL f i l).modify (p.1 - j) fun e => { e with key := .int .i64 k, val := f v }
  | [], i, j => rfl
  | p :: l, i, j => by
    have hj : ∀ {j : Nat} {l : List (Int × α)} {q : Nat × α}, mpos k j l = some q → j ≤ q.1 := by
      intro j l
      induction l generalizing j with
      | nil => intro q h; cases h
      | cons a l ih =>
        intro q h
        unfold mpos at h
        split at h
        · obtain rfl := oI h; exact Nat.le_refl _
        · have := ih h; omega
    have ih := mEsL_put f k v l (i + 1) (j + 1)
    unfold mputL mpos
    by_cases e : p.1 = k
    · rw [if_pos e, if_pos e]
      simp [mEsL]
    · rw [if_neg e, if_neg e]
      show ⟨.int .i64 p.1, f p.2, i⟩ :: mEsL f (i + 1) (mputL k v l) = _
      rw [ih]
      cases h : mpos k (j + 1) l with
      | none =>
        show _ = (⟨.int .i64 p.1, f p.2, i⟩ :: mEsL f (i + 1) l) ++ _
        simp only [List.length_cons, List.cons_append, show i + 1 + l.length = i + (l.length + 1) by omega]
      | some q =>
        have := hj h
        show _ = (⟨.int .i64 p.1, f p.2, i⟩ :: mEsL f (i + 1) l).modify (q.1 - j) _
        rw [show q.1 - j = (q.1 - (j + 1)) + 1 by omega, List.modify_succ_cons]
theorem mputL_length {α : Type} {k : Int} {v : α} : ∀ {l : List (Int × α)} {j : Nat}, (mputL k v l).length = match mpos k j l with
    | none => l.length + 1
    | some _ => l.length
  | [], j => rfl
  | p :: l, j => by
    unfold mputL mpos
    by_cases e : p.1 = k
    · rw [if_pos e, if_pos e]; rfl
    · rw [if_neg e, if_neg e, List.length_cons, mputL_length (l := l) (j := j + 1)]
      cases mpos k (j + 1) l <;> rfl
theorem mput_ok {α : Type} (f : α → Value) (M : MapI α) (k : Int) (v : α) : oc (findU (.int .i64) (.int .i64 k) (mEs f M) 0) none (fun r => some (updEs (mEs f M, mLen M) (.int .i64 k) (f v) r)) = some (.map (mEs f (mPut M k v)) (mLen (mPut M k v))) := by
  show oc (findU (.int .i64) (.int .i64 k) (mEsL f 0 M.l) 0) none _ = _
  rw [findU_pos f 0 0 M.nd, oc_some]
  show some (updEs (mEsL f 0 M.l, M.l.length) _ _ _) = some (.map (mEsL f 0 (mputL k v M.l)) (mputL k v M.l).length)
  rw [mEsL_put f k v M.l 0 0, mputL_length (l := M.l) (j := 0)]
  cases mpos k 0 M.l with
  | none =>
    show some (ABlk.map _ _) = _
    rw [Nat.zero_add]
  | some p => rfl
theorem mflat {α : Type} (f : α → Value) (hf : ∀ x, plain (f x) = true) (M : MapI α) (c : Nat) : FlatB (.map (mEs f M) c) := by
  show ∀ e ∈ mEsL f 0 M.l, _
  have : ∀ (l : List (Int × α)) (i : Nat), ∀ e ∈ mEsL f i l, plain e.val = true := by
    intro l
    induction l with
    | nil => intro i e h; cases h
    | cons a l ih =>
      intro i e h
      rcases List.mem_cons.1 h with rfl | h
      · exact hf _
      · exact ih _ e h
  exact this _ _
end Go.Proofs.Ytkdeabcaijfdfaa.Ax

/-! Told runs: the keys of a map from numbers, sorted. Own work, plain lemmas. -/
namespace Go.Proofs.Ytkdeabcaijfdfaa.Ax
open Go.RowKit
def insK (x : Int) : List Int → List Int
  | [] => [x]
  | y :: l => if x < y then x :: y :: l else y :: insK x l
def srtK : List Int → List Int
  | [] => []
  | x :: l => insK x (srtK l)
def mKeys {α : Type} (M : MapI α) : List Int := srtK (M.l.map Prod.fst)
def mWf {α : Type} (M : MapI α) : Bool := (M.l.map Prod.fst).all fun x => decide (-9223372036854775808 ≤ x ∧ x ≤ 9223372036854775807)
variable [Tabs]
theorem ltZ_dec (a b : Int) : ltZ a b = decide (a < b) := by
  cases a with
  | ofNat x => cases b with
    | ofNat y =>
      show Nat.blt x y = _
      rw [Bool.eq_iff_iff, decide_eq_true_iff]
      constructor
      · intro h; exact Int.ofNat_lt.2 (blt_lt h)
      · intro h; rw [Nat.blt_eq]; exact Int.ofNat_lt.1 h
    | negSucc y => show false = _; exact (decide_eq_false (fun h => absurd (Int.lt_trans h (Int.negSucc_lt_zero y)) (Int.not_lt.2 (Int.natCast_nonneg x)))).symm
  | negSucc x => cases b with
    | ofNat y => show true = _; exact (decide_eq_true (Int.lt_of_lt_of_le (Int.negSucc_lt_zero x) (Int.natCast_nonneg y))).symm
    | negSucc y =>
      show Nat.blt y x = _
      rw [Bool.eq_iff_iff, decide_eq_true_iff]
      constructor
      · intro h; have := blt_lt h; omega
      · intro h; rw [Nat.blt_eq]; omega
theorem insZ_eq (x : Int) : ∀ l, insZ x l = insK x l
  | [] => rfl
  | y :: l => by
    unfold insZ insK
    rw [ltZ_dec, insZ_eq x l]
    by_cases h : x < y
    · rw [if_pos h, decide_eq_true h]; rfl
    · rw [if_neg h, decide_eq_false h]; rfl
theorem sortZ_eq : ∀ l, sortZ l = srtK l
  | [] => rfl
  | x :: l => by
    unfold sortZ srtK
    rw [sortZ_eq l, insZ_eq]
theorem ascZ_cons {x y : Int} {l : List Int} (h : x < y) (k : ascZ (y :: l) = true) : ascZ (x :: y :: l) = true := by
  show (ltZ x y && ascZ (y :: l)) = true
  rw [ltZ_dec, decide_eq_true h, k]; rfl
theorem ascZ_tail {x : Int} {l : List Int} (h : ascZ (x :: l) = true) : ascZ l = true := by
  cases l with
  | nil => rfl
  | cons y l =>
    simp only [ascZ, bA] at h
    exact h.2
theorem ascZ_ins {x : Int} : ∀ {l : List Int}, x ∉ l → ascZ l = true → ascZ (insK x l) = true
  | [], _, _ => rfl
  | y :: l, hx, h => by
    unfold insK
    split
    · rename_i hlt; exact ascZ_cons hlt h
    · rename_i hlt
      have hne : x ≠ y := fun e => hx (e ▸ List.mem_cons_self ..)
      have ih := ascZ_ins (x := x) (fun hm => hx (List.mem_cons_of_mem _ hm)) (ascZ_tail h)
      cases l with
      | nil => exact ascZ_cons (by omega) rfl
      | cons z l =>
        have hz : y < z := ascZ_all h z (List.mem_cons_self ..)
        unfold insK at ih ⊢
        split
        · rename_i h2
          rw [if_pos h2] at ih
          exact ascZ_cons (by omega) ih
        · rename_i h2
          rw [if_neg h2] at ih
          exact ascZ_cons hz ih
theorem ascZ_srt : ∀ {l : List Int}, l.Nodup → ascZ (srtK l) = true
  | [], _ => rfl
  | x :: l, h => by
    rw [List.nodup_cons] at h
    refine ascZ_ins (fun hm => h.1 ?_) (ascZ_srt h.2)
    rw [← sortZ_eq] at hm
    exact (sortZ_perm l).mem_iff.1 hm
theorem wfZ_all : ∀ {l : List Int}, (∀ x ∈ l, (Lit.int .i64 x).wf = true) → wfZ l = true
  | [], _ => rfl
  | x :: l, h => by
    show ((Lit.int .i64 x).wf && wfZ l) = true
    rw [h x (List.mem_cons_self ..), wfZ_all fun y hy => h y (List.mem_cons_of_mem _ hy)]; rfl
theorem mEs_all {α : Type} (f : α → Value) : ∀ (i : Nat) (l : List (Int × α)), zAll (mEsL f i l) = some (l.map Prod.fst)
  | _, [] => rfl
  | i, p :: l => by
    show oc (kInt (.int .i64 p.1)) none _ = _
    show oc (zAll (mEsL f (i + 1) l)) none _ = _
    rw [mEs_all f (i + 1) l]; rfl
theorem okZ_keys {α : Type} {M : MapI α} (h1 : mWf M = true) (h2 : mLen M * 8 ≤ 140737488355328) : okZ (sortZ (M.l.map Prod.fst)) = true := by
  unfold okZ
  have hl : (sortZ (M.l.map Prod.fst)).length = mLen M := by rw [(sortZ_perm _).length_eq, List.length_map]; rfl
  rw [bA, bA]
  refine ⟨by rw [sortZ_eq]; exact ascZ_srt M.nd, wfZ_all fun x hx => ?_, ?_⟩
  · have hx := (sortZ_perm _).mem_iff.1 hx
    have := of_decide_eq_true (List.all_eq_true.1 h1 x hx)
    simp only [Lit.wf, IntKind.min, IntKind.max, IntKind.signed, IntKind.bits]
    simp
    omega
  · unfold fits
    rw [hl, bA]
    exact ⟨by rw [Nat.ble_eq]; omega, by rw [Nat.ble_eq]; show mLen M ≤ maxLen; unfold maxLen; omega⟩
theorem HR.less {n0 : Bs} {σ : Ren} {H : AH} {w : World} (hr : HR n0 σ H w) {t : Tr ABlk} (ht : ∀ b x, t.get b = some x → H.blocks.get b = some x) : HR n0 σ ⟨t, H.next, H.low⟩ w :=
  ⟨hr.base, fun b x h => hr.blk b x (ht b x h), fun b₁ b₂ x₁ x₂ c d₁ m₁ d₂ m₂ h1 h2 => hr.inj b₁ b₂ x₁ x₂ c d₁ m₁ d₂ m₂ (ht _ _ h1) (ht _ _ h2), hr.dom, hr.img, hr.hol, hr.frz⟩
theorem CallGo.less {P : Program} {n0 : Bs} {σ : Ren} {w : World} {v : Value} {H' : AH} {args' : Array Value} {g : FuncId} (h : CallGo P n0 σ w v H' args' (.func g)) {t : Tr ABlk} (ht : ∀ b x, t.get b = some x → H'.blocks.get b = some x) : CallGo P n0 σ w v ⟨t, H'.next, H'.low⟩ args' (.func g) := by
  refine ⟨h.1, fun n => CallsIn.mono (h.2 n) ?_⟩
  rintro e w' ⟨v', σ', rfl, q1, q2, q3⟩
  exact ⟨v', σ', rfl, q1, q2.less ht, q3⟩
theorem sB_some (k : Nat) (x : ABlk) (l : List (Nat × Option ABlk)) : sB ((k, some x) :: l) = (sB l).set k x := rfl
theorem sB_nil (b : Nat) : (sB []).get b = none := Tr.get_nil b
theorem mapArg1 (b : Nat) : mapArg [.map (some b)] = some b := rfl
theorem skK {P : Program} {s : SK} (hs : SKOK P s) {α : Type} (f : α → Value) (M : MapI α) : Gv P (.func s.fk) [.map (some 0)] ⟨sB [(0, some (.map (mEs f M) (mLen M)))], 1, 1⟩ (.func (.func s.fi) #[] #[.pointer (some ⟨1, 0, none⟩)]) ⟨sB [(1, some (.box (.map (some 0)) s.bt))], 2, 1⟩ := by
  intro n0 σ w fn' args' hfn hargs hr
  cases hfn
  refine (skKeys_ok hs (show skKeys s [.map (some 0)] ⟨sB [(0, some (.map (mEs f M) (mLen M)))], 1, 1⟩ = some (_, AH.push ⟨sB [(0, some (.map (mEs f M) (mLen M)))], 1, 1⟩ (.box (.map (some 0)) s.bt)) from rfl) hargs hr).less fun b x h => ?_
  rw [sB_some, Tr.get_set, sB_nil] at h
  unfold AH.push
  dsimp only
  rw [Tr.get_set]
  split at h
  · rename_i e; rw [if_pos e]; exact h
  · cases h
noncomputable def skH {α : Type} (s : SK) (f : α → Value) (M : MapI α) : AH := ⟨sB [(0, some (.box (.map (some 1)) s.bt)), (1, some (.map (mEs f M) (mLen M)))], 2, 2⟩
theorem skSort_run {P : Program} {s : SK} {α : Type} (f : α → Value) (M : MapI α) (h1 : mWf M = true) (h2 : mLen M * 8 ≤ 140737488355328) : skSortZ s [.func (.func s.fi) #[] #[.pointer (some ⟨0, 0, none⟩)]] (skH s f M) = sel (nilL (mKeys M)) (some (.slice none 0 0, skH s f M)) (some (.slice (some ⟨2, 0, none⟩) (mKeys M).length (Nat.add big 1), (skH s f M).push (.cells (layT (iv (mKeys M))) s.kt))) := by
  have e1 : seqArg s.fi [.func (.func s.fi) #[] #[.pointer (some ⟨0, 0, none⟩)]] = some 0 := by
    unfold seqArg
    simp
  unfold skSortZ
  have g0 : (skH s f M).blocks.get 0 = some (.box (.map (some 1)) s.bt) := by
    unfold skH
    rw [sB_some, Tr.get_set, if_pos rfl]
  have g1 : (skH s f M).blocks.get 1 = some (.map (mEs f M) (mLen M)) := by
    unfold skH
    rw [sB_some, Tr.get_set, if_neg (by decide), sB_some, Tr.get_set, if_pos rfl]
  have e3 : boxMap (.box (.map (some 1)) s.bt) = some 1 := rfl
  have e4 : mapOf (.map (mEs f M) (mLen M)) = some (mEs f M, mLen M) := rfl
  rw [e1, oc_some, g0, oc_some, e3, oc_some, g1, oc_some, e4, oc_some]
  show oc (zAll (mEsL f 0 M.l)) none _ = _
  rw [mEs_all, oc_some]
  unfold skEndZ
  rw [okZ_keys h1 h2, sel_true]
  have e2 : sortZ (M.l.map Prod.fst) = mKeys M := sortZ_eq _
  rw [e2, valsZ_eq]
  rfl
theorem skS0 {P : Program} {s : SK} (hs : SKOK P s) (hz : s.z = true) {α : Type} (f : α → Value) {M : MapI α} (h1 : mWf M = true) (h2 : mLen M * 8 ≤ 140737488355328) (h3 : mKeys M = []) : Gv P (.func s.fs) [.func (.func s.fi) #[] #[.pointer (some ⟨0, 0, none⟩)]] (skH s f M) (.slice none 0 0) ⟨sB [], 2, 2⟩ := by
  intro n0 σ w fn' args' hfn hargs hr
  cases hfn
  have h := skSort_run (P := P) (s := s) f M h1 h2
  rw [h3] at h
  exact (skSortZ_ok hs hz (h.trans rfl) hargs hr).less fun b x h => by rw [sB_nil] at h; cases h
theorem skS1 {P : Program} {s : SK} (hs : SKOK P s) (hz : s.z = true) {α : Type} (f : α → Value) {M : MapI α} (h1 : mWf M = true) (h2 : mLen M * 8 ≤ 140737488355328) {a : Int} {t : List Int} (h3 : mKeys M = a :: t) : Gv P (.func s.fs) [.func (.func s.fi) #[] #[.pointer (some ⟨0, 0, none⟩)]] (skH s f M) (.slice (some ⟨2, 0, none⟩) (a :: t).length (Nat.add big 1)) ⟨sB [(2, some (.cells (layT (iv (a :: t))) s.kt))], 3, 2⟩ := by
  intro n0 σ w fn' args' hfn hargs hr
  cases hfn
  have h := skSort_run (P := P) (s := s) f M h1 h2
  rw [h3] at h
  refine (skSortZ_ok hs hz (h.trans rfl) hargs hr).less fun b x h => ?_
  rw [sB_some, Tr.get_set, sB_nil] at h
  unfold AH.push
  dsimp only
  rw [Tr.get_set, show (skH s f M).next = 2 from rfl]
  split at h
  · rename_i e; rw [if_pos e]; exact h
  · cases h
end Go.Proofs.Ytkdeabcaijfdfaa.Ax
