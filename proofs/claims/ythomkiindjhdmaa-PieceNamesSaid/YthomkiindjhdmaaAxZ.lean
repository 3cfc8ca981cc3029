/-
  Bytes made a string. Own work, plain lemmas.
-/
import Derived.Test.YthomkiindjhdmaaAxL
set_option linter.unusedSimpArgs false
set_option linter.unusedVariables false
set_option linter.unnecessarySimpa false
set_option linter.deprecated false
set_option linter.unusedSectionVars false
namespace Go.Proofs.Ythomkiindjhdmaa.Ax
open Go.RowKit
variable [Tabs]

def byteOf (v : Value) : Option UInt8 :=
  match v with
  | .int .u8 n => some (UInt8.ofNat n.toNat)
  | _ => none
noncomputable def bytesL (l : List Value) : Option (List UInt8) := @List.rec Value (fun _ => Option (List UInt8)) (some []) (fun v _ ih => oc (byteOf v) none fun x => oc ih none fun r => some (x :: r)) l
theorem bytesL_cons (v : Value) (l : List Value) : bytesL (v :: l) = oc (byteOf v) none fun x => oc (bytesL l) none fun r => some (x :: r) := rfl
theorem byteOf_eq {v : Value} {x : UInt8} (h : byteOf v = some x) : ∃ n, v = .int .u8 n ∧ x = UInt8.ofNat n.toNat := by
  unfold byteOf at h
  split at h
  · obtain rfl := Option.some.inj h; exact ⟨_, rfl, rfl⟩
  · cases h
theorem bytesL_vr {σ : Ren} {l l' : List Value} (hl : VRs σ l l') : ∀ {r : List UInt8}, bytesL l = some r → bytesL l' = some r := by
  induction hl with
  | nil => intro r h; exact h
  | cons hv _ ih =>
    intro r h
    rw [bytesL_cons] at h
    obtain ⟨x, hx, h1⟩ := oc_eq_some h
    obtain ⟨q, hq, h2⟩ := oc_eq_some h1
    obtain ⟨n, rfl, _⟩ := byteOf_eq hx
    clear h h1
    cases hv
    rw [bytesL_cons, hx, oc_some, ih hq]
    exact h2

noncomputable def isBytes (P : Program) (s d : TypeId) : Bool := oc (elemB P s) false fun e => oc (P.underlying e) false fun u => oc (P.underlying d) false fun v => (match u with | .int .u8 => true | _ => false) && (match v with | .string => true | _ => false)
noncomputable def opBytes (P : Program) (s d : TypeId) (x : Value) (H : AH) : VRes :=
  sel (isBytes P s d) (oc (sliceOf x) none fun a => oc (blkCells H a.1) none fun y => oc (rdT y.1 a.2.2.1 a.2.1) none fun l => oc (bytesL l) none fun r => some (.string ⟨⟨r⟩⟩, H)) none
theorem push_all : ∀ (r : List UInt8) (s : List UInt8), r.foldl (fun (a : ByteArray) x => a.push x) ⟨⟨s⟩⟩ = ⟨⟨s ++ r⟩⟩
  | [], s => by simp
  | x :: r, s => by
    have := push_all r (s ++ [x])
    simp only [List.foldl_cons]
    have e : (⟨⟨s⟩⟩ : ByteArray).push x = ⟨⟨s ++ [x]⟩⟩ := by simp [ByteArray.push]
    rw [e, this]; simp
theorem run_bytesLoop {P : Program} {w : World} {f : Value → ByteArray → Sem (ForInStep ByteArray)} (hf : ∀ n s, f (.int .u8 n) s = pure (.yield (s.push (UInt8.ofNat n.toNat)))) : ∀ {l : List Value} {r : List UInt8} {s : ByteArray}, bytesL l = some r →
    (forIn (m := Sem) l s f).run P w = .ok (r.foldl (fun (a : ByteArray) x => a.push x) s) w
  | [], r, s, h => by
    obtain rfl := Option.some.inj h
    simp
  | v :: l, r, s, h => by
    rw [bytesL_cons] at h
    obtain ⟨x, hx, h⟩ := oc_eq_some h
    obtain ⟨q, hq, h⟩ := oc_eq_some h
    obtain rfl := Option.some.inj h
    obtain ⟨n, rfl, rfl⟩ := byteOf_eq hx
    have ih := run_bytesLoop (P := P) (w := w) hf (s := s.push (UInt8.ofNat n.toNat)) hq
    simp only [List.forIn_cons, hf, Sem.run_bind, Sem.run_pure, Result.andThen_ok, ih, List.foldl_cons]
theorem bytes_ok {P : Program} {n0 : Bs} {σ : Ren} {H H' : AH} {w : World} (hr : HR n0 σ H w) {s d : TypeId} {x x' v : Value} (h : opBytes P s d x H = some (v, H')) (hx : VR σ x x') : GivesP P n0 σ w H (convert s d x') v H' := by
  obtain ⟨hb, h⟩ := sel_none h
  obtain ⟨a, ha, h⟩ := oc_eq_some h
  obtain ⟨y, hy, h⟩ := oc_eq_some h
  obtain ⟨l, hl, h⟩ := oc_eq_some h
  obtain ⟨r, hrr, h⟩ := oc_eq_some h
  obtain ⟨rfl, rfl⟩ := Prod.mk.inj (Option.some.inj h)
  obtain ⟨c, dd, m, o', k', hσ, rfl, ho⟩ := sliceOf_vr ha hx
  unfold isBytes at hb
  cases he : elemB P s with
  | none => rw [he] at hb; cases hb
  | some e =>
  rw [he, oc_some] at hb
  cases hu : P.underlying e with
  | none => rw [hu] at hb; cases hb
  | some u =>
  rw [hu, oc_some] at hb
  cases hd : P.underlying d with
  | none => rw [hd] at hb; cases hb
  | some q =>
  rw [hd, oc_some] at hb
  simp only [Bool.and_eq_true] at hb
  obtain ⟨hb1, hb2⟩ := hb
  have hu' : P.underlying e = some (.int .u8) := by
    rw [hu]
    split at hb1
    · rfl
    · cases hb1
  have hd' : P.underlying d = some .string := by
    rw [hd]
    split at hb2
    · rfl
    · cases hb2
  have hs' := elemB_eq he
  have hload : ∃ l', VRs σ l l' ∧ (loadCells ⟨c, o', none⟩ a.2.2.1).run P w = .ok ⟨l'⟩ w := by
    by_cases h0 : a.2.2.1 = 0
    · rw [h0] at hl ⊢
      obtain rfl := Option.some.inj hl
      exact ⟨[], .nil, by simp [loadCells, loadCellsFrom]⟩
    · rw [ho (by omega)]
      exact run_loadCells hr (blkCells_eq hy) hσ hl
  obtain ⟨l', h1, h2⟩ := hload
  refine GivesP.pure (v' := .string ⟨⟨r⟩⟩) hr ?_ (.string _)
  have e0 : r.foldl (fun (a : ByteArray) x => a.push x) .empty = ⟨⟨r⟩⟩ := by
    exact push_all r []
  simp only [convert, Sem.run_bind, run_underlying hs', run_underlying hd', Result.andThen_ok, run_underlying hu', Conv.bytesToString, h2]
  simp only [List.forIn_toArray]
  rw [run_bytesLoop (fun _ _ => rfl) (bytesL_vr h1 hrr), e0]
  rfl

/-- a slice of bytes that are all 0, as a text -/
def zerX (y : ABlk) : Option Nat :=
  match y with
  | .zeros m _ => some m
  | _ => none
def zerS (x : Value) : Option (Nat × Nat × Nat) :=
  match x with
  | .slice (some ⟨b, 0, none⟩) n k => some (b, n, k)
  | _ => none
noncomputable def zerOf (H : AH) (x : Value) : Option Nat :=
  oc (zerS x) none fun q => oc (H.blocks.get q.1) none fun y => oc (zerX y) none fun m => sel (Nat.ble q.2.1 m && Nat.blt q.2.2 big) (some q.2.1) none
theorem zerOf_eq {H : AH} {x : Value} {n : Nat} (h : zerOf H x = some n) : ∃ b k m e, x = .slice (some ⟨b, 0, none⟩) n k ∧ H.blocks.get b = some (.zeros m e) ∧ n ≤ m ∧ k < big := by
  obtain ⟨q, hq, h⟩ := oc_eq_some h
  obtain ⟨y, hy, h⟩ := oc_eq_some h
  obtain ⟨m, hm, h⟩ := oc_eq_some h
  obtain ⟨hn, h⟩ := sel_none h
  obtain rfl := Option.some.inj h
  simp only [Bool.and_eq_true] at hn
  have e1 : x = .slice (some ⟨q.1, 0, none⟩) q.2.1 q.2.2 := by
    unfold zerS at hq
    split at hq
    · obtain rfl := Option.some.inj hq; rfl
    · cases hq
  have e2 : ∃ e, y = .zeros m e := by
    unfold zerX at hm
    split at hm
    · obtain rfl := Option.some.inj hm; exact ⟨_, rfl⟩
    · cases hm
  obtain ⟨e, rfl⟩ := e2
  exact ⟨_, _, _, _, e1, hy, Nat.le_of_ble_eq_true hn.1, blt_lt hn.2⟩
theorem bytesL_zero : ∀ n : Nat, bytesL (List.replicate n (.int .u8 0)) = some (List.replicate n 0)
  | 0 => rfl
  | n + 1 => by rw [List.replicate_succ, bytesL_cons, bytesL_zero n]; rfl
theorem zer_ok {P : Program} {n0 : Bs} {σ : Ren} {H : AH} {w : World} (hr : HR n0 σ H w) {s d : TypeId} (hb : isBytes P s d = true) {x x' : Value} {n : Nat} (h : zerOf H x = some n) (hx : VR σ x x') : GivesP P n0 σ w H (convert s d x') (.chan (some n)) H := by
  unfold isBytes at hb
  cases he : elemB P s with
  | none => rw [he] at hb; cases hb
  | some e =>
  rw [he, oc_some] at hb
  cases hu : P.underlying e with
  | none => rw [hu] at hb; cases hb
  | some u =>
  rw [hu, oc_some] at hb
  cases hd : P.underlying d with
  | none => rw [hd] at hb; cases hb
  | some q =>
  rw [hd, oc_some] at hb
  simp only [Bool.and_eq_true] at hb
  obtain ⟨hb1, hb2⟩ := hb
  have hu' : P.underlying e = some (.int .u8) := by
    rw [hu]
    split at hb1
    · rfl
    · cases hb1
  have hd' : P.underlying d = some .string := by
    rw [hd]
    split at hb2
    · rfl
    · cases hb2
  have hs' := elemB_eq he
  obtain ⟨b, k, m, e2, rfl, hy, hn1, hn2⟩ := zerOf_eq h
  clear h
  obtain ⟨c, dd, mm, hσ, _, C, h1, h2, h3, h4, h5⟩ := hr.blk _ _ hy
  subst h3
  cases hx with
  | @slice _ c' d' m' _ _ _ hs hk =>
    rw [hσ] at hs
    injection hs with hs
    injection hs with a1 hs
    injection hs with a2 a3
    subst a1 a2 a3
    have hload : (loadCells ⟨c, 0 + 0, none⟩ n).run P w = .ok ⟨List.replicate n (.int .u8 0)⟩ w := by
      unfold loadCells
      have := run_loadCellsFrom (P := P) (w := w) (c := c) (o := 0 + 0) (List.replicate n (.int .u8 0)) 0 #[] fun j v hv => by
        rw [List.getElem?_replicate] at hv
        by_cases hj : j < n
        · rw [if_pos hj] at hv
          obtain rfl := Option.some.inj hv
          rw [cell_of_block h1]
          have := h5 j (by omega)
          simpa using this
        · rw [if_neg hj] at hv; cases hv
      rw [List.length_replicate] at this
      rw [this]; simp
    refine GivesP.pure (v' := .string (zstr n)) hr ?_ (.zeros n)
    have e0 : (List.replicate n (0 : UInt8)).foldl (fun (a : ByteArray) x => a.push x) .empty = zstr n := push_all _ []
    simp only [convert, Sem.run_bind, run_underlying hs', run_underlying hd', Result.andThen_ok, run_underlying hu', Conv.bytesToString, hload]
    simp only [List.forIn_toArray]
    rw [run_bytesLoop (fun _ _ => rfl) (bytesL_zero n), e0]
    rfl
  | sliceU => exact absurd hn2 (Nat.not_lt.2 (Nat.le_add_right _ _))
  | sliceL => exact absurd hn2 (Nat.not_lt.2 (bigL_ge _ _))
def zlen (x : Value) : Option Nat :=
  match x with
  | .chan (some n) => some n
  | _ => none
def isStrD (d : TypeDesc) : Bool :=
  match d with
  | .string => true
  | _ => false
noncomputable def strB (P : Program) (t : TypeId) : Bool := oc (P.underlying t) false isStrD
theorem zlen_ok {P : Program} {n0 : Bs} {σ : Ren} {H : AH} {w : World} (hr : HR n0 σ H w) {t ty : TypeId} {x x' : Value} {n : Nat} (h : zlen x = some n) (ht : strB P t = true) (hx : VR σ x x') : GivesP P n0 σ w H (Builtin.len_ #[t] ty #[x']) (.int .i64 n) H := by
  unfold zlen at h
  split at h
  · obtain rfl := Option.some.inj h
    cases hx
    unfold strB at ht
    cases hu : P.underlying t with
    | none => rw [hu] at ht; cases ht
    | some d =>
      rw [hu, oc_some] at ht
      unfold isStrD at ht
      split at ht
      · refine GivesP.pure hr ?_ (.int _ _)
        simp [Builtin.len_, run_underlying hu, goInt, zstr_size]
      · cases ht
  · cases h

end Go.Proofs.Ythomkiindjhdmaa.Ax
