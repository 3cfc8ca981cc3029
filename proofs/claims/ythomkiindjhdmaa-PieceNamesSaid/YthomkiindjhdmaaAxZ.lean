/-
  Bytes made a string. Own work, plain lemmas.
-/
import Derived.Test.YthomkiindjhdmaaAxL
set_option linter.unusedSimpArgs false
set_option linter.unusedVariables false
set_option linter.unnecessarySimpa false
set_option linter.deprecated false
set_option linter.unusedSectionVars false
namespace Go.Proofs.Ythomkiindjhdmaa.Ax
open Go.RowKit
variable [Tabs]

def byteOf (v : Value) : Option UInt8 :=
  match v with
  | .int .u8 n => some (UInt8.ofNat n.toNat)
  | _ => none
noncomputable def bytesL (l : List Value) : Option (List UInt8) := @List.rec Value (fun _ => Option (List UInt8)) (some []) (fun v _ ih => oc (byteOf v) none fun x => oc ih none fun r => some (x :: r)) l
theorem bytesL_cons (v : Value) (l : List Value) : bytesL (v :: l) = oc (byteOf v) none fun x => oc (bytesL l) none fun r => some (x :: r) := rfl
theorem byteOf_eq {v : Value} {x : UInt8} (h : byteOf v = some x) : ∃ n, v = .int .u8 n ∧ x = UInt8.ofNat n.toNat := by
  unfold byteOf at h
  split at h
  · obtain rfl := Option.some.inj h; exact ⟨_, rfl, rfl⟩
  · cases h
theorem bytesL_vr {σ : Ren} {l l' : List Value} (hl : VRs σ l l') : ∀ {r : List UInt8}, bytesL l = some r → bytesL l' = some r := by
  induction hl with
  | nil => intro r h; exact h
  | cons hv _ ih =>
    intro r h
    rw [bytesL_cons] at h
    obtain ⟨x, hx, h1⟩ := oc_eq_some h
    obtain ⟨q, hq, h2⟩ := oc_eq_some h1
    obtain ⟨n, rfl, _⟩ := byteOf_eq hx
    clear h h1
    cases hv
    rw [bytesL_cons, hx, oc_some, ih hq]
    exact h2

noncomputable def isBytes (P : Program) (s d : TypeId) : Bool := oc (elemB P s) false fun e => oc (P.underlying e) false fun u => oc (P.underlying d) false fun v => (match u with | .int .u8 => true | _ => false) && (match v with | .string => true | _ => false)
noncomputable def opBytes (P : Program) (s d : TypeId) (x : Value) (H : AH) : VRes :=
  sel (isBytes P s d) (oc (sliceOf x) none fun a => oc (blkCells H a.1) none fun y => oc (rdT y.1 a.2.2.1 a.2.1) none fun l => oc (bytesL l) none fun r => some (.string ⟨⟨r⟩⟩, H)) none
theorem push_all : ∀ (r : List UInt8) (s : List UInt8), r.foldl (fun (a : ByteArray) x => a.push x) ⟨⟨s⟩⟩ = ⟨⟨s ++ r⟩⟩
  | [], s => by simp
  | x :: r, s => by
    have := push_all r (s ++ [x])
    simp only [List.foldl_cons]
    have e : (⟨⟨s⟩⟩ : ByteArray).push x = ⟨⟨s ++ [x]⟩⟩ := by simp [ByteArray.push]
    rw [e, this]; simp
theorem run_bytesLoop {P : Program} {w : World} {f : Value → ByteArray → Sem (ForInStep ByteArray)} (hf : ∀ n s, f (.int .u8 n) s = pure (.yield (s.push (UInt8.ofNat n.toNat)))) : ∀ {l : List Value} {r : List UInt8} {s : ByteArray}, bytesL l = some r →
    (forIn (m := Sem) l s f).run P w = .ok (r.foldl (fun (a : ByteArray) x => a.push x) s) w
  | [], r, s, h => by
    obtain rfl := Option.some.inj h
    simp
  | v :: l, r, s, h => by
    rw [bytesL_cons] at h
    obtain ⟨x, hx, h⟩ := oc_eq_some h
    obtain ⟨q, hq, h⟩ := oc_eq_some h
    obtain rfl := Option.some.inj h
    obtain ⟨n, rfl, rfl⟩ := byteOf_eq hx
    have ih := run_bytesLoop (P := P) (w := w) hf (s := s.push (UInt8.ofNat n.toNat)) hq
    simp only [List.forIn_cons, hf, Sem.run_bind, Sem.run_pure, Result.andThen_ok, ih, List.foldl_cons]
theorem bytes_ok {P : Program} {n0 : Bs} {σ : Ren} {H H' : AH} {w : World} (hr : HR n0 σ H w) {s d : TypeId} {x x' v : Value} (h : opBytes P s d x H = some (v, H')) (hx : VR σ x x') : GivesP P n0 σ w H (convert s d x') v H' := by
  obtain ⟨hb, h⟩ := sel_none h
  obtain ⟨a, ha, h⟩ := oc_eq_some h
  obtain ⟨y, hy, h⟩ := oc_eq_some h
  obtain ⟨l, hl, h⟩ := oc_eq_some h
  obtain ⟨r, hrr, h⟩ := oc_eq_some h
  obtain ⟨rfl, rfl⟩ := Prod.mk.inj (Option.some.inj h)
  obtain ⟨c, dd, m, o', k', hσ, rfl, ho⟩ := sliceOf_vr ha hx
  unfold isBytes at hb
  cases he : elemB P s with
  | none => rw [he] at hb; cases hb
  | some e =>
  rw [he, oc_some] at hb
  cases hu : P.underlying e with
  | none => rw [hu] at hb; cases hb
  | some u =>
  rw [hu, oc_some] at hb
  cases hd : P.underlying d with
  | none => rw [hd] at hb; cases hb
  | some q =>
  rw [hd, oc_some] at hb
  simp only [Bool.and_eq_true] at hb
  obtain ⟨hb1, hb2⟩ := hb
  have hu' : P.underlying e = some (.int .u8) := by
    rw [hu]
    split at hb1
    · rfl
    · cases hb1
  have hd' : P.underlying d = some .string := by
    rw [hd]
    split at hb2
    · rfl
    · cases hb2
  have hs' := elemB_eq he
  have hload : ∃ l', VRs σ l l' ∧ (loadCells ⟨c, o', none⟩ a.2.2.1).run P w = .ok ⟨l'⟩ w := by
    by_cases h0 : a.2.2.1 = 0
    · rw [h0] at hl ⊢
      obtain rfl := Option.some.inj hl
      exact ⟨[], .nil, by simp [loadCells, loadCellsFrom]⟩
    · rw [ho (by omega)]
      exact run_loadCells hr (blkCells_eq hy) hσ hl
  obtain ⟨l', h1, h2⟩ := hload
  refine GivesP.pure (v' := .string ⟨⟨r⟩⟩) hr ?_ (.string _)
  have e0 : r.foldl (fun (a : ByteArray) x => a.push x) .empty = ⟨⟨r⟩⟩ := by
    exact push_all r []
  simp only [convert, Sem.run_bind, run_underlying hs', run_underlying hd', Result.andThen_ok, run_underlying hu', Conv.bytesToString, h2]
  simp only [List.forIn_toArray]
  rw [run_bytesLoop (fun _ _ => rfl) (bytesL_vr h1 hrr), e0]
  rfl

end Go.Proofs.Ythomkiindjhdmaa.Ax
