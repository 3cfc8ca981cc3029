/-
  Places in memory, slices, literals. Own work, plain lemmas.
-/
import Derived.Test.YthomkiindjhdmaaAxF
set_option linter.unusedSimpArgs false
set_option linter.unusedVariables false
set_option linter.unnecessarySimpa false
set_option linter.deprecated false
set_option linter.unusedSectionVars false
namespace Go.Proofs.Ythomkiindjhdmaa.Ax
open Go.RowKit
variable [Tabs]

def fieldsOf (d : TypeDesc) : Option (Array Field) :=
  match d with
  | .struct fs => some fs
  | _ => none
noncomputable def fieldB (P : Program) (t : TypeId) (f : Nat) : Option Field := oc (P.underlying t) none fun d => oc (fieldsOf d) none fun fs => fs[f]?
noncomputable def fieldOff (P : Program) (t : TypeId) (f : Nat) : Option Nat := oc (fieldB P t f) none fun x => oc (sizeB P x.type) none fun n => sel (Nat.beq n 0) none (some x.offset)
noncomputable def opFieldAddr (P : Program) (t : TypeId) (p : Value) (f : Nat) (H : AH) : VRes := oc (addrOf p) none fun a => oc (fieldOff P t f) none fun o => some (.pointer (some ⟨a.1, Nat.add a.2 o, none⟩), H)
theorem fieldB_eq {P : Program} {t : TypeId} {f : Nat} {x : Field} (h : fieldB P t f = some x) : ∃ fs, P.underlying t = some (.struct fs) ∧ fs[f]? = some x := by
  obtain ⟨d, hd, h⟩ := oc_eq_some h
  obtain ⟨fs, hf, h⟩ := oc_eq_some h
  unfold fieldsOf at hf
  split at hf
  · obtain rfl := Option.some.inj hf; exact ⟨_, hd, h⟩
  · cases hf
theorem fieldAddr_ok {P : Program} {n0 : Bs} {σ : Ren} {H H' : AH} {w : World} (hr : HR n0 σ H w) {t : TypeId} {p p' v : Value} {f : Nat} (h : opFieldAddr P t p f H = some (v, H')) (hp : VR σ p p') : GivesP P n0 σ w H (Instr.fieldAt t p' f) v H' := by
  obtain ⟨a, ha, h⟩ := oc_eq_some h
  obtain ⟨o, ho, h⟩ := oc_eq_some h
  obtain ⟨rfl, rfl⟩ := Prod.mk.inj (Option.some.inj h)
  obtain ⟨c, d, m, hs, rfl⟩ := addrOf_vr ha hp
  obtain ⟨x, hx, ho⟩ := oc_eq_some ho
  obtain ⟨n, hn, ho⟩ := oc_eq_some ho
  obtain ⟨hz, ho⟩ := sel_none' ho
  obtain rfl := Option.some.inj ho
  obtain ⟨fs, hu, hf⟩ := fieldB_eq hx
  have hn0 : n ≠ 0 := fun e => by subst e; cases hz
  refine GivesP.pure (v' := .pointer (some ⟨c, d + a.2 + x.offset, none⟩)) hr ?_ ?_
  · simp [Instr.fieldAt, run_underlying hu, hf, Instr.sureAddr, fieldPlace, Sem.run_bind, run_sizeB hn, hn0, add_plain]
  · have := VR.ptr (σ := σ) (a.2 + x.offset) hs
    rwa [← Nat.add_assoc] at this

def elemOfD (d : TypeDesc) : Option TypeId :=
  match d with
  | .slice e => some e
  | _ => none
noncomputable def elemB (P : Program) (t : TypeId) : Option TypeId := oc (P.underlying t) none elemOfD
theorem elemB_eq {P : Program} {t e : TypeId} (h : elemB P t = some e) : P.underlying t = some (.slice e) := by
  obtain ⟨d, hd, h⟩ := oc_eq_some h
  unfold elemOfD at h
  split at h
  · obtain rfl := Option.some.inj h; exact hd
  · cases h
def arrOfD (d : TypeDesc) : Option (Nat × TypeId) :=
  match d with
  | .array n e => some (n, e)
  | _ => none
noncomputable def arrB (P : Program) (t : TypeId) : Option (Nat × TypeId) := oc (P.underlying t) none arrOfD
theorem arrB_eq {P : Program} {t : TypeId} {x : Nat × TypeId} (h : arrB P t = some x) : P.underlying t = some (.array x.1 x.2) := by
  obtain ⟨d, hd, h⟩ := oc_eq_some h
  unfold arrOfD at h
  split at h
  · obtain rfl := Option.some.inj h; exact hd
  · cases h

/-- an index, if it lies below n -/
def idx (v : Value) (n : Nat) : Option Nat :=
  match v with
  | .int _ (.ofNat k) => match Nat.blt k n with
    | true => some k
    | false => none
  | _ => none
theorem idx_eq {v : Value} {n k : Nat} (h : idx v n = some k) : ∃ kd, v = .int kd (k : Int) ∧ k < n := by
  unfold idx at h
  split at h
  · rename_i kd j
    split at h
    · rename_i hb
      obtain rfl := Option.some.inj h
      exact ⟨kd, rfl, by simpa [Nat.blt_eq] using hb⟩
    · cases h
  · cases h
def sliceOf (v : Value) : Option (Nat × Nat × Nat × Nat) :=
  match v with
  | .slice (some ⟨b, o, none⟩) n k => some (b, o, n, k)
  | _ => none
theorem sliceOf_eq {v : Value} {x : Nat × Nat × Nat × Nat} (h : sliceOf v = some x) : v = .slice (some ⟨x.1, x.2.1, none⟩) x.2.2.1 x.2.2.2 := by
  unfold sliceOf at h
  split at h
  · obtain rfl := Option.some.inj h; rfl
  · cases h
/-- a slice of length above 0: its first cell is known -/
theorem sliceOf_vr {σ : Ren} {v v' : Value} {x : Nat × Nat × Nat × Nat} (h : sliceOf v = some x) (hv : VR σ v v') : ∃ c d m o' k', σ x.1 = some (c, d, m) ∧ v' = .slice (some ⟨c, o', none⟩) x.2.2.1 k' ∧ (0 < x.2.2.1 → o' = d + x.2.1) := by
  rw [sliceOf_eq h] at hv
  generalize hk : x.2.2.2 = kk at hv
  cases hv with
  | @slice _ c d m o n k hs hk => exact ⟨c, d, m, _, _, hs, rfl, fun _ => rfl⟩
  | @sliceU _ c d m o o' n k' es hs hk ho hd hm => exact ⟨c, d, m, o', k', hs, rfl, fun hn => ho.resolve_left (by omega)⟩
  | @sliceL _ c d m o n k' es lb hs hk hl hm he => exact ⟨c, d, m, _, _, hs, rfl, fun _ => rfl⟩
noncomputable def opIndexSlice (P : Program) (t : TypeId) (x i : Value) (H : AH) : VRes :=
  oc (sliceOf x) none fun s => oc (idx i s.2.2.1) none fun k => oc (elemB P t) none fun e => oc (sizeB P e) none fun n => some (.pointer (some ⟨s.1, Nat.add s.2.1 (Nat.mul k n), none⟩), H)
theorem indexSlice_ok {P : Program} {n0 : Bs} {σ : Ren} {H H' : AH} {w : World} (hr : HR n0 σ H w) {t : TypeId} {x x' i i' v : Value} (h : opIndexSlice P t x i H = some (v, H')) (hx : VR σ x x') (hi : VR σ i i') : GivesP P n0 σ w H (Instr.indexAt t x' i') v H' := by
  obtain ⟨s, hs, h⟩ := oc_eq_some h
  obtain ⟨k, hk, h⟩ := oc_eq_some h
  obtain ⟨e, he, h⟩ := oc_eq_some h
  obtain ⟨n, hn, h⟩ := oc_eq_some h
  obtain ⟨rfl, rfl⟩ := Prod.mk.inj (Option.some.inj h)
  obtain ⟨kd, rfl, hlt⟩ := idx_eq hk
  cases hi
  obtain ⟨c, d, m, o', k', hσ, rfl, ho⟩ := sliceOf_vr hs hx
  obtain rfl := ho (by omega)
  have hu := elemB_eq he
  refine GivesP.pure (v' := .pointer (some ⟨c, d + s.2.1 + k * n, none⟩)) hr ?_ ?_
  · have h1 : (k : Int) < (s.2.2.1 : Int) := by omega
    simp [Instr.indexAt, asIntOf, run_underlying hu, Sem.run_bind, run_sizeB hn, h1, hlt, add_plain]
  · have := VR.ptr (σ := σ) (s.2.1 + k * n) hσ
    rwa [← Nat.add_assoc] at this
noncomputable def opIndexArr (P : Program) (t : TypeId) (x i : Value) (H : AH) : VRes :=
  oc (addrOf x) (oc (globOf x) none fun a => oc (arrB P t) none fun r => oc (idx i r.1) none fun k => oc (sizeB P r.2) none fun n => some (.pointer (some ⟨a.1, Nat.add a.2 (Nat.mul k n), some 0⟩), H)) fun a => oc (arrB P t) none fun r => oc (idx i r.1) none fun k => oc (sizeB P r.2) none fun n => some (.pointer (some ⟨a.1, Nat.add a.2 (Nat.mul k n), none⟩), H)
theorem indexArr_ok {P : Program} {n0 : Bs} {σ : Ren} {H H' : AH} {w : World} (hr : HR n0 σ H w) {t : TypeId} {x x' i i' v : Value} (h : opIndexArr P t x i H = some (v, H')) (hx : VR σ x x') (hi : VR σ i i') : GivesP P n0 σ w H (Instr.indexAt t x' i') v H' := by
  cases ha : addrOf x with
  | none =>
    unfold opIndexArr at h
    rw [ha, oc_none] at h
    obtain ⟨a, ha, h⟩ := oc_eq_some h
    obtain ⟨r, hu, h⟩ := oc_eq_some h
    obtain ⟨k, hk, h⟩ := oc_eq_some h
    obtain ⟨n, hn, h⟩ := oc_eq_some h
    obtain ⟨rfl, rfl⟩ := Prod.mk.inj (Option.some.inj h)
    obtain ⟨kd, rfl, hlt⟩ := idx_eq hk
    cases hi
    obtain rfl := globOf_vr ha hx
    have hu := arrB_eq hu
    refine GivesP.pure (v' := .pointer (some ⟨a.1, a.2 + k * n, none⟩)) hr ?_ (.glob _ _)
    have h1 : (k : Int) < (r.1 : Int) := by omega
    simp [Instr.indexAt, asIntOf, run_underlying hu, Sem.run_bind, run_sizeB hn, h1, hlt, add_plain, Instr.sureAddr]
  | some a =>
  unfold opIndexArr at h
  rw [ha, oc_some] at h
  obtain ⟨r, hu, h⟩ := oc_eq_some h
  obtain ⟨k, hk, h⟩ := oc_eq_some h
  obtain ⟨n, hn, h⟩ := oc_eq_some h
  obtain ⟨rfl, rfl⟩ := Prod.mk.inj (Option.some.inj h)
  obtain ⟨kd, rfl, hlt⟩ := idx_eq hk
  cases hi
  obtain ⟨c, d, m, hσ, rfl⟩ := addrOf_vr ha hx
  have hu := arrB_eq hu
  refine GivesP.pure (v' := .pointer (some ⟨c, d + a.2 + k * n, none⟩)) hr ?_ ?_
  · have h1 : (k : Int) < (r.1 : Int) := by omega
    simp [Instr.indexAt, asIntOf, run_underlying hu, Sem.run_bind, run_sizeB hn, h1, hlt, add_plain, Instr.sureAddr]
  · have := VR.ptr (σ := σ) (a.2 + k * n) hσ
    rwa [← Nat.add_assoc] at this

def isAddr (v : Value) : Bool :=
  match v with
  | .pointer _ => true
  | _ => false
noncomputable def opIndexAddr (P : Program) (t : TypeId) (x i : Value) (H : AH) : VRes := sel (isAddr x) (opIndexArr P t x i H) (opIndexSlice P t x i H)
theorem indexAddr_ok {P : Program} {n0 : Bs} {σ : Ren} {H H' : AH} {w : World} (hr : HR n0 σ H w) {t : TypeId} {x x' i i' v : Value} (h : opIndexAddr P t x i H = some (v, H')) (hx : VR σ x x') (hi : VR σ i i') : GivesP P n0 σ w H (Instr.indexAt t x' i') v H' := by
  rcases sel_eq_some h with ⟨_, h⟩ | ⟨_, h⟩
  · exact indexArr_ok hr h hx hi
  · exact indexSlice_ok hr h hx hi

def tupAt (v : Value) (i : Nat) : Option Value :=
  match v with
  | .tuple vs => vs.toList[i]?
  | _ => none
noncomputable def opExtract (v : Value) (i : Nat) (H : AH) : VRes := oc (tupAt v i) none fun u => some (u, H)
theorem extract_ok {P : Program} {n0 : Bs} {σ : Ren} {H H' : AH} {w : World} (hr : HR n0 σ H w) {x x' v : Value} {i : Nat} (h : opExtract x i H = some (v, H')) (hx : VR σ x x') : GivesP P n0 σ w H (Instr.extract x' i) v H' := by
  obtain ⟨u, hu, h⟩ := oc_eq_some h
  obtain ⟨rfl, rfl⟩ := Prod.mk.inj (Option.some.inj h)
  unfold tupAt at hu
  split at hu
  · cases hx with
    | tuple hz hzs =>
      obtain ⟨v', h1, h2⟩ := (VRs.arr hz hzs).get i u hu
      refine GivesP.pure (v' := v') hr ?_ h2
      simp only [Array.getElem?_toList] at h1
      simp [Instr.extract, h1]
  · cases hu

def asB (v : Value) : Option Bool :=
  match v with
  | .bool b => some b
  | _ => none
theorem asB_eq {v : Value} {b : Bool} (h : asB v = some b) : v = .bool b := by
  unfold asB at h
  split at h
  · obtain rfl := Option.some.inj h; rfl
  · cases h
noncomputable def opPick (c a b : Value) (H : AH) : VRes := oc (asB c) none fun g => some (sel g a b, H)

def nilOk (v : Value) : Bool :=
  match v with
  | .pointer (some _) => true
  | .func (.func _) _ _ => true
  | .func (.yield _) _ _ => true
  | _ => false
noncomputable def opUn (P : Program) (op : UnOp) (x : Value) (H : AH) : VRes := sel (flat x) (opPure P (Op.unary op x) H) none
theorem un_ok {P : Program} {n0 : Bs} {σ : Ren} {H H' : AH} {w : World} (hr : HR n0 σ H w) {op : UnOp} {x x' v : Value} (h : opUn P op x H = some (v, H')) (hx : VR σ x x') : GivesP P n0 σ w H (Op.unary op x') v H' := by
  obtain ⟨hf, h⟩ := sel_none h
  rw [flat_same hf hx]
  exact opPure_ok hr h

end Go.Proofs.Ythomkiindjhdmaa.Ax
