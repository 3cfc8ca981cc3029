/-
  Sums, comparisons. Own work, plain lemmas.
-/
import Derived.Test.YthomkiindjhdmaaAxE
set_option linter.unusedSimpArgs false
set_option linter.unusedVariables false
set_option linter.unnecessarySimpa false
set_option linter.deprecated false
set_option linter.unusedSectionVars false
namespace Go.Proofs.Ythomkiindjhdmaa.Ax
open Go.RowKit
variable [Tabs]

theorem int_ok {P : Program} {n0 : Bs} {σ : Ren} {H : AH} {w : World} (hr : HR n0 σ H w) {op : BinOp} {t : TypeId} {k k' : IntKind} {a b : Int} {v : Value} (hk : kindEq k k' = true) (h : intOp op k a b = some v) (ox oy : Operand) :
    GivesP P n0 σ w H (do eqGuard op t ox oy (.int k a) (.int k' b); binOp op t (.int k a) (.int k' b)) v H := by
  obtain rfl := kindEq_eq hk
  cases op <;> simp only [intOp] at h <;> first | (cases h; done) | skip
  all_goals obtain rfl := Option.some.inj h
  all_goals refine GivesP.pure hr ?_ (by constructor)
  all_goals simp [eqGuard, binOp, Op.intArith, Op.intCmp, Sem.run_bind]

noncomputable def opPtrEq (P : Program) (op : BinOp) (t : TypeId) (x y : Value) (H : AH) : VRes :=
  oc (ptrPair x y) none fun p => oc (P.underlying t) none fun d =>
    match d with
    | .pointer e => oc (sizeB P e) none fun n => sel (Nat.beq n 0) none
        (oc (cmpOp op (sel (Nat.beq p.1.1 p.2.1) (Nat.beq p.1.2 p.2.2) false)) none fun v => sel (sel (Nat.beq p.1.1 p.2.1) true (oc (blkCells H p.1.1) false fun _ => oc (blkCells H p.2.1) false fun _ => true)) (some (v, H)) none)
    | _ => none
theorem shape_of_block {w : World} {c : Nat} {C : Array Value} {e : TypeId} {f : Nat × Nat} (h : w.heap[c]? = some (.cells C e f)) : w.shape? c = some (e, C.size) := by
  simp [World.shape?, h]
theorem ptrPair_eq {x y : Value} {p : (Nat × Nat) × (Nat × Nat)} (h : ptrPair x y = some p) : x = .pointer (some ⟨p.1.1, p.1.2, none⟩) ∧ y = .pointer (some ⟨p.2.1, p.2.2, none⟩) := by
  unfold ptrPair at h
  split at h
  · obtain rfl := Option.some.inj h; exact ⟨rfl, rfl⟩
  · cases h
theorem HR.block {n0 : Bs} {σ : Ren} {H : AH} {w : World} (hr : HR n0 σ H w) {b : Nat} {c : Tr Value} {e : TypeId} (hb : H.blocks.get b = some (.cells c e)) {k d m : Nat} (hs : σ b = some (k, d, m)) :
    n0.n.Own k ∧ ∃ C, w.heap[k]? = some (.cells C e (0, 0)) ∧ C.size = m ∧ ∀ i v, c.get i = some v → ∃ v', C[d + i]? = some v' ∧ VR σ v v' := by
  obtain ⟨k', d', m', hs', hn, C, h1, h2, h3⟩ := hr.blk b _ hb
  rw [hs] at hs'
  injection hs' with hs'
  injection hs' with e1 hs'
  injection hs' with e2 e3
  subst e1 e2 e3
  exact ⟨hn, C, h1, h2, h3⟩
theorem ptrEq_ok {P : Program} {n0 : Bs} {σ : Ren} {H H' : AH} {w : World} (hr : HR n0 σ H w) {op : BinOp} {t : TypeId} {x x' y y' v : Value} (h : opPtrEq P op t x y H = some (v, H')) (hx : VR σ x x') (hy : VR σ y y') (ox oy : Operand) :
    GivesP P n0 σ w H (do eqGuard op t ox oy x' y'; binOp op t x' y') v H' := by
  obtain ⟨p, hp, h⟩ := oc_eq_some h
  obtain ⟨d, hd, h⟩ := oc_eq_some h
  split at h
  case h_2 => cases h
  rename_i e
  obtain ⟨n, hn, h⟩ := oc_eq_some h
  obtain ⟨hz, h⟩ := sel_none' h
  obtain ⟨u, hu, h⟩ := oc_eq_some h
  obtain ⟨hlive, h⟩ := sel_none h
  obtain ⟨rfl, rfl⟩ := Prod.mk.inj (Option.some.inj h)
  obtain ⟨rfl, rfl⟩ := ptrPair_eq hp
  obtain ⟨⟨b, o⟩, ⟨b', o'⟩⟩ := p
  simp only at hx hy hu hlive
  have hn0 : n ≠ 0 := fun e => by subst e; cases hz
  cases hx with
  | @ptr _ c d₁ m₁ _ hs =>
  cases hy with
  | @ptr _ c' d₂ m₂ _ hs' =>
  have key : ∀ r, r = sel (Nat.beq b b') (Nat.beq o o') false → (Op.equal t (.pointer (some ⟨c, d₁ + o, none⟩)) (.pointer (some ⟨c', d₂ + o', none⟩))).run P w = .ok r w := by
    rintro r rfl
    show (Op.equalIn (9999 + 1) t _ _).run P w = _
    generalize 9999 = D
    have hsame : (sameAddr ⟨c, d₁ + o, none⟩ ⟨c', d₂ + o', none⟩).run P w = .ok (sel (Nat.beq b b') (Nat.beq o o') false) w := by
      by_cases hb : b = b'
      · subst hb
        rw [hs] at hs'
        obtain ⟨rfl, rfl, rfl⟩ : c = c' ∧ d₁ = d₂ ∧ m₁ = m₂ := by
          injection hs' with hs'; injection hs' with e1 hs'; injection hs' with e2 e3; exact ⟨e1, e2, e3⟩
        have hbb : Nat.beq b b = true := Nat.beq_refl b
        simp only [hbb, sel_true]
        have : ((⟨c, d₁ + o, none⟩ : Addr) == ⟨c, d₁ + o', none⟩) = Nat.beq o o' := by
          by_cases ho : o = o'
          · subst ho; rw [Nat.beq_refl]; simp
          · have h1 : Nat.beq o o' = false := by
              cases hq : Nat.beq o o'
              · rfl
              · exact absurd (Nat.eq_of_beq_eq_true hq) ho
            rw [h1]
            simp <;> omega
        simp [sameAddr, this]
      · have hbb : Nat.beq b b' = false := by
          cases hq : Nat.beq b b'
          · rfl
          · exact absurd (Nat.eq_of_beq_eq_true hq) hb
        simp only [hbb, sel_false] at hlive ⊢
        cases h1 : blkCells H b with
        | none => rw [h1] at hlive; cases hlive
        | some x1 =>
          cases h2 : blkCells H b' with
          | none => rw [h1, h2] at hlive; cases hlive
          | some x2 =>
            have g1 := blkCells_eq h1
            have g2 := blkCells_eq h2
            obtain ⟨_, C1, q1, _, _⟩ := hr.block g1 hs
            obtain ⟨_, C2, q2, _, _⟩ := hr.block g2 hs'
            have hne : c ≠ c' := fun e => hb (hr.inj b b' _ _ c d₁ m₁ d₂ m₂ g1 g2 hs (e ▸ hs'))
            have hne' : (c == c') = false := by simpa using hne
            have f1 : ∀ z, w.frozen? ⟨c, z, none⟩ = false := fun z => frozen_of_block q1
            have f2 : ∀ z, w.frozen? ⟨c', z, none⟩ = false := fun z => frozen_of_block q2
            simp [sameAddr, hne, frozen, Sem.run, Sem.run_bind, f1, f2, noView, viewAt, shape, shape_of_block q1, shape_of_block q2, mayBeOne, stringish]
    simp [Op.equalIn, run_underlying hd, Sem.run_bind, run_sizeB hn, hn0, hsame]
  have hv : VR σ u u := by
    cases op <;> simp [cmpOp] at hu <;> (subst hu; constructor)
  refine GivesP.pure hr ?_ hv
  cases op <;> simp [cmpOp] at hu
  all_goals subst hu
  all_goals simp [eqGuard, binOp, Sem.run_bind, key _ rfl]

/-- a value that holds no pointer, a struct or an array of such ones -/
def plain (v : Value) : Bool :=
  match v with
  | .agg cs => flatL cs.toList
  | v => flat v
theorem plain_same {σ : Ren} {v v' : Value} (h : plain v = true) (hv : VR σ v v') : v' = v := by
  unfold plain at h
  split at h
  · cases hv with
    | agg hx hxs =>
      have := flatL_same h (VRs.arr hx hxs)
      rw [Array.toList_inj.1 this]
  · exact flat_same h hv
noncomputable def opPure2 (P : Program) (s : Sem Value) (x y : Value) (H : AH) : VRes := sel (plain x && plain y) (opPure P s H) none

end Go.Proofs.Ythomkiindjhdmaa.Ax
