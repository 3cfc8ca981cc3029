/-
  What functions do, told by pure functions. No condition.
-/
import Derived.Test.YtaompjplflaloaaMunchSLives
set_option linter.unusedSimpArgs false
set_option linter.unusedVariables false
set_option linter.unusedSectionVars false
set_option linter.unnecessarySimpa false
namespace Go.Proofs.Ytaompjplflaloaa.munchs
open Go Go.Proofs.Ytaompjplflaloaa Ax
variable [Args]
noncomputable def S_dfawithina_1 (x1_0 : Int) (x1_3 : Int) (st : Int × Int × Int) : XSt := match st with
  | (x1_1, x1_2, x1_4) => (sT 29 [(1, (Value.int .i64 x1_0)), (5, (Value.int .i64 x1_1)), (6, (Value.int .i64 x1_2)), (9, (Value.slice (some ⟨0, 0, some 1⟩) (Args.N).length Args.cN)), (10, (Value.int .i64 x1_3)), (11, (Value.int .i64 x1_4))], [], ⟨sB [], 0, 0⟩)
noncomputable def X_dfawithina_1 (x1_0 : Int) (x1_3 : Int) (r : Int × Int) : Ex × XSt := match r with
  | (z1_0, z1_1) => (.exit 0, (sT 29 [(1, (Value.int .i64 x1_0)), (5, (Value.int .i64 z1_0)), (6, (Value.int .i64 z1_1))], [], ⟨sB [], 0, 0⟩))
def B_dfawithina_1 (n : Nat) (x1_0 : Int) (x1_3 : Int) (st : Int × Int × Int) : Option ((Int × Int × Int) ⊕ (Int × Int)) := match st with
  | (x1_1, x1_2, x1_4) =>
    if x1_4 < x1_3 then
      if 0 ≤ x1_4 ∧ x1_4 < (((Args.N).length : Nat) : Int) then
        some (.inl ((minB x1_1 ((Args.N).getD (x1_4).toNat 0)), (maxB x1_2 ((Args.N).getD (x1_4).toNat 0)), (w64 (x1_4 + (1 : Int)))))
      else none
    else
      some (.inr (x1_1, x1_2))
def m_dfawithina_1 (n : Nat) (x1_0 : Int) (x1_3 : Int) (st : Int × Int × Int) : Option (Int × Int) := iterM (B_dfawithina_1 n x1_0 x1_3) n st
set_option maxRecDepth 100000 in
theorem q_dfawithina_1_0 (n : Nat) (x1_0 : Int) (x1_1 : Int) (x1_2 : Int) (x1_3 : Int) (x1_4 : Int) (hy1_1 : x1_4 < x1_3) (hy1_2 : 0 ≤ x1_4 ∧ x1_4 < (((Args.N).length : Nat) : Int)) : CG P none (fnN P 37) 0 (codeOf P 37 [false, false, true, false, true, true]) (S_dfawithina_1 x1_0 x1_3 (x1_1, x1_2, x1_4)) (.normal, S_dfawithina_1 x1_0 x1_3 ((minB x1_1 ((Args.N).getD (x1_4).toNat 0)), (maxB x1_2 ((Args.N).getD (x1_4).toNat 0)), (w64 (x1_4 + (1 : Int))))) :=
  runC_ok hm (A := aT [(1, .val (.bool true)), (7, .pur (Value.pointer (some ⟨0, (x1_4).toNat, some 1⟩))), (8, .ld (Value.int .i64 ((Args.N).getD (x1_4).toNat 0)))]) (L := lT []) (wk := ⟨[1, 5, 6, 9, 10, 11], [], 0, 0⟩)
    (ps := [(Value.bool (decide (x1_4 < x1_3))) = (Value.bool true),
    opIndexAddr P 22 (Value.slice (some ⟨0, 0, some 1⟩) (Args.N).length Args.cN) (Value.int .i64 x1_4) Ax.h0 = some ((Value.pointer (some ⟨0, (x1_4).toNat, some 1⟩)), Ax.h0),
    loadG P 3 (Value.pointer (some ⟨0, (x1_4).toNat, some 1⟩)) Ax.h0 = some ((Value.int .i64 ((Args.N).getD (x1_4).toNat 0)), Ax.h0)]) (by kernel_rfl) ⟨(vbT hy1_1), (ixW1 (e := 3) (by kernel_rfl) (by kernel_rfl) hy1_2), (ldW rfl (by kernel_rfl) (toNatLt hy1_2)), trivial⟩
set_option maxRecDepth 100000 in
theorem q_dfawithina_1_1 (n : Nat) (x1_0 : Int) (x1_1 : Int) (x1_2 : Int) (x1_3 : Int) (x1_4 : Int) (hy1_1 : ¬ (x1_4 < x1_3)) : CG P none (fnN P 37) 0 (codeOf P 37 [false, false, true, false, true, true]) (S_dfawithina_1 x1_0 x1_3 (x1_1, x1_2, x1_4)) (X_dfawithina_1 x1_0 x1_3 (x1_1, x1_2)) :=
  runC_ok hm (A := aT [(1, .val (.bool false))]) (L := lT []) (wk := ⟨[1, 5, 6], [], 0, 0⟩)
    (ps := [(Value.bool (decide (x1_4 < x1_3))) = (Value.bool false)]) (by kernel_rfl) ⟨(vbF hy1_1), trivial⟩
theorem m_dfawithina_1_ok (n : Nat) (x1_0 : Int) (x1_3 : Int) (st : Int × Int × Int) (r : Int × Int) (h : m_dfawithina_1 n x1_0 x1_3 st = some r) : CG P none (fnN P 37) 0 (codeOf P 37 [false, true, false, true, true]) (S_dfawithina_1 x1_0 x1_3 st) (X_dfawithina_1 x1_0 x1_3 r) :=
  CG.iter (b := codeOf P 37 [false, false, true, false, true, true]) (by kernel_rfl) (body := B_dfawithina_1 n x1_0 x1_3) (S := S_dfawithina_1 x1_0 x1_3) (X := X_dfawithina_1 x1_0 x1_3)
    (fun s s' h => by
    obtain ⟨x1_1, x1_2, x1_4⟩ := s
    unfold B_dfawithina_1 at h
    dsimp only at h
    by_cases hy1_1 : x1_4 < x1_3
    · rw [if_pos hy1_1] at h
      by_cases hy1_2 : 0 ≤ x1_4 ∧ x1_4 < (((Args.N).length : Nat) : Int)
      · rw [if_pos hy1_2] at h
        obtain rfl := Sum.inl.inj (Option.some.inj h); exact q_dfawithina_1_0 n x1_0 x1_1 x1_2 x1_3 x1_4 hy1_1 hy1_2
      · rw [if_neg hy1_2] at h; cases h
    · rw [if_neg hy1_1] at h
      cases h)
    (fun s r h => by
    obtain ⟨x1_1, x1_2, x1_4⟩ := s
    unfold B_dfawithina_1 at h
    dsimp only at h
    by_cases hy1_1 : x1_4 < x1_3
    · rw [if_pos hy1_1] at h
      by_cases hy1_2 : 0 ≤ x1_4 ∧ x1_4 < (((Args.N).length : Nat) : Int)
      · rw [if_pos hy1_2] at h
        cases h
      · rw [if_neg hy1_2] at h; cases h
    · rw [if_neg hy1_1] at h
      obtain rfl := Sum.inr.inj (Option.some.inj h); exact q_dfawithina_1_1 n x1_0 x1_1 x1_2 x1_3 x1_4 hy1_1)
    (fun r => by intro hx; cases hx) h
noncomputable def A_dfawithina (e : Int) : List Value := [(Value.slice (some ⟨0, 0, some 1⟩) (Args.N).length Args.cN), (Value.int .i64 e)]
noncomputable def H_dfawithina (e : Int) : AH := ⟨sB [], 0, 0⟩
noncomputable def V_dfawithina (e : Int) (r : Bool) : Value := match r with
  | o0 => (Value.bool o0)
noncomputable def R_dfawithina (e : Int) (r : Bool) : AH := match r with
  | o0 => ⟨sB [], 0, 0⟩
noncomputable abbrev G_dfawithina (e : Int) (r : Bool) : Prop := Gv P (.func 37) (A_dfawithina e) (H_dfawithina e) (V_dfawithina e r) (R_dfawithina e r)
def m_dfawithina (n : Nat) (e : Int) : Option (Bool) :=
  (m_dfawithina_1 n e (((Args.N).length : Nat) : Int) ((-1), (-1), 0)).bind fun t => match t with
  | (c1_0, c1_1) =>
    if c1_0 = (-1 : Int) then
      if c1_1 < e then
        some true
      else
        some false
    else
      some false
set_option maxRecDepth 100000 in
theorem p_dfawithina_0 (n : Nat) (e : Int) (c1_0 : Int) (c1_1 : Int) (hc1 : m_dfawithina_1 n e (((Args.N).length : Nat) : Int) ((-1), (-1), 0) = some (c1_0, c1_1)) (hc2 : c1_0 = (-1 : Int)) (hc3 : c1_1 < e) : G_dfawithina e true :=
  runF_ok hm (A := aT [(14, .val (.bool true)), (18, .val (.bool true))]) (L := lT [(11, ⟨⟨[1, 5, 6, 9, 10, 11], [], 0, 0⟩, (X_dfawithina_1 e (((Args.N).length : Nat) : Int) (c1_0, c1_1)).1, (X_dfawithina_1 e (((Args.N).length : Nat) : Int) (c1_0, c1_1)).2⟩)]) (wk := ⟨[4], [], 0, 0⟩)
    (ps := [CG P none (fnN P 37) 0 (codeOf P 37 [false, true, false, true, true]) (S_dfawithina_1 e (((Args.N).length : Nat) : Int) ((-1), (-1), 0)) (X_dfawithina_1 e (((Args.N).length : Nat) : Int) (c1_0, c1_1)),
    (Value.bool (c1_0 == (-1 : Int))) = (Value.bool true),
    (Value.bool (decide (c1_1 < e))) = (Value.bool true)]) (by kernel_rfl) ⟨(m_dfawithina_1_ok n e (((Args.N).length : Nat) : Int) ((-1), (-1), 0) (c1_0, c1_1) hc1), (veT hc2), (vbT hc3), trivial⟩
set_option maxRecDepth 100000 in
theorem p_dfawithina_1 (n : Nat) (e : Int) (c1_0 : Int) (c1_1 : Int) (hc1 : m_dfawithina_1 n e (((Args.N).length : Nat) : Int) ((-1), (-1), 0) = some (c1_0, c1_1)) (hc2 : c1_0 = (-1 : Int)) (hc3 : ¬ (c1_1 < e)) : G_dfawithina e false :=
  runF_ok hm (A := aT [(14, .val (.bool true)), (18, .val (.bool false))]) (L := lT [(11, ⟨⟨[1, 5, 6, 9, 10, 11], [], 0, 0⟩, (X_dfawithina_1 e (((Args.N).length : Nat) : Int) (c1_0, c1_1)).1, (X_dfawithina_1 e (((Args.N).length : Nat) : Int) (c1_0, c1_1)).2⟩)]) (wk := ⟨[4], [], 0, 0⟩)
    (ps := [CG P none (fnN P 37) 0 (codeOf P 37 [false, true, false, true, true]) (S_dfawithina_1 e (((Args.N).length : Nat) : Int) ((-1), (-1), 0)) (X_dfawithina_1 e (((Args.N).length : Nat) : Int) (c1_0, c1_1)),
    (Value.bool (c1_0 == (-1 : Int))) = (Value.bool true),
    (Value.bool (decide (c1_1 < e))) = (Value.bool false)]) (by kernel_rfl) ⟨(m_dfawithina_1_ok n e (((Args.N).length : Nat) : Int) ((-1), (-1), 0) (c1_0, c1_1) hc1), (veT hc2), (vbF hc3), trivial⟩
set_option maxRecDepth 100000 in
theorem p_dfawithina_2 (n : Nat) (e : Int) (c1_0 : Int) (c1_1 : Int) (hc1 : m_dfawithina_1 n e (((Args.N).length : Nat) : Int) ((-1), (-1), 0) = some (c1_0, c1_1)) (hc2 : ¬ (c1_0 = (-1 : Int))) : G_dfawithina e false :=
  runF_ok hm (A := aT [(14, .val (.bool false))]) (L := lT [(11, ⟨⟨[1, 5, 6, 9, 10, 11], [], 0, 0⟩, (X_dfawithina_1 e (((Args.N).length : Nat) : Int) (c1_0, c1_1)).1, (X_dfawithina_1 e (((Args.N).length : Nat) : Int) (c1_0, c1_1)).2⟩)]) (wk := ⟨[4], [], 0, 0⟩)
    (ps := [CG P none (fnN P 37) 0 (codeOf P 37 [false, true, false, true, true]) (S_dfawithina_1 e (((Args.N).length : Nat) : Int) ((-1), (-1), 0)) (X_dfawithina_1 e (((Args.N).length : Nat) : Int) (c1_0, c1_1)),
    (Value.bool (c1_0 == (-1 : Int))) = (Value.bool false)]) (by kernel_rfl) ⟨(m_dfawithina_1_ok n e (((Args.N).length : Nat) : Int) ((-1), (-1), 0) (c1_0, c1_1) hc1), (veF hc2), trivial⟩
theorem m_dfawithina_ok (n : Nat) (e : Int) (r : Bool) (h : m_dfawithina n e = some r) : G_dfawithina e r := by
  unfold m_dfawithina at h
  obtain ⟨⟨c1_0, c1_1⟩, hc1, h⟩ := Option.bind_eq_some_iff.1 h
  dsimp only at h
  by_cases hc2 : c1_0 = (-1 : Int)
  · rw [if_pos hc2] at h
    by_cases hc3 : c1_1 < e
    · rw [if_pos hc3] at h
      obtain rfl := Option.some.inj h; exact p_dfawithina_0 n e c1_0 c1_1 hc1 hc2 hc3
    · rw [if_neg hc3] at h
      obtain rfl := Option.some.inj h; exact p_dfawithina_1 n e c1_0 c1_1 hc1 hc2 hc3
  · rw [if_neg hc2] at h
    obtain rfl := Option.some.inj h; exact p_dfawithina_2 n e c1_0 c1_1 hc1 hc2

noncomputable def S_dfawithinb_1 (x1_0 : Int) (x1_3 : Int) (st : Int × Int × Int) : XSt := match st with
  | (x1_1, x1_2, x1_4) => (sT 29 [(1, (Value.int .i64 x1_0)), (5, (Value.int .i64 x1_1)), (6, (Value.int .i64 x1_2)), (9, (Value.slice (some ⟨1, 0, some 1⟩) (Args.R).length Args.cR)), (10, (Value.int .i64 x1_3)), (11, (Value.int .i64 x1_4))], [], ⟨sB [], 0, 0⟩)
noncomputable def X_dfawithinb_1 (x1_0 : Int) (x1_3 : Int) (r : Int × Int) : Ex × XSt := match r with
  | (z1_0, z1_1) => (.exit 0, (sT 29 [(1, (Value.int .i64 x1_0)), (5, (Value.int .i64 z1_0)), (6, (Value.int .i64 z1_1))], [], ⟨sB [], 0, 0⟩))
def B_dfawithinb_1 (n : Nat) (x1_0 : Int) (x1_3 : Int) (st : Int × Int × Int) : Option ((Int × Int × Int) ⊕ (Int × Int)) := match st with
  | (x1_1, x1_2, x1_4) =>
    if x1_4 < x1_3 then
      if 0 ≤ x1_4 ∧ x1_4 < (((Args.R).length : Nat) : Int) then
        some (.inl ((minB x1_1 ((Args.R).getD (x1_4).toNat 0)), (maxB x1_2 ((Args.R).getD (x1_4).toNat 0)), (w64 (x1_4 + (1 : Int)))))
      else none
    else
      some (.inr (x1_1, x1_2))
def m_dfawithinb_1 (n : Nat) (x1_0 : Int) (x1_3 : Int) (st : Int × Int × Int) : Option (Int × Int) := iterM (B_dfawithinb_1 n x1_0 x1_3) n st
set_option maxRecDepth 100000 in
theorem q_dfawithinb_1_0 (n : Nat) (x1_0 : Int) (x1_1 : Int) (x1_2 : Int) (x1_3 : Int) (x1_4 : Int) (hy1_1 : x1_4 < x1_3) (hy1_2 : 0 ≤ x1_4 ∧ x1_4 < (((Args.R).length : Nat) : Int)) : CG P none (fnN P 37) 0 (codeOf P 37 [false, false, true, false, true, true]) (S_dfawithinb_1 x1_0 x1_3 (x1_1, x1_2, x1_4)) (.normal, S_dfawithinb_1 x1_0 x1_3 ((minB x1_1 ((Args.R).getD (x1_4).toNat 0)), (maxB x1_2 ((Args.R).getD (x1_4).toNat 0)), (w64 (x1_4 + (1 : Int))))) :=
  runC_ok hm (A := aT [(1, .val (.bool true)), (7, .pur (Value.pointer (some ⟨1, (x1_4).toNat, some 1⟩))), (8, .ld (Value.int .i64 ((Args.R).getD (x1_4).toNat 0)))]) (L := lT []) (wk := ⟨[1, 5, 6, 9, 10, 11], [], 0, 0⟩)
    (ps := [(Value.bool (decide (x1_4 < x1_3))) = (Value.bool true),
    opIndexAddr P 22 (Value.slice (some ⟨1, 0, some 1⟩) (Args.R).length Args.cR) (Value.int .i64 x1_4) Ax.h0 = some ((Value.pointer (some ⟨1, (x1_4).toNat, some 1⟩)), Ax.h0),
    loadG P 3 (Value.pointer (some ⟨1, (x1_4).toNat, some 1⟩)) Ax.h0 = some ((Value.int .i64 ((Args.R).getD (x1_4).toNat 0)), Ax.h0)]) (by kernel_rfl) ⟨(vbT hy1_1), (ixW1 (e := 3) (by kernel_rfl) (by kernel_rfl) hy1_2), (ldW rfl (by kernel_rfl) (toNatLt hy1_2)), trivial⟩
set_option maxRecDepth 100000 in
theorem q_dfawithinb_1_1 (n : Nat) (x1_0 : Int) (x1_1 : Int) (x1_2 : Int) (x1_3 : Int) (x1_4 : Int) (hy1_1 : ¬ (x1_4 < x1_3)) : CG P none (fnN P 37) 0 (codeOf P 37 [false, false, true, false, true, true]) (S_dfawithinb_1 x1_0 x1_3 (x1_1, x1_2, x1_4)) (X_dfawithinb_1 x1_0 x1_3 (x1_1, x1_2)) :=
  runC_ok hm (A := aT [(1, .val (.bool false))]) (L := lT []) (wk := ⟨[1, 5, 6], [], 0, 0⟩)
    (ps := [(Value.bool (decide (x1_4 < x1_3))) = (Value.bool false)]) (by kernel_rfl) ⟨(vbF hy1_1), trivial⟩
theorem m_dfawithinb_1_ok (n : Nat) (x1_0 : Int) (x1_3 : Int) (st : Int × Int × Int) (r : Int × Int) (h : m_dfawithinb_1 n x1_0 x1_3 st = some r) : CG P none (fnN P 37) 0 (codeOf P 37 [false, true, false, true, true]) (S_dfawithinb_1 x1_0 x1_3 st) (X_dfawithinb_1 x1_0 x1_3 r) :=
  CG.iter (b := codeOf P 37 [false, false, true, false, true, true]) (by kernel_rfl) (body := B_dfawithinb_1 n x1_0 x1_3) (S := S_dfawithinb_1 x1_0 x1_3) (X := X_dfawithinb_1 x1_0 x1_3)
    (fun s s' h => by
    obtain ⟨x1_1, x1_2, x1_4⟩ := s
    unfold B_dfawithinb_1 at h
    dsimp only at h
    by_cases hy1_1 : x1_4 < x1_3
    · rw [if_pos hy1_1] at h
      by_cases hy1_2 : 0 ≤ x1_4 ∧ x1_4 < (((Args.R).length : Nat) : Int)
      · rw [if_pos hy1_2] at h
        obtain rfl := Sum.inl.inj (Option.some.inj h); exact q_dfawithinb_1_0 n x1_0 x1_1 x1_2 x1_3 x1_4 hy1_1 hy1_2
      · rw [if_neg hy1_2] at h; cases h
    · rw [if_neg hy1_1] at h
      cases h)
    (fun s r h => by
    obtain ⟨x1_1, x1_2, x1_4⟩ := s
    unfold B_dfawithinb_1 at h
    dsimp only at h
    by_cases hy1_1 : x1_4 < x1_3
    · rw [if_pos hy1_1] at h
      by_cases hy1_2 : 0 ≤ x1_4 ∧ x1_4 < (((Args.R).length : Nat) : Int)
      · rw [if_pos hy1_2] at h
        cases h
      · rw [if_neg hy1_2] at h; cases h
    · rw [if_neg hy1_1] at h
      obtain rfl := Sum.inr.inj (Option.some.inj h); exact q_dfawithinb_1_1 n x1_0 x1_1 x1_2 x1_3 x1_4 hy1_1)
    (fun r => by intro hx; cases hx) h
noncomputable def A_dfawithinb (e : Int) : List Value := [(Value.slice (some ⟨1, 0, some 1⟩) (Args.R).length Args.cR), (Value.int .i64 e)]
noncomputable def H_dfawithinb (e : Int) : AH := ⟨sB [], 0, 0⟩
noncomputable def V_dfawithinb (e : Int) (r : Bool) : Value := match r with
  | o0 => (Value.bool o0)
noncomputable def R_dfawithinb (e : Int) (r : Bool) : AH := match r with
  | o0 => ⟨sB [], 0, 0⟩
noncomputable abbrev G_dfawithinb (e : Int) (r : Bool) : Prop := Gv P (.func 37) (A_dfawithinb e) (H_dfawithinb e) (V_dfawithinb e r) (R_dfawithinb e r)
def m_dfawithinb (n : Nat) (e : Int) : Option (Bool) :=
  (m_dfawithinb_1 n e (((Args.R).length : Nat) : Int) ((-1), (-1), 0)).bind fun t => match t with
  | (c1_0, c1_1) =>
    if c1_0 = (-1 : Int) then
      if c1_1 < e then
        some true
      else
        some false
    else
      some false
set_option maxRecDepth 100000 in
theorem p_dfawithinb_0 (n : Nat) (e : Int) (c1_0 : Int) (c1_1 : Int) (hc1 : m_dfawithinb_1 n e (((Args.R).length : Nat) : Int) ((-1), (-1), 0) = some (c1_0, c1_1)) (hc2 : c1_0 = (-1 : Int)) (hc3 : c1_1 < e) : G_dfawithinb e true :=
  runF_ok hm (A := aT [(14, .val (.bool true)), (18, .val (.bool true))]) (L := lT [(11, ⟨⟨[1, 5, 6, 9, 10, 11], [], 0, 0⟩, (X_dfawithinb_1 e (((Args.R).length : Nat) : Int) (c1_0, c1_1)).1, (X_dfawithinb_1 e (((Args.R).length : Nat) : Int) (c1_0, c1_1)).2⟩)]) (wk := ⟨[4], [], 0, 0⟩)
    (ps := [CG P none (fnN P 37) 0 (codeOf P 37 [false, true, false, true, true]) (S_dfawithinb_1 e (((Args.R).length : Nat) : Int) ((-1), (-1), 0)) (X_dfawithinb_1 e (((Args.R).length : Nat) : Int) (c1_0, c1_1)),
    (Value.bool (c1_0 == (-1 : Int))) = (Value.bool true),
    (Value.bool (decide (c1_1 < e))) = (Value.bool true)]) (by kernel_rfl) ⟨(m_dfawithinb_1_ok n e (((Args.R).length : Nat) : Int) ((-1), (-1), 0) (c1_0, c1_1) hc1), (veT hc2), (vbT hc3), trivial⟩
set_option maxRecDepth 100000 in
theorem p_dfawithinb_1 (n : Nat) (e : Int) (c1_0 : Int) (c1_1 : Int) (hc1 : m_dfawithinb_1 n e (((Args.R).length : Nat) : Int) ((-1), (-1), 0) = some (c1_0, c1_1)) (hc2 : c1_0 = (-1 : Int)) (hc3 : ¬ (c1_1 < e)) : G_dfawithinb e false :=
  runF_ok hm (A := aT [(14, .val (.bool true)), (18, .val (.bool false))]) (L := lT [(11, ⟨⟨[1, 5, 6, 9, 10, 11], [], 0, 0⟩, (X_dfawithinb_1 e (((Args.R).length : Nat) : Int) (c1_0, c1_1)).1, (X_dfawithinb_1 e (((Args.R).length : Nat) : Int) (c1_0, c1_1)).2⟩)]) (wk := ⟨[4], [], 0, 0⟩)
    (ps := [CG P none (fnN P 37) 0 (codeOf P 37 [false, true, false, true, true]) (S_dfawithinb_1 e (((Args.R).length : Nat) : Int) ((-1), (-1), 0)) (X_dfawithinb_1 e (((Args.R).length : Nat) : Int) (c1_0, c1_1)),
    (Value.bool (c1_0 == (-1 : Int))) = (Value.bool true),
    (Value.bool (decide (c1_1 < e))) = (Value.bool false)]) (by kernel_rfl) ⟨(m_dfawithinb_1_ok n e (((Args.R).length : Nat) : Int) ((-1), (-1), 0) (c1_0, c1_1) hc1), (veT hc2), (vbF hc3), trivial⟩
set_option maxRecDepth 100000 in
theorem p_dfawithinb_2 (n : Nat) (e : Int) (c1_0 : Int) (c1_1 : Int) (hc1 : m_dfawithinb_1 n e (((Args.R).length : Nat) : Int) ((-1), (-1), 0) = some (c1_0, c1_1)) (hc2 : ¬ (c1_0 = (-1 : Int))) : G_dfawithinb e false :=
  runF_ok hm (A := aT [(14, .val (.bool false))]) (L := lT [(11, ⟨⟨[1, 5, 6, 9, 10, 11], [], 0, 0⟩, (X_dfawithinb_1 e (((Args.R).length : Nat) : Int) (c1_0, c1_1)).1, (X_dfawithinb_1 e (((Args.R).length : Nat) : Int) (c1_0, c1_1)).2⟩)]) (wk := ⟨[4], [], 0, 0⟩)
    (ps := [CG P none (fnN P 37) 0 (codeOf P 37 [false, true, false, true, true]) (S_dfawithinb_1 e (((Args.R).length : Nat) : Int) ((-1), (-1), 0)) (X_dfawithinb_1 e (((Args.R).length : Nat) : Int) (c1_0, c1_1)),
    (Value.bool (c1_0 == (-1 : Int))) = (Value.bool false)]) (by kernel_rfl) ⟨(m_dfawithinb_1_ok n e (((Args.R).length : Nat) : Int) ((-1), (-1), 0) (c1_0, c1_1) hc1), (veF hc2), trivial⟩
theorem m_dfawithinb_ok (n : Nat) (e : Int) (r : Bool) (h : m_dfawithinb n e = some r) : G_dfawithinb e r := by
  unfold m_dfawithinb at h
  obtain ⟨⟨c1_0, c1_1⟩, hc1, h⟩ := Option.bind_eq_some_iff.1 h
  dsimp only at h
  by_cases hc2 : c1_0 = (-1 : Int)
  · rw [if_pos hc2] at h
    by_cases hc3 : c1_1 < e
    · rw [if_pos hc3] at h
      obtain rfl := Option.some.inj h; exact p_dfawithinb_0 n e c1_0 c1_1 hc1 hc2 hc3
    · rw [if_neg hc3] at h
      obtain rfl := Option.some.inj h; exact p_dfawithinb_1 n e c1_0 c1_1 hc1 hc2 hc3
  · rw [if_neg hc2] at h
    obtain rfl := Option.some.inj h; exact p_dfawithinb_2 n e c1_0 c1_1 hc1 hc2

noncomputable def A_dfaCheck : List Value := [(Value.agg #[(Value.slice (some ⟨0, 0, some 1⟩) (Args.N).length Args.cN), (Value.slice (some ⟨1, 0, some 1⟩) (Args.R).length Args.cR)])]
noncomputable def H_dfaCheck : AH := ⟨sB [], 0, 0⟩
noncomputable def V_dfaCheck (r : Int) : Value := match r with
  | o0 => (Value.int .i64 o0)
noncomputable def R_dfaCheck (r : Int) : AH := match r with
  | o0 => ⟨sB [], 0, 0⟩
noncomputable abbrev G_dfaCheck  (r : Int) : Prop := Gv P (.func 25) (A_dfaCheck ) (H_dfaCheck ) (V_dfaCheck  r) (R_dfaCheck  r)
def m_dfaCheck (n : Nat) : Option (Int) :=
  if (((Args.R).length : Nat) : Int) < (1 : Int) then
    some 2
  else
    if (((Args.R).length : Nat) : Int) > (512 : Int) then
      some 2
    else
      if (((Args.N).length : Nat) : Int) = (w64 ((((Args.R).length : Nat) : Int) * (256 : Int))) then
        (m_dfawithina n (((Args.R).length : Nat) : Int)).bind fun c4_ =>
        if c4_ = true then
          (m_dfawithinb n 16).bind fun c6_ =>
          if c6_ = true then
            some 0
          else
            some 2
        else
          some 2
      else
        some 2
set_option maxRecDepth 100000 in
theorem p_dfaCheck_0 (n : Nat) (hc1 : (((Args.R).length : Nat) : Int) < (1 : Int)) : G_dfaCheck  2 :=
  runF_ok hm (A := aT [(11, .val (.bool true))]) (L := lT []) (wk := ⟨[2], [], 0, 0⟩)
    (ps := [(Value.bool (decide ((((Args.R).length : Nat) : Int) < (1 : Int)))) = (Value.bool true)]) (by kernel_rfl) ⟨(vbT hc1), trivial⟩
set_option maxRecDepth 100000 in
theorem p_dfaCheck_1 (n : Nat) (hc1 : ¬ ((((Args.R).length : Nat) : Int) < (1 : Int))) (hc2 : (((Args.R).length : Nat) : Int) > (512 : Int)) : G_dfaCheck  2 :=
  runF_ok hm (A := aT [(11, .val (.bool false)), (14, .val (.bool true))]) (L := lT []) (wk := ⟨[2], [], 0, 0⟩)
    (ps := [(Value.bool (decide ((((Args.R).length : Nat) : Int) < (1 : Int)))) = (Value.bool false),
    (Value.bool (decide ((((Args.R).length : Nat) : Int) > (512 : Int)))) = (Value.bool true)]) (by kernel_rfl) ⟨(vbF hc1), (vbT hc2), trivial⟩
set_option maxRecDepth 100000 in
theorem p_dfaCheck_2 (n : Nat) (hc1 : ¬ ((((Args.R).length : Nat) : Int) < (1 : Int))) (hc2 : ¬ ((((Args.R).length : Nat) : Int) > (512 : Int))) (hc3 : (((Args.N).length : Nat) : Int) = (w64 ((((Args.R).length : Nat) : Int) * (256 : Int)))) (c4_ : Bool) (hc4 : m_dfawithina n (((Args.R).length : Nat) : Int) = some c4_) (hc5 : c4_ = true) (c6_ : Bool) (hc6 : m_dfawithinb n 16 = some c6_) (hc7 : c6_ = true) : G_dfaCheck  0 :=
  runF_ok hm (A := aT [(11, .val (.bool false)), (14, .val (.bool false)), (22, .val (.bool false)), (30, .call ⟨0, [], (V_dfawithina (((Args.R).length : Nat) : Int) c4_), (R_dfawithina (((Args.R).length : Nat) : Int) c4_), []⟩), (31, .val (.bool false)), (35, .call ⟨0, [], (V_dfawithinb 16 c6_), (R_dfawithinb 16 c6_), []⟩), (36, .val (.bool false))]) (L := lT []) (wk := ⟨[2], [], 0, 0⟩)
    (ps := [(Value.bool (decide ((((Args.R).length : Nat) : Int) < (1 : Int)))) = (Value.bool false),
    (Value.bool (decide ((((Args.R).length : Nat) : Int) > (512 : Int)))) = (Value.bool false),
    (Value.bool ((((Args.N).length : Nat) : Int) != (w64 ((((Args.R).length : Nat) : Int) * (256 : Int))))) = (Value.bool false),
    G_dfawithina (((Args.R).length : Nat) : Int) c4_,
    (Value.bool (!c4_)) = (Value.bool false),
    G_dfawithinb 16 c6_,
    (Value.bool (!c6_)) = (Value.bool false)]) (by kernel_rfl) ⟨(vbF hc1), (vbF hc2), (vnF hc3), (m_dfawithina_ok n (((Args.R).length : Nat) : Int) c4_ hc4), (vBn hc5), (m_dfawithinb_ok n 16 c6_ hc6), (vBn hc7), trivial⟩
set_option maxRecDepth 100000 in
theorem p_dfaCheck_3 (n : Nat) (hc1 : ¬ ((((Args.R).length : Nat) : Int) < (1 : Int))) (hc2 : ¬ ((((Args.R).length : Nat) : Int) > (512 : Int))) (hc3 : (((Args.N).length : Nat) : Int) = (w64 ((((Args.R).length : Nat) : Int) * (256 : Int)))) (c4_ : Bool) (hc4 : m_dfawithina n (((Args.R).length : Nat) : Int) = some c4_) (hc5 : c4_ = true) (c6_ : Bool) (hc6 : m_dfawithinb n 16 = some c6_) (hc7 : ¬ (c6_ = true)) : G_dfaCheck  2 :=
  runF_ok hm (A := aT [(11, .val (.bool false)), (14, .val (.bool false)), (22, .val (.bool false)), (30, .call ⟨0, [], (V_dfawithina (((Args.R).length : Nat) : Int) c4_), (R_dfawithina (((Args.R).length : Nat) : Int) c4_), []⟩), (31, .val (.bool false)), (35, .call ⟨0, [], (V_dfawithinb 16 c6_), (R_dfawithinb 16 c6_), []⟩), (36, .val (.bool true))]) (L := lT []) (wk := ⟨[2], [], 0, 0⟩)
    (ps := [(Value.bool (decide ((((Args.R).length : Nat) : Int) < (1 : Int)))) = (Value.bool false),
    (Value.bool (decide ((((Args.R).length : Nat) : Int) > (512 : Int)))) = (Value.bool false),
    (Value.bool ((((Args.N).length : Nat) : Int) != (w64 ((((Args.R).length : Nat) : Int) * (256 : Int))))) = (Value.bool false),
    G_dfawithina (((Args.R).length : Nat) : Int) c4_,
    (Value.bool (!c4_)) = (Value.bool false),
    G_dfawithinb 16 c6_,
    (Value.bool (!c6_)) = (Value.bool true)]) (by kernel_rfl) ⟨(vbF hc1), (vbF hc2), (vnF hc3), (m_dfawithina_ok n (((Args.R).length : Nat) : Int) c4_ hc4), (vBn hc5), (m_dfawithinb_ok n 16 c6_ hc6), (vBn (Bool.eq_false_iff.2 hc7)), trivial⟩
set_option maxRecDepth 100000 in
theorem p_dfaCheck_4 (n : Nat) (hc1 : ¬ ((((Args.R).length : Nat) : Int) < (1 : Int))) (hc2 : ¬ ((((Args.R).length : Nat) : Int) > (512 : Int))) (hc3 : (((Args.N).length : Nat) : Int) = (w64 ((((Args.R).length : Nat) : Int) * (256 : Int)))) (c4_ : Bool) (hc4 : m_dfawithina n (((Args.R).length : Nat) : Int) = some c4_) (hc5 : ¬ (c4_ = true)) : G_dfaCheck  2 :=
  runF_ok hm (A := aT [(11, .val (.bool false)), (14, .val (.bool false)), (22, .val (.bool false)), (30, .call ⟨0, [], (V_dfawithina (((Args.R).length : Nat) : Int) c4_), (R_dfawithina (((Args.R).length : Nat) : Int) c4_), []⟩), (31, .val (.bool true))]) (L := lT []) (wk := ⟨[2], [], 0, 0⟩)
    (ps := [(Value.bool (decide ((((Args.R).length : Nat) : Int) < (1 : Int)))) = (Value.bool false),
    (Value.bool (decide ((((Args.R).length : Nat) : Int) > (512 : Int)))) = (Value.bool false),
    (Value.bool ((((Args.N).length : Nat) : Int) != (w64 ((((Args.R).length : Nat) : Int) * (256 : Int))))) = (Value.bool false),
    G_dfawithina (((Args.R).length : Nat) : Int) c4_,
    (Value.bool (!c4_)) = (Value.bool true)]) (by kernel_rfl) ⟨(vbF hc1), (vbF hc2), (vnF hc3), (m_dfawithina_ok n (((Args.R).length : Nat) : Int) c4_ hc4), (vBn (Bool.eq_false_iff.2 hc5)), trivial⟩
set_option maxRecDepth 100000 in
theorem p_dfaCheck_5 (n : Nat) (hc1 : ¬ ((((Args.R).length : Nat) : Int) < (1 : Int))) (hc2 : ¬ ((((Args.R).length : Nat) : Int) > (512 : Int))) (hc3 : ¬ ((((Args.N).length : Nat) : Int) = (w64 ((((Args.R).length : Nat) : Int) * (256 : Int))))) : G_dfaCheck  2 :=
  runF_ok hm (A := aT [(11, .val (.bool false)), (14, .val (.bool false)), (22, .val (.bool true))]) (L := lT []) (wk := ⟨[2], [], 0, 0⟩)
    (ps := [(Value.bool (decide ((((Args.R).length : Nat) : Int) < (1 : Int)))) = (Value.bool false),
    (Value.bool (decide ((((Args.R).length : Nat) : Int) > (512 : Int)))) = (Value.bool false),
    (Value.bool ((((Args.N).length : Nat) : Int) != (w64 ((((Args.R).length : Nat) : Int) * (256 : Int))))) = (Value.bool true)]) (by kernel_rfl) ⟨(vbF hc1), (vbF hc2), (vnT hc3), trivial⟩
theorem m_dfaCheck_ok (n : Nat) (r : Int) (h : m_dfaCheck n = some r) : G_dfaCheck  r := by
  unfold m_dfaCheck at h
  by_cases hc1 : (((Args.R).length : Nat) : Int) < (1 : Int)
  · rw [if_pos hc1] at h
    obtain rfl := Option.some.inj h; exact p_dfaCheck_0 n hc1
  · rw [if_neg hc1] at h
    by_cases hc2 : (((Args.R).length : Nat) : Int) > (512 : Int)
    · rw [if_pos hc2] at h
      obtain rfl := Option.some.inj h; exact p_dfaCheck_1 n hc1 hc2
    · rw [if_neg hc2] at h
      by_cases hc3 : (((Args.N).length : Nat) : Int) = (w64 ((((Args.R).length : Nat) : Int) * (256 : Int)))
      · rw [if_pos hc3] at h
        obtain ⟨c4_, hc4, h⟩ := Option.bind_eq_some_iff.1 h
        by_cases hc5 : c4_ = true
        · rw [if_pos hc5] at h
          obtain ⟨c6_, hc6, h⟩ := Option.bind_eq_some_iff.1 h
          by_cases hc7 : c6_ = true
          · rw [if_pos hc7] at h
            obtain rfl := Option.some.inj h; exact p_dfaCheck_2 n hc1 hc2 hc3 c4_ hc4 hc5 c6_ hc6 hc7
          · rw [if_neg hc7] at h
            obtain rfl := Option.some.inj h; exact p_dfaCheck_3 n hc1 hc2 hc3 c4_ hc4 hc5 c6_ hc6 hc7
        · rw [if_neg hc5] at h
          obtain rfl := Option.some.inj h; exact p_dfaCheck_4 n hc1 hc2 hc3 c4_ hc4 hc5
      · rw [if_neg hc3] at h
        obtain rfl := Option.some.inj h; exact p_dfaCheck_5 n hc1 hc2 hc3

noncomputable def S_viewportref04Check_2 (x2_0 : Int) (st : Int) : XSt := match st with
  | x2_1 => (sT 64 [(1, (Value.pointer (some ⟨0, 0, none⟩))), (3, (Value.int .i64 x2_0)), (5, (Value.int .i64 x2_1))], [], ⟨sB [(0, (some (.cells (layT [(Value.slice (some ⟨0, 0, some 1⟩) (Args.N).length Args.cN), (Value.slice (some ⟨1, 0, some 1⟩) (Args.R).length Args.cR)]) 24)))], 1, 0⟩)
noncomputable def X_viewportref04Check_2 (x2_0 : Int) (r : (Unit) ⊕ (Unit)) : Ex × XSt := match r with
  | .inl _ => (.ret, (sT 64 [(2, (Value.int .i64 (2 : Int)))], [], ⟨sB [], 0, 0⟩))
  | .inr _ => (.exit 2, (sT 64 [], [], ⟨sB [], 0, 0⟩))
def B_viewportref04Check_2 (n : Nat) (x2_0 : Int) (st : Int) : Option ((Int) ⊕ ((Unit) ⊕ (Unit))) := match st with
  | x2_1 =>
    if x2_1 < (((Args.N).length : Nat) : Int) then
      if 0 ≤ x2_1 ∧ x2_1 < (((Args.N).length : Nat) : Int) then
        if ((Args.N).getD (x2_1).toNat 0) < (-1 : Int) then
          some (.inr (.inl ()))
        else
          if ((Args.N).getD (x2_1).toNat 0) ≥ x2_0 then
            some (.inr (.inl ()))
          else
            some (.inl (w64 (x2_1 + (1 : Int))))
      else none
    else
      some (.inr (.inr ()))
def m_viewportref04Check_2 (n : Nat) (x2_0 : Int) (st : Int) : Option ((Unit) ⊕ (Unit)) := iterM (B_viewportref04Check_2 n x2_0) n st
set_option maxRecDepth 100000 in
theorem q_viewportref04Check_2_0 (n : Nat) (x2_0 : Int) (x2_1 : Int) (hy2_1 : x2_1 < (((Args.N).length : Nat) : Int)) (hy2_2 : 0 ≤ x2_1 ∧ x2_1 < (((Args.N).length : Nat) : Int)) (hy2_3 : ((Args.N).getD (x2_1).toNat 0) < (-1 : Int)) : CG P none (fnN P 27) 0 (codeOf P 27 [false, false, true, false, true, true, true, true]) (S_viewportref04Check_2 x2_0 x2_1) (X_viewportref04Check_2 x2_0 (.inl ())) :=
  runC_ok hm (A := aT [(6, .val (.bool true)), (14, .pur (Value.pointer (some ⟨0, (x2_1).toNat, some 1⟩))), (15, .ld (Value.int .i64 ((Args.N).getD (x2_1).toNat 0))), (16, .val (.bool true))]) (L := lT []) (wk := ⟨[2], [], 0, 0⟩)
    (ps := [(Value.bool (decide (x2_1 < (((Args.N).length : Nat) : Int)))) = (Value.bool true),
    opIndexAddr P 22 (Value.slice (some ⟨0, 0, some 1⟩) (Args.N).length Args.cN) (Value.int .i64 x2_1) Ax.h0 = some ((Value.pointer (some ⟨0, (x2_1).toNat, some 1⟩)), Ax.h0),
    loadG P 3 (Value.pointer (some ⟨0, (x2_1).toNat, some 1⟩)) Ax.h0 = some ((Value.int .i64 ((Args.N).getD (x2_1).toNat 0)), Ax.h0),
    (Value.bool (decide (((Args.N).getD (x2_1).toNat 0) < (-1 : Int)))) = (Value.bool true)]) (by kernel_rfl) ⟨(vbT hy2_1), (ixW1 (e := 3) (by kernel_rfl) (by kernel_rfl) hy2_2), (ldW rfl (by kernel_rfl) (toNatLt hy2_2)), (vbT hy2_3), trivial⟩
set_option maxRecDepth 100000 in
theorem q_viewportref04Check_2_1 (n : Nat) (x2_0 : Int) (x2_1 : Int) (hy2_1 : x2_1 < (((Args.N).length : Nat) : Int)) (hy2_2 : 0 ≤ x2_1 ∧ x2_1 < (((Args.N).length : Nat) : Int)) (hy2_3 : ¬ (((Args.N).getD (x2_1).toNat 0) < (-1 : Int))) (hy2_4 : ((Args.N).getD (x2_1).toNat 0) ≥ x2_0) : CG P none (fnN P 27) 0 (codeOf P 27 [false, false, true, false, true, true, true, true]) (S_viewportref04Check_2 x2_0 x2_1) (X_viewportref04Check_2 x2_0 (.inl ())) :=
  runC_ok hm (A := aT [(6, .val (.bool true)), (14, .pur (Value.pointer (some ⟨0, (x2_1).toNat, some 1⟩))), (15, .ld (Value.int .i64 ((Args.N).getD (x2_1).toNat 0))), (16, .val (.bool false)), (21, .pur (Value.pointer (some ⟨0, (x2_1).toNat, some 1⟩))), (22, .ld (Value.int .i64 ((Args.N).getD (x2_1).toNat 0))), (24, .val (.bool true))]) (L := lT []) (wk := ⟨[2], [], 0, 0⟩)
    (ps := [(Value.bool (decide (x2_1 < (((Args.N).length : Nat) : Int)))) = (Value.bool true),
    opIndexAddr P 22 (Value.slice (some ⟨0, 0, some 1⟩) (Args.N).length Args.cN) (Value.int .i64 x2_1) Ax.h0 = some ((Value.pointer (some ⟨0, (x2_1).toNat, some 1⟩)), Ax.h0),
    loadG P 3 (Value.pointer (some ⟨0, (x2_1).toNat, some 1⟩)) Ax.h0 = some ((Value.int .i64 ((Args.N).getD (x2_1).toNat 0)), Ax.h0),
    (Value.bool (decide (((Args.N).getD (x2_1).toNat 0) < (-1 : Int)))) = (Value.bool false),
    opIndexAddr P 22 (Value.slice (some ⟨0, 0, some 1⟩) (Args.N).length Args.cN) (Value.int .i64 x2_1) Ax.h0 = some ((Value.pointer (some ⟨0, (x2_1).toNat, some 1⟩)), Ax.h0),
    loadG P 3 (Value.pointer (some ⟨0, (x2_1).toNat, some 1⟩)) Ax.h0 = some ((Value.int .i64 ((Args.N).getD (x2_1).toNat 0)), Ax.h0),
    (Value.bool (decide (((Args.N).getD (x2_1).toNat 0) ≥ x2_0))) = (Value.bool true)]) (by kernel_rfl) ⟨(vbT hy2_1), (ixW1 (e := 3) (by kernel_rfl) (by kernel_rfl) hy2_2), (ldW rfl (by kernel_rfl) (toNatLt hy2_2)), (vbF hy2_3), (ixW1 (e := 3) (by kernel_rfl) (by kernel_rfl) hy2_2), (ldW rfl (by kernel_rfl) (toNatLt hy2_2)), (vbT hy2_4), trivial⟩
set_option maxRecDepth 100000 in
theorem q_viewportref04Check_2_2 (n : Nat) (x2_0 : Int) (x2_1 : Int) (hy2_1 : x2_1 < (((Args.N).length : Nat) : Int)) (hy2_2 : 0 ≤ x2_1 ∧ x2_1 < (((Args.N).length : Nat) : Int)) (hy2_3 : ¬ (((Args.N).getD (x2_1).toNat 0) < (-1 : Int))) (hy2_4 : ¬ (((Args.N).getD (x2_1).toNat 0) ≥ x2_0)) : CG P none (fnN P 27) 0 (codeOf P 27 [false, false, true, false, true, true, true, true]) (S_viewportref04Check_2 x2_0 x2_1) (.normal, S_viewportref04Check_2 x2_0 (w64 (x2_1 + (1 : Int)))) :=
  runC_ok hm (A := aT [(6, .val (.bool true)), (14, .pur (Value.pointer (some ⟨0, (x2_1).toNat, some 1⟩))), (15, .ld (Value.int .i64 ((Args.N).getD (x2_1).toNat 0))), (16, .val (.bool false)), (21, .pur (Value.pointer (some ⟨0, (x2_1).toNat, some 1⟩))), (22, .ld (Value.int .i64 ((Args.N).getD (x2_1).toNat 0))), (24, .val (.bool false))]) (L := lT []) (wk := ⟨[1, 3, 5], [(0, 0, false)], 1, 0⟩)
    (ps := [(Value.bool (decide (x2_1 < (((Args.N).length : Nat) : Int)))) = (Value.bool true),
    opIndexAddr P 22 (Value.slice (some ⟨0, 0, some 1⟩) (Args.N).length Args.cN) (Value.int .i64 x2_1) Ax.h0 = some ((Value.pointer (some ⟨0, (x2_1).toNat, some 1⟩)), Ax.h0),
    loadG P 3 (Value.pointer (some ⟨0, (x2_1).toNat, some 1⟩)) Ax.h0 = some ((Value.int .i64 ((Args.N).getD (x2_1).toNat 0)), Ax.h0),
    (Value.bool (decide (((Args.N).getD (x2_1).toNat 0) < (-1 : Int)))) = (Value.bool false),
    opIndexAddr P 22 (Value.slice (some ⟨0, 0, some 1⟩) (Args.N).length Args.cN) (Value.int .i64 x2_1) Ax.h0 = some ((Value.pointer (some ⟨0, (x2_1).toNat, some 1⟩)), Ax.h0),
    loadG P 3 (Value.pointer (some ⟨0, (x2_1).toNat, some 1⟩)) Ax.h0 = some ((Value.int .i64 ((Args.N).getD (x2_1).toNat 0)), Ax.h0),
    (Value.bool (decide (((Args.N).getD (x2_1).toNat 0) ≥ x2_0))) = (Value.bool false)]) (by kernel_rfl) ⟨(vbT hy2_1), (ixW1 (e := 3) (by kernel_rfl) (by kernel_rfl) hy2_2), (ldW rfl (by kernel_rfl) (toNatLt hy2_2)), (vbF hy2_3), (ixW1 (e := 3) (by kernel_rfl) (by kernel_rfl) hy2_2), (ldW rfl (by kernel_rfl) (toNatLt hy2_2)), (vbF hy2_4), trivial⟩
set_option maxRecDepth 100000 in
theorem q_viewportref04Check_2_3 (n : Nat) (x2_0 : Int) (x2_1 : Int) (hy2_1 : ¬ (x2_1 < (((Args.N).length : Nat) : Int))) : CG P none (fnN P 27) 0 (codeOf P 27 [false, false, true, false, true, true, true, true]) (S_viewportref04Check_2 x2_0 x2_1) (X_viewportref04Check_2 x2_0 (.inr ())) :=
  runC_ok hm (A := aT [(6, .val (.bool false))]) (L := lT []) (wk := ⟨[], [], 0, 0⟩)
    (ps := [(Value.bool (decide (x2_1 < (((Args.N).length : Nat) : Int)))) = (Value.bool false)]) (by kernel_rfl) ⟨(vbF hy2_1), trivial⟩
theorem m_viewportref04Check_2_ok (n : Nat) (x2_0 : Int) (st : Int) (r : (Unit) ⊕ (Unit)) (h : m_viewportref04Check_2 n x2_0 st = some r) : CG P none (fnN P 27) 0 (codeOf P 27 [false, true, false, true, true, true, true]) (S_viewportref04Check_2 x2_0 st) (X_viewportref04Check_2 x2_0 r) :=
  CG.iter (b := codeOf P 27 [false, false, true, false, true, true, true, true]) (by kernel_rfl) (body := B_viewportref04Check_2 n x2_0) (S := S_viewportref04Check_2 x2_0) (X := X_viewportref04Check_2 x2_0)
    (fun x2_1 s' h => by
    unfold B_viewportref04Check_2 at h
    dsimp only at h
    by_cases hy2_1 : x2_1 < (((Args.N).length : Nat) : Int)
    · rw [if_pos hy2_1] at h
      by_cases hy2_2 : 0 ≤ x2_1 ∧ x2_1 < (((Args.N).length : Nat) : Int)
      · rw [if_pos hy2_2] at h
        by_cases hy2_3 : ((Args.N).getD (x2_1).toNat 0) < (-1 : Int)
        · rw [if_pos hy2_3] at h
          cases h
        · rw [if_neg hy2_3] at h
          by_cases hy2_4 : ((Args.N).getD (x2_1).toNat 0) ≥ x2_0
          · rw [if_pos hy2_4] at h
            cases h
          · rw [if_neg hy2_4] at h
            obtain rfl := Sum.inl.inj (Option.some.inj h); exact q_viewportref04Check_2_2 n x2_0 x2_1 hy2_1 hy2_2 hy2_3 hy2_4
      · rw [if_neg hy2_2] at h; cases h
    · rw [if_neg hy2_1] at h
      cases h)
    (fun x2_1 r h => by
    unfold B_viewportref04Check_2 at h
    dsimp only at h
    by_cases hy2_1 : x2_1 < (((Args.N).length : Nat) : Int)
    · rw [if_pos hy2_1] at h
      by_cases hy2_2 : 0 ≤ x2_1 ∧ x2_1 < (((Args.N).length : Nat) : Int)
      · rw [if_pos hy2_2] at h
        by_cases hy2_3 : ((Args.N).getD (x2_1).toNat 0) < (-1 : Int)
        · rw [if_pos hy2_3] at h
          obtain rfl := Sum.inr.inj (Option.some.inj h); exact q_viewportref04Check_2_0 n x2_0 x2_1 hy2_1 hy2_2 hy2_3
        · rw [if_neg hy2_3] at h
          by_cases hy2_4 : ((Args.N).getD (x2_1).toNat 0) ≥ x2_0
          · rw [if_pos hy2_4] at h
            obtain rfl := Sum.inr.inj (Option.some.inj h); exact q_viewportref04Check_2_1 n x2_0 x2_1 hy2_1 hy2_2 hy2_3 hy2_4
          · rw [if_neg hy2_4] at h
            cases h
      · rw [if_neg hy2_2] at h; cases h
    · rw [if_neg hy2_1] at h
      obtain rfl := Sum.inr.inj (Option.some.inj h); exact q_viewportref04Check_2_3 n x2_0 x2_1 hy2_1)
    (fun r => by intro hx; rcases r with _ | _ <;> cases hx) h
noncomputable def S_viewportref04Check_1 (x1_0 : Int) (st : Int) : XSt := match st with
  | x1_1 => (sT 64 [(1, (Value.pointer (some ⟨0, 0, none⟩))), (3, (Value.int .i64 x1_0)), (4, (Value.int .i64 x1_1))], [], ⟨sB [(0, (some (.cells (layT [(Value.slice (some ⟨0, 0, some 1⟩) (Args.N).length Args.cN), (Value.slice (some ⟨1, 0, some 1⟩) (Args.R).length Args.cR)]) 24)))], 1, 0⟩)
noncomputable def X_viewportref04Check_1 (x1_0 : Int) (r : (Unit) ⊕ (Unit)) : Ex × XSt := match r with
  | .inl _ => (.ret, (sT 64 [(2, (Value.int .i64 (2 : Int)))], [], ⟨sB [], 0, 0⟩))
  | .inr _ => (.exit 0, (sT 64 [(1, (Value.pointer (some ⟨0, 0, none⟩))), (3, (Value.int .i64 x1_0))], [], ⟨sB [(0, (some (.cells (layT [(Value.slice (some ⟨0, 0, some 1⟩) (Args.N).length Args.cN), (Value.slice (some ⟨1, 0, some 1⟩) (Args.R).length Args.cR)]) 24)))], 1, 0⟩))
def B_viewportref04Check_1 (n : Nat) (x1_0 : Int) (st : Int) : Option ((Int) ⊕ ((Unit) ⊕ (Unit))) := match st with
  | x1_1 =>
    if x1_1 < x1_0 then
      if 0 ≤ x1_1 ∧ x1_1 < (((Args.R).length : Nat) : Int) then
        if ((Args.R).getD (x1_1).toNat 0) < (-1 : Int) then
          some (.inr (.inl ()))
        else
          if ((Args.R).getD (x1_1).toNat 0) ≥ (16 : Int) then
            some (.inr (.inl ()))
          else
            some (.inl (w64 (x1_1 + (1 : Int))))
      else none
    else
      some (.inr (.inr ()))
def m_viewportref04Check_1 (n : Nat) (x1_0 : Int) (st : Int) : Option ((Unit) ⊕ (Unit)) := iterM (B_viewportref04Check_1 n x1_0) n st
set_option maxRecDepth 100000 in
theorem q_viewportref04Check_1_0 (n : Nat) (x1_0 : Int) (x1_1 : Int) (hy1_1 : x1_1 < x1_0) (hy1_2 : 0 ≤ x1_1 ∧ x1_1 < (((Args.R).length : Nat) : Int)) (hy1_3 : ((Args.R).getD (x1_1).toNat 0) < (-1 : Int)) : CG P none (fnN P 27) 0 (codeOf P 27 [false, false, true, false, true, true, true]) (S_viewportref04Check_1 x1_0 x1_1) (X_viewportref04Check_1 x1_0 (.inl ())) :=
  runC_ok hm (A := aT [(4, .val (.bool true)), (12, .pur (Value.pointer (some ⟨1, (x1_1).toNat, some 1⟩))), (13, .ld (Value.int .i64 ((Args.R).getD (x1_1).toNat 0))), (14, .val (.bool true))]) (L := lT []) (wk := ⟨[2], [], 0, 0⟩)
    (ps := [(Value.bool (decide (x1_1 < x1_0))) = (Value.bool true),
    opIndexAddr P 22 (Value.slice (some ⟨1, 0, some 1⟩) (Args.R).length Args.cR) (Value.int .i64 x1_1) Ax.h0 = some ((Value.pointer (some ⟨1, (x1_1).toNat, some 1⟩)), Ax.h0),
    loadG P 3 (Value.pointer (some ⟨1, (x1_1).toNat, some 1⟩)) Ax.h0 = some ((Value.int .i64 ((Args.R).getD (x1_1).toNat 0)), Ax.h0),
    (Value.bool (decide (((Args.R).getD (x1_1).toNat 0) < (-1 : Int)))) = (Value.bool true)]) (by kernel_rfl) ⟨(vbT hy1_1), (ixW1 (e := 3) (by kernel_rfl) (by kernel_rfl) hy1_2), (ldW rfl (by kernel_rfl) (toNatLt hy1_2)), (vbT hy1_3), trivial⟩
set_option maxRecDepth 100000 in
theorem q_viewportref04Check_1_1 (n : Nat) (x1_0 : Int) (x1_1 : Int) (hy1_1 : x1_1 < x1_0) (hy1_2 : 0 ≤ x1_1 ∧ x1_1 < (((Args.R).length : Nat) : Int)) (hy1_3 : ¬ (((Args.R).getD (x1_1).toNat 0) < (-1 : Int))) (hy1_4 : ((Args.R).getD (x1_1).toNat 0) ≥ (16 : Int)) : CG P none (fnN P 27) 0 (codeOf P 27 [false, false, true, false, true, true, true]) (S_viewportref04Check_1 x1_0 x1_1) (X_viewportref04Check_1 x1_0 (.inl ())) :=
  runC_ok hm (A := aT [(4, .val (.bool true)), (12, .pur (Value.pointer (some ⟨1, (x1_1).toNat, some 1⟩))), (13, .ld (Value.int .i64 ((Args.R).getD (x1_1).toNat 0))), (14, .val (.bool false)), (19, .pur (Value.pointer (some ⟨1, (x1_1).toNat, some 1⟩))), (20, .ld (Value.int .i64 ((Args.R).getD (x1_1).toNat 0))), (21, .val (.bool true))]) (L := lT []) (wk := ⟨[2], [], 0, 0⟩)
    (ps := [(Value.bool (decide (x1_1 < x1_0))) = (Value.bool true),
    opIndexAddr P 22 (Value.slice (some ⟨1, 0, some 1⟩) (Args.R).length Args.cR) (Value.int .i64 x1_1) Ax.h0 = some ((Value.pointer (some ⟨1, (x1_1).toNat, some 1⟩)), Ax.h0),
    loadG P 3 (Value.pointer (some ⟨1, (x1_1).toNat, some 1⟩)) Ax.h0 = some ((Value.int .i64 ((Args.R).getD (x1_1).toNat 0)), Ax.h0),
    (Value.bool (decide (((Args.R).getD (x1_1).toNat 0) < (-1 : Int)))) = (Value.bool false),
    opIndexAddr P 22 (Value.slice (some ⟨1, 0, some 1⟩) (Args.R).length Args.cR) (Value.int .i64 x1_1) Ax.h0 = some ((Value.pointer (some ⟨1, (x1_1).toNat, some 1⟩)), Ax.h0),
    loadG P 3 (Value.pointer (some ⟨1, (x1_1).toNat, some 1⟩)) Ax.h0 = some ((Value.int .i64 ((Args.R).getD (x1_1).toNat 0)), Ax.h0),
    (Value.bool (decide (((Args.R).getD (x1_1).toNat 0) ≥ (16 : Int)))) = (Value.bool true)]) (by kernel_rfl) ⟨(vbT hy1_1), (ixW1 (e := 3) (by kernel_rfl) (by kernel_rfl) hy1_2), (ldW rfl (by kernel_rfl) (toNatLt hy1_2)), (vbF hy1_3), (ixW1 (e := 3) (by kernel_rfl) (by kernel_rfl) hy1_2), (ldW rfl (by kernel_rfl) (toNatLt hy1_2)), (vbT hy1_4), trivial⟩
set_option maxRecDepth 100000 in
theorem q_viewportref04Check_1_2 (n : Nat) (x1_0 : Int) (x1_1 : Int) (hy1_1 : x1_1 < x1_0) (hy1_2 : 0 ≤ x1_1 ∧ x1_1 < (((Args.R).length : Nat) : Int)) (hy1_3 : ¬ (((Args.R).getD (x1_1).toNat 0) < (-1 : Int))) (hy1_4 : ¬ (((Args.R).getD (x1_1).toNat 0) ≥ (16 : Int))) : CG P none (fnN P 27) 0 (codeOf P 27 [false, false, true, false, true, true, true]) (S_viewportref04Check_1 x1_0 x1_1) (.normal, S_viewportref04Check_1 x1_0 (w64 (x1_1 + (1 : Int)))) :=
  runC_ok hm (A := aT [(4, .val (.bool true)), (12, .pur (Value.pointer (some ⟨1, (x1_1).toNat, some 1⟩))), (13, .ld (Value.int .i64 ((Args.R).getD (x1_1).toNat 0))), (14, .val (.bool false)), (19, .pur (Value.pointer (some ⟨1, (x1_1).toNat, some 1⟩))), (20, .ld (Value.int .i64 ((Args.R).getD (x1_1).toNat 0))), (21, .val (.bool false))]) (L := lT []) (wk := ⟨[1, 3, 4], [(0, 0, false)], 1, 0⟩)
    (ps := [(Value.bool (decide (x1_1 < x1_0))) = (Value.bool true),
    opIndexAddr P 22 (Value.slice (some ⟨1, 0, some 1⟩) (Args.R).length Args.cR) (Value.int .i64 x1_1) Ax.h0 = some ((Value.pointer (some ⟨1, (x1_1).toNat, some 1⟩)), Ax.h0),
    loadG P 3 (Value.pointer (some ⟨1, (x1_1).toNat, some 1⟩)) Ax.h0 = some ((Value.int .i64 ((Args.R).getD (x1_1).toNat 0)), Ax.h0),
    (Value.bool (decide (((Args.R).getD (x1_1).toNat 0) < (-1 : Int)))) = (Value.bool false),
    opIndexAddr P 22 (Value.slice (some ⟨1, 0, some 1⟩) (Args.R).length Args.cR) (Value.int .i64 x1_1) Ax.h0 = some ((Value.pointer (some ⟨1, (x1_1).toNat, some 1⟩)), Ax.h0),
    loadG P 3 (Value.pointer (some ⟨1, (x1_1).toNat, some 1⟩)) Ax.h0 = some ((Value.int .i64 ((Args.R).getD (x1_1).toNat 0)), Ax.h0),
    (Value.bool (decide (((Args.R).getD (x1_1).toNat 0) ≥ (16 : Int)))) = (Value.bool false)]) (by kernel_rfl) ⟨(vbT hy1_1), (ixW1 (e := 3) (by kernel_rfl) (by kernel_rfl) hy1_2), (ldW rfl (by kernel_rfl) (toNatLt hy1_2)), (vbF hy1_3), (ixW1 (e := 3) (by kernel_rfl) (by kernel_rfl) hy1_2), (ldW rfl (by kernel_rfl) (toNatLt hy1_2)), (vbF hy1_4), trivial⟩
set_option maxRecDepth 100000 in
theorem q_viewportref04Check_1_3 (n : Nat) (x1_0 : Int) (x1_1 : Int) (hy1_1 : ¬ (x1_1 < x1_0)) : CG P none (fnN P 27) 0 (codeOf P 27 [false, false, true, false, true, true, true]) (S_viewportref04Check_1 x1_0 x1_1) (X_viewportref04Check_1 x1_0 (.inr ())) :=
  runC_ok hm (A := aT [(4, .val (.bool false))]) (L := lT []) (wk := ⟨[1, 3], [(0, 0, false)], 1, 0⟩)
    (ps := [(Value.bool (decide (x1_1 < x1_0))) = (Value.bool false)]) (by kernel_rfl) ⟨(vbF hy1_1), trivial⟩
theorem m_viewportref04Check_1_ok (n : Nat) (x1_0 : Int) (st : Int) (r : (Unit) ⊕ (Unit)) (h : m_viewportref04Check_1 n x1_0 st = some r) : CG P none (fnN P 27) 0 (codeOf P 27 [false, true, false, true, true, true]) (S_viewportref04Check_1 x1_0 st) (X_viewportref04Check_1 x1_0 r) :=
  CG.iter (b := codeOf P 27 [false, false, true, false, true, true, true]) (by kernel_rfl) (body := B_viewportref04Check_1 n x1_0) (S := S_viewportref04Check_1 x1_0) (X := X_viewportref04Check_1 x1_0)
    (fun x1_1 s' h => by
    unfold B_viewportref04Check_1 at h
    dsimp only at h
    by_cases hy1_1 : x1_1 < x1_0
    · rw [if_pos hy1_1] at h
      by_cases hy1_2 : 0 ≤ x1_1 ∧ x1_1 < (((Args.R).length : Nat) : Int)
      · rw [if_pos hy1_2] at h
        by_cases hy1_3 : ((Args.R).getD (x1_1).toNat 0) < (-1 : Int)
        · rw [if_pos hy1_3] at h
          cases h
        · rw [if_neg hy1_3] at h
          by_cases hy1_4 : ((Args.R).getD (x1_1).toNat 0) ≥ (16 : Int)
          · rw [if_pos hy1_4] at h
            cases h
          · rw [if_neg hy1_4] at h
            obtain rfl := Sum.inl.inj (Option.some.inj h); exact q_viewportref04Check_1_2 n x1_0 x1_1 hy1_1 hy1_2 hy1_3 hy1_4
      · rw [if_neg hy1_2] at h; cases h
    · rw [if_neg hy1_1] at h
      cases h)
    (fun x1_1 r h => by
    unfold B_viewportref04Check_1 at h
    dsimp only at h
    by_cases hy1_1 : x1_1 < x1_0
    · rw [if_pos hy1_1] at h
      by_cases hy1_2 : 0 ≤ x1_1 ∧ x1_1 < (((Args.R).length : Nat) : Int)
      · rw [if_pos hy1_2] at h
        by_cases hy1_3 : ((Args.R).getD (x1_1).toNat 0) < (-1 : Int)
        · rw [if_pos hy1_3] at h
          obtain rfl := Sum.inr.inj (Option.some.inj h); exact q_viewportref04Check_1_0 n x1_0 x1_1 hy1_1 hy1_2 hy1_3
        · rw [if_neg hy1_3] at h
          by_cases hy1_4 : ((Args.R).getD (x1_1).toNat 0) ≥ (16 : Int)
          · rw [if_pos hy1_4] at h
            obtain rfl := Sum.inr.inj (Option.some.inj h); exact q_viewportref04Check_1_1 n x1_0 x1_1 hy1_1 hy1_2 hy1_3 hy1_4
          · rw [if_neg hy1_4] at h
            cases h
      · rw [if_neg hy1_2] at h; cases h
    · rw [if_neg hy1_1] at h
      obtain rfl := Sum.inr.inj (Option.some.inj h); exact q_viewportref04Check_1_3 n x1_0 x1_1 hy1_1)
    (fun r => by intro hx; rcases r with _ | _ <;> cases hx) h
noncomputable def A_viewportref04Check : List Value := [(Value.agg #[(Value.slice (some ⟨0, 0, some 1⟩) (Args.N).length Args.cN), (Value.slice (some ⟨1, 0, some 1⟩) (Args.R).length Args.cR)])]
noncomputable def H_viewportref04Check : AH := ⟨sB [], 0, 0⟩
noncomputable def V_viewportref04Check (r : Int) : Value := match r with
  | o0 => (Value.int .i64 o0)
noncomputable def R_viewportref04Check (r : Int) : AH := match r with
  | o0 => ⟨sB [], 0, 0⟩
noncomputable abbrev G_viewportref04Check  (r : Int) : Prop := Gv P (.func 27) (A_viewportref04Check ) (H_viewportref04Check ) (V_viewportref04Check  r) (R_viewportref04Check  r)
def m_viewportref04Check (n : Nat) : Option (Int) :=
  if (((Args.R).length : Nat) : Int) < (1 : Int) then
    some 2
  else
    if (((Args.R).length : Nat) : Int) > (512 : Int) then
      some 2
    else
      if (((Args.N).length : Nat) : Int) = (w64 ((256 : Int) * (((Args.R).length : Nat) : Int))) then
        match m_viewportref04Check_1 n (((Args.R).length : Nat) : Int) 0 with
        | none => none
        | some (.inl _) =>
          some 2
        | some (.inr _) =>
          match m_viewportref04Check_2 n (((Args.R).length : Nat) : Int) 0 with
          | none => none
          | some (.inl _) =>
            some 2
          | some (.inr _) =>
            some 0
      else
        some 2
set_option maxRecDepth 100000 in
theorem p_viewportref04Check_0 (n : Nat) (hc1 : (((Args.R).length : Nat) : Int) < (1 : Int)) : G_viewportref04Check  2 :=
  runF_ok hm (A := aT [(11, .val (.bool true))]) (L := lT []) (wk := ⟨[2], [], 0, 0⟩)
    (ps := [(Value.bool (decide ((((Args.R).length : Nat) : Int) < (1 : Int)))) = (Value.bool true)]) (by kernel_rfl) ⟨(vbT hc1), trivial⟩
set_option maxRecDepth 100000 in
theorem p_viewportref04Check_1 (n : Nat) (hc1 : ¬ ((((Args.R).length : Nat) : Int) < (1 : Int))) (hc2 : (((Args.R).length : Nat) : Int) > (512 : Int)) : G_viewportref04Check  2 :=
  runF_ok hm (A := aT [(11, .val (.bool false)), (14, .val (.bool true))]) (L := lT []) (wk := ⟨[2], [], 0, 0⟩)
    (ps := [(Value.bool (decide ((((Args.R).length : Nat) : Int) < (1 : Int)))) = (Value.bool false),
    (Value.bool (decide ((((Args.R).length : Nat) : Int) > (512 : Int)))) = (Value.bool true)]) (by kernel_rfl) ⟨(vbF hc1), (vbT hc2), trivial⟩
set_option maxRecDepth 100000 in
theorem p_viewportref04Check_2 (n : Nat) (hc1 : ¬ ((((Args.R).length : Nat) : Int) < (1 : Int))) (hc2 : ¬ ((((Args.R).length : Nat) : Int) > (512 : Int))) (hc3 : (((Args.N).length : Nat) : Int) = (w64 ((256 : Int) * (((Args.R).length : Nat) : Int)))) (hc4 : m_viewportref04Check_1 n (((Args.R).length : Nat) : Int) 0 = some (.inl ())) : G_viewportref04Check  2 :=
  runF_ok hm (A := aT [(11, .val (.bool false)), (14, .val (.bool false)), (22, .val (.bool false))]) (L := lT [(29, ⟨⟨[1, 3, 4], [(0, 0, false)], 1, 0⟩, (X_viewportref04Check_1 (((Args.R).length : Nat) : Int) (.inl ())).1, (X_viewportref04Check_1 (((Args.R).length : Nat) : Int) (.inl ())).2⟩)]) (wk := ⟨[2], [], 0, 0⟩)
    (ps := [(Value.bool (decide ((((Args.R).length : Nat) : Int) < (1 : Int)))) = (Value.bool false),
    (Value.bool (decide ((((Args.R).length : Nat) : Int) > (512 : Int)))) = (Value.bool false),
    (Value.bool ((((Args.N).length : Nat) : Int) != (w64 ((256 : Int) * (((Args.R).length : Nat) : Int))))) = (Value.bool false),
    CG P none (fnN P 27) 0 (codeOf P 27 [false, true, false, true, true, true]) (S_viewportref04Check_1 (((Args.R).length : Nat) : Int) 0) (X_viewportref04Check_1 (((Args.R).length : Nat) : Int) (.inl ()))]) (by kernel_rfl) ⟨(vbF hc1), (vbF hc2), (vnF hc3), (m_viewportref04Check_1_ok n (((Args.R).length : Nat) : Int) 0 (.inl ()) hc4), trivial⟩
set_option maxRecDepth 100000 in
theorem p_viewportref04Check_3 (n : Nat) (hc1 : ¬ ((((Args.R).length : Nat) : Int) < (1 : Int))) (hc2 : ¬ ((((Args.R).length : Nat) : Int) > (512 : Int))) (hc3 : (((Args.N).length : Nat) : Int) = (w64 ((256 : Int) * (((Args.R).length : Nat) : Int)))) (hc4 : m_viewportref04Check_1 n (((Args.R).length : Nat) : Int) 0 = some (.inr ())) (hc5 : m_viewportref04Check_2 n (((Args.R).length : Nat) : Int) 0 = some (.inl ())) : G_viewportref04Check  2 :=
  runF_ok hm (A := aT [(11, .val (.bool false)), (14, .val (.bool false)), (22, .val (.bool false))]) (L := lT [(29, ⟨⟨[1, 3, 4], [(0, 0, false)], 1, 0⟩, (X_viewportref04Check_1 (((Args.R).length : Nat) : Int) (.inr ())).1, (X_viewportref04Check_1 (((Args.R).length : Nat) : Int) (.inr ())).2⟩), (34, ⟨⟨[1, 3, 5], [(0, 0, false)], 1, 0⟩, (X_viewportref04Check_2 (((Args.R).length : Nat) : Int) (.inl ())).1, (X_viewportref04Check_2 (((Args.R).length : Nat) : Int) (.inl ())).2⟩)]) (wk := ⟨[2], [], 0, 0⟩)
    (ps := [(Value.bool (decide ((((Args.R).length : Nat) : Int) < (1 : Int)))) = (Value.bool false),
    (Value.bool (decide ((((Args.R).length : Nat) : Int) > (512 : Int)))) = (Value.bool false),
    (Value.bool ((((Args.N).length : Nat) : Int) != (w64 ((256 : Int) * (((Args.R).length : Nat) : Int))))) = (Value.bool false),
    CG P none (fnN P 27) 0 (codeOf P 27 [false, true, false, true, true, true]) (S_viewportref04Check_1 (((Args.R).length : Nat) : Int) 0) (X_viewportref04Check_1 (((Args.R).length : Nat) : Int) (.inr ())),
    CG P none (fnN P 27) 0 (codeOf P 27 [false, true, false, true, true, true, true]) (S_viewportref04Check_2 (((Args.R).length : Nat) : Int) 0) (X_viewportref04Check_2 (((Args.R).length : Nat) : Int) (.inl ()))]) (by kernel_rfl) ⟨(vbF hc1), (vbF hc2), (vnF hc3), (m_viewportref04Check_1_ok n (((Args.R).length : Nat) : Int) 0 (.inr ()) hc4), (m_viewportref04Check_2_ok n (((Args.R).length : Nat) : Int) 0 (.inl ()) hc5), trivial⟩
set_option maxRecDepth 100000 in
theorem p_viewportref04Check_4 (n : Nat) (hc1 : ¬ ((((Args.R).length : Nat) : Int) < (1 : Int))) (hc2 : ¬ ((((Args.R).length : Nat) : Int) > (512 : Int))) (hc3 : (((Args.N).length : Nat) : Int) = (w64 ((256 : Int) * (((Args.R).length : Nat) : Int)))) (hc4 : m_viewportref04Check_1 n (((Args.R).length : Nat) : Int) 0 = some (.inr ())) (hc5 : m_viewportref04Check_2 n (((Args.R).length : Nat) : Int) 0 = some (.inr ())) : G_viewportref04Check  0 :=
  runF_ok hm (A := aT [(11, .val (.bool false)), (14, .val (.bool false)), (22, .val (.bool false))]) (L := lT [(29, ⟨⟨[1, 3, 4], [(0, 0, false)], 1, 0⟩, (X_viewportref04Check_1 (((Args.R).length : Nat) : Int) (.inr ())).1, (X_viewportref04Check_1 (((Args.R).length : Nat) : Int) (.inr ())).2⟩), (34, ⟨⟨[1, 3, 5], [(0, 0, false)], 1, 0⟩, (X_viewportref04Check_2 (((Args.R).length : Nat) : Int) (.inr ())).1, (X_viewportref04Check_2 (((Args.R).length : Nat) : Int) (.inr ())).2⟩)]) (wk := ⟨[2], [], 0, 0⟩)
    (ps := [(Value.bool (decide ((((Args.R).length : Nat) : Int) < (1 : Int)))) = (Value.bool false),
    (Value.bool (decide ((((Args.R).length : Nat) : Int) > (512 : Int)))) = (Value.bool false),
    (Value.bool ((((Args.N).length : Nat) : Int) != (w64 ((256 : Int) * (((Args.R).length : Nat) : Int))))) = (Value.bool false),
    CG P none (fnN P 27) 0 (codeOf P 27 [false, true, false, true, true, true]) (S_viewportref04Check_1 (((Args.R).length : Nat) : Int) 0) (X_viewportref04Check_1 (((Args.R).length : Nat) : Int) (.inr ())),
    CG P none (fnN P 27) 0 (codeOf P 27 [false, true, false, true, true, true, true]) (S_viewportref04Check_2 (((Args.R).length : Nat) : Int) 0) (X_viewportref04Check_2 (((Args.R).length : Nat) : Int) (.inr ()))]) (by kernel_rfl) ⟨(vbF hc1), (vbF hc2), (vnF hc3), (m_viewportref04Check_1_ok n (((Args.R).length : Nat) : Int) 0 (.inr ()) hc4), (m_viewportref04Check_2_ok n (((Args.R).length : Nat) : Int) 0 (.inr ()) hc5), trivial⟩
set_option maxRecDepth 100000 in
theorem p_viewportref04Check_5 (n : Nat) (hc1 : ¬ ((((Args.R).length : Nat) : Int) < (1 : Int))) (hc2 : ¬ ((((Args.R).length : Nat) : Int) > (512 : Int))) (hc3 : ¬ ((((Args.N).length : Nat) : Int) = (w64 ((256 : Int) * (((Args.R).length : Nat) : Int))))) : G_viewportref04Check  2 :=
  runF_ok hm (A := aT [(11, .val (.bool false)), (14, .val (.bool false)), (22, .val (.bool true))]) (L := lT []) (wk := ⟨[2], [], 0, 0⟩)
    (ps := [(Value.bool (decide ((((Args.R).length : Nat) : Int) < (1 : Int)))) = (Value.bool false),
    (Value.bool (decide ((((Args.R).length : Nat) : Int) > (512 : Int)))) = (Value.bool false),
    (Value.bool ((((Args.N).length : Nat) : Int) != (w64 ((256 : Int) * (((Args.R).length : Nat) : Int))))) = (Value.bool true)]) (by kernel_rfl) ⟨(vbF hc1), (vbF hc2), (vnT hc3), trivial⟩
theorem m_viewportref04Check_ok (n : Nat) (r : Int) (h : m_viewportref04Check n = some r) : G_viewportref04Check  r := by
  unfold m_viewportref04Check at h
  by_cases hc1 : (((Args.R).length : Nat) : Int) < (1 : Int)
  · rw [if_pos hc1] at h
    obtain rfl := Option.some.inj h; exact p_viewportref04Check_0 n hc1
  · rw [if_neg hc1] at h
    by_cases hc2 : (((Args.R).length : Nat) : Int) > (512 : Int)
    · rw [if_pos hc2] at h
      obtain rfl := Option.some.inj h; exact p_viewportref04Check_1 n hc1 hc2
    · rw [if_neg hc2] at h
      by_cases hc3 : (((Args.N).length : Nat) : Int) = (w64 ((256 : Int) * (((Args.R).length : Nat) : Int)))
      · rw [if_pos hc3] at h
        rcases hc4 : m_viewportref04Check_1 n (((Args.R).length : Nat) : Int) 0 with _ | (⟨⟩ | ⟨⟩)
        · rw [hc4] at h; cases h
        · rw [hc4] at h
          dsimp only at h
          obtain rfl := Option.some.inj h; exact p_viewportref04Check_2 n hc1 hc2 hc3 hc4
        · rw [hc4] at h
          dsimp only at h
          rcases hc5 : m_viewportref04Check_2 n (((Args.R).length : Nat) : Int) 0 with _ | (⟨⟩ | ⟨⟩)
          · rw [hc5] at h; cases h
          · rw [hc5] at h
            dsimp only at h
            obtain rfl := Option.some.inj h; exact p_viewportref04Check_3 n hc1 hc2 hc3 hc4 hc5
          · rw [hc5] at h
            dsimp only at h
            obtain rfl := Option.some.inj h; exact p_viewportref04Check_4 n hc1 hc2 hc3 hc4 hc5
      · rw [if_neg hc3] at h
        obtain rfl := Option.some.inj h; exact p_viewportref04Check_5 n hc1 hc2 hc3

noncomputable def A_viewportkitLightDfa (m : Int) : List Value := [(Value.agg #[(Value.slice (some ⟨0, 0, some 1⟩) (Args.N).length Args.cN), (Value.slice (some ⟨1, 0, some 1⟩) (Args.R).length Args.cR)]), (Value.int .i64 m)]
noncomputable def H_viewportkitLightDfa (m : Int) : AH := ⟨sB [], 0, 0⟩
noncomputable def V_viewportkitLightDfa (m : Int) (r : Bool) : Value := match r with
  | o0 => (Value.bool o0)
noncomputable def R_viewportkitLightDfa (m : Int) (r : Bool) : AH := match r with
  | o0 => ⟨sB [], 0, 0⟩
noncomputable abbrev G_viewportkitLightDfa (m : Int) (r : Bool) : Prop := Gv P (.func 6) (A_viewportkitLightDfa m) (H_viewportkitLightDfa m) (V_viewportkitLightDfa m r) (R_viewportkitLightDfa m r)
def m_viewportkitLightDfa (n : Nat) (m : Int) : Option (Bool) :=
  if (((Args.R).length : Nat) : Int) ≤ m then
    if (((Args.N).length : Nat) : Int) ≤ (w64 ((256 : Int) * m)) then
      some true
    else
      some false
  else
    some false
set_option maxRecDepth 100000 in
theorem p_viewportkitLightDfa_0 (n : Nat) (m : Int) (hc1 : (((Args.R).length : Nat) : Int) ≤ m) (hc2 : (((Args.N).length : Nat) : Int) ≤ (w64 ((256 : Int) * m))) : G_viewportkitLightDfa m true :=
  runF_ok hm (A := aT [(8, .val (.bool true)), (15, .val (.bool true))]) (L := lT []) (wk := ⟨[4], [], 0, 0⟩)
    (ps := [(Value.bool (decide ((((Args.R).length : Nat) : Int) ≤ m))) = (Value.bool true),
    (Value.bool (decide ((((Args.N).length : Nat) : Int) ≤ (w64 ((256 : Int) * m))))) = (Value.bool true)]) (by kernel_rfl) ⟨(vbT hc1), (vbT hc2), trivial⟩
set_option maxRecDepth 100000 in
theorem p_viewportkitLightDfa_1 (n : Nat) (m : Int) (hc1 : (((Args.R).length : Nat) : Int) ≤ m) (hc2 : ¬ ((((Args.N).length : Nat) : Int) ≤ (w64 ((256 : Int) * m)))) : G_viewportkitLightDfa m false :=
  runF_ok hm (A := aT [(8, .val (.bool true)), (15, .val (.bool false))]) (L := lT []) (wk := ⟨[4], [], 0, 0⟩)
    (ps := [(Value.bool (decide ((((Args.R).length : Nat) : Int) ≤ m))) = (Value.bool true),
    (Value.bool (decide ((((Args.N).length : Nat) : Int) ≤ (w64 ((256 : Int) * m))))) = (Value.bool false)]) (by kernel_rfl) ⟨(vbT hc1), (vbF hc2), trivial⟩
set_option maxRecDepth 100000 in
theorem p_viewportkitLightDfa_2 (n : Nat) (m : Int) (hc1 : ¬ ((((Args.R).length : Nat) : Int) ≤ m)) : G_viewportkitLightDfa m false :=
  runF_ok hm (A := aT [(8, .val (.bool false))]) (L := lT []) (wk := ⟨[4], [], 0, 0⟩)
    (ps := [(Value.bool (decide ((((Args.R).length : Nat) : Int) ≤ m))) = (Value.bool false)]) (by kernel_rfl) ⟨(vbF hc1), trivial⟩
theorem m_viewportkitLightDfa_ok (n : Nat) (m : Int) (r : Bool) (h : m_viewportkitLightDfa n m = some r) : G_viewportkitLightDfa m r := by
  unfold m_viewportkitLightDfa at h
  by_cases hc1 : (((Args.R).length : Nat) : Int) ≤ m
  · rw [if_pos hc1] at h
    by_cases hc2 : (((Args.N).length : Nat) : Int) ≤ (w64 ((256 : Int) * m))
    · rw [if_pos hc2] at h
      obtain rfl := Option.some.inj h; exact p_viewportkitLightDfa_0 n m hc1 hc2
    · rw [if_neg hc2] at h
      obtain rfl := Option.some.inj h; exact p_viewportkitLightDfa_1 n m hc1 hc2
  · rw [if_neg hc1] at h
    obtain rfl := Option.some.inj h; exact p_viewportkitLightDfa_2 n m hc1

noncomputable def A_viewportkitPick (a0 : Int) (a1 : Int) : List Value := [(Value.int .i64 a0), (Value.int .i64 a1)]
noncomputable def H_viewportkitPick (a0 : Int) (a1 : Int) : AH := ⟨sB [], 0, 0⟩
noncomputable def V_viewportkitPick (a0 : Int) (a1 : Int) (r : Int) : Value := match r with
  | o0 => (Value.int .i64 o0)
noncomputable def R_viewportkitPick (a0 : Int) (a1 : Int) (r : Int) : AH := match r with
  | o0 => ⟨sB [], 0, 0⟩
noncomputable abbrev G_viewportkitPick (a0 : Int) (a1 : Int) (r : Int) : Prop := Gv P (.func 14) (A_viewportkitPick a0 a1) (H_viewportkitPick a0 a1) (V_viewportkitPick a0 a1 r) (R_viewportkitPick a0 a1 r)
def m_viewportkitPick (n : Nat) (a0 : Int) (a1 : Int) : Option (Int) :=
  if a1 < (1 : Int) then
    some 0
  else
    if ¬ (a1 = 0) then
      if (Int.tmod a0 a1) < (0 : Int) then
        some (w64 ((Int.tmod a0 a1) + a1))
      else
        some (Int.tmod a0 a1)
    else none
set_option maxRecDepth 100000 in
theorem p_viewportkitPick_0 (n : Nat) (a0 : Int) (a1 : Int) (hc1 : a1 < (1 : Int)) : G_viewportkitPick a0 a1 0 :=
  runF_ok hm (A := aT [(5, .val (.bool true))]) (L := lT []) (wk := ⟨[4], [], 0, 0⟩)
    (ps := [(Value.bool (decide (a1 < (1 : Int)))) = (Value.bool true)]) (by kernel_rfl) ⟨(vbT hc1), trivial⟩
set_option maxRecDepth 100000 in
theorem p_viewportkitPick_1 (n : Nat) (a0 : Int) (a1 : Int) (hc1 : ¬ (a1 < (1 : Int))) (hc2 : ¬ (a1 = 0)) (hc3 : (Int.tmod a0 a1) < (0 : Int)) : G_viewportkitPick a0 a1 (w64 ((Int.tmod a0 a1) + a1)) :=
  runF_ok hm (A := aT [(5, .val (.bool false)), (10, .pur (Value.int .i64 (Int.tmod a0 a1))), (15, .val (.bool true))]) (L := lT []) (wk := ⟨[4], [], 0, 0⟩)
    (ps := [(Value.bool (decide (a1 < (1 : Int)))) = (Value.bool false),
    opBin P .rem 3 (.tmp 8) (.tmp 9) (Value.int .i64 a0) (Value.int .i64 a1) Ax.h0 = some ((Value.int .i64 (Int.tmod a0 a1)), Ax.h0),
    (Value.bool (decide ((Int.tmod a0 a1) < (0 : Int)))) = (Value.bool true)]) (by kernel_rfl) ⟨(vbF hc1), (remI hc2), (vbT hc3), trivial⟩
set_option maxRecDepth 100000 in
theorem p_viewportkitPick_2 (n : Nat) (a0 : Int) (a1 : Int) (hc1 : ¬ (a1 < (1 : Int))) (hc2 : ¬ (a1 = 0)) (hc3 : ¬ ((Int.tmod a0 a1) < (0 : Int))) : G_viewportkitPick a0 a1 (Int.tmod a0 a1) :=
  runF_ok hm (A := aT [(5, .val (.bool false)), (10, .pur (Value.int .i64 (Int.tmod a0 a1))), (15, .val (.bool false))]) (L := lT []) (wk := ⟨[4], [], 0, 0⟩)
    (ps := [(Value.bool (decide (a1 < (1 : Int)))) = (Value.bool false),
    opBin P .rem 3 (.tmp 8) (.tmp 9) (Value.int .i64 a0) (Value.int .i64 a1) Ax.h0 = some ((Value.int .i64 (Int.tmod a0 a1)), Ax.h0),
    (Value.bool (decide ((Int.tmod a0 a1) < (0 : Int)))) = (Value.bool false)]) (by kernel_rfl) ⟨(vbF hc1), (remI hc2), (vbF hc3), trivial⟩
theorem m_viewportkitPick_ok (n : Nat) (a0 : Int) (a1 : Int) (r : Int) (h : m_viewportkitPick n a0 a1 = some r) : G_viewportkitPick a0 a1 r := by
  unfold m_viewportkitPick at h
  by_cases hc1 : a1 < (1 : Int)
  · rw [if_pos hc1] at h
    obtain rfl := Option.some.inj h; exact p_viewportkitPick_0 n a0 a1 hc1
  · rw [if_neg hc1] at h
    by_cases hc2 : ¬ (a1 = 0)
    · rw [if_pos hc2] at h
      by_cases hc3 : (Int.tmod a0 a1) < (0 : Int)
      · rw [if_pos hc3] at h
        obtain rfl := Option.some.inj h; exact p_viewportkitPick_1 n a0 a1 hc1 hc2 hc3
      · rw [if_neg hc3] at h
        obtain rfl := Option.some.inj h; exact p_viewportkitPick_2 n a0 a1 hc1 hc2 hc3
    · rw [if_neg hc2] at h; cases h

noncomputable def A_munchscanext (sf : Int) (sp : Int) (sq : Int) (sr : Int) (st : Int) (sd : Bool) : List Value := [(Value.agg #[(Value.int .i64 sf), (Value.int .i64 sp), (Value.int .i64 sq), (Value.int .i64 sr), (Value.int .i64 st), (Value.bool sd)])]
noncomputable def H_munchscanext (sf : Int) (sp : Int) (sq : Int) (sr : Int) (st : Int) (sd : Bool) : AH := ⟨sB [], 0, 0⟩
noncomputable def V_munchscanext (sf : Int) (sp : Int) (sq : Int) (sr : Int) (st : Int) (sd : Bool) (r : Unit) : Value := match r with
  | _ => (Value.int .i64 (w64 (sf + sp)))
noncomputable def R_munchscanext (sf : Int) (sp : Int) (sq : Int) (sr : Int) (st : Int) (sd : Bool) (r : Unit) : AH := match r with
  | _ => ⟨sB [], 0, 0⟩
noncomputable abbrev G_munchscanext (sf : Int) (sp : Int) (sq : Int) (sr : Int) (st : Int) (sd : Bool) (r : Unit) : Prop := Gv P (.func 31) (A_munchscanext sf sp sq sr st sd) (H_munchscanext sf sp sq sr st sd) (V_munchscanext sf sp sq sr st sd r) (R_munchscanext sf sp sq sr st sd r)
def m_munchscanext (n : Nat) (sf : Int) (sp : Int) (sq : Int) (sr : Int) (st : Int) (sd : Bool) : Option (Unit) :=
  some ()
set_option maxRecDepth 100000 in
theorem p_munchscanext_0 (n : Nat) (sf : Int) (sp : Int) (sq : Int) (sr : Int) (st : Int) (sd : Bool) : G_munchscanext sf sp sq sr st sd () :=
  runF_ok hm (A := aT []) (L := lT []) (wk := ⟨[2], [], 0, 0⟩)
    (ps := []) (by kernel_rfl) trivial
theorem m_munchscanext_ok (n : Nat) (sf : Int) (sp : Int) (sq : Int) (sr : Int) (st : Int) (sd : Bool) (r : Unit) (h : m_munchscanext n sf sp sq sr st sd = some r) : G_munchscanext sf sp sq sr st sd r := by
  unfold m_munchscanext at h
  obtain rfl := Option.some.inj h; exact p_munchscanext_0 n sf sp sq sr st sd

noncomputable def A_munchscanlexeme (sf : Int) (sp : Int) (sq : Int) (sr : Int) (st : Int) (sd : Bool) : List Value := [(Value.agg #[(Value.int .i64 sf), (Value.int .i64 sp), (Value.int .i64 sq), (Value.int .i64 sr), (Value.int .i64 st), (Value.bool sd)])]
noncomputable def H_munchscanlexeme (sf : Int) (sp : Int) (sq : Int) (sr : Int) (st : Int) (sd : Bool) : AH := ⟨sB [], 0, 0⟩
noncomputable def V_munchscanlexeme (sf : Int) (sp : Int) (sq : Int) (sr : Int) (st : Int) (sd : Bool) (r : Int) : Value := match r with
  | o0 => (Value.agg #[(Value.int .i64 sr), (Value.int .i64 sf), (Value.int .i64 o0), (Value.int .i64 (w64 (sf + sp)))])
noncomputable def R_munchscanlexeme (sf : Int) (sp : Int) (sq : Int) (sr : Int) (st : Int) (sd : Bool) (r : Int) : AH := match r with
  | o0 => ⟨sB [(0, (some (.cells (layT [(Value.int .i64 sr), (Value.int .i64 sf), (Value.int .i64 o0), (Value.int .i64 (w64 (sf + sp)))]) 28)))], 1, 0⟩
noncomputable abbrev G_munchscanlexeme (sf : Int) (sp : Int) (sq : Int) (sr : Int) (st : Int) (sd : Bool) (r : Int) : Prop := Gv P (.func 33) (A_munchscanlexeme sf sp sq sr st sd) (H_munchscanlexeme sf sp sq sr st sd) (V_munchscanlexeme sf sp sq sr st sd r) (R_munchscanlexeme sf sp sq sr st sd r)
def m_munchscanlexeme (n : Nat) (sf : Int) (sp : Int) (sq : Int) (sr : Int) (st : Int) (sd : Bool) : Option (Int) :=
  (m_munchscanext n sf sp sq sr st sd).bind fun _ =>
  if sr < (0 : Int) then
    some (w64 (sf + (1 : Int)))
  else
    some st
set_option maxRecDepth 100000 in
theorem p_munchscanlexeme_0 (n : Nat) (sf : Int) (sp : Int) (sq : Int) (sr : Int) (st : Int) (sd : Bool) (hc1 : m_munchscanext n sf sp sq sr st sd = some ()) (hc2 : sr < (0 : Int)) : G_munchscanlexeme sf sp sq sr st sd (w64 (sf + (1 : Int))) :=
  runF_ok hm (A := aT [(11, .call ⟨0, [], (V_munchscanext sf sp sq sr st sd ()), (R_munchscanext sf sp sq sr st sd ()), []⟩), (19, .val (.bool true))]) (L := lT []) (wk := ⟨[2], [(0, 1, false)], 1, 0⟩)
    (ps := [G_munchscanext sf sp sq sr st sd (),
    (Value.bool (decide (sr < (0 : Int)))) = (Value.bool true)]) (by kernel_rfl) ⟨(m_munchscanext_ok n sf sp sq sr st sd () hc1), (vbT hc2), trivial⟩
set_option maxRecDepth 100000 in
theorem p_munchscanlexeme_1 (n : Nat) (sf : Int) (sp : Int) (sq : Int) (sr : Int) (st : Int) (sd : Bool) (hc1 : m_munchscanext n sf sp sq sr st sd = some ()) (hc2 : ¬ (sr < (0 : Int))) : G_munchscanlexeme sf sp sq sr st sd st :=
  runF_ok hm (A := aT [(11, .call ⟨0, [], (V_munchscanext sf sp sq sr st sd ()), (R_munchscanext sf sp sq sr st sd ()), []⟩), (19, .val (.bool false))]) (L := lT []) (wk := ⟨[2], [(0, 1, false)], 1, 0⟩)
    (ps := [G_munchscanext sf sp sq sr st sd (),
    (Value.bool (decide (sr < (0 : Int)))) = (Value.bool false)]) (by kernel_rfl) ⟨(m_munchscanext_ok n sf sp sq sr st sd () hc1), (vbF hc2), trivial⟩
theorem m_munchscanlexeme_ok (n : Nat) (sf : Int) (sp : Int) (sq : Int) (sr : Int) (st : Int) (sd : Bool) (r : Int) (h : m_munchscanlexeme n sf sp sq sr st sd = some r) : G_munchscanlexeme sf sp sq sr st sd r := by
  unfold m_munchscanlexeme at h
  obtain ⟨_, hc1, h⟩ := Option.bind_eq_some_iff.1 h
  by_cases hc2 : sr < (0 : Int)
  · rw [if_pos hc2] at h
    obtain rfl := Option.some.inj h; exact p_munchscanlexeme_0 n sf sp sq sr st sd hc1 hc2
  · rw [if_neg hc2] at h
    obtain rfl := Option.some.inj h; exact p_munchscanlexeme_1 n sf sp sq sr st sd hc1 hc2

noncomputable def S_munchscanexamine_1 (x1_0 : ByteArray) (x1_1 : Int) (x1_2 : Int) (x1_7 : Bool) (st : Int × Int × Int × Int × Int) : XSt := match st with
  | (x1_3, x1_4, x1_5, x1_6, x1_8) => (sT 64 [(2, (Value.string x1_0)), (3, (Value.int .i64 x1_1)), (4, (Value.pointer (some ⟨0, 0, none⟩))), (5, (Value.pointer (some ⟨1, 0, none⟩))), (8, (Value.pointer (some ⟨2, 0, none⟩))), (9, (Value.int .i64 x1_8))], [], ⟨sB [(0, (some (.cells (layT [(Value.int .i64 x1_2), (Value.int .i64 x1_3), (Value.int .i64 x1_4), (Value.int .i64 x1_5), (Value.int .i64 x1_6), (Value.bool x1_7)]) 59))), (1, (some (.cells (layT [(Value.slice (some ⟨0, 0, some 1⟩) (Args.N).length Args.cN), (Value.slice (some ⟨1, 0, some 1⟩) (Args.R).length Args.cR)]) 24))), (2, (some (.cells (layT [(Value.int .i64 (0 : Int)), (Value.int .i64 (0 : Int)), (Value.int .i64 (0 : Int)), (Value.int .i64 (0 : Int)), (Value.int .i64 (0 : Int)), (Value.bool false)]) 59)))], 3, 0⟩)
noncomputable def X_munchscanexamine_1 (x1_0 : ByteArray) (x1_1 : Int) (x1_2 : Int) (x1_7 : Bool) (r : Int × Int × Int × Int × Bool) : Ex × XSt := match r with
  | (z1_0, z1_1, z1_2, z1_3, z1_4) => (.exit 0, (sT 64 [(4, (Value.pointer (some ⟨0, 0, none⟩))), (8, (Value.pointer (some ⟨1, 0, none⟩)))], [], ⟨sB [(0, (some (.cells (layT [(Value.int .i64 x1_2), (Value.int .i64 z1_0), (Value.int .i64 z1_1), (Value.int .i64 z1_2), (Value.int .i64 z1_3), (Value.bool z1_4)]) 59))), (1, (some (.cells (layT [(Value.int .i64 (0 : Int)), (Value.int .i64 (0 : Int)), (Value.int .i64 (0 : Int)), (Value.int .i64 (0 : Int)), (Value.int .i64 (0 : Int)), (Value.bool false)]) 59)))], 2, 0⟩))
def B_munchscanexamine_1 (n : Nat) (x1_0 : ByteArray) (x1_1 : Int) (x1_2 : Int) (x1_7 : Bool) (st : Int × Int × Int × Int × Int) : Option ((Int × Int × Int × Int × Int) ⊕ (Int × Int × Int × Int × Bool)) := match st with
  | (x1_3, x1_4, x1_5, x1_6, x1_8) =>
    if x1_8 < x1_1 then
      (m_munchscanext n x1_2 x1_3 x1_4 x1_5 x1_6 x1_7).bind fun _ =>
      if (w64 (x1_2 + x1_3)) = (((x1_0).size : Nat) : Int) then
        some (.inr ((w64 (x1_3 + (1 : Int))), x1_4, x1_5, x1_6, true))
      else
        if 0 ≤ (w64 (x1_2 + x1_3)) ∧ (w64 (x1_2 + x1_3)) < (((x1_0).size : Nat) : Int) then
          if 0 ≤ (w64 ((w64 (x1_4 * (256 : Int))) + (IntKind.i64.wrap (byteAt x1_0 ((w64 (x1_2 + x1_3))).toNat)))) ∧ (w64 ((w64 (x1_4 * (256 : Int))) + (IntKind.i64.wrap (byteAt x1_0 ((w64 (x1_2 + x1_3))).toNat)))) < (((Args.N).length : Nat) : Int) then
            if ((Args.N).getD ((w64 ((w64 (x1_4 * (256 : Int))) + (IntKind.i64.wrap (byteAt x1_0 ((w64 (x1_2 + x1_3))).toNat))))).toNat 0) < (0 : Int) then
              some (.inr ((w64 (x1_3 + (1 : Int))), ((Args.N).getD ((w64 ((w64 (x1_4 * (256 : Int))) + (IntKind.i64.wrap (byteAt x1_0 ((w64 (x1_2 + x1_3))).toNat))))).toNat 0), x1_5, x1_6, true))
            else
              if 0 ≤ ((Args.N).getD ((w64 ((w64 (x1_4 * (256 : Int))) + (IntKind.i64.wrap (byteAt x1_0 ((w64 (x1_2 + x1_3))).toNat))))).toNat 0) ∧ ((Args.N).getD ((w64 ((w64 (x1_4 * (256 : Int))) + (IntKind.i64.wrap (byteAt x1_0 ((w64 (x1_2 + x1_3))).toNat))))).toNat 0) < (((Args.R).length : Nat) : Int) then
                if ((Args.R).getD (((Args.N).getD ((w64 ((w64 (x1_4 * (256 : Int))) + (IntKind.i64.wrap (byteAt x1_0 ((w64 (x1_2 + x1_3))).toNat))))).toNat 0)).toNat 0) ≥ (0 : Int) then
                  some (.inl ((w64 (x1_3 + (1 : Int))), ((Args.N).getD ((w64 ((w64 (x1_4 * (256 : Int))) + (IntKind.i64.wrap (byteAt x1_0 ((w64 (x1_2 + x1_3))).toNat))))).toNat 0), ((Args.R).getD (((Args.N).getD ((w64 ((w64 (x1_4 * (256 : Int))) + (IntKind.i64.wrap (byteAt x1_0 ((w64 (x1_2 + x1_3))).toNat))))).toNat 0)).toNat 0), (w64 ((w64 (x1_2 + x1_3)) + (1 : Int))), (w64 (x1_8 + (1 : Int)))))
                else
                  some (.inl ((w64 (x1_3 + (1 : Int))), ((Args.N).getD ((w64 ((w64 (x1_4 * (256 : Int))) + (IntKind.i64.wrap (byteAt x1_0 ((w64 (x1_2 + x1_3))).toNat))))).toNat 0), x1_5, x1_6, (w64 (x1_8 + (1 : Int)))))
              else none
          else none
        else none
    else
      some (.inr (x1_3, x1_4, x1_5, x1_6, x1_7))
def m_munchscanexamine_1 (n : Nat) (x1_0 : ByteArray) (x1_1 : Int) (x1_2 : Int) (x1_7 : Bool) (st : Int × Int × Int × Int × Int) : Option (Int × Int × Int × Int × Bool) := iterM (B_munchscanexamine_1 n x1_0 x1_1 x1_2 x1_7) n st
set_option maxRecDepth 100000 in
theorem q_munchscanexamine_1_0 (n : Nat) (x1_0 : ByteArray) (x1_1 : Int) (x1_2 : Int) (x1_3 : Int) (x1_4 : Int) (x1_5 : Int) (x1_6 : Int) (x1_7 : Bool) (x1_8 : Int) (hy1_1 : x1_8 < x1_1) (hy1_2 : m_munchscanext n x1_2 x1_3 x1_4 x1_5 x1_6 x1_7 = some ()) (hy1_3 : (w64 (x1_2 + x1_3)) = (((x1_0).size : Nat) : Int)) : CG P none (fnN P 32) 0 (codeOf P 32 [false, false, true, false, true, false, true]) (S_munchscanexamine_1 x1_0 x1_1 x1_2 x1_7 (x1_3, x1_4, x1_5, x1_6, x1_8)) (X_munchscanexamine_1 x1_0 x1_1 x1_2 x1_7 ((w64 (x1_3 + (1 : Int))), x1_4, x1_5, x1_6, true)) :=
  runC_ok hm (A := aT [(4, .val (.bool true)), (10, .call ⟨0, [], (V_munchscanext x1_2 x1_3 x1_4 x1_5 x1_6 x1_7 ()), (R_munchscanext x1_2 x1_3 x1_4 x1_5 x1_6 x1_7 ()), []⟩), (23, .val (.bool true))]) (L := lT []) (wk := ⟨[4, 8], [(0, 0, false), (1, 2, false)], 2, 0⟩)
    (ps := [(Value.bool (decide (x1_8 < x1_1))) = (Value.bool true),
    G_munchscanext x1_2 x1_3 x1_4 x1_5 x1_6 x1_7 (),
    (Value.bool ((w64 (x1_2 + x1_3)) == (((x1_0).size : Nat) : Int))) = (Value.bool true)]) (by kernel_rfl) ⟨(vbT hy1_1), (m_munchscanext_ok n x1_2 x1_3 x1_4 x1_5 x1_6 x1_7 () hy1_2), (veT hy1_3), trivial⟩
set_option maxRecDepth 100000 in
theorem q_munchscanexamine_1_1 (n : Nat) (x1_0 : ByteArray) (x1_1 : Int) (x1_2 : Int) (x1_3 : Int) (x1_4 : Int) (x1_5 : Int) (x1_6 : Int) (x1_7 : Bool) (x1_8 : Int) (hy1_1 : x1_8 < x1_1) (hy1_2 : m_munchscanext n x1_2 x1_3 x1_4 x1_5 x1_6 x1_7 = some ()) (hy1_3 : ¬ ((w64 (x1_2 + x1_3)) = (((x1_0).size : Nat) : Int))) (hy1_4 : 0 ≤ (w64 (x1_2 + x1_3)) ∧ (w64 (x1_2 + x1_3)) < (((x1_0).size : Nat) : Int)) (hy1_5 : 0 ≤ (w64 ((w64 (x1_4 * (256 : Int))) + (IntKind.i64.wrap (byteAt x1_0 ((w64 (x1_2 + x1_3))).toNat)))) ∧ (w64 ((w64 (x1_4 * (256 : Int))) + (IntKind.i64.wrap (byteAt x1_0 ((w64 (x1_2 + x1_3))).toNat)))) < (((Args.N).length : Nat) : Int)) (hy1_6 : ((Args.N).getD ((w64 ((w64 (x1_4 * (256 : Int))) + (IntKind.i64.wrap (byteAt x1_0 ((w64 (x1_2 + x1_3))).toNat))))).toNat 0) < (0 : Int)) : CG P none (fnN P 32) 0 (codeOf P 32 [false, false, true, false, true, false, true]) (S_munchscanexamine_1 x1_0 x1_1 x1_2 x1_7 (x1_3, x1_4, x1_5, x1_6, x1_8)) (X_munchscanexamine_1 x1_0 x1_1 x1_2 x1_7 ((w64 (x1_3 + (1 : Int))), ((Args.N).getD ((w64 ((w64 (x1_4 * (256 : Int))) + (IntKind.i64.wrap (byteAt x1_0 ((w64 (x1_2 + x1_3))).toNat))))).toNat 0), x1_5, x1_6, true)) :=
  runC_ok hm (A := aT [(4, .val (.bool true)), (10, .call ⟨0, [], (V_munchscanext x1_2 x1_3 x1_4 x1_5 x1_6 x1_7 ()), (R_munchscanext x1_2 x1_3 x1_4 x1_5 x1_6 x1_7 ()), []⟩), (23, .val (.bool false)), (33, .pur (Value.int .u8 (byteAt x1_0 ((w64 (x1_2 + x1_3))).toNat))), (36, .pur (Value.pointer (some ⟨0, ((w64 ((w64 (x1_4 * (256 : Int))) + (IntKind.i64.wrap (byteAt x1_0 ((w64 (x1_2 + x1_3))).toNat))))).toNat, some 1⟩))), (37, .ld (Value.int .i64 ((Args.N).getD ((w64 ((w64 (x1_4 * (256 : Int))) + (IntKind.i64.wrap (byteAt x1_0 ((w64 (x1_2 + x1_3))).toNat))))).toNat 0))), (44, .val (.bool true))]) (L := lT []) (wk := ⟨[4, 8], [(0, 0, false), (1, 2, false)], 2, 0⟩)
    (ps := [(Value.bool (decide (x1_8 < x1_1))) = (Value.bool true),
    G_munchscanext x1_2 x1_3 x1_4 x1_5 x1_6 x1_7 (),
    (Value.bool ((w64 (x1_2 + x1_3)) == (((x1_0).size : Nat) : Int))) = (Value.bool false),
    opIndex P 9 (Value.string x1_0) (Value.int .i64 (w64 (x1_2 + x1_3))) Ax.h0 = some ((Value.int .u8 (byteAt x1_0 ((w64 (x1_2 + x1_3))).toNat)), Ax.h0),
    opIndexAddr P 22 (Value.slice (some ⟨0, 0, some 1⟩) (Args.N).length Args.cN) (Value.int .i64 (w64 ((w64 (x1_4 * (256 : Int))) + (IntKind.i64.wrap (byteAt x1_0 ((w64 (x1_2 + x1_3))).toNat))))) Ax.h0 = some ((Value.pointer (some ⟨0, ((w64 ((w64 (x1_4 * (256 : Int))) + (IntKind.i64.wrap (byteAt x1_0 ((w64 (x1_2 + x1_3))).toNat))))).toNat, some 1⟩)), Ax.h0),
    loadG P 3 (Value.pointer (some ⟨0, ((w64 ((w64 (x1_4 * (256 : Int))) + (IntKind.i64.wrap (byteAt x1_0 ((w64 (x1_2 + x1_3))).toNat))))).toNat, some 1⟩)) Ax.h0 = some ((Value.int .i64 ((Args.N).getD ((w64 ((w64 (x1_4 * (256 : Int))) + (IntKind.i64.wrap (byteAt x1_0 ((w64 (x1_2 + x1_3))).toNat))))).toNat 0)), Ax.h0),
    (Value.bool (decide (((Args.N).getD ((w64 ((w64 (x1_4 * (256 : Int))) + (IntKind.i64.wrap (byteAt x1_0 ((w64 (x1_2 + x1_3))).toNat))))).toNat 0) < (0 : Int)))) = (Value.bool true)]) (by kernel_rfl) ⟨(vbT hy1_1), (m_munchscanext_ok n x1_2 x1_3 x1_4 x1_5 x1_6 x1_7 () hy1_2), (veF hy1_3), (ixStr (by kernel_rfl) hy1_4), (ixW1 (e := 3) (by kernel_rfl) (by kernel_rfl) hy1_5), (ldW rfl (by kernel_rfl) (toNatLt hy1_5)), (vbT hy1_6), trivial⟩
set_option maxRecDepth 100000 in
theorem q_munchscanexamine_1_2 (n : Nat) (x1_0 : ByteArray) (x1_1 : Int) (x1_2 : Int) (x1_3 : Int) (x1_4 : Int) (x1_5 : Int) (x1_6 : Int) (x1_7 : Bool) (x1_8 : Int) (hy1_1 : x1_8 < x1_1) (hy1_2 : m_munchscanext n x1_2 x1_3 x1_4 x1_5 x1_6 x1_7 = some ()) (hy1_3 : ¬ ((w64 (x1_2 + x1_3)) = (((x1_0).size : Nat) : Int))) (hy1_4 : 0 ≤ (w64 (x1_2 + x1_3)) ∧ (w64 (x1_2 + x1_3)) < (((x1_0).size : Nat) : Int)) (hy1_5 : 0 ≤ (w64 ((w64 (x1_4 * (256 : Int))) + (IntKind.i64.wrap (byteAt x1_0 ((w64 (x1_2 + x1_3))).toNat)))) ∧ (w64 ((w64 (x1_4 * (256 : Int))) + (IntKind.i64.wrap (byteAt x1_0 ((w64 (x1_2 + x1_3))).toNat)))) < (((Args.N).length : Nat) : Int)) (hy1_6 : ¬ (((Args.N).getD ((w64 ((w64 (x1_4 * (256 : Int))) + (IntKind.i64.wrap (byteAt x1_0 ((w64 (x1_2 + x1_3))).toNat))))).toNat 0) < (0 : Int))) (hy1_7 : 0 ≤ ((Args.N).getD ((w64 ((w64 (x1_4 * (256 : Int))) + (IntKind.i64.wrap (byteAt x1_0 ((w64 (x1_2 + x1_3))).toNat))))).toNat 0) ∧ ((Args.N).getD ((w64 ((w64 (x1_4 * (256 : Int))) + (IntKind.i64.wrap (byteAt x1_0 ((w64 (x1_2 + x1_3))).toNat))))).toNat 0) < (((Args.R).length : Nat) : Int)) (hy1_8 : ((Args.R).getD (((Args.N).getD ((w64 ((w64 (x1_4 * (256 : Int))) + (IntKind.i64.wrap (byteAt x1_0 ((w64 (x1_2 + x1_3))).toNat))))).toNat 0)).toNat 0) ≥ (0 : Int)) : CG P none (fnN P 32) 0 (codeOf P 32 [false, false, true, false, true, false, true]) (S_munchscanexamine_1 x1_0 x1_1 x1_2 x1_7 (x1_3, x1_4, x1_5, x1_6, x1_8)) (.normal, S_munchscanexamine_1 x1_0 x1_1 x1_2 x1_7 ((w64 (x1_3 + (1 : Int))), ((Args.N).getD ((w64 ((w64 (x1_4 * (256 : Int))) + (IntKind.i64.wrap (byteAt x1_0 ((w64 (x1_2 + x1_3))).toNat))))).toNat 0), ((Args.R).getD (((Args.N).getD ((w64 ((w64 (x1_4 * (256 : Int))) + (IntKind.i64.wrap (byteAt x1_0 ((w64 (x1_2 + x1_3))).toNat))))).toNat 0)).toNat 0), (w64 ((w64 (x1_2 + x1_3)) + (1 : Int))), (w64 (x1_8 + (1 : Int))))) :=
  runC_ok hm (A := aT [(4, .val (.bool true)), (10, .call ⟨0, [], (V_munchscanext x1_2 x1_3 x1_4 x1_5 x1_6 x1_7 ()), (R_munchscanext x1_2 x1_3 x1_4 x1_5 x1_6 x1_7 ()), []⟩), (23, .val (.bool false)), (33, .pur (Value.int .u8 (byteAt x1_0 ((w64 (x1_2 + x1_3))).toNat))), (36, .pur (Value.pointer (some ⟨0, ((w64 ((w64 (x1_4 * (256 : Int))) + (IntKind.i64.wrap (byteAt x1_0 ((w64 (x1_2 + x1_3))).toNat))))).toNat, some 1⟩))), (37, .ld (Value.int .i64 ((Args.N).getD ((w64 ((w64 (x1_4 * (256 : Int))) + (IntKind.i64.wrap (byteAt x1_0 ((w64 (x1_2 + x1_3))).toNat))))).toNat 0))), (44, .val (.bool false)), (52, .pur (Value.pointer (some ⟨1, (((Args.N).getD ((w64 ((w64 (x1_4 * (256 : Int))) + (IntKind.i64.wrap (byteAt x1_0 ((w64 (x1_2 + x1_3))).toNat))))).toNat 0)).toNat, some 1⟩))), (53, .ld (Value.int .i64 ((Args.R).getD (((Args.N).getD ((w64 ((w64 (x1_4 * (256 : Int))) + (IntKind.i64.wrap (byteAt x1_0 ((w64 (x1_2 + x1_3))).toNat))))).toNat 0)).toNat 0))), (54, .val (.bool true)), (61, .pur (Value.pointer (some ⟨1, (((Args.N).getD ((w64 ((w64 (x1_4 * (256 : Int))) + (IntKind.i64.wrap (byteAt x1_0 ((w64 (x1_2 + x1_3))).toNat))))).toNat 0)).toNat, some 1⟩))), (62, .ld (Value.int .i64 ((Args.R).getD (((Args.N).getD ((w64 ((w64 (x1_4 * (256 : Int))) + (IntKind.i64.wrap (byteAt x1_0 ((w64 (x1_2 + x1_3))).toNat))))).toNat 0)).toNat 0)))]) (L := lT []) (wk := ⟨[2, 3, 4, 5, 8, 9], [(0, 0, false), (1, 1, false), (2, 2, false)], 3, 0⟩)
    (ps := [(Value.bool (decide (x1_8 < x1_1))) = (Value.bool true),
    G_munchscanext x1_2 x1_3 x1_4 x1_5 x1_6 x1_7 (),
    (Value.bool ((w64 (x1_2 + x1_3)) == (((x1_0).size : Nat) : Int))) = (Value.bool false),
    opIndex P 9 (Value.string x1_0) (Value.int .i64 (w64 (x1_2 + x1_3))) Ax.h0 = some ((Value.int .u8 (byteAt x1_0 ((w64 (x1_2 + x1_3))).toNat)), Ax.h0),
    opIndexAddr P 22 (Value.slice (some ⟨0, 0, some 1⟩) (Args.N).length Args.cN) (Value.int .i64 (w64 ((w64 (x1_4 * (256 : Int))) + (IntKind.i64.wrap (byteAt x1_0 ((w64 (x1_2 + x1_3))).toNat))))) Ax.h0 = some ((Value.pointer (some ⟨0, ((w64 ((w64 (x1_4 * (256 : Int))) + (IntKind.i64.wrap (byteAt x1_0 ((w64 (x1_2 + x1_3))).toNat))))).toNat, some 1⟩)), Ax.h0),
    loadG P 3 (Value.pointer (some ⟨0, ((w64 ((w64 (x1_4 * (256 : Int))) + (IntKind.i64.wrap (byteAt x1_0 ((w64 (x1_2 + x1_3))).toNat))))).toNat, some 1⟩)) Ax.h0 = some ((Value.int .i64 ((Args.N).getD ((w64 ((w64 (x1_4 * (256 : Int))) + (IntKind.i64.wrap (byteAt x1_0 ((w64 (x1_2 + x1_3))).toNat))))).toNat 0)), Ax.h0),
    (Value.bool (decide (((Args.N).getD ((w64 ((w64 (x1_4 * (256 : Int))) + (IntKind.i64.wrap (byteAt x1_0 ((w64 (x1_2 + x1_3))).toNat))))).toNat 0) < (0 : Int)))) = (Value.bool false),
    opIndexAddr P 22 (Value.slice (some ⟨1, 0, some 1⟩) (Args.R).length Args.cR) (Value.int .i64 ((Args.N).getD ((w64 ((w64 (x1_4 * (256 : Int))) + (IntKind.i64.wrap (byteAt x1_0 ((w64 (x1_2 + x1_3))).toNat))))).toNat 0)) Ax.h0 = some ((Value.pointer (some ⟨1, (((Args.N).getD ((w64 ((w64 (x1_4 * (256 : Int))) + (IntKind.i64.wrap (byteAt x1_0 ((w64 (x1_2 + x1_3))).toNat))))).toNat 0)).toNat, some 1⟩)), Ax.h0),
    loadG P 3 (Value.pointer (some ⟨1, (((Args.N).getD ((w64 ((w64 (x1_4 * (256 : Int))) + (IntKind.i64.wrap (byteAt x1_0 ((w64 (x1_2 + x1_3))).toNat))))).toNat 0)).toNat, some 1⟩)) Ax.h0 = some ((Value.int .i64 ((Args.R).getD (((Args.N).getD ((w64 ((w64 (x1_4 * (256 : Int))) + (IntKind.i64.wrap (byteAt x1_0 ((w64 (x1_2 + x1_3))).toNat))))).toNat 0)).toNat 0)), Ax.h0),
    (Value.bool (decide (((Args.R).getD (((Args.N).getD ((w64 ((w64 (x1_4 * (256 : Int))) + (IntKind.i64.wrap (byteAt x1_0 ((w64 (x1_2 + x1_3))).toNat))))).toNat 0)).toNat 0) ≥ (0 : Int)))) = (Value.bool true),
    opIndexAddr P 22 (Value.slice (some ⟨1, 0, some 1⟩) (Args.R).length Args.cR) (Value.int .i64 ((Args.N).getD ((w64 ((w64 (x1_4 * (256 : Int))) + (IntKind.i64.wrap (byteAt x1_0 ((w64 (x1_2 + x1_3))).toNat))))).toNat 0)) Ax.h0 = some ((Value.pointer (some ⟨1, (((Args.N).getD ((w64 ((w64 (x1_4 * (256 : Int))) + (IntKind.i64.wrap (byteAt x1_0 ((w64 (x1_2 + x1_3))).toNat))))).toNat 0)).toNat, some 1⟩)), Ax.h0),
    loadG P 3 (Value.pointer (some ⟨1, (((Args.N).getD ((w64 ((w64 (x1_4 * (256 : Int))) + (IntKind.i64.wrap (byteAt x1_0 ((w64 (x1_2 + x1_3))).toNat))))).toNat 0)).toNat, some 1⟩)) Ax.h0 = some ((Value.int .i64 ((Args.R).getD (((Args.N).getD ((w64 ((w64 (x1_4 * (256 : Int))) + (IntKind.i64.wrap (byteAt x1_0 ((w64 (x1_2 + x1_3))).toNat))))).toNat 0)).toNat 0)), Ax.h0)]) (by kernel_rfl) ⟨(vbT hy1_1), (m_munchscanext_ok n x1_2 x1_3 x1_4 x1_5 x1_6 x1_7 () hy1_2), (veF hy1_3), (ixStr (by kernel_rfl) hy1_4), (ixW1 (e := 3) (by kernel_rfl) (by kernel_rfl) hy1_5), (ldW rfl (by kernel_rfl) (toNatLt hy1_5)), (vbF hy1_6), (ixW1 (e := 3) (by kernel_rfl) (by kernel_rfl) hy1_7), (ldW rfl (by kernel_rfl) (toNatLt hy1_7)), (vbT hy1_8), (ixW1 (e := 3) (by kernel_rfl) (by kernel_rfl) hy1_7), (ldW rfl (by kernel_rfl) (toNatLt hy1_7)), trivial⟩
set_option maxRecDepth 100000 in
theorem q_munchscanexamine_1_3 (n : Nat) (x1_0 : ByteArray) (x1_1 : Int) (x1_2 : Int) (x1_3 : Int) (x1_4 : Int) (x1_5 : Int) (x1_6 : Int) (x1_7 : Bool) (x1_8 : Int) (hy1_1 : x1_8 < x1_1) (hy1_2 : m_munchscanext n x1_2 x1_3 x1_4 x1_5 x1_6 x1_7 = some ()) (hy1_3 : ¬ ((w64 (x1_2 + x1_3)) = (((x1_0).size : Nat) : Int))) (hy1_4 : 0 ≤ (w64 (x1_2 + x1_3)) ∧ (w64 (x1_2 + x1_3)) < (((x1_0).size : Nat) : Int)) (hy1_5 : 0 ≤ (w64 ((w64 (x1_4 * (256 : Int))) + (IntKind.i64.wrap (byteAt x1_0 ((w64 (x1_2 + x1_3))).toNat)))) ∧ (w64 ((w64 (x1_4 * (256 : Int))) + (IntKind.i64.wrap (byteAt x1_0 ((w64 (x1_2 + x1_3))).toNat)))) < (((Args.N).length : Nat) : Int)) (hy1_6 : ¬ (((Args.N).getD ((w64 ((w64 (x1_4 * (256 : Int))) + (IntKind.i64.wrap (byteAt x1_0 ((w64 (x1_2 + x1_3))).toNat))))).toNat 0) < (0 : Int))) (hy1_7 : 0 ≤ ((Args.N).getD ((w64 ((w64 (x1_4 * (256 : Int))) + (IntKind.i64.wrap (byteAt x1_0 ((w64 (x1_2 + x1_3))).toNat))))).toNat 0) ∧ ((Args.N).getD ((w64 ((w64 (x1_4 * (256 : Int))) + (IntKind.i64.wrap (byteAt x1_0 ((w64 (x1_2 + x1_3))).toNat))))).toNat 0) < (((Args.R).length : Nat) : Int)) (hy1_8 : ¬ (((Args.R).getD (((Args.N).getD ((w64 ((w64 (x1_4 * (256 : Int))) + (IntKind.i64.wrap (byteAt x1_0 ((w64 (x1_2 + x1_3))).toNat))))).toNat 0)).toNat 0) ≥ (0 : Int))) : CG P none (fnN P 32) 0 (codeOf P 32 [false, false, true, false, true, false, true]) (S_munchscanexamine_1 x1_0 x1_1 x1_2 x1_7 (x1_3, x1_4, x1_5, x1_6, x1_8)) (.normal, S_munchscanexamine_1 x1_0 x1_1 x1_2 x1_7 ((w64 (x1_3 + (1 : Int))), ((Args.N).getD ((w64 ((w64 (x1_4 * (256 : Int))) + (IntKind.i64.wrap (byteAt x1_0 ((w64 (x1_2 + x1_3))).toNat))))).toNat 0), x1_5, x1_6, (w64 (x1_8 + (1 : Int))))) :=
  runC_ok hm (A := aT [(4, .val (.bool true)), (10, .call ⟨0, [], (V_munchscanext x1_2 x1_3 x1_4 x1_5 x1_6 x1_7 ()), (R_munchscanext x1_2 x1_3 x1_4 x1_5 x1_6 x1_7 ()), []⟩), (23, .val (.bool false)), (33, .pur (Value.int .u8 (byteAt x1_0 ((w64 (x1_2 + x1_3))).toNat))), (36, .pur (Value.pointer (some ⟨0, ((w64 ((w64 (x1_4 * (256 : Int))) + (IntKind.i64.wrap (byteAt x1_0 ((w64 (x1_2 + x1_3))).toNat))))).toNat, some 1⟩))), (37, .ld (Value.int .i64 ((Args.N).getD ((w64 ((w64 (x1_4 * (256 : Int))) + (IntKind.i64.wrap (byteAt x1_0 ((w64 (x1_2 + x1_3))).toNat))))).toNat 0))), (44, .val (.bool false)), (52, .pur (Value.pointer (some ⟨1, (((Args.N).getD ((w64 ((w64 (x1_4 * (256 : Int))) + (IntKind.i64.wrap (byteAt x1_0 ((w64 (x1_2 + x1_3))).toNat))))).toNat 0)).toNat, some 1⟩))), (53, .ld (Value.int .i64 ((Args.R).getD (((Args.N).getD ((w64 ((w64 (x1_4 * (256 : Int))) + (IntKind.i64.wrap (byteAt x1_0 ((w64 (x1_2 + x1_3))).toNat))))).toNat 0)).toNat 0))), (54, .val (.bool false))]) (L := lT []) (wk := ⟨[2, 3, 4, 5, 8, 9], [(0, 0, false), (1, 1, false), (2, 2, false)], 3, 0⟩)
    (ps := [(Value.bool (decide (x1_8 < x1_1))) = (Value.bool true),
    G_munchscanext x1_2 x1_3 x1_4 x1_5 x1_6 x1_7 (),
    (Value.bool ((w64 (x1_2 + x1_3)) == (((x1_0).size : Nat) : Int))) = (Value.bool false),
    opIndex P 9 (Value.string x1_0) (Value.int .i64 (w64 (x1_2 + x1_3))) Ax.h0 = some ((Value.int .u8 (byteAt x1_0 ((w64 (x1_2 + x1_3))).toNat)), Ax.h0),
    opIndexAddr P 22 (Value.slice (some ⟨0, 0, some 1⟩) (Args.N).length Args.cN) (Value.int .i64 (w64 ((w64 (x1_4 * (256 : Int))) + (IntKind.i64.wrap (byteAt x1_0 ((w64 (x1_2 + x1_3))).toNat))))) Ax.h0 = some ((Value.pointer (some ⟨0, ((w64 ((w64 (x1_4 * (256 : Int))) + (IntKind.i64.wrap (byteAt x1_0 ((w64 (x1_2 + x1_3))).toNat))))).toNat, some 1⟩)), Ax.h0),
    loadG P 3 (Value.pointer (some ⟨0, ((w64 ((w64 (x1_4 * (256 : Int))) + (IntKind.i64.wrap (byteAt x1_0 ((w64 (x1_2 + x1_3))).toNat))))).toNat, some 1⟩)) Ax.h0 = some ((Value.int .i64 ((Args.N).getD ((w64 ((w64 (x1_4 * (256 : Int))) + (IntKind.i64.wrap (byteAt x1_0 ((w64 (x1_2 + x1_3))).toNat))))).toNat 0)), Ax.h0),
    (Value.bool (decide (((Args.N).getD ((w64 ((w64 (x1_4 * (256 : Int))) + (IntKind.i64.wrap (byteAt x1_0 ((w64 (x1_2 + x1_3))).toNat))))).toNat 0) < (0 : Int)))) = (Value.bool false),
    opIndexAddr P 22 (Value.slice (some ⟨1, 0, some 1⟩) (Args.R).length Args.cR) (Value.int .i64 ((Args.N).getD ((w64 ((w64 (x1_4 * (256 : Int))) + (IntKind.i64.wrap (byteAt x1_0 ((w64 (x1_2 + x1_3))).toNat))))).toNat 0)) Ax.h0 = some ((Value.pointer (some ⟨1, (((Args.N).getD ((w64 ((w64 (x1_4 * (256 : Int))) + (IntKind.i64.wrap (byteAt x1_0 ((w64 (x1_2 + x1_3))).toNat))))).toNat 0)).toNat, some 1⟩)), Ax.h0),
    loadG P 3 (Value.pointer (some ⟨1, (((Args.N).getD ((w64 ((w64 (x1_4 * (256 : Int))) + (IntKind.i64.wrap (byteAt x1_0 ((w64 (x1_2 + x1_3))).toNat))))).toNat 0)).toNat, some 1⟩)) Ax.h0 = some ((Value.int .i64 ((Args.R).getD (((Args.N).getD ((w64 ((w64 (x1_4 * (256 : Int))) + (IntKind.i64.wrap (byteAt x1_0 ((w64 (x1_2 + x1_3))).toNat))))).toNat 0)).toNat 0)), Ax.h0),
    (Value.bool (decide (((Args.R).getD (((Args.N).getD ((w64 ((w64 (x1_4 * (256 : Int))) + (IntKind.i64.wrap (byteAt x1_0 ((w64 (x1_2 + x1_3))).toNat))))).toNat 0)).toNat 0) ≥ (0 : Int)))) = (Value.bool false)]) (by kernel_rfl) ⟨(vbT hy1_1), (m_munchscanext_ok n x1_2 x1_3 x1_4 x1_5 x1_6 x1_7 () hy1_2), (veF hy1_3), (ixStr (by kernel_rfl) hy1_4), (ixW1 (e := 3) (by kernel_rfl) (by kernel_rfl) hy1_5), (ldW rfl (by kernel_rfl) (toNatLt hy1_5)), (vbF hy1_6), (ixW1 (e := 3) (by kernel_rfl) (by kernel_rfl) hy1_7), (ldW rfl (by kernel_rfl) (toNatLt hy1_7)), (vbF hy1_8), trivial⟩
set_option maxRecDepth 100000 in
theorem q_munchscanexamine_1_4 (n : Nat) (x1_0 : ByteArray) (x1_1 : Int) (x1_2 : Int) (x1_3 : Int) (x1_4 : Int) (x1_5 : Int) (x1_6 : Int) (x1_7 : Bool) (x1_8 : Int) (hy1_1 : ¬ (x1_8 < x1_1)) : CG P none (fnN P 32) 0 (codeOf P 32 [false, false, true, false, true, false, true]) (S_munchscanexamine_1 x1_0 x1_1 x1_2 x1_7 (x1_3, x1_4, x1_5, x1_6, x1_8)) (X_munchscanexamine_1 x1_0 x1_1 x1_2 x1_7 (x1_3, x1_4, x1_5, x1_6, x1_7)) :=
  runC_ok hm (A := aT [(4, .val (.bool false))]) (L := lT []) (wk := ⟨[4, 8], [(0, 0, false), (1, 2, false)], 2, 0⟩)
    (ps := [(Value.bool (decide (x1_8 < x1_1))) = (Value.bool false)]) (by kernel_rfl) ⟨(vbF hy1_1), trivial⟩
theorem m_munchscanexamine_1_ok (n : Nat) (x1_0 : ByteArray) (x1_1 : Int) (x1_2 : Int) (x1_7 : Bool) (st : Int × Int × Int × Int × Int) (r : Int × Int × Int × Int × Bool) (h : m_munchscanexamine_1 n x1_0 x1_1 x1_2 x1_7 st = some r) : CG P none (fnN P 32) 0 (codeOf P 32 [false, true, false, true, false, true]) (S_munchscanexamine_1 x1_0 x1_1 x1_2 x1_7 st) (X_munchscanexamine_1 x1_0 x1_1 x1_2 x1_7 r) :=
  CG.iter (b := codeOf P 32 [false, false, true, false, true, false, true]) (by kernel_rfl) (body := B_munchscanexamine_1 n x1_0 x1_1 x1_2 x1_7) (S := S_munchscanexamine_1 x1_0 x1_1 x1_2 x1_7) (X := X_munchscanexamine_1 x1_0 x1_1 x1_2 x1_7)
    (fun s s' h => by
    obtain ⟨x1_3, x1_4, x1_5, x1_6, x1_8⟩ := s
    unfold B_munchscanexamine_1 at h
    dsimp only at h
    by_cases hy1_1 : x1_8 < x1_1
    · rw [if_pos hy1_1] at h
      obtain ⟨_, hy1_2, h⟩ := Option.bind_eq_some_iff.1 h
      by_cases hy1_3 : (w64 (x1_2 + x1_3)) = (((x1_0).size : Nat) : Int)
      · rw [if_pos hy1_3] at h
        cases h
      · rw [if_neg hy1_3] at h
        by_cases hy1_4 : 0 ≤ (w64 (x1_2 + x1_3)) ∧ (w64 (x1_2 + x1_3)) < (((x1_0).size : Nat) : Int)
        · rw [if_pos hy1_4] at h
          by_cases hy1_5 : 0 ≤ (w64 ((w64 (x1_4 * (256 : Int))) + (IntKind.i64.wrap (byteAt x1_0 ((w64 (x1_2 + x1_3))).toNat)))) ∧ (w64 ((w64 (x1_4 * (256 : Int))) + (IntKind.i64.wrap (byteAt x1_0 ((w64 (x1_2 + x1_3))).toNat)))) < (((Args.N).length : Nat) : Int)
          · rw [if_pos hy1_5] at h
            by_cases hy1_6 : ((Args.N).getD ((w64 ((w64 (x1_4 * (256 : Int))) + (IntKind.i64.wrap (byteAt x1_0 ((w64 (x1_2 + x1_3))).toNat))))).toNat 0) < (0 : Int)
            · rw [if_pos hy1_6] at h
              cases h
            · rw [if_neg hy1_6] at h
              by_cases hy1_7 : 0 ≤ ((Args.N).getD ((w64 ((w64 (x1_4 * (256 : Int))) + (IntKind.i64.wrap (byteAt x1_0 ((w64 (x1_2 + x1_3))).toNat))))).toNat 0) ∧ ((Args.N).getD ((w64 ((w64 (x1_4 * (256 : Int))) + (IntKind.i64.wrap (byteAt x1_0 ((w64 (x1_2 + x1_3))).toNat))))).toNat 0) < (((Args.R).length : Nat) : Int)
              · rw [if_pos hy1_7] at h
                by_cases hy1_8 : ((Args.R).getD (((Args.N).getD ((w64 ((w64 (x1_4 * (256 : Int))) + (IntKind.i64.wrap (byteAt x1_0 ((w64 (x1_2 + x1_3))).toNat))))).toNat 0)).toNat 0) ≥ (0 : Int)
                · rw [if_pos hy1_8] at h
                  obtain rfl := Sum.inl.inj (Option.some.inj h); exact q_munchscanexamine_1_2 n x1_0 x1_1 x1_2 x1_3 x1_4 x1_5 x1_6 x1_7 x1_8 hy1_1 hy1_2 hy1_3 hy1_4 hy1_5 hy1_6 hy1_7 hy1_8
                · rw [if_neg hy1_8] at h
                  obtain rfl := Sum.inl.inj (Option.some.inj h); exact q_munchscanexamine_1_3 n x1_0 x1_1 x1_2 x1_3 x1_4 x1_5 x1_6 x1_7 x1_8 hy1_1 hy1_2 hy1_3 hy1_4 hy1_5 hy1_6 hy1_7 hy1_8
              · rw [if_neg hy1_7] at h; cases h
          · rw [if_neg hy1_5] at h; cases h
        · rw [if_neg hy1_4] at h; cases h
    · rw [if_neg hy1_1] at h
      cases h)
    (fun s r h => by
    obtain ⟨x1_3, x1_4, x1_5, x1_6, x1_8⟩ := s
    unfold B_munchscanexamine_1 at h
    dsimp only at h
    by_cases hy1_1 : x1_8 < x1_1
    · rw [if_pos hy1_1] at h
      obtain ⟨_, hy1_2, h⟩ := Option.bind_eq_some_iff.1 h
      by_cases hy1_3 : (w64 (x1_2 + x1_3)) = (((x1_0).size : Nat) : Int)
      · rw [if_pos hy1_3] at h
        obtain rfl := Sum.inr.inj (Option.some.inj h); exact q_munchscanexamine_1_0 n x1_0 x1_1 x1_2 x1_3 x1_4 x1_5 x1_6 x1_7 x1_8 hy1_1 hy1_2 hy1_3
      · rw [if_neg hy1_3] at h
        by_cases hy1_4 : 0 ≤ (w64 (x1_2 + x1_3)) ∧ (w64 (x1_2 + x1_3)) < (((x1_0).size : Nat) : Int)
        · rw [if_pos hy1_4] at h
          by_cases hy1_5 : 0 ≤ (w64 ((w64 (x1_4 * (256 : Int))) + (IntKind.i64.wrap (byteAt x1_0 ((w64 (x1_2 + x1_3))).toNat)))) ∧ (w64 ((w64 (x1_4 * (256 : Int))) + (IntKind.i64.wrap (byteAt x1_0 ((w64 (x1_2 + x1_3))).toNat)))) < (((Args.N).length : Nat) : Int)
          · rw [if_pos hy1_5] at h
            by_cases hy1_6 : ((Args.N).getD ((w64 ((w64 (x1_4 * (256 : Int))) + (IntKind.i64.wrap (byteAt x1_0 ((w64 (x1_2 + x1_3))).toNat))))).toNat 0) < (0 : Int)
            · rw [if_pos hy1_6] at h
              obtain rfl := Sum.inr.inj (Option.some.inj h); exact q_munchscanexamine_1_1 n x1_0 x1_1 x1_2 x1_3 x1_4 x1_5 x1_6 x1_7 x1_8 hy1_1 hy1_2 hy1_3 hy1_4 hy1_5 hy1_6
            · rw [if_neg hy1_6] at h
              by_cases hy1_7 : 0 ≤ ((Args.N).getD ((w64 ((w64 (x1_4 * (256 : Int))) + (IntKind.i64.wrap (byteAt x1_0 ((w64 (x1_2 + x1_3))).toNat))))).toNat 0) ∧ ((Args.N).getD ((w64 ((w64 (x1_4 * (256 : Int))) + (IntKind.i64.wrap (byteAt x1_0 ((w64 (x1_2 + x1_3))).toNat))))).toNat 0) < (((Args.R).length : Nat) : Int)
              · rw [if_pos hy1_7] at h
                by_cases hy1_8 : ((Args.R).getD (((Args.N).getD ((w64 ((w64 (x1_4 * (256 : Int))) + (IntKind.i64.wrap (byteAt x1_0 ((w64 (x1_2 + x1_3))).toNat))))).toNat 0)).toNat 0) ≥ (0 : Int)
                · rw [if_pos hy1_8] at h
                  cases h
                · rw [if_neg hy1_8] at h
                  cases h
              · rw [if_neg hy1_7] at h; cases h
          · rw [if_neg hy1_5] at h; cases h
        · rw [if_neg hy1_4] at h; cases h
    · rw [if_neg hy1_1] at h
      obtain rfl := Sum.inr.inj (Option.some.inj h); exact q_munchscanexamine_1_4 n x1_0 x1_1 x1_2 x1_3 x1_4 x1_5 x1_6 x1_7 x1_8 hy1_1)
    (fun r => by intro hx; cases hx) h
noncomputable def A_munchscanexamine (sf : Int) (sp : Int) (sq : Int) (sr : Int) (st : Int) (sd : Bool) (x : ByteArray) (m : Int) : List Value := [(Value.agg #[(Value.int .i64 sf), (Value.int .i64 sp), (Value.int .i64 sq), (Value.int .i64 sr), (Value.int .i64 st), (Value.bool sd)]), (Value.agg #[(Value.slice (some ⟨0, 0, some 1⟩) (Args.N).length Args.cN), (Value.slice (some ⟨1, 0, some 1⟩) (Args.R).length Args.cR)]), (Value.string x), (Value.int .i64 m)]
noncomputable def H_munchscanexamine (sf : Int) (sp : Int) (sq : Int) (sr : Int) (st : Int) (sd : Bool) (x : ByteArray) (m : Int) : AH := ⟨sB [], 0, 0⟩
noncomputable def V_munchscanexamine (sf : Int) (sp : Int) (sq : Int) (sr : Int) (st : Int) (sd : Bool) (x : ByteArray) (m : Int) (r : Int × Int × Int × Int × Bool) : Value := match r with
  | (o0, o1, o2, o3, o4) => (Value.agg #[(Value.int .i64 sf), (Value.int .i64 o0), (Value.int .i64 o1), (Value.int .i64 o2), (Value.int .i64 o3), (Value.bool o4)])
noncomputable def R_munchscanexamine (sf : Int) (sp : Int) (sq : Int) (sr : Int) (st : Int) (sd : Bool) (x : ByteArray) (m : Int) (r : Int × Int × Int × Int × Bool) : AH := match r with
  | (o0, o1, o2, o3, o4) => ⟨sB [(0, (some (.cells (layT [(Value.int .i64 sf), (Value.int .i64 o0), (Value.int .i64 o1), (Value.int .i64 o2), (Value.int .i64 o3), (Value.bool o4)]) 59)))], 1, 0⟩
noncomputable abbrev G_munchscanexamine (sf : Int) (sp : Int) (sq : Int) (sr : Int) (st : Int) (sd : Bool) (x : ByteArray) (m : Int) (r : Int × Int × Int × Int × Bool) : Prop := Gv P (.func 32) (A_munchscanexamine sf sp sq sr st sd x m) (H_munchscanexamine sf sp sq sr st sd x m) (V_munchscanexamine sf sp sq sr st sd x m r) (R_munchscanexamine sf sp sq sr st sd x m r)
def m_munchscanexamine (n : Nat) (sf : Int) (sp : Int) (sq : Int) (sr : Int) (st : Int) (sd : Bool) (x : ByteArray) (m : Int) : Option (Int × Int × Int × Int × Bool) :=
  (m_munchscanexamine_1 n x m sf sd (sp, sq, sr, st, 0)).bind fun t => match t with
  | (c1_0, c1_1, c1_2, c1_3, c1_4) =>
    some (c1_0, c1_1, c1_2, c1_3, c1_4)
set_option maxRecDepth 100000 in
theorem p_munchscanexamine_0 (n : Nat) (sf : Int) (sp : Int) (sq : Int) (sr : Int) (st : Int) (sd : Bool) (x : ByteArray) (m : Int) (c1_0 : Int) (c1_1 : Int) (c1_2 : Int) (c1_3 : Int) (c1_4 : Bool) (hc1 : m_munchscanexamine_1 n x m sf sd (sp, sq, sr, st, 0) = some (c1_0, c1_1, c1_2, c1_3, c1_4)) : G_munchscanexamine sf sp sq sr st sd x m (c1_0, c1_1, c1_2, c1_3, c1_4) :=
  runF_ok hm (A := aT []) (L := lT [(9, ⟨⟨[2, 3, 4, 5, 8, 9], [(0, 0, false), (1, 1, false), (2, 2, false)], 3, 0⟩, (X_munchscanexamine_1 x m sf sd (c1_0, c1_1, c1_2, c1_3, c1_4)).1, (X_munchscanexamine_1 x m sf sd (c1_0, c1_1, c1_2, c1_3, c1_4)).2⟩)]) (wk := ⟨[8], [(0, 1, false)], 1, 0⟩)
    (ps := [CG P none (fnN P 32) 0 (codeOf P 32 [false, true, false, true, false, true]) (S_munchscanexamine_1 x m sf sd (sp, sq, sr, st, 0)) (X_munchscanexamine_1 x m sf sd (c1_0, c1_1, c1_2, c1_3, c1_4))]) (by kernel_rfl) ⟨(m_munchscanexamine_1_ok n x m sf sd (sp, sq, sr, st, 0) (c1_0, c1_1, c1_2, c1_3, c1_4) hc1), trivial⟩
theorem m_munchscanexamine_ok (n : Nat) (sf : Int) (sp : Int) (sq : Int) (sr : Int) (st : Int) (sd : Bool) (x : ByteArray) (m : Int) (r : Int × Int × Int × Int × Bool) (h : m_munchscanexamine n sf sp sq sr st sd x m = some r) : G_munchscanexamine sf sp sq sr st sd x m r := by
  unfold m_munchscanexamine at h
  obtain ⟨⟨c1_0, c1_1, c1_2, c1_3, c1_4⟩, hc1, h⟩ := Option.bind_eq_some_iff.1 h
  dsimp only at h
  obtain rfl := Option.some.inj h; exact p_munchscanexamine_0 n sf sp sq sr st sd x m c1_0 c1_1 c1_2 c1_3 c1_4 hc1

noncomputable def A_munchbegin (a : Int) : List Value := [(Value.int .i64 a)]
noncomputable def H_munchbegin (a : Int) : AH := ⟨sB [], 0, 0⟩
noncomputable def V_munchbegin (a : Int) (r : Unit) : Value := match r with
  | _ => (Value.agg #[(Value.int .i64 a), (Value.int .i64 (0 : Int)), (Value.int .i64 (0 : Int)), (Value.int .i64 (-1 : Int)), (Value.int .i64 a), (Value.bool false)])
noncomputable def R_munchbegin (a : Int) (r : Unit) : AH := match r with
  | _ => ⟨sB [(0, (some (.cells (layT [(Value.int .i64 a), (Value.int .i64 (0 : Int)), (Value.int .i64 (0 : Int)), (Value.int .i64 (-1 : Int)), (Value.int .i64 a), (Value.bool false)]) 59)))], 1, 0⟩
noncomputable abbrev G_munchbegin (a : Int) (r : Unit) : Prop := Gv P (.func 30) (A_munchbegin a) (H_munchbegin a) (V_munchbegin a r) (R_munchbegin a r)
def m_munchbegin (n : Nat) (a : Int) : Option (Unit) :=
  some ()
set_option maxRecDepth 100000 in
theorem p_munchbegin_0 (n : Nat) (a : Int) : G_munchbegin a () :=
  runF_ok hm (A := aT []) (L := lT []) (wk := ⟨[2], [(0, 0, false)], 1, 0⟩)
    (ps := []) (by kernel_rfl) trivial
theorem m_munchbegin_ok (n : Nat) (a : Int) (r : Unit) (h : m_munchbegin n a = some r) : G_munchbegin a r := by
  unfold m_munchbegin at h
  obtain rfl := Option.some.inj h; exact p_munchbegin_0 n a

def m_viewportlaw06lives (n : Nat) : Option Unit := some ()
theorem m_viewportlaw06lives_ok (n : Nat) (r : Unit) (h : m_viewportlaw06lives n = some r) : Gv P (.func 5) [] Ax.h0 (.bool true) Ax.h0 := lives_gv

end Go.Proofs.Ytaompjplflaloaa.munchs
