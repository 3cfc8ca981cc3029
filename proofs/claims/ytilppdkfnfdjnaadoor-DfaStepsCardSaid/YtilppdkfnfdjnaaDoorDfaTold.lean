/-
  What functions do, told by pure functions. No condition.
-/
import Derived.Test.YtilppdkfnfdjnaaDoorDfaLives
set_option linter.unusedSimpArgs false
set_option linter.unusedVariables false
set_option linter.unusedSectionVars false
set_option linter.unnecessarySimpa false
namespace Go.Proofs.YtilppdkfnfdjnaaDoor.dfaw
open Go Go.Proofs.YtilppdkfnfdjnaaDoor Ax
variable [Args]
noncomputable def S_dfawithina_1 (x1_0 : Int) (x1_3 : Int) (st : Int × Int × Int) : XSt := match st with
  | (x1_1, x1_2, x1_4) => (sT 29 [(1, (Value.int .i64 x1_0)), (5, (Value.int .i64 x1_1)), (6, (Value.int .i64 x1_2)), (9, (Value.slice (some ⟨0, 0, some 1⟩) (Args.N).length Args.cN)), (10, (Value.int .i64 x1_3)), (11, (Value.int .i64 x1_4))], [], ⟨sB [], 0, 0⟩)
noncomputable def X_dfawithina_1 (x1_0 : Int) (x1_3 : Int) (r : Int × Int) : Ex × XSt := match r with
  | (z1_0, z1_1) => (.exit 0, (sT 29 [(1, (Value.int .i64 x1_0)), (5, (Value.int .i64 z1_0)), (6, (Value.int .i64 z1_1))], [], ⟨sB [], 0, 0⟩))
def B_dfawithina_1 (n : Nat) (x1_0 : Int) (x1_3 : Int) (st : Int × Int × Int) : Option ((Int × Int × Int) ⊕ (Int × Int)) := match st with
  | (x1_1, x1_2, x1_4) =>
    if x1_4 < x1_3 then
      if 0 ≤ x1_4 ∧ x1_4 < (((Args.N).length : Nat) : Int) then
        some (.inl ((minB x1_1 ((Args.N).getD (x1_4).toNat 0)), (maxB x1_2 ((Args.N).getD (x1_4).toNat 0)), (w64 (x1_4 + (1 : Int)))))
      else none
    else
      some (.inr (x1_1, x1_2))
def m_dfawithina_1 (n : Nat) (x1_0 : Int) (x1_3 : Int) (st : Int × Int × Int) : Option (Int × Int) := iterM (B_dfawithina_1 n x1_0 x1_3) n st
set_option maxRecDepth 100000 in
theorem q_dfawithina_1_0 (n : Nat) (x1_0 : Int) (x1_1 : Int) (x1_2 : Int) (x1_3 : Int) (x1_4 : Int) (hy1_1 : x1_4 < x1_3) (hy1_2 : 0 ≤ x1_4 ∧ x1_4 < (((Args.N).length : Nat) : Int)) : CG P none (fnN P 15) 0 (codeOf P 15 [false, false, true, false, true, true]) (S_dfawithina_1 x1_0 x1_3 (x1_1, x1_2, x1_4)) (.normal, S_dfawithina_1 x1_0 x1_3 ((minB x1_1 ((Args.N).getD (x1_4).toNat 0)), (maxB x1_2 ((Args.N).getD (x1_4).toNat 0)), (w64 (x1_4 + (1 : Int))))) :=
  runC_ok hm (A := aT [(1, .val (.bool true)), (7, .pur (Value.pointer (some ⟨0, (x1_4).toNat, some 1⟩))), (8, .ld (Value.int .i64 ((Args.N).getD (x1_4).toNat 0)))]) (L := lT []) (wk := ⟨[1, 5, 6, 9, 10, 11], [], 0, 0⟩)
    (ps := [(Value.bool (decide (x1_4 < x1_3))) = (Value.bool true),
    opIndexAddr P 22 (Value.slice (some ⟨0, 0, some 1⟩) (Args.N).length Args.cN) (Value.int .i64 x1_4) Ax.h0 = some ((Value.pointer (some ⟨0, (x1_4).toNat, some 1⟩)), Ax.h0),
    loadG P 3 (Value.pointer (some ⟨0, (x1_4).toNat, some 1⟩)) Ax.h0 = some ((Value.int .i64 ((Args.N).getD (x1_4).toNat 0)), Ax.h0)]) (by kernel_rfl) ⟨(vbT hy1_1), (ixW1 (e := 3) (by kernel_rfl) (by kernel_rfl) hy1_2), (ldW rfl (by kernel_rfl) (toNatLt hy1_2)), trivial⟩
set_option maxRecDepth 100000 in
theorem q_dfawithina_1_1 (n : Nat) (x1_0 : Int) (x1_1 : Int) (x1_2 : Int) (x1_3 : Int) (x1_4 : Int) (hy1_1 : ¬ (x1_4 < x1_3)) : CG P none (fnN P 15) 0 (codeOf P 15 [false, false, true, false, true, true]) (S_dfawithina_1 x1_0 x1_3 (x1_1, x1_2, x1_4)) (X_dfawithina_1 x1_0 x1_3 (x1_1, x1_2)) :=
  runC_ok hm (A := aT [(1, .val (.bool false))]) (L := lT []) (wk := ⟨[1, 5, 6], [], 0, 0⟩)
    (ps := [(Value.bool (decide (x1_4 < x1_3))) = (Value.bool false)]) (by kernel_rfl) ⟨(vbF hy1_1), trivial⟩
theorem m_dfawithina_1_ok (n : Nat) (x1_0 : Int) (x1_3 : Int) (st : Int × Int × Int) (r : Int × Int) (h : m_dfawithina_1 n x1_0 x1_3 st = some r) : CG P none (fnN P 15) 0 (codeOf P 15 [false, true, false, true, true]) (S_dfawithina_1 x1_0 x1_3 st) (X_dfawithina_1 x1_0 x1_3 r) :=
  CG.iter (b := codeOf P 15 [false, false, true, false, true, true]) (by kernel_rfl) (body := B_dfawithina_1 n x1_0 x1_3) (S := S_dfawithina_1 x1_0 x1_3) (X := X_dfawithina_1 x1_0 x1_3)
    (fun s s' h => by
    obtain ⟨x1_1, x1_2, x1_4⟩ := s
    unfold B_dfawithina_1 at h
    dsimp only at h
    by_cases hy1_1 : x1_4 < x1_3
    · rw [if_pos hy1_1] at h
      by_cases hy1_2 : 0 ≤ x1_4 ∧ x1_4 < (((Args.N).length : Nat) : Int)
      · rw [if_pos hy1_2] at h
        obtain rfl := Sum.inl.inj (Option.some.inj h); exact q_dfawithina_1_0 n x1_0 x1_1 x1_2 x1_3 x1_4 hy1_1 hy1_2
      · rw [if_neg hy1_2] at h; cases h
    · rw [if_neg hy1_1] at h
      cases h)
    (fun s r h => by
    obtain ⟨x1_1, x1_2, x1_4⟩ := s
    unfold B_dfawithina_1 at h
    dsimp only at h
    by_cases hy1_1 : x1_4 < x1_3
    · rw [if_pos hy1_1] at h
      by_cases hy1_2 : 0 ≤ x1_4 ∧ x1_4 < (((Args.N).length : Nat) : Int)
      · rw [if_pos hy1_2] at h
        cases h
      · rw [if_neg hy1_2] at h; cases h
    · rw [if_neg hy1_1] at h
      obtain rfl := Sum.inr.inj (Option.some.inj h); exact q_dfawithina_1_1 n x1_0 x1_1 x1_2 x1_3 x1_4 hy1_1)
    (fun r => by intro hx; cases hx) h
noncomputable def A_dfawithina (e : Int) : List Value := [(Value.slice (some ⟨0, 0, some 1⟩) (Args.N).length Args.cN), (Value.int .i64 e)]
noncomputable def H_dfawithina (e : Int) : AH := ⟨sB [], 0, 0⟩
noncomputable def V_dfawithina (e : Int) (r : Bool) : Value := match r with
  | o0 => (Value.bool o0)
noncomputable def R_dfawithina (e : Int) (r : Bool) : AH := match r with
  | o0 => ⟨sB [], 0, 0⟩
def m_dfawithina (n : Nat) (e : Int) : Option (Bool) :=
  (m_dfawithina_1 n e (((Args.N).length : Nat) : Int) ((-1), (-1), 0)).bind fun t => match t with
  | (c1_0, c1_1) =>
    if c1_0 = (-1 : Int) then
      if c1_1 < e then
        some true
      else
        some false
    else
      some false
set_option maxRecDepth 100000 in
theorem p_dfawithina_0 (n : Nat) (e : Int) (c1_0 : Int) (c1_1 : Int) (hc1 : m_dfawithina_1 n e (((Args.N).length : Nat) : Int) ((-1), (-1), 0) = some (c1_0, c1_1)) (hc2 : c1_0 = (-1 : Int)) (hc3 : c1_1 < e) : Gv P (.func 15) (A_dfawithina e) (H_dfawithina e) (V_dfawithina e true) (R_dfawithina e true) :=
  runF_ok hm (A := aT [(14, .val (.bool true)), (18, .val (.bool true))]) (L := lT [(11, ⟨⟨[1, 5, 6, 9, 10, 11], [], 0, 0⟩, (X_dfawithina_1 e (((Args.N).length : Nat) : Int) (c1_0, c1_1)).1, (X_dfawithina_1 e (((Args.N).length : Nat) : Int) (c1_0, c1_1)).2⟩)]) (wk := ⟨[4], [], 0, 0⟩)
    (ps := [CG P none (fnN P 15) 0 (codeOf P 15 [false, true, false, true, true]) (S_dfawithina_1 e (((Args.N).length : Nat) : Int) ((-1), (-1), 0)) (X_dfawithina_1 e (((Args.N).length : Nat) : Int) (c1_0, c1_1)),
    (Value.bool (c1_0 == (-1 : Int))) = (Value.bool true),
    (Value.bool (decide (c1_1 < e))) = (Value.bool true)]) (by kernel_rfl) ⟨(m_dfawithina_1_ok n e (((Args.N).length : Nat) : Int) ((-1), (-1), 0) (c1_0, c1_1) hc1), (veT hc2), (vbT hc3), trivial⟩
set_option maxRecDepth 100000 in
theorem p_dfawithina_1 (n : Nat) (e : Int) (c1_0 : Int) (c1_1 : Int) (hc1 : m_dfawithina_1 n e (((Args.N).length : Nat) : Int) ((-1), (-1), 0) = some (c1_0, c1_1)) (hc2 : c1_0 = (-1 : Int)) (hc3 : ¬ (c1_1 < e)) : Gv P (.func 15) (A_dfawithina e) (H_dfawithina e) (V_dfawithina e false) (R_dfawithina e false) :=
  runF_ok hm (A := aT [(14, .val (.bool true)), (18, .val (.bool false))]) (L := lT [(11, ⟨⟨[1, 5, 6, 9, 10, 11], [], 0, 0⟩, (X_dfawithina_1 e (((Args.N).length : Nat) : Int) (c1_0, c1_1)).1, (X_dfawithina_1 e (((Args.N).length : Nat) : Int) (c1_0, c1_1)).2⟩)]) (wk := ⟨[4], [], 0, 0⟩)
    (ps := [CG P none (fnN P 15) 0 (codeOf P 15 [false, true, false, true, true]) (S_dfawithina_1 e (((Args.N).length : Nat) : Int) ((-1), (-1), 0)) (X_dfawithina_1 e (((Args.N).length : Nat) : Int) (c1_0, c1_1)),
    (Value.bool (c1_0 == (-1 : Int))) = (Value.bool true),
    (Value.bool (decide (c1_1 < e))) = (Value.bool false)]) (by kernel_rfl) ⟨(m_dfawithina_1_ok n e (((Args.N).length : Nat) : Int) ((-1), (-1), 0) (c1_0, c1_1) hc1), (veT hc2), (vbF hc3), trivial⟩
set_option maxRecDepth 100000 in
theorem p_dfawithina_2 (n : Nat) (e : Int) (c1_0 : Int) (c1_1 : Int) (hc1 : m_dfawithina_1 n e (((Args.N).length : Nat) : Int) ((-1), (-1), 0) = some (c1_0, c1_1)) (hc2 : ¬ (c1_0 = (-1 : Int))) : Gv P (.func 15) (A_dfawithina e) (H_dfawithina e) (V_dfawithina e false) (R_dfawithina e false) :=
  runF_ok hm (A := aT [(14, .val (.bool false))]) (L := lT [(11, ⟨⟨[1, 5, 6, 9, 10, 11], [], 0, 0⟩, (X_dfawithina_1 e (((Args.N).length : Nat) : Int) (c1_0, c1_1)).1, (X_dfawithina_1 e (((Args.N).length : Nat) : Int) (c1_0, c1_1)).2⟩)]) (wk := ⟨[4], [], 0, 0⟩)
    (ps := [CG P none (fnN P 15) 0 (codeOf P 15 [false, true, false, true, true]) (S_dfawithina_1 e (((Args.N).length : Nat) : Int) ((-1), (-1), 0)) (X_dfawithina_1 e (((Args.N).length : Nat) : Int) (c1_0, c1_1)),
    (Value.bool (c1_0 == (-1 : Int))) = (Value.bool false)]) (by kernel_rfl) ⟨(m_dfawithina_1_ok n e (((Args.N).length : Nat) : Int) ((-1), (-1), 0) (c1_0, c1_1) hc1), (veF hc2), trivial⟩
theorem m_dfawithina_ok (n : Nat) (e : Int) (r : Bool) (h : m_dfawithina n e = some r) : Gv P (.func 15) (A_dfawithina e) (H_dfawithina e) (V_dfawithina e r) (R_dfawithina e r) := by
  unfold m_dfawithina at h
  obtain ⟨⟨c1_0, c1_1⟩, hc1, h⟩ := Option.bind_eq_some_iff.1 h
  dsimp only at h
  by_cases hc2 : c1_0 = (-1 : Int)
  · rw [if_pos hc2] at h
    by_cases hc3 : c1_1 < e
    · rw [if_pos hc3] at h
      obtain rfl := Option.some.inj h; exact p_dfawithina_0 n e c1_0 c1_1 hc1 hc2 hc3
    · rw [if_neg hc3] at h
      obtain rfl := Option.some.inj h; exact p_dfawithina_1 n e c1_0 c1_1 hc1 hc2 hc3
  · rw [if_neg hc2] at h
    obtain rfl := Option.some.inj h; exact p_dfawithina_2 n e c1_0 c1_1 hc1 hc2

noncomputable def S_dfawithinb_1 (x1_0 : Int) (x1_3 : Int) (st : Int × Int × Int) : XSt := match st with
  | (x1_1, x1_2, x1_4) => (sT 29 [(1, (Value.int .i64 x1_0)), (5, (Value.int .i64 x1_1)), (6, (Value.int .i64 x1_2)), (9, (Value.slice (some ⟨1, 0, some 1⟩) (Args.R).length Args.cR)), (10, (Value.int .i64 x1_3)), (11, (Value.int .i64 x1_4))], [], ⟨sB [], 0, 0⟩)
noncomputable def X_dfawithinb_1 (x1_0 : Int) (x1_3 : Int) (r : Int × Int) : Ex × XSt := match r with
  | (z1_0, z1_1) => (.exit 0, (sT 29 [(1, (Value.int .i64 x1_0)), (5, (Value.int .i64 z1_0)), (6, (Value.int .i64 z1_1))], [], ⟨sB [], 0, 0⟩))
def B_dfawithinb_1 (n : Nat) (x1_0 : Int) (x1_3 : Int) (st : Int × Int × Int) : Option ((Int × Int × Int) ⊕ (Int × Int)) := match st with
  | (x1_1, x1_2, x1_4) =>
    if x1_4 < x1_3 then
      if 0 ≤ x1_4 ∧ x1_4 < (((Args.R).length : Nat) : Int) then
        some (.inl ((minB x1_1 ((Args.R).getD (x1_4).toNat 0)), (maxB x1_2 ((Args.R).getD (x1_4).toNat 0)), (w64 (x1_4 + (1 : Int)))))
      else none
    else
      some (.inr (x1_1, x1_2))
def m_dfawithinb_1 (n : Nat) (x1_0 : Int) (x1_3 : Int) (st : Int × Int × Int) : Option (Int × Int) := iterM (B_dfawithinb_1 n x1_0 x1_3) n st
set_option maxRecDepth 100000 in
theorem q_dfawithinb_1_0 (n : Nat) (x1_0 : Int) (x1_1 : Int) (x1_2 : Int) (x1_3 : Int) (x1_4 : Int) (hy1_1 : x1_4 < x1_3) (hy1_2 : 0 ≤ x1_4 ∧ x1_4 < (((Args.R).length : Nat) : Int)) : CG P none (fnN P 15) 0 (codeOf P 15 [false, false, true, false, true, true]) (S_dfawithinb_1 x1_0 x1_3 (x1_1, x1_2, x1_4)) (.normal, S_dfawithinb_1 x1_0 x1_3 ((minB x1_1 ((Args.R).getD (x1_4).toNat 0)), (maxB x1_2 ((Args.R).getD (x1_4).toNat 0)), (w64 (x1_4 + (1 : Int))))) :=
  runC_ok hm (A := aT [(1, .val (.bool true)), (7, .pur (Value.pointer (some ⟨1, (x1_4).toNat, some 1⟩))), (8, .ld (Value.int .i64 ((Args.R).getD (x1_4).toNat 0)))]) (L := lT []) (wk := ⟨[1, 5, 6, 9, 10, 11], [], 0, 0⟩)
    (ps := [(Value.bool (decide (x1_4 < x1_3))) = (Value.bool true),
    opIndexAddr P 22 (Value.slice (some ⟨1, 0, some 1⟩) (Args.R).length Args.cR) (Value.int .i64 x1_4) Ax.h0 = some ((Value.pointer (some ⟨1, (x1_4).toNat, some 1⟩)), Ax.h0),
    loadG P 3 (Value.pointer (some ⟨1, (x1_4).toNat, some 1⟩)) Ax.h0 = some ((Value.int .i64 ((Args.R).getD (x1_4).toNat 0)), Ax.h0)]) (by kernel_rfl) ⟨(vbT hy1_1), (ixW1 (e := 3) (by kernel_rfl) (by kernel_rfl) hy1_2), (ldW rfl (by kernel_rfl) (toNatLt hy1_2)), trivial⟩
set_option maxRecDepth 100000 in
theorem q_dfawithinb_1_1 (n : Nat) (x1_0 : Int) (x1_1 : Int) (x1_2 : Int) (x1_3 : Int) (x1_4 : Int) (hy1_1 : ¬ (x1_4 < x1_3)) : CG P none (fnN P 15) 0 (codeOf P 15 [false, false, true, false, true, true]) (S_dfawithinb_1 x1_0 x1_3 (x1_1, x1_2, x1_4)) (X_dfawithinb_1 x1_0 x1_3 (x1_1, x1_2)) :=
  runC_ok hm (A := aT [(1, .val (.bool false))]) (L := lT []) (wk := ⟨[1, 5, 6], [], 0, 0⟩)
    (ps := [(Value.bool (decide (x1_4 < x1_3))) = (Value.bool false)]) (by kernel_rfl) ⟨(vbF hy1_1), trivial⟩
theorem m_dfawithinb_1_ok (n : Nat) (x1_0 : Int) (x1_3 : Int) (st : Int × Int × Int) (r : Int × Int) (h : m_dfawithinb_1 n x1_0 x1_3 st = some r) : CG P none (fnN P 15) 0 (codeOf P 15 [false, true, false, true, true]) (S_dfawithinb_1 x1_0 x1_3 st) (X_dfawithinb_1 x1_0 x1_3 r) :=
  CG.iter (b := codeOf P 15 [false, false, true, false, true, true]) (by kernel_rfl) (body := B_dfawithinb_1 n x1_0 x1_3) (S := S_dfawithinb_1 x1_0 x1_3) (X := X_dfawithinb_1 x1_0 x1_3)
    (fun s s' h => by
    obtain ⟨x1_1, x1_2, x1_4⟩ := s
    unfold B_dfawithinb_1 at h
    dsimp only at h
    by_cases hy1_1 : x1_4 < x1_3
    · rw [if_pos hy1_1] at h
      by_cases hy1_2 : 0 ≤ x1_4 ∧ x1_4 < (((Args.R).length : Nat) : Int)
      · rw [if_pos hy1_2] at h
        obtain rfl := Sum.inl.inj (Option.some.inj h); exact q_dfawithinb_1_0 n x1_0 x1_1 x1_2 x1_3 x1_4 hy1_1 hy1_2
      · rw [if_neg hy1_2] at h; cases h
    · rw [if_neg hy1_1] at h
      cases h)
    (fun s r h => by
    obtain ⟨x1_1, x1_2, x1_4⟩ := s
    unfold B_dfawithinb_1 at h
    dsimp only at h
    by_cases hy1_1 : x1_4 < x1_3
    · rw [if_pos hy1_1] at h
      by_cases hy1_2 : 0 ≤ x1_4 ∧ x1_4 < (((Args.R).length : Nat) : Int)
      · rw [if_pos hy1_2] at h
        cases h
      · rw [if_neg hy1_2] at h; cases h
    · rw [if_neg hy1_1] at h
      obtain rfl := Sum.inr.inj (Option.some.inj h); exact q_dfawithinb_1_1 n x1_0 x1_1 x1_2 x1_3 x1_4 hy1_1)
    (fun r => by intro hx; cases hx) h
noncomputable def A_dfawithinb (e : Int) : List Value := [(Value.slice (some ⟨1, 0, some 1⟩) (Args.R).length Args.cR), (Value.int .i64 e)]
noncomputable def H_dfawithinb (e : Int) : AH := ⟨sB [], 0, 0⟩
noncomputable def V_dfawithinb (e : Int) (r : Bool) : Value := match r with
  | o0 => (Value.bool o0)
noncomputable def R_dfawithinb (e : Int) (r : Bool) : AH := match r with
  | o0 => ⟨sB [], 0, 0⟩
def m_dfawithinb (n : Nat) (e : Int) : Option (Bool) :=
  (m_dfawithinb_1 n e (((Args.R).length : Nat) : Int) ((-1), (-1), 0)).bind fun t => match t with
  | (c1_0, c1_1) =>
    if c1_0 = (-1 : Int) then
      if c1_1 < e then
        some true
      else
        some false
    else
      some false
set_option maxRecDepth 100000 in
theorem p_dfawithinb_0 (n : Nat) (e : Int) (c1_0 : Int) (c1_1 : Int) (hc1 : m_dfawithinb_1 n e (((Args.R).length : Nat) : Int) ((-1), (-1), 0) = some (c1_0, c1_1)) (hc2 : c1_0 = (-1 : Int)) (hc3 : c1_1 < e) : Gv P (.func 15) (A_dfawithinb e) (H_dfawithinb e) (V_dfawithinb e true) (R_dfawithinb e true) :=
  runF_ok hm (A := aT [(14, .val (.bool true)), (18, .val (.bool true))]) (L := lT [(11, ⟨⟨[1, 5, 6, 9, 10, 11], [], 0, 0⟩, (X_dfawithinb_1 e (((Args.R).length : Nat) : Int) (c1_0, c1_1)).1, (X_dfawithinb_1 e (((Args.R).length : Nat) : Int) (c1_0, c1_1)).2⟩)]) (wk := ⟨[4], [], 0, 0⟩)
    (ps := [CG P none (fnN P 15) 0 (codeOf P 15 [false, true, false, true, true]) (S_dfawithinb_1 e (((Args.R).length : Nat) : Int) ((-1), (-1), 0)) (X_dfawithinb_1 e (((Args.R).length : Nat) : Int) (c1_0, c1_1)),
    (Value.bool (c1_0 == (-1 : Int))) = (Value.bool true),
    (Value.bool (decide (c1_1 < e))) = (Value.bool true)]) (by kernel_rfl) ⟨(m_dfawithinb_1_ok n e (((Args.R).length : Nat) : Int) ((-1), (-1), 0) (c1_0, c1_1) hc1), (veT hc2), (vbT hc3), trivial⟩
set_option maxRecDepth 100000 in
theorem p_dfawithinb_1 (n : Nat) (e : Int) (c1_0 : Int) (c1_1 : Int) (hc1 : m_dfawithinb_1 n e (((Args.R).length : Nat) : Int) ((-1), (-1), 0) = some (c1_0, c1_1)) (hc2 : c1_0 = (-1 : Int)) (hc3 : ¬ (c1_1 < e)) : Gv P (.func 15) (A_dfawithinb e) (H_dfawithinb e) (V_dfawithinb e false) (R_dfawithinb e false) :=
  runF_ok hm (A := aT [(14, .val (.bool true)), (18, .val (.bool false))]) (L := lT [(11, ⟨⟨[1, 5, 6, 9, 10, 11], [], 0, 0⟩, (X_dfawithinb_1 e (((Args.R).length : Nat) : Int) (c1_0, c1_1)).1, (X_dfawithinb_1 e (((Args.R).length : Nat) : Int) (c1_0, c1_1)).2⟩)]) (wk := ⟨[4], [], 0, 0⟩)
    (ps := [CG P none (fnN P 15) 0 (codeOf P 15 [false, true, false, true, true]) (S_dfawithinb_1 e (((Args.R).length : Nat) : Int) ((-1), (-1), 0)) (X_dfawithinb_1 e (((Args.R).length : Nat) : Int) (c1_0, c1_1)),
    (Value.bool (c1_0 == (-1 : Int))) = (Value.bool true),
    (Value.bool (decide (c1_1 < e))) = (Value.bool false)]) (by kernel_rfl) ⟨(m_dfawithinb_1_ok n e (((Args.R).length : Nat) : Int) ((-1), (-1), 0) (c1_0, c1_1) hc1), (veT hc2), (vbF hc3), trivial⟩
set_option maxRecDepth 100000 in
theorem p_dfawithinb_2 (n : Nat) (e : Int) (c1_0 : Int) (c1_1 : Int) (hc1 : m_dfawithinb_1 n e (((Args.R).length : Nat) : Int) ((-1), (-1), 0) = some (c1_0, c1_1)) (hc2 : ¬ (c1_0 = (-1 : Int))) : Gv P (.func 15) (A_dfawithinb e) (H_dfawithinb e) (V_dfawithinb e false) (R_dfawithinb e false) :=
  runF_ok hm (A := aT [(14, .val (.bool false))]) (L := lT [(11, ⟨⟨[1, 5, 6, 9, 10, 11], [], 0, 0⟩, (X_dfawithinb_1 e (((Args.R).length : Nat) : Int) (c1_0, c1_1)).1, (X_dfawithinb_1 e (((Args.R).length : Nat) : Int) (c1_0, c1_1)).2⟩)]) (wk := ⟨[4], [], 0, 0⟩)
    (ps := [CG P none (fnN P 15) 0 (codeOf P 15 [false, true, false, true, true]) (S_dfawithinb_1 e (((Args.R).length : Nat) : Int) ((-1), (-1), 0)) (X_dfawithinb_1 e (((Args.R).length : Nat) : Int) (c1_0, c1_1)),
    (Value.bool (c1_0 == (-1 : Int))) = (Value.bool false)]) (by kernel_rfl) ⟨(m_dfawithinb_1_ok n e (((Args.R).length : Nat) : Int) ((-1), (-1), 0) (c1_0, c1_1) hc1), (veF hc2), trivial⟩
theorem m_dfawithinb_ok (n : Nat) (e : Int) (r : Bool) (h : m_dfawithinb n e = some r) : Gv P (.func 15) (A_dfawithinb e) (H_dfawithinb e) (V_dfawithinb e r) (R_dfawithinb e r) := by
  unfold m_dfawithinb at h
  obtain ⟨⟨c1_0, c1_1⟩, hc1, h⟩ := Option.bind_eq_some_iff.1 h
  dsimp only at h
  by_cases hc2 : c1_0 = (-1 : Int)
  · rw [if_pos hc2] at h
    by_cases hc3 : c1_1 < e
    · rw [if_pos hc3] at h
      obtain rfl := Option.some.inj h; exact p_dfawithinb_0 n e c1_0 c1_1 hc1 hc2 hc3
    · rw [if_neg hc3] at h
      obtain rfl := Option.some.inj h; exact p_dfawithinb_1 n e c1_0 c1_1 hc1 hc2 hc3
  · rw [if_neg hc2] at h
    obtain rfl := Option.some.inj h; exact p_dfawithinb_2 n e c1_0 c1_1 hc1 hc2

noncomputable def A_dfaCheck : List Value := [(Value.agg #[(Value.slice (some ⟨0, 0, some 1⟩) (Args.N).length Args.cN), (Value.slice (some ⟨1, 0, some 1⟩) (Args.R).length Args.cR)])]
noncomputable def H_dfaCheck : AH := ⟨sB [], 0, 0⟩
noncomputable def V_dfaCheck (r : Int) : Value := match r with
  | o0 => (Value.int .i64 o0)
noncomputable def R_dfaCheck (r : Int) : AH := match r with
  | o0 => ⟨sB [], 0, 0⟩
def m_dfaCheck (n : Nat) : Option (Int) :=
  if (((Args.R).length : Nat) : Int) < (1 : Int) then
    some 2
  else
    if (((Args.R).length : Nat) : Int) > (512 : Int) then
      some 2
    else
      if (((Args.N).length : Nat) : Int) = (w64 ((((Args.R).length : Nat) : Int) * (256 : Int))) then
        (m_dfawithina n (((Args.R).length : Nat) : Int)).bind fun c4_ =>
        if c4_ = true then
          (m_dfawithinb n 16).bind fun c6_ =>
          if c6_ = true then
            some 0
          else
            some 2
        else
          some 2
      else
        some 2
set_option maxRecDepth 100000 in
theorem p_dfaCheck_0 (n : Nat) (hc1 : (((Args.R).length : Nat) : Int) < (1 : Int)) : Gv P (.func 6) A_dfaCheck H_dfaCheck (V_dfaCheck  2) (R_dfaCheck  2) :=
  runF_ok hm (A := aT [(11, .val (.bool true))]) (L := lT []) (wk := ⟨[2], [], 0, 0⟩)
    (ps := [(Value.bool (decide ((((Args.R).length : Nat) : Int) < (1 : Int)))) = (Value.bool true)]) (by kernel_rfl) ⟨(vbT hc1), trivial⟩
set_option maxRecDepth 100000 in
theorem p_dfaCheck_1 (n : Nat) (hc1 : ¬ ((((Args.R).length : Nat) : Int) < (1 : Int))) (hc2 : (((Args.R).length : Nat) : Int) > (512 : Int)) : Gv P (.func 6) A_dfaCheck H_dfaCheck (V_dfaCheck  2) (R_dfaCheck  2) :=
  runF_ok hm (A := aT [(11, .val (.bool false)), (14, .val (.bool true))]) (L := lT []) (wk := ⟨[2], [], 0, 0⟩)
    (ps := [(Value.bool (decide ((((Args.R).length : Nat) : Int) < (1 : Int)))) = (Value.bool false),
    (Value.bool (decide ((((Args.R).length : Nat) : Int) > (512 : Int)))) = (Value.bool true)]) (by kernel_rfl) ⟨(vbF hc1), (vbT hc2), trivial⟩
set_option maxRecDepth 100000 in
theorem p_dfaCheck_2 (n : Nat) (hc1 : ¬ ((((Args.R).length : Nat) : Int) < (1 : Int))) (hc2 : ¬ ((((Args.R).length : Nat) : Int) > (512 : Int))) (hc3 : (((Args.N).length : Nat) : Int) = (w64 ((((Args.R).length : Nat) : Int) * (256 : Int)))) (c4_ : Bool) (hc4 : m_dfawithina n (((Args.R).length : Nat) : Int) = some c4_) (hc5 : c4_ = true) (c6_ : Bool) (hc6 : m_dfawithinb n 16 = some c6_) (hc7 : c6_ = true) : Gv P (.func 6) A_dfaCheck H_dfaCheck (V_dfaCheck  0) (R_dfaCheck  0) :=
  runF_ok hm (A := aT [(11, .val (.bool false)), (14, .val (.bool false)), (22, .val (.bool false)), (30, .call ⟨0, [], (V_dfawithina (((Args.R).length : Nat) : Int) c4_), (R_dfawithina (((Args.R).length : Nat) : Int) c4_), []⟩), (31, .val (.bool false)), (35, .call ⟨0, [], (V_dfawithinb 16 c6_), (R_dfawithinb 16 c6_), []⟩), (36, .val (.bool false))]) (L := lT []) (wk := ⟨[2], [], 0, 0⟩)
    (ps := [(Value.bool (decide ((((Args.R).length : Nat) : Int) < (1 : Int)))) = (Value.bool false),
    (Value.bool (decide ((((Args.R).length : Nat) : Int) > (512 : Int)))) = (Value.bool false),
    (Value.bool ((((Args.N).length : Nat) : Int) != (w64 ((((Args.R).length : Nat) : Int) * (256 : Int))))) = (Value.bool false),
    Gv P (.func 15) (A_dfawithina (((Args.R).length : Nat) : Int)) (H_dfawithina (((Args.R).length : Nat) : Int)) (V_dfawithina (((Args.R).length : Nat) : Int) c4_) (R_dfawithina (((Args.R).length : Nat) : Int) c4_),
    (Value.bool (!c4_)) = (Value.bool false),
    Gv P (.func 15) (A_dfawithinb 16) (H_dfawithinb 16) (V_dfawithinb 16 c6_) (R_dfawithinb 16 c6_),
    (Value.bool (!c6_)) = (Value.bool false)]) (by kernel_rfl) ⟨(vbF hc1), (vbF hc2), (vnF hc3), (m_dfawithina_ok n (((Args.R).length : Nat) : Int) c4_ hc4), (vBn hc5), (m_dfawithinb_ok n 16 c6_ hc6), (vBn hc7), trivial⟩
set_option maxRecDepth 100000 in
theorem p_dfaCheck_3 (n : Nat) (hc1 : ¬ ((((Args.R).length : Nat) : Int) < (1 : Int))) (hc2 : ¬ ((((Args.R).length : Nat) : Int) > (512 : Int))) (hc3 : (((Args.N).length : Nat) : Int) = (w64 ((((Args.R).length : Nat) : Int) * (256 : Int)))) (c4_ : Bool) (hc4 : m_dfawithina n (((Args.R).length : Nat) : Int) = some c4_) (hc5 : c4_ = true) (c6_ : Bool) (hc6 : m_dfawithinb n 16 = some c6_) (hc7 : ¬ (c6_ = true)) : Gv P (.func 6) A_dfaCheck H_dfaCheck (V_dfaCheck  2) (R_dfaCheck  2) :=
  runF_ok hm (A := aT [(11, .val (.bool false)), (14, .val (.bool false)), (22, .val (.bool false)), (30, .call ⟨0, [], (V_dfawithina (((Args.R).length : Nat) : Int) c4_), (R_dfawithina (((Args.R).length : Nat) : Int) c4_), []⟩), (31, .val (.bool false)), (35, .call ⟨0, [], (V_dfawithinb 16 c6_), (R_dfawithinb 16 c6_), []⟩), (36, .val (.bool true))]) (L := lT []) (wk := ⟨[2], [], 0, 0⟩)
    (ps := [(Value.bool (decide ((((Args.R).length : Nat) : Int) < (1 : Int)))) = (Value.bool false),
    (Value.bool (decide ((((Args.R).length : Nat) : Int) > (512 : Int)))) = (Value.bool false),
    (Value.bool ((((Args.N).length : Nat) : Int) != (w64 ((((Args.R).length : Nat) : Int) * (256 : Int))))) = (Value.bool false),
    Gv P (.func 15) (A_dfawithina (((Args.R).length : Nat) : Int)) (H_dfawithina (((Args.R).length : Nat) : Int)) (V_dfawithina (((Args.R).length : Nat) : Int) c4_) (R_dfawithina (((Args.R).length : Nat) : Int) c4_),
    (Value.bool (!c4_)) = (Value.bool false),
    Gv P (.func 15) (A_dfawithinb 16) (H_dfawithinb 16) (V_dfawithinb 16 c6_) (R_dfawithinb 16 c6_),
    (Value.bool (!c6_)) = (Value.bool true)]) (by kernel_rfl) ⟨(vbF hc1), (vbF hc2), (vnF hc3), (m_dfawithina_ok n (((Args.R).length : Nat) : Int) c4_ hc4), (vBn hc5), (m_dfawithinb_ok n 16 c6_ hc6), (vBn (Bool.eq_false_iff.2 hc7)), trivial⟩
set_option maxRecDepth 100000 in
theorem p_dfaCheck_4 (n : Nat) (hc1 : ¬ ((((Args.R).length : Nat) : Int) < (1 : Int))) (hc2 : ¬ ((((Args.R).length : Nat) : Int) > (512 : Int))) (hc3 : (((Args.N).length : Nat) : Int) = (w64 ((((Args.R).length : Nat) : Int) * (256 : Int)))) (c4_ : Bool) (hc4 : m_dfawithina n (((Args.R).length : Nat) : Int) = some c4_) (hc5 : ¬ (c4_ = true)) : Gv P (.func 6) A_dfaCheck H_dfaCheck (V_dfaCheck  2) (R_dfaCheck  2) :=
  runF_ok hm (A := aT [(11, .val (.bool false)), (14, .val (.bool false)), (22, .val (.bool false)), (30, .call ⟨0, [], (V_dfawithina (((Args.R).length : Nat) : Int) c4_), (R_dfawithina (((Args.R).length : Nat) : Int) c4_), []⟩), (31, .val (.bool true))]) (L := lT []) (wk := ⟨[2], [], 0, 0⟩)
    (ps := [(Value.bool (decide ((((Args.R).length : Nat) : Int) < (1 : Int)))) = (Value.bool false),
    (Value.bool (decide ((((Args.R).length : Nat) : Int) > (512 : Int)))) = (Value.bool false),
    (Value.bool ((((Args.N).length : Nat) : Int) != (w64 ((((Args.R).length : Nat) : Int) * (256 : Int))))) = (Value.bool false),
    Gv P (.func 15) (A_dfawithina (((Args.R).length : Nat) : Int)) (H_dfawithina (((Args.R).length : Nat) : Int)) (V_dfawithina (((Args.R).length : Nat) : Int) c4_) (R_dfawithina (((Args.R).length : Nat) : Int) c4_),
    (Value.bool (!c4_)) = (Value.bool true)]) (by kernel_rfl) ⟨(vbF hc1), (vbF hc2), (vnF hc3), (m_dfawithina_ok n (((Args.R).length : Nat) : Int) c4_ hc4), (vBn (Bool.eq_false_iff.2 hc5)), trivial⟩
set_option maxRecDepth 100000 in
theorem p_dfaCheck_5 (n : Nat) (hc1 : ¬ ((((Args.R).length : Nat) : Int) < (1 : Int))) (hc2 : ¬ ((((Args.R).length : Nat) : Int) > (512 : Int))) (hc3 : ¬ ((((Args.N).length : Nat) : Int) = (w64 ((((Args.R).length : Nat) : Int) * (256 : Int))))) : Gv P (.func 6) A_dfaCheck H_dfaCheck (V_dfaCheck  2) (R_dfaCheck  2) :=
  runF_ok hm (A := aT [(11, .val (.bool false)), (14, .val (.bool false)), (22, .val (.bool true))]) (L := lT []) (wk := ⟨[2], [], 0, 0⟩)
    (ps := [(Value.bool (decide ((((Args.R).length : Nat) : Int) < (1 : Int)))) = (Value.bool false),
    (Value.bool (decide ((((Args.R).length : Nat) : Int) > (512 : Int)))) = (Value.bool false),
    (Value.bool ((((Args.N).length : Nat) : Int) != (w64 ((((Args.R).length : Nat) : Int) * (256 : Int))))) = (Value.bool true)]) (by kernel_rfl) ⟨(vbF hc1), (vbF hc2), (vnT hc3), trivial⟩
theorem m_dfaCheck_ok (n : Nat) (r : Int) (h : m_dfaCheck n = some r) : Gv P (.func 6) A_dfaCheck H_dfaCheck (V_dfaCheck  r) (R_dfaCheck  r) := by
  unfold m_dfaCheck at h
  by_cases hc1 : (((Args.R).length : Nat) : Int) < (1 : Int)
  · rw [if_pos hc1] at h
    obtain rfl := Option.some.inj h; exact p_dfaCheck_0 n hc1
  · rw [if_neg hc1] at h
    by_cases hc2 : (((Args.R).length : Nat) : Int) > (512 : Int)
    · rw [if_pos hc2] at h
      obtain rfl := Option.some.inj h; exact p_dfaCheck_1 n hc1 hc2
    · rw [if_neg hc2] at h
      by_cases hc3 : (((Args.N).length : Nat) : Int) = (w64 ((((Args.R).length : Nat) : Int) * (256 : Int)))
      · rw [if_pos hc3] at h
        obtain ⟨c4_, hc4, h⟩ := Option.bind_eq_some_iff.1 h
        by_cases hc5 : c4_ = true
        · rw [if_pos hc5] at h
          obtain ⟨c6_, hc6, h⟩ := Option.bind_eq_some_iff.1 h
          by_cases hc7 : c6_ = true
          · rw [if_pos hc7] at h
            obtain rfl := Option.some.inj h; exact p_dfaCheck_2 n hc1 hc2 hc3 c4_ hc4 hc5 c6_ hc6 hc7
          · rw [if_neg hc7] at h
            obtain rfl := Option.some.inj h; exact p_dfaCheck_3 n hc1 hc2 hc3 c4_ hc4 hc5 c6_ hc6 hc7
        · rw [if_neg hc5] at h
          obtain rfl := Option.some.inj h; exact p_dfaCheck_4 n hc1 hc2 hc3 c4_ hc4 hc5
      · rw [if_neg hc3] at h
        obtain rfl := Option.some.inj h; exact p_dfaCheck_5 n hc1 hc2 hc3

noncomputable def A_viewportkitLightDfa (m : Int) : List Value := [(Value.agg #[(Value.slice (some ⟨0, 0, some 1⟩) (Args.N).length Args.cN), (Value.slice (some ⟨1, 0, some 1⟩) (Args.R).length Args.cR)]), (Value.int .i64 m)]
noncomputable def H_viewportkitLightDfa (m : Int) : AH := ⟨sB [], 0, 0⟩
noncomputable def V_viewportkitLightDfa (m : Int) (r : Bool) : Value := match r with
  | o0 => (Value.bool o0)
noncomputable def R_viewportkitLightDfa (m : Int) (r : Bool) : AH := match r with
  | o0 => ⟨sB [], 0, 0⟩
def m_viewportkitLightDfa (n : Nat) (m : Int) : Option (Bool) :=
  if (((Args.R).length : Nat) : Int) ≤ m then
    if (((Args.N).length : Nat) : Int) ≤ (w64 ((256 : Int) * m)) then
      some true
    else
      some false
  else
    some false
set_option maxRecDepth 100000 in
theorem p_viewportkitLightDfa_0 (n : Nat) (m : Int) (hc1 : (((Args.R).length : Nat) : Int) ≤ m) (hc2 : (((Args.N).length : Nat) : Int) ≤ (w64 ((256 : Int) * m))) : Gv P (.func 5) (A_viewportkitLightDfa m) (H_viewportkitLightDfa m) (V_viewportkitLightDfa m true) (R_viewportkitLightDfa m true) :=
  runF_ok hm (A := aT [(8, .val (.bool true)), (15, .val (.bool true))]) (L := lT []) (wk := ⟨[4], [], 0, 0⟩)
    (ps := [(Value.bool (decide ((((Args.R).length : Nat) : Int) ≤ m))) = (Value.bool true),
    (Value.bool (decide ((((Args.N).length : Nat) : Int) ≤ (w64 ((256 : Int) * m))))) = (Value.bool true)]) (by kernel_rfl) ⟨(vbT hc1), (vbT hc2), trivial⟩
set_option maxRecDepth 100000 in
theorem p_viewportkitLightDfa_1 (n : Nat) (m : Int) (hc1 : (((Args.R).length : Nat) : Int) ≤ m) (hc2 : ¬ ((((Args.N).length : Nat) : Int) ≤ (w64 ((256 : Int) * m)))) : Gv P (.func 5) (A_viewportkitLightDfa m) (H_viewportkitLightDfa m) (V_viewportkitLightDfa m false) (R_viewportkitLightDfa m false) :=
  runF_ok hm (A := aT [(8, .val (.bool true)), (15, .val (.bool false))]) (L := lT []) (wk := ⟨[4], [], 0, 0⟩)
    (ps := [(Value.bool (decide ((((Args.R).length : Nat) : Int) ≤ m))) = (Value.bool true),
    (Value.bool (decide ((((Args.N).length : Nat) : Int) ≤ (w64 ((256 : Int) * m))))) = (Value.bool false)]) (by kernel_rfl) ⟨(vbT hc1), (vbF hc2), trivial⟩
set_option maxRecDepth 100000 in
theorem p_viewportkitLightDfa_2 (n : Nat) (m : Int) (hc1 : ¬ ((((Args.R).length : Nat) : Int) ≤ m)) : Gv P (.func 5) (A_viewportkitLightDfa m) (H_viewportkitLightDfa m) (V_viewportkitLightDfa m false) (R_viewportkitLightDfa m false) :=
  runF_ok hm (A := aT [(8, .val (.bool false))]) (L := lT []) (wk := ⟨[4], [], 0, 0⟩)
    (ps := [(Value.bool (decide ((((Args.R).length : Nat) : Int) ≤ m))) = (Value.bool false)]) (by kernel_rfl) ⟨(vbF hc1), trivial⟩
theorem m_viewportkitLightDfa_ok (n : Nat) (m : Int) (r : Bool) (h : m_viewportkitLightDfa n m = some r) : Gv P (.func 5) (A_viewportkitLightDfa m) (H_viewportkitLightDfa m) (V_viewportkitLightDfa m r) (R_viewportkitLightDfa m r) := by
  unfold m_viewportkitLightDfa at h
  by_cases hc1 : (((Args.R).length : Nat) : Int) ≤ m
  · rw [if_pos hc1] at h
    by_cases hc2 : (((Args.N).length : Nat) : Int) ≤ (w64 ((256 : Int) * m))
    · rw [if_pos hc2] at h
      obtain rfl := Option.some.inj h; exact p_viewportkitLightDfa_0 n m hc1 hc2
    · rw [if_neg hc2] at h
      obtain rfl := Option.some.inj h; exact p_viewportkitLightDfa_1 n m hc1 hc2
  · rw [if_neg hc1] at h
    obtain rfl := Option.some.inj h; exact p_viewportkitLightDfa_2 n m hc1

noncomputable def A_viewportkitPick (a0 : Int) (a1 : Int) : List Value := [(Value.int .i64 a0), (Value.int .i64 a1)]
noncomputable def H_viewportkitPick (a0 : Int) (a1 : Int) : AH := ⟨sB [], 0, 0⟩
noncomputable def V_viewportkitPick (a0 : Int) (a1 : Int) (r : Int) : Value := match r with
  | o0 => (Value.int .i64 o0)
noncomputable def R_viewportkitPick (a0 : Int) (a1 : Int) (r : Int) : AH := match r with
  | o0 => ⟨sB [], 0, 0⟩
def m_viewportkitPick (n : Nat) (a0 : Int) (a1 : Int) : Option (Int) :=
  if a1 < (1 : Int) then
    some 0
  else
    if ¬ (a1 = 0) then
      if (Int.tmod a0 a1) < (0 : Int) then
        some (w64 ((Int.tmod a0 a1) + a1))
      else
        some (Int.tmod a0 a1)
    else none
set_option maxRecDepth 100000 in
theorem p_viewportkitPick_0 (n : Nat) (a0 : Int) (a1 : Int) (hc1 : a1 < (1 : Int)) : Gv P (.func 7) (A_viewportkitPick a0 a1) (H_viewportkitPick a0 a1) (V_viewportkitPick a0 a1 0) (R_viewportkitPick a0 a1 0) :=
  runF_ok hm (A := aT [(5, .val (.bool true))]) (L := lT []) (wk := ⟨[4], [], 0, 0⟩)
    (ps := [(Value.bool (decide (a1 < (1 : Int)))) = (Value.bool true)]) (by kernel_rfl) ⟨(vbT hc1), trivial⟩
set_option maxRecDepth 100000 in
theorem p_viewportkitPick_1 (n : Nat) (a0 : Int) (a1 : Int) (hc1 : ¬ (a1 < (1 : Int))) (hc2 : ¬ (a1 = 0)) (hc3 : (Int.tmod a0 a1) < (0 : Int)) : Gv P (.func 7) (A_viewportkitPick a0 a1) (H_viewportkitPick a0 a1) (V_viewportkitPick a0 a1 (w64 ((Int.tmod a0 a1) + a1))) (R_viewportkitPick a0 a1 (w64 ((Int.tmod a0 a1) + a1))) :=
  runF_ok hm (A := aT [(5, .val (.bool false)), (10, .pur (Value.int .i64 (Int.tmod a0 a1))), (15, .val (.bool true))]) (L := lT []) (wk := ⟨[4], [], 0, 0⟩)
    (ps := [(Value.bool (decide (a1 < (1 : Int)))) = (Value.bool false),
    opBin P .rem 3 (.tmp 8) (.tmp 9) (Value.int .i64 a0) (Value.int .i64 a1) Ax.h0 = some ((Value.int .i64 (Int.tmod a0 a1)), Ax.h0),
    (Value.bool (decide ((Int.tmod a0 a1) < (0 : Int)))) = (Value.bool true)]) (by kernel_rfl) ⟨(vbF hc1), (remI hc2), (vbT hc3), trivial⟩
set_option maxRecDepth 100000 in
theorem p_viewportkitPick_2 (n : Nat) (a0 : Int) (a1 : Int) (hc1 : ¬ (a1 < (1 : Int))) (hc2 : ¬ (a1 = 0)) (hc3 : ¬ ((Int.tmod a0 a1) < (0 : Int))) : Gv P (.func 7) (A_viewportkitPick a0 a1) (H_viewportkitPick a0 a1) (V_viewportkitPick a0 a1 (Int.tmod a0 a1)) (R_viewportkitPick a0 a1 (Int.tmod a0 a1)) :=
  runF_ok hm (A := aT [(5, .val (.bool false)), (10, .pur (Value.int .i64 (Int.tmod a0 a1))), (15, .val (.bool false))]) (L := lT []) (wk := ⟨[4], [], 0, 0⟩)
    (ps := [(Value.bool (decide (a1 < (1 : Int)))) = (Value.bool false),
    opBin P .rem 3 (.tmp 8) (.tmp 9) (Value.int .i64 a0) (Value.int .i64 a1) Ax.h0 = some ((Value.int .i64 (Int.tmod a0 a1)), Ax.h0),
    (Value.bool (decide ((Int.tmod a0 a1) < (0 : Int)))) = (Value.bool false)]) (by kernel_rfl) ⟨(vbF hc1), (remI hc2), (vbF hc3), trivial⟩
theorem m_viewportkitPick_ok (n : Nat) (a0 : Int) (a1 : Int) (r : Int) (h : m_viewportkitPick n a0 a1 = some r) : Gv P (.func 7) (A_viewportkitPick a0 a1) (H_viewportkitPick a0 a1) (V_viewportkitPick a0 a1 r) (R_viewportkitPick a0 a1 r) := by
  unfold m_viewportkitPick at h
  by_cases hc1 : a1 < (1 : Int)
  · rw [if_pos hc1] at h
    obtain rfl := Option.some.inj h; exact p_viewportkitPick_0 n a0 a1 hc1
  · rw [if_neg hc1] at h
    by_cases hc2 : ¬ (a1 = 0)
    · rw [if_pos hc2] at h
      by_cases hc3 : (Int.tmod a0 a1) < (0 : Int)
      · rw [if_pos hc3] at h
        obtain rfl := Option.some.inj h; exact p_viewportkitPick_1 n a0 a1 hc1 hc2 hc3
      · rw [if_neg hc3] at h
        obtain rfl := Option.some.inj h; exact p_viewportkitPick_2 n a0 a1 hc1 hc2 hc3
    · rw [if_neg hc2] at h; cases h

noncomputable def A_dfahas (q : Int) : List Value := [(Value.agg #[(Value.slice (some ⟨0, 0, some 1⟩) (Args.N).length Args.cN), (Value.slice (some ⟨1, 0, some 1⟩) (Args.R).length Args.cR)]), (Value.int .i64 q)]
noncomputable def H_dfahas (q : Int) : AH := ⟨sB [], 0, 0⟩
noncomputable def V_dfahas (q : Int) (r : Bool) : Value := match r with
  | o0 => (Value.bool o0)
noncomputable def R_dfahas (q : Int) (r : Bool) : AH := match r with
  | o0 => ⟨sB [], 0, 0⟩
def m_dfahas (n : Nat) (q : Int) : Option (Bool) :=
  (m_dfaCheck n).bind fun c1_ =>
  if c1_ = (0 : Int) then
    if q ≥ (0 : Int) then
      if q < (((Args.R).length : Nat) : Int) then
        some true
      else
        some false
    else
      some false
  else
    some false
set_option maxRecDepth 100000 in
theorem p_dfahas_0 (n : Nat) (q : Int) (c1_ : Int) (hc1 : m_dfaCheck n = some c1_) (hc2 : c1_ = (0 : Int)) (hc3 : q ≥ (0 : Int)) (hc4 : q < (((Args.R).length : Nat) : Int)) : Gv P (.func 16) (A_dfahas q) (H_dfahas q) (V_dfahas q true) (R_dfahas q true) :=
  runF_ok hm (A := aT [(5, .call ⟨0, [], (V_dfaCheck  c1_), (R_dfaCheck  c1_), []⟩), (6, .val (.bool true)), (9, .val (.bool true)), (16, .val (.bool true))]) (L := lT []) (wk := ⟨[4], [], 0, 0⟩)
    (ps := [Gv P (.func 6) A_dfaCheck H_dfaCheck (V_dfaCheck  c1_) (R_dfaCheck  c1_),
    (Value.bool (c1_ == (0 : Int))) = (Value.bool true),
    (Value.bool (decide (q ≥ (0 : Int)))) = (Value.bool true),
    (Value.bool (decide (q < (((Args.R).length : Nat) : Int)))) = (Value.bool true)]) (by kernel_rfl) ⟨(m_dfaCheck_ok n c1_ hc1), (veT hc2), (vbT hc3), (vbT hc4), trivial⟩
set_option maxRecDepth 100000 in
theorem p_dfahas_1 (n : Nat) (q : Int) (c1_ : Int) (hc1 : m_dfaCheck n = some c1_) (hc2 : c1_ = (0 : Int)) (hc3 : q ≥ (0 : Int)) (hc4 : ¬ (q < (((Args.R).length : Nat) : Int))) : Gv P (.func 16) (A_dfahas q) (H_dfahas q) (V_dfahas q false) (R_dfahas q false) :=
  runF_ok hm (A := aT [(5, .call ⟨0, [], (V_dfaCheck  c1_), (R_dfaCheck  c1_), []⟩), (6, .val (.bool true)), (9, .val (.bool true)), (16, .val (.bool false))]) (L := lT []) (wk := ⟨[4], [], 0, 0⟩)
    (ps := [Gv P (.func 6) A_dfaCheck H_dfaCheck (V_dfaCheck  c1_) (R_dfaCheck  c1_),
    (Value.bool (c1_ == (0 : Int))) = (Value.bool true),
    (Value.bool (decide (q ≥ (0 : Int)))) = (Value.bool true),
    (Value.bool (decide (q < (((Args.R).length : Nat) : Int)))) = (Value.bool false)]) (by kernel_rfl) ⟨(m_dfaCheck_ok n c1_ hc1), (veT hc2), (vbT hc3), (vbF hc4), trivial⟩
set_option maxRecDepth 100000 in
theorem p_dfahas_2 (n : Nat) (q : Int) (c1_ : Int) (hc1 : m_dfaCheck n = some c1_) (hc2 : c1_ = (0 : Int)) (hc3 : ¬ (q ≥ (0 : Int))) : Gv P (.func 16) (A_dfahas q) (H_dfahas q) (V_dfahas q false) (R_dfahas q false) :=
  runF_ok hm (A := aT [(5, .call ⟨0, [], (V_dfaCheck  c1_), (R_dfaCheck  c1_), []⟩), (6, .val (.bool true)), (9, .val (.bool false))]) (L := lT []) (wk := ⟨[4], [], 0, 0⟩)
    (ps := [Gv P (.func 6) A_dfaCheck H_dfaCheck (V_dfaCheck  c1_) (R_dfaCheck  c1_),
    (Value.bool (c1_ == (0 : Int))) = (Value.bool true),
    (Value.bool (decide (q ≥ (0 : Int)))) = (Value.bool false)]) (by kernel_rfl) ⟨(m_dfaCheck_ok n c1_ hc1), (veT hc2), (vbF hc3), trivial⟩
set_option maxRecDepth 100000 in
theorem p_dfahas_3 (n : Nat) (q : Int) (c1_ : Int) (hc1 : m_dfaCheck n = some c1_) (hc2 : ¬ (c1_ = (0 : Int))) : Gv P (.func 16) (A_dfahas q) (H_dfahas q) (V_dfahas q false) (R_dfahas q false) :=
  runF_ok hm (A := aT [(5, .call ⟨0, [], (V_dfaCheck  c1_), (R_dfaCheck  c1_), []⟩), (6, .val (.bool false))]) (L := lT []) (wk := ⟨[4], [], 0, 0⟩)
    (ps := [Gv P (.func 6) A_dfaCheck H_dfaCheck (V_dfaCheck  c1_) (R_dfaCheck  c1_),
    (Value.bool (c1_ == (0 : Int))) = (Value.bool false)]) (by kernel_rfl) ⟨(m_dfaCheck_ok n c1_ hc1), (veF hc2), trivial⟩
theorem m_dfahas_ok (n : Nat) (q : Int) (r : Bool) (h : m_dfahas n q = some r) : Gv P (.func 16) (A_dfahas q) (H_dfahas q) (V_dfahas q r) (R_dfahas q r) := by
  unfold m_dfahas at h
  obtain ⟨c1_, hc1, h⟩ := Option.bind_eq_some_iff.1 h
  by_cases hc2 : c1_ = (0 : Int)
  · rw [if_pos hc2] at h
    by_cases hc3 : q ≥ (0 : Int)
    · rw [if_pos hc3] at h
      by_cases hc4 : q < (((Args.R).length : Nat) : Int)
      · rw [if_pos hc4] at h
        obtain rfl := Option.some.inj h; exact p_dfahas_0 n q c1_ hc1 hc2 hc3 hc4
      · rw [if_neg hc4] at h
        obtain rfl := Option.some.inj h; exact p_dfahas_1 n q c1_ hc1 hc2 hc3 hc4
    · rw [if_neg hc3] at h
      obtain rfl := Option.some.inj h; exact p_dfahas_2 n q c1_ hc1 hc2 hc3
  · rw [if_neg hc2] at h
    obtain rfl := Option.some.inj h; exact p_dfahas_3 n q c1_ hc1 hc2

noncomputable def A_dfaLen : List Value := [(Value.agg #[(Value.slice (some ⟨0, 0, some 1⟩) (Args.N).length Args.cN), (Value.slice (some ⟨1, 0, some 1⟩) (Args.R).length Args.cR)])]
noncomputable def H_dfaLen : AH := ⟨sB [], 0, 0⟩
noncomputable def V_dfaLen (r : Int) : Value := match r with
  | o0 => (Value.int .i64 o0)
noncomputable def R_dfaLen (r : Int) : AH := match r with
  | o0 => ⟨sB [], 0, 0⟩
def m_dfaLen (n : Nat) : Option (Int) :=
  (m_dfaCheck n).bind fun c1_ =>
  if c1_ = (0 : Int) then
    some (((Args.R).length : Nat) : Int)
  else
    some 0
set_option maxRecDepth 100000 in
theorem p_dfaLen_0 (n : Nat) (c1_ : Int) (hc1 : m_dfaCheck n = some c1_) (hc2 : c1_ = (0 : Int)) : Gv P (.func 11) A_dfaLen H_dfaLen (V_dfaLen  (((Args.R).length : Nat) : Int)) (R_dfaLen  (((Args.R).length : Nat) : Int)) :=
  runF_ok hm (A := aT [(6, .call ⟨0, [], (V_dfaCheck  c1_), (R_dfaCheck  c1_), []⟩), (7, .val (.bool false))]) (L := lT []) (wk := ⟨[2], [], 0, 0⟩)
    (ps := [Gv P (.func 6) A_dfaCheck H_dfaCheck (V_dfaCheck  c1_) (R_dfaCheck  c1_),
    (Value.bool (c1_ != (0 : Int))) = (Value.bool false)]) (by kernel_rfl) ⟨(m_dfaCheck_ok n c1_ hc1), (vnF hc2), trivial⟩
set_option maxRecDepth 100000 in
theorem p_dfaLen_1 (n : Nat) (c1_ : Int) (hc1 : m_dfaCheck n = some c1_) (hc2 : ¬ (c1_ = (0 : Int))) : Gv P (.func 11) A_dfaLen H_dfaLen (V_dfaLen  0) (R_dfaLen  0) :=
  runF_ok hm (A := aT [(6, .call ⟨0, [], (V_dfaCheck  c1_), (R_dfaCheck  c1_), []⟩), (7, .val (.bool true))]) (L := lT []) (wk := ⟨[2], [], 0, 0⟩)
    (ps := [Gv P (.func 6) A_dfaCheck H_dfaCheck (V_dfaCheck  c1_) (R_dfaCheck  c1_),
    (Value.bool (c1_ != (0 : Int))) = (Value.bool true)]) (by kernel_rfl) ⟨(m_dfaCheck_ok n c1_ hc1), (vnT hc2), trivial⟩
theorem m_dfaLen_ok (n : Nat) (r : Int) (h : m_dfaLen n = some r) : Gv P (.func 11) A_dfaLen H_dfaLen (V_dfaLen  r) (R_dfaLen  r) := by
  unfold m_dfaLen at h
  obtain ⟨c1_, hc1, h⟩ := Option.bind_eq_some_iff.1 h
  by_cases hc2 : c1_ = (0 : Int)
  · rw [if_pos hc2] at h
    obtain rfl := Option.some.inj h; exact p_dfaLen_0 n c1_ hc1 hc2
  · rw [if_neg hc2] at h
    obtain rfl := Option.some.inj h; exact p_dfaLen_1 n c1_ hc1 hc2

noncomputable def A_dfaStep (q : Int) (c : Int) : List Value := [(Value.agg #[(Value.slice (some ⟨0, 0, some 1⟩) (Args.N).length Args.cN), (Value.slice (some ⟨1, 0, some 1⟩) (Args.R).length Args.cR)]), (Value.int .i64 q), (Value.int .u8 c)]
noncomputable def H_dfaStep (q : Int) (c : Int) : AH := ⟨sB [], 0, 0⟩
noncomputable def V_dfaStep (q : Int) (c : Int) (r : Int) : Value := match r with
  | o0 => (Value.int .i64 o0)
noncomputable def R_dfaStep (q : Int) (c : Int) (r : Int) : AH := match r with
  | o0 => ⟨sB [], 0, 0⟩
def m_dfaStep (n : Nat) (q : Int) (c : Int) : Option (Int) :=
  (m_dfahas n q).bind fun c1_ =>
  if c1_ = true then
    if 0 ≤ (w64 ((w64 (q * (256 : Int))) + (IntKind.i64.wrap c))) ∧ (w64 ((w64 (q * (256 : Int))) + (IntKind.i64.wrap c))) < (((Args.N).length : Nat) : Int) then
      some ((Args.N).getD ((w64 ((w64 (q * (256 : Int))) + (IntKind.i64.wrap c)))).toNat 0)
    else none
  else
    some (-1)
set_option maxRecDepth 100000 in
theorem p_dfaStep_0 (n : Nat) (q : Int) (c : Int) (c1_ : Bool) (hc1 : m_dfahas n q = some c1_) (hc2 : c1_ = true) (hc3 : 0 ≤ (w64 ((w64 (q * (256 : Int))) + (IntKind.i64.wrap c))) ∧ (w64 ((w64 (q * (256 : Int))) + (IntKind.i64.wrap c))) < (((Args.N).length : Nat) : Int)) : Gv P (.func 10) (A_dfaStep q c) (H_dfaStep q c) (V_dfaStep q c ((Args.N).getD ((w64 ((w64 (q * (256 : Int))) + (IntKind.i64.wrap c)))).toNat 0)) (R_dfaStep q c ((Args.N).getD ((w64 ((w64 (q * (256 : Int))) + (IntKind.i64.wrap c)))).toNat 0)) :=
  runF_ok hm (A := aT [(7, .call ⟨0, [], (V_dfahas q c1_), (R_dfahas q c1_), []⟩), (8, .val (.bool false)), (18, .pur (Value.pointer (some ⟨0, ((w64 ((w64 (q * (256 : Int))) + (IntKind.i64.wrap c)))).toNat, some 1⟩))), (19, .ld (Value.int .i64 ((Args.N).getD ((w64 ((w64 (q * (256 : Int))) + (IntKind.i64.wrap c)))).toNat 0)))]) (L := lT []) (wk := ⟨[6], [], 0, 0⟩)
    (ps := [Gv P (.func 16) (A_dfahas q) (H_dfahas q) (V_dfahas q c1_) (R_dfahas q c1_),
    (Value.bool (!c1_)) = (Value.bool false),
    opIndexAddr P 22 (Value.slice (some ⟨0, 0, some 1⟩) (Args.N).length Args.cN) (Value.int .i64 (w64 ((w64 (q * (256 : Int))) + (IntKind.i64.wrap c)))) Ax.h0 = some ((Value.pointer (some ⟨0, ((w64 ((w64 (q * (256 : Int))) + (IntKind.i64.wrap c)))).toNat, some 1⟩)), Ax.h0),
    loadG P 3 (Value.pointer (some ⟨0, ((w64 ((w64 (q * (256 : Int))) + (IntKind.i64.wrap c)))).toNat, some 1⟩)) Ax.h0 = some ((Value.int .i64 ((Args.N).getD ((w64 ((w64 (q * (256 : Int))) + (IntKind.i64.wrap c)))).toNat 0)), Ax.h0)]) (by kernel_rfl) ⟨(m_dfahas_ok n q c1_ hc1), (vBn hc2), (ixW1 (e := 3) (by kernel_rfl) (by kernel_rfl) hc3), (ldW rfl (by kernel_rfl) (toNatLt hc3)), trivial⟩
set_option maxRecDepth 100000 in
theorem p_dfaStep_1 (n : Nat) (q : Int) (c : Int) (c1_ : Bool) (hc1 : m_dfahas n q = some c1_) (hc2 : ¬ (c1_ = true)) : Gv P (.func 10) (A_dfaStep q c) (H_dfaStep q c) (V_dfaStep q c (-1)) (R_dfaStep q c (-1)) :=
  runF_ok hm (A := aT [(7, .call ⟨0, [], (V_dfahas q c1_), (R_dfahas q c1_), []⟩), (8, .val (.bool true))]) (L := lT []) (wk := ⟨[6], [], 0, 0⟩)
    (ps := [Gv P (.func 16) (A_dfahas q) (H_dfahas q) (V_dfahas q c1_) (R_dfahas q c1_),
    (Value.bool (!c1_)) = (Value.bool true)]) (by kernel_rfl) ⟨(m_dfahas_ok n q c1_ hc1), (vBn (Bool.eq_false_iff.2 hc2)), trivial⟩
theorem m_dfaStep_ok (n : Nat) (q : Int) (c : Int) (r : Int) (h : m_dfaStep n q c = some r) : Gv P (.func 10) (A_dfaStep q c) (H_dfaStep q c) (V_dfaStep q c r) (R_dfaStep q c r) := by
  unfold m_dfaStep at h
  obtain ⟨c1_, hc1, h⟩ := Option.bind_eq_some_iff.1 h
  by_cases hc2 : c1_ = true
  · rw [if_pos hc2] at h
    by_cases hc3 : 0 ≤ (w64 ((w64 (q * (256 : Int))) + (IntKind.i64.wrap c))) ∧ (w64 ((w64 (q * (256 : Int))) + (IntKind.i64.wrap c))) < (((Args.N).length : Nat) : Int)
    · rw [if_pos hc3] at h
      obtain rfl := Option.some.inj h; exact p_dfaStep_0 n q c c1_ hc1 hc2 hc3
    · rw [if_neg hc3] at h; cases h
  · rw [if_neg hc2] at h
    obtain rfl := Option.some.inj h; exact p_dfaStep_1 n q c c1_ hc1 hc2

noncomputable def A_dfaRule (q : Int) : List Value := [(Value.agg #[(Value.slice (some ⟨0, 0, some 1⟩) (Args.N).length Args.cN), (Value.slice (some ⟨1, 0, some 1⟩) (Args.R).length Args.cR)]), (Value.int .i64 q)]
noncomputable def H_dfaRule (q : Int) : AH := ⟨sB [], 0, 0⟩
noncomputable def V_dfaRule (q : Int) (r : Int) : Value := match r with
  | o0 => (Value.int .i64 o0)
noncomputable def R_dfaRule (q : Int) (r : Int) : AH := match r with
  | o0 => ⟨sB [], 0, 0⟩
def m_dfaRule (n : Nat) (q : Int) : Option (Int) :=
  (m_dfahas n q).bind fun c1_ =>
  if c1_ = true then
    if 0 ≤ q ∧ q < (((Args.R).length : Nat) : Int) then
      some ((Args.R).getD (q).toNat 0)
    else none
  else
    some (-1)
set_option maxRecDepth 100000 in
theorem p_dfaRule_0 (n : Nat) (q : Int) (c1_ : Bool) (hc1 : m_dfahas n q = some c1_) (hc2 : c1_ = true) (hc3 : 0 ≤ q ∧ q < (((Args.R).length : Nat) : Int)) : Gv P (.func 9) (A_dfaRule q) (H_dfaRule q) (V_dfaRule q ((Args.R).getD (q).toNat 0)) (R_dfaRule q ((Args.R).getD (q).toNat 0)) :=
  runF_ok hm (A := aT [(7, .call ⟨0, [], (V_dfahas q c1_), (R_dfahas q c1_), []⟩), (8, .val (.bool false)), (14, .pur (Value.pointer (some ⟨1, (q).toNat, some 1⟩))), (15, .ld (Value.int .i64 ((Args.R).getD (q).toNat 0)))]) (L := lT []) (wk := ⟨[4], [], 0, 0⟩)
    (ps := [Gv P (.func 16) (A_dfahas q) (H_dfahas q) (V_dfahas q c1_) (R_dfahas q c1_),
    (Value.bool (!c1_)) = (Value.bool false),
    opIndexAddr P 22 (Value.slice (some ⟨1, 0, some 1⟩) (Args.R).length Args.cR) (Value.int .i64 q) Ax.h0 = some ((Value.pointer (some ⟨1, (q).toNat, some 1⟩)), Ax.h0),
    loadG P 3 (Value.pointer (some ⟨1, (q).toNat, some 1⟩)) Ax.h0 = some ((Value.int .i64 ((Args.R).getD (q).toNat 0)), Ax.h0)]) (by kernel_rfl) ⟨(m_dfahas_ok n q c1_ hc1), (vBn hc2), (ixW1 (e := 3) (by kernel_rfl) (by kernel_rfl) hc3), (ldW rfl (by kernel_rfl) (toNatLt hc3)), trivial⟩
set_option maxRecDepth 100000 in
theorem p_dfaRule_1 (n : Nat) (q : Int) (c1_ : Bool) (hc1 : m_dfahas n q = some c1_) (hc2 : ¬ (c1_ = true)) : Gv P (.func 9) (A_dfaRule q) (H_dfaRule q) (V_dfaRule q (-1)) (R_dfaRule q (-1)) :=
  runF_ok hm (A := aT [(7, .call ⟨0, [], (V_dfahas q c1_), (R_dfahas q c1_), []⟩), (8, .val (.bool true))]) (L := lT []) (wk := ⟨[4], [], 0, 0⟩)
    (ps := [Gv P (.func 16) (A_dfahas q) (H_dfahas q) (V_dfahas q c1_) (R_dfahas q c1_),
    (Value.bool (!c1_)) = (Value.bool true)]) (by kernel_rfl) ⟨(m_dfahas_ok n q c1_ hc1), (vBn (Bool.eq_false_iff.2 hc2)), trivial⟩
theorem m_dfaRule_ok (n : Nat) (q : Int) (r : Int) (h : m_dfaRule n q = some r) : Gv P (.func 9) (A_dfaRule q) (H_dfaRule q) (V_dfaRule q r) (R_dfaRule q r) := by
  unfold m_dfaRule at h
  obtain ⟨c1_, hc1, h⟩ := Option.bind_eq_some_iff.1 h
  by_cases hc2 : c1_ = true
  · rw [if_pos hc2] at h
    by_cases hc3 : 0 ≤ q ∧ q < (((Args.R).length : Nat) : Int)
    · rw [if_pos hc3] at h
      obtain rfl := Option.some.inj h; exact p_dfaRule_0 n q c1_ hc1 hc2 hc3
    · rw [if_neg hc3] at h; cases h
  · rw [if_neg hc2] at h
    obtain rfl := Option.some.inj h; exact p_dfaRule_1 n q c1_ hc1 hc2

noncomputable def S_dfaRun_1 (x1_0 : ByteArray) (x1_2 : Int) (st : Int × Int) : XSt := match st with
  | (x1_1, x1_3) => (sT 34 [(1, (Value.string x1_0)), (2, (Value.pointer (some ⟨0, 0, none⟩))), (5, (Value.int .i64 x1_1)), (11, (Value.int .i64 x1_2)), (12, (Value.int .i64 x1_3))], [], ⟨sB [(0, (some (.cells (layT [(Value.slice (some ⟨0, 0, some 1⟩) (Args.N).length Args.cN), (Value.slice (some ⟨1, 0, some 1⟩) (Args.R).length Args.cR)]) 24)))], 1, 0⟩)
noncomputable def X_dfaRun_1 (x1_0 : ByteArray) (x1_2 : Int) (r : (Unit) ⊕ (Int)) : Ex × XSt := match r with
  | .inl _ => (.ret, (sT 34 [(4, (Value.int .i64 (-1 : Int)))], [], ⟨sB [], 0, 0⟩))
  | .inr z1_0 => (.exit 0, (sT 34 [(2, (Value.pointer (some ⟨0, 0, none⟩))), (5, (Value.int .i64 z1_0))], [], ⟨sB [(0, (some (.cells (layT [(Value.slice (some ⟨0, 0, some 1⟩) (Args.N).length Args.cN), (Value.slice (some ⟨1, 0, some 1⟩) (Args.R).length Args.cR)]) 24)))], 1, 0⟩))
def B_dfaRun_1 (n : Nat) (x1_0 : ByteArray) (x1_2 : Int) (st : Int × Int) : Option ((Int × Int) ⊕ ((Unit) ⊕ (Int))) := match st with
  | (x1_1, x1_3) =>
    if x1_3 < x1_2 then
      if 0 ≤ x1_3 ∧ x1_3 < (((x1_0).size : Nat) : Int) then
        if 0 ≤ (w64 ((w64 (x1_1 * (256 : Int))) + (IntKind.i64.wrap (byteAt x1_0 (x1_3).toNat)))) ∧ (w64 ((w64 (x1_1 * (256 : Int))) + (IntKind.i64.wrap (byteAt x1_0 (x1_3).toNat)))) < (((Args.N).length : Nat) : Int) then
          if ((Args.N).getD ((w64 ((w64 (x1_1 * (256 : Int))) + (IntKind.i64.wrap (byteAt x1_0 (x1_3).toNat))))).toNat 0) < (0 : Int) then
            some (.inr (.inl ()))
          else
            some (.inl (((Args.N).getD ((w64 ((w64 (x1_1 * (256 : Int))) + (IntKind.i64.wrap (byteAt x1_0 (x1_3).toNat))))).toNat 0), (w64 (x1_3 + (1 : Int)))))
        else none
      else none
    else
      some (.inr (.inr x1_1))
def m_dfaRun_1 (n : Nat) (x1_0 : ByteArray) (x1_2 : Int) (st : Int × Int) : Option ((Unit) ⊕ (Int)) := iterM (B_dfaRun_1 n x1_0 x1_2) n st
set_option maxRecDepth 100000 in
theorem q_dfaRun_1_0 (n : Nat) (x1_0 : ByteArray) (x1_1 : Int) (x1_2 : Int) (x1_3 : Int) (hy1_1 : x1_3 < x1_2) (hy1_2 : 0 ≤ x1_3 ∧ x1_3 < (((x1_0).size : Nat) : Int)) (hy1_3 : 0 ≤ (w64 ((w64 (x1_1 * (256 : Int))) + (IntKind.i64.wrap (byteAt x1_0 (x1_3).toNat)))) ∧ (w64 ((w64 (x1_1 * (256 : Int))) + (IntKind.i64.wrap (byteAt x1_0 (x1_3).toNat)))) < (((Args.N).length : Nat) : Int)) (hy1_4 : ((Args.N).getD ((w64 ((w64 (x1_1 * (256 : Int))) + (IntKind.i64.wrap (byteAt x1_0 (x1_3).toNat))))).toNat 0) < (0 : Int)) : CG P none (fnN P 8) 0 (codeOf P 8 [false, false, true, false, true, true, true]) (S_dfaRun_1 x1_0 x1_2 (x1_1, x1_3)) (X_dfaRun_1 x1_0 x1_2 (.inl ())) :=
  runC_ok hm (A := aT [(1, .val (.bool true)), (16, .pur (Value.int .u8 (byteAt x1_0 (x1_3).toNat))), (19, .pur (Value.pointer (some ⟨0, ((w64 ((w64 (x1_1 * (256 : Int))) + (IntKind.i64.wrap (byteAt x1_0 (x1_3).toNat))))).toNat, some 1⟩))), (20, .ld (Value.int .i64 ((Args.N).getD ((w64 ((w64 (x1_1 * (256 : Int))) + (IntKind.i64.wrap (byteAt x1_0 (x1_3).toNat))))).toNat 0))), (24, .val (.bool true))]) (L := lT []) (wk := ⟨[4], [], 0, 0⟩)
    (ps := [(Value.bool (decide (x1_3 < x1_2))) = (Value.bool true),
    opIndex P 9 (Value.string x1_0) (Value.int .i64 x1_3) Ax.h0 = some ((Value.int .u8 (byteAt x1_0 (x1_3).toNat)), Ax.h0),
    opIndexAddr P 22 (Value.slice (some ⟨0, 0, some 1⟩) (Args.N).length Args.cN) (Value.int .i64 (w64 ((w64 (x1_1 * (256 : Int))) + (IntKind.i64.wrap (byteAt x1_0 (x1_3).toNat))))) Ax.h0 = some ((Value.pointer (some ⟨0, ((w64 ((w64 (x1_1 * (256 : Int))) + (IntKind.i64.wrap (byteAt x1_0 (x1_3).toNat))))).toNat, some 1⟩)), Ax.h0),
    loadG P 3 (Value.pointer (some ⟨0, ((w64 ((w64 (x1_1 * (256 : Int))) + (IntKind.i64.wrap (byteAt x1_0 (x1_3).toNat))))).toNat, some 1⟩)) Ax.h0 = some ((Value.int .i64 ((Args.N).getD ((w64 ((w64 (x1_1 * (256 : Int))) + (IntKind.i64.wrap (byteAt x1_0 (x1_3).toNat))))).toNat 0)), Ax.h0),
    (Value.bool (decide (((Args.N).getD ((w64 ((w64 (x1_1 * (256 : Int))) + (IntKind.i64.wrap (byteAt x1_0 (x1_3).toNat))))).toNat 0) < (0 : Int)))) = (Value.bool true)]) (by kernel_rfl) ⟨(vbT hy1_1), (ixStr (by kernel_rfl) hy1_2), (ixW1 (e := 3) (by kernel_rfl) (by kernel_rfl) hy1_3), (ldW rfl (by kernel_rfl) (toNatLt hy1_3)), (vbT hy1_4), trivial⟩
set_option maxRecDepth 100000 in
theorem q_dfaRun_1_1 (n : Nat) (x1_0 : ByteArray) (x1_1 : Int) (x1_2 : Int) (x1_3 : Int) (hy1_1 : x1_3 < x1_2) (hy1_2 : 0 ≤ x1_3 ∧ x1_3 < (((x1_0).size : Nat) : Int)) (hy1_3 : 0 ≤ (w64 ((w64 (x1_1 * (256 : Int))) + (IntKind.i64.wrap (byteAt x1_0 (x1_3).toNat)))) ∧ (w64 ((w64 (x1_1 * (256 : Int))) + (IntKind.i64.wrap (byteAt x1_0 (x1_3).toNat)))) < (((Args.N).length : Nat) : Int)) (hy1_4 : ¬ (((Args.N).getD ((w64 ((w64 (x1_1 * (256 : Int))) + (IntKind.i64.wrap (byteAt x1_0 (x1_3).toNat))))).toNat 0) < (0 : Int))) : CG P none (fnN P 8) 0 (codeOf P 8 [false, false, true, false, true, true, true]) (S_dfaRun_1 x1_0 x1_2 (x1_1, x1_3)) (.normal, S_dfaRun_1 x1_0 x1_2 (((Args.N).getD ((w64 ((w64 (x1_1 * (256 : Int))) + (IntKind.i64.wrap (byteAt x1_0 (x1_3).toNat))))).toNat 0), (w64 (x1_3 + (1 : Int))))) :=
  runC_ok hm (A := aT [(1, .val (.bool true)), (16, .pur (Value.int .u8 (byteAt x1_0 (x1_3).toNat))), (19, .pur (Value.pointer (some ⟨0, ((w64 ((w64 (x1_1 * (256 : Int))) + (IntKind.i64.wrap (byteAt x1_0 (x1_3).toNat))))).toNat, some 1⟩))), (20, .ld (Value.int .i64 ((Args.N).getD ((w64 ((w64 (x1_1 * (256 : Int))) + (IntKind.i64.wrap (byteAt x1_0 (x1_3).toNat))))).toNat 0))), (24, .val (.bool false))]) (L := lT []) (wk := ⟨[1, 2, 5, 11, 12], [(0, 0, false)], 1, 0⟩)
    (ps := [(Value.bool (decide (x1_3 < x1_2))) = (Value.bool true),
    opIndex P 9 (Value.string x1_0) (Value.int .i64 x1_3) Ax.h0 = some ((Value.int .u8 (byteAt x1_0 (x1_3).toNat)), Ax.h0),
    opIndexAddr P 22 (Value.slice (some ⟨0, 0, some 1⟩) (Args.N).length Args.cN) (Value.int .i64 (w64 ((w64 (x1_1 * (256 : Int))) + (IntKind.i64.wrap (byteAt x1_0 (x1_3).toNat))))) Ax.h0 = some ((Value.pointer (some ⟨0, ((w64 ((w64 (x1_1 * (256 : Int))) + (IntKind.i64.wrap (byteAt x1_0 (x1_3).toNat))))).toNat, some 1⟩)), Ax.h0),
    loadG P 3 (Value.pointer (some ⟨0, ((w64 ((w64 (x1_1 * (256 : Int))) + (IntKind.i64.wrap (byteAt x1_0 (x1_3).toNat))))).toNat, some 1⟩)) Ax.h0 = some ((Value.int .i64 ((Args.N).getD ((w64 ((w64 (x1_1 * (256 : Int))) + (IntKind.i64.wrap (byteAt x1_0 (x1_3).toNat))))).toNat 0)), Ax.h0),
    (Value.bool (decide (((Args.N).getD ((w64 ((w64 (x1_1 * (256 : Int))) + (IntKind.i64.wrap (byteAt x1_0 (x1_3).toNat))))).toNat 0) < (0 : Int)))) = (Value.bool false)]) (by kernel_rfl) ⟨(vbT hy1_1), (ixStr (by kernel_rfl) hy1_2), (ixW1 (e := 3) (by kernel_rfl) (by kernel_rfl) hy1_3), (ldW rfl (by kernel_rfl) (toNatLt hy1_3)), (vbF hy1_4), trivial⟩
set_option maxRecDepth 100000 in
theorem q_dfaRun_1_2 (n : Nat) (x1_0 : ByteArray) (x1_1 : Int) (x1_2 : Int) (x1_3 : Int) (hy1_1 : ¬ (x1_3 < x1_2)) : CG P none (fnN P 8) 0 (codeOf P 8 [false, false, true, false, true, true, true]) (S_dfaRun_1 x1_0 x1_2 (x1_1, x1_3)) (X_dfaRun_1 x1_0 x1_2 (.inr x1_1)) :=
  runC_ok hm (A := aT [(1, .val (.bool false))]) (L := lT []) (wk := ⟨[2, 5], [(0, 0, false)], 1, 0⟩)
    (ps := [(Value.bool (decide (x1_3 < x1_2))) = (Value.bool false)]) (by kernel_rfl) ⟨(vbF hy1_1), trivial⟩
theorem m_dfaRun_1_ok (n : Nat) (x1_0 : ByteArray) (x1_2 : Int) (st : Int × Int) (r : (Unit) ⊕ (Int)) (h : m_dfaRun_1 n x1_0 x1_2 st = some r) : CG P none (fnN P 8) 0 (codeOf P 8 [false, true, false, true, true, true]) (S_dfaRun_1 x1_0 x1_2 st) (X_dfaRun_1 x1_0 x1_2 r) :=
  CG.iter (b := codeOf P 8 [false, false, true, false, true, true, true]) (by kernel_rfl) (body := B_dfaRun_1 n x1_0 x1_2) (S := S_dfaRun_1 x1_0 x1_2) (X := X_dfaRun_1 x1_0 x1_2)
    (fun s s' h => by
    obtain ⟨x1_1, x1_3⟩ := s
    unfold B_dfaRun_1 at h
    dsimp only at h
    by_cases hy1_1 : x1_3 < x1_2
    · rw [if_pos hy1_1] at h
      by_cases hy1_2 : 0 ≤ x1_3 ∧ x1_3 < (((x1_0).size : Nat) : Int)
      · rw [if_pos hy1_2] at h
        by_cases hy1_3 : 0 ≤ (w64 ((w64 (x1_1 * (256 : Int))) + (IntKind.i64.wrap (byteAt x1_0 (x1_3).toNat)))) ∧ (w64 ((w64 (x1_1 * (256 : Int))) + (IntKind.i64.wrap (byteAt x1_0 (x1_3).toNat)))) < (((Args.N).length : Nat) : Int)
        · rw [if_pos hy1_3] at h
          by_cases hy1_4 : ((Args.N).getD ((w64 ((w64 (x1_1 * (256 : Int))) + (IntKind.i64.wrap (byteAt x1_0 (x1_3).toNat))))).toNat 0) < (0 : Int)
          · rw [if_pos hy1_4] at h
            cases h
          · rw [if_neg hy1_4] at h
            obtain rfl := Sum.inl.inj (Option.some.inj h); exact q_dfaRun_1_1 n x1_0 x1_1 x1_2 x1_3 hy1_1 hy1_2 hy1_3 hy1_4
        · rw [if_neg hy1_3] at h; cases h
      · rw [if_neg hy1_2] at h; cases h
    · rw [if_neg hy1_1] at h
      cases h)
    (fun s r h => by
    obtain ⟨x1_1, x1_3⟩ := s
    unfold B_dfaRun_1 at h
    dsimp only at h
    by_cases hy1_1 : x1_3 < x1_2
    · rw [if_pos hy1_1] at h
      by_cases hy1_2 : 0 ≤ x1_3 ∧ x1_3 < (((x1_0).size : Nat) : Int)
      · rw [if_pos hy1_2] at h
        by_cases hy1_3 : 0 ≤ (w64 ((w64 (x1_1 * (256 : Int))) + (IntKind.i64.wrap (byteAt x1_0 (x1_3).toNat)))) ∧ (w64 ((w64 (x1_1 * (256 : Int))) + (IntKind.i64.wrap (byteAt x1_0 (x1_3).toNat)))) < (((Args.N).length : Nat) : Int)
        · rw [if_pos hy1_3] at h
          by_cases hy1_4 : ((Args.N).getD ((w64 ((w64 (x1_1 * (256 : Int))) + (IntKind.i64.wrap (byteAt x1_0 (x1_3).toNat))))).toNat 0) < (0 : Int)
          · rw [if_pos hy1_4] at h
            obtain rfl := Sum.inr.inj (Option.some.inj h); exact q_dfaRun_1_0 n x1_0 x1_1 x1_2 x1_3 hy1_1 hy1_2 hy1_3 hy1_4
          · rw [if_neg hy1_4] at h
            cases h
        · rw [if_neg hy1_3] at h; cases h
      · rw [if_neg hy1_2] at h; cases h
    · rw [if_neg hy1_1] at h
      obtain rfl := Sum.inr.inj (Option.some.inj h); exact q_dfaRun_1_2 n x1_0 x1_1 x1_2 x1_3 hy1_1)
    (fun r => by intro hx; rcases r with _ | _ <;> cases hx) h
noncomputable def A_dfaRun (x : ByteArray) : List Value := [(Value.agg #[(Value.slice (some ⟨0, 0, some 1⟩) (Args.N).length Args.cN), (Value.slice (some ⟨1, 0, some 1⟩) (Args.R).length Args.cR)]), (Value.string x)]
noncomputable def H_dfaRun (x : ByteArray) : AH := ⟨sB [], 0, 0⟩
noncomputable def V_dfaRun (x : ByteArray) (r : Int) : Value := match r with
  | o0 => (Value.int .i64 o0)
noncomputable def R_dfaRun (x : ByteArray) (r : Int) : AH := match r with
  | o0 => ⟨sB [], 0, 0⟩
def m_dfaRun (n : Nat) (x : ByteArray) : Option (Int) :=
  (m_dfaCheck n).bind fun c1_ =>
  if c1_ = (0 : Int) then
    match m_dfaRun_1 n x (((x).size : Nat) : Int) (0, 0) with
    | none => none
    | some (.inl _) =>
      some (-1)
    | some (.inr c3_) =>
      if 0 ≤ c3_ ∧ c3_ < (((Args.R).length : Nat) : Int) then
        some ((Args.R).getD (c3_).toNat 0)
      else none
  else
    some (-1)
set_option maxRecDepth 100000 in
theorem p_dfaRun_0 (n : Nat) (x : ByteArray) (c1_ : Int) (hc1 : m_dfaCheck n = some c1_) (hc2 : c1_ = (0 : Int)) (hc3 : m_dfaRun_1 n x (((x).size : Nat) : Int) (0, 0) = some (.inl ())) : Gv P (.func 8) (A_dfaRun x) (H_dfaRun x) (V_dfaRun x (-1)) (R_dfaRun x (-1)) :=
  runF_ok hm (A := aT [(6, .call ⟨0, [], (V_dfaCheck  c1_), (R_dfaCheck  c1_), []⟩), (7, .val (.bool false))]) (L := lT [(17, ⟨⟨[1, 2, 5, 11, 12], [(0, 0, false)], 1, 0⟩, (X_dfaRun_1 x (((x).size : Nat) : Int) (.inl ())).1, (X_dfaRun_1 x (((x).size : Nat) : Int) (.inl ())).2⟩)]) (wk := ⟨[4], [], 0, 0⟩)
    (ps := [Gv P (.func 6) A_dfaCheck H_dfaCheck (V_dfaCheck  c1_) (R_dfaCheck  c1_),
    (Value.bool (c1_ != (0 : Int))) = (Value.bool false),
    CG P none (fnN P 8) 0 (codeOf P 8 [false, true, false, true, true, true]) (S_dfaRun_1 x (((x).size : Nat) : Int) (0, 0)) (X_dfaRun_1 x (((x).size : Nat) : Int) (.inl ()))]) (by kernel_rfl) ⟨(m_dfaCheck_ok n c1_ hc1), (vnF hc2), (m_dfaRun_1_ok n x (((x).size : Nat) : Int) (0, 0) (.inl ()) hc3), trivial⟩
set_option maxRecDepth 100000 in
theorem p_dfaRun_1 (n : Nat) (x : ByteArray) (c1_ : Int) (hc1 : m_dfaCheck n = some c1_) (hc2 : c1_ = (0 : Int)) (c3_ : Int) (hc3 : m_dfaRun_1 n x (((x).size : Nat) : Int) (0, 0) = some (.inr c3_)) (hc4 : 0 ≤ c3_ ∧ c3_ < (((Args.R).length : Nat) : Int)) : Gv P (.func 8) (A_dfaRun x) (H_dfaRun x) (V_dfaRun x ((Args.R).getD (c3_).toNat 0)) (R_dfaRun x ((Args.R).getD (c3_).toNat 0)) :=
  runF_ok hm (A := aT [(6, .call ⟨0, [], (V_dfaCheck  c1_), (R_dfaCheck  c1_), []⟩), (7, .val (.bool false)), (22, .pur (Value.pointer (some ⟨1, (c3_).toNat, some 1⟩))), (23, .ld (Value.int .i64 ((Args.R).getD (c3_).toNat 0)))]) (L := lT [(17, ⟨⟨[1, 2, 5, 11, 12], [(0, 0, false)], 1, 0⟩, (X_dfaRun_1 x (((x).size : Nat) : Int) (.inr c3_)).1, (X_dfaRun_1 x (((x).size : Nat) : Int) (.inr c3_)).2⟩)]) (wk := ⟨[4], [], 0, 0⟩)
    (ps := [Gv P (.func 6) A_dfaCheck H_dfaCheck (V_dfaCheck  c1_) (R_dfaCheck  c1_),
    (Value.bool (c1_ != (0 : Int))) = (Value.bool false),
    CG P none (fnN P 8) 0 (codeOf P 8 [false, true, false, true, true, true]) (S_dfaRun_1 x (((x).size : Nat) : Int) (0, 0)) (X_dfaRun_1 x (((x).size : Nat) : Int) (.inr c3_)),
    opIndexAddr P 22 (Value.slice (some ⟨1, 0, some 1⟩) (Args.R).length Args.cR) (Value.int .i64 c3_) Ax.h0 = some ((Value.pointer (some ⟨1, (c3_).toNat, some 1⟩)), Ax.h0),
    loadG P 3 (Value.pointer (some ⟨1, (c3_).toNat, some 1⟩)) Ax.h0 = some ((Value.int .i64 ((Args.R).getD (c3_).toNat 0)), Ax.h0)]) (by kernel_rfl) ⟨(m_dfaCheck_ok n c1_ hc1), (vnF hc2), (m_dfaRun_1_ok n x (((x).size : Nat) : Int) (0, 0) (.inr c3_) hc3), (ixW1 (e := 3) (by kernel_rfl) (by kernel_rfl) hc4), (ldW rfl (by kernel_rfl) (toNatLt hc4)), trivial⟩
set_option maxRecDepth 100000 in
theorem p_dfaRun_2 (n : Nat) (x : ByteArray) (c1_ : Int) (hc1 : m_dfaCheck n = some c1_) (hc2 : ¬ (c1_ = (0 : Int))) : Gv P (.func 8) (A_dfaRun x) (H_dfaRun x) (V_dfaRun x (-1)) (R_dfaRun x (-1)) :=
  runF_ok hm (A := aT [(6, .call ⟨0, [], (V_dfaCheck  c1_), (R_dfaCheck  c1_), []⟩), (7, .val (.bool true))]) (L := lT []) (wk := ⟨[4], [], 0, 0⟩)
    (ps := [Gv P (.func 6) A_dfaCheck H_dfaCheck (V_dfaCheck  c1_) (R_dfaCheck  c1_),
    (Value.bool (c1_ != (0 : Int))) = (Value.bool true)]) (by kernel_rfl) ⟨(m_dfaCheck_ok n c1_ hc1), (vnT hc2), trivial⟩
theorem m_dfaRun_ok (n : Nat) (x : ByteArray) (r : Int) (h : m_dfaRun n x = some r) : Gv P (.func 8) (A_dfaRun x) (H_dfaRun x) (V_dfaRun x r) (R_dfaRun x r) := by
  unfold m_dfaRun at h
  obtain ⟨c1_, hc1, h⟩ := Option.bind_eq_some_iff.1 h
  by_cases hc2 : c1_ = (0 : Int)
  · rw [if_pos hc2] at h
    rcases hc3 : m_dfaRun_1 n x (((x).size : Nat) : Int) (0, 0) with _ | (⟨⟩ | c3_)
    · rw [hc3] at h; cases h
    · rw [hc3] at h
      dsimp only at h
      obtain rfl := Option.some.inj h; exact p_dfaRun_0 n x c1_ hc1 hc2 hc3
    · rw [hc3] at h
      dsimp only at h
      by_cases hc4 : 0 ≤ c3_ ∧ c3_ < (((Args.R).length : Nat) : Int)
      · rw [if_pos hc4] at h
        obtain rfl := Option.some.inj h; exact p_dfaRun_1 n x c1_ hc1 hc2 c3_ hc3 hc4
      · rw [if_neg hc4] at h; cases h
  · rw [if_neg hc2] at h
    obtain rfl := Option.some.inj h; exact p_dfaRun_2 n x c1_ hc1 hc2

def m_viewportlaw04lives (n : Nat) : Option Unit := some ()
theorem m_viewportlaw04lives_ok (n : Nat) (r : Unit) (h : m_viewportlaw04lives n = some r) : Gv P (.func 4) [] Ax.h0 (.bool true) Ax.h0 := lives_gv

noncomputable def S_viewportlaw04DfaSteps_1 (x1_0 : ByteArray) (x1_1 : Int) (st : Int × Int) : XSt := match st with
  | (x1_2, x1_3) => (sT 75 [(1, (Value.string x1_0)), (2, (Value.int .i64 x1_1)), (3, (Value.pointer (some ⟨0, 0, none⟩))), (7, (Value.int .i64 x1_2)), (8, (Value.int .i64 x1_3))], [], ⟨sB [(0, (some (.cells (layT [(Value.slice (some ⟨0, 0, some 1⟩) (Args.N).length Args.cN), (Value.slice (some ⟨1, 0, some 1⟩) (Args.R).length Args.cR)]) 24)))], 1, 0⟩)
noncomputable def X_viewportlaw04DfaSteps_1 (x1_0 : ByteArray) (x1_1 : Int) (r : Int) : Ex × XSt := match r with
  | z1_0 => (.exit 0, (sT 75 [(1, (Value.string x1_0)), (3, (Value.pointer (some ⟨0, 0, none⟩))), (7, (Value.int .i64 z1_0))], [], ⟨sB [(0, (some (.cells (layT [(Value.slice (some ⟨0, 0, some 1⟩) (Args.N).length Args.cN), (Value.slice (some ⟨1, 0, some 1⟩) (Args.R).length Args.cR)]) 24)))], 1, 0⟩))
def B_viewportlaw04DfaSteps_1 (n : Nat) (x1_0 : ByteArray) (x1_1 : Int) (st : Int × Int) : Option ((Int × Int) ⊕ (Int)) := match st with
  | (x1_2, x1_3) =>
    if x1_3 < (((x1_0).size : Nat) : Int) then
      if x1_3 = x1_1 then
        if 0 ≤ x1_3 ∧ x1_3 ≤ (((x1_0).size : Nat) : Int) then
          (m_dfaRun n (ByteArray.extract x1_0 0 (x1_3).toNat)).bind fun y1_4_ =>
          (m_dfaRule n x1_2).bind fun y1_5_ =>
          if y1_4_ = y1_5_ then
            if 0 ≤ x1_3 ∧ x1_3 < (((x1_0).size : Nat) : Int) then
              (m_dfaStep n x1_2 (byteAt x1_0 (x1_3).toNat)).bind fun y1_8_ =>
              if y1_8_ < (-1 : Int) then
                none
              else
                (m_dfaLen n).bind fun y1_10_ =>
                if y1_8_ ≥ y1_10_ then
                  none
                else
                  some (.inl (y1_8_, (w64 (x1_3 + (1 : Int)))))
            else none
          else
            none
        else none
      else
        if 0 ≤ x1_3 ∧ x1_3 < (((x1_0).size : Nat) : Int) then
          (m_dfaStep n x1_2 (byteAt x1_0 (x1_3).toNat)).bind fun y1_4_ =>
          if y1_4_ < (-1 : Int) then
            none
          else
            (m_dfaLen n).bind fun y1_6_ =>
            if y1_4_ ≥ y1_6_ then
              none
            else
              some (.inl (y1_4_, (w64 (x1_3 + (1 : Int)))))
        else none
    else
      some (.inr x1_2)
def m_viewportlaw04DfaSteps_1 (n : Nat) (x1_0 : ByteArray) (x1_1 : Int) (st : Int × Int) : Option (Int) := iterM (B_viewportlaw04DfaSteps_1 n x1_0 x1_1) n st
set_option maxRecDepth 100000 in
theorem q_viewportlaw04DfaSteps_1_0 (n : Nat) (x1_0 : ByteArray) (x1_1 : Int) (x1_2 : Int) (x1_3 : Int) (hy1_1 : x1_3 < (((x1_0).size : Nat) : Int)) (hy1_2 : x1_3 = x1_1) (hy1_3 : 0 ≤ x1_3 ∧ x1_3 ≤ (((x1_0).size : Nat) : Int)) (y1_4_ : Int) (hy1_4 : m_dfaRun n (ByteArray.extract x1_0 0 (x1_3).toNat) = some y1_4_) (y1_5_ : Int) (hy1_5 : m_dfaRule n x1_2 = some y1_5_) (hy1_6 : y1_4_ = y1_5_) (hy1_7 : 0 ≤ x1_3 ∧ x1_3 < (((x1_0).size : Nat) : Int)) (y1_8_ : Int) (hy1_8 : m_dfaStep n x1_2 (byteAt x1_0 (x1_3).toNat) = some y1_8_) (hy1_9 : ¬ (y1_8_ < (-1 : Int))) (y1_10_ : Int) (hy1_10 : m_dfaLen n = some y1_10_) (hy1_11 : ¬ (y1_8_ ≥ y1_10_)) : CG P none (fnN P 3) 0 (codeOf P 3 [false, false, true, false, true, true, true, true, true]) (S_viewportlaw04DfaSteps_1 x1_0 x1_1 (x1_2, x1_3)) (.normal, S_viewportlaw04DfaSteps_1 x1_0 x1_1 (y1_8_, (w64 (x1_3 + (1 : Int))))) :=
  runC_ok hm (A := aT [(5, .val (.bool true)), (13, .val (.bool true)), (18, .pur (Value.string (ByteArray.extract x1_0 0 (x1_3).toNat))), (19, .call ⟨0, [], (V_dfaRun (ByteArray.extract x1_0 0 (x1_3).toNat) y1_4_), (R_dfaRun (ByteArray.extract x1_0 0 (x1_3).toNat) y1_4_), []⟩), (22, .call ⟨0, [], (V_dfaRule x1_2 y1_5_), (R_dfaRule x1_2 y1_5_), []⟩), (23, .val (.bool false)), (31, .pur (Value.int .u8 (byteAt x1_0 (x1_3).toNat))), (32, .call ⟨0, [], (V_dfaStep x1_2 (byteAt x1_0 (x1_3).toNat) y1_8_), (R_dfaStep x1_2 (byteAt x1_0 (x1_3).toNat) y1_8_), []⟩), (36, .val (.bool false)), (40, .call ⟨0, [], (V_dfaLen  y1_10_), (R_dfaLen  y1_10_), []⟩), (41, .val (.bool false))]) (L := lT []) (wk := ⟨[1, 2, 3, 7, 8], [(0, 0, false)], 1, 0⟩)
    (ps := [(Value.bool (decide (x1_3 < (((x1_0).size : Nat) : Int)))) = (Value.bool true),
    (Value.bool (x1_3 == x1_1)) = (Value.bool true),
    opSlice P 9 (Value.string x1_0) none (some (Value.int .i64 x1_3)) none Ax.h0 = some ((Value.string (ByteArray.extract x1_0 0 (x1_3).toNat)), Ax.h0),
    Gv P (.func 8) (A_dfaRun (ByteArray.extract x1_0 0 (x1_3).toNat)) (H_dfaRun (ByteArray.extract x1_0 0 (x1_3).toNat)) (V_dfaRun (ByteArray.extract x1_0 0 (x1_3).toNat) y1_4_) (R_dfaRun (ByteArray.extract x1_0 0 (x1_3).toNat) y1_4_),
    Gv P (.func 9) (A_dfaRule x1_2) (H_dfaRule x1_2) (V_dfaRule x1_2 y1_5_) (R_dfaRule x1_2 y1_5_),
    (Value.bool (y1_4_ != y1_5_)) = (Value.bool false),
    opIndex P 9 (Value.string x1_0) (Value.int .i64 x1_3) Ax.h0 = some ((Value.int .u8 (byteAt x1_0 (x1_3).toNat)), Ax.h0),
    Gv P (.func 10) (A_dfaStep x1_2 (byteAt x1_0 (x1_3).toNat)) (H_dfaStep x1_2 (byteAt x1_0 (x1_3).toNat)) (V_dfaStep x1_2 (byteAt x1_0 (x1_3).toNat) y1_8_) (R_dfaStep x1_2 (byteAt x1_0 (x1_3).toNat) y1_8_),
    (Value.bool (decide (y1_8_ < (-1 : Int)))) = (Value.bool false),
    Gv P (.func 11) A_dfaLen H_dfaLen (V_dfaLen  y1_10_) (R_dfaLen  y1_10_),
    (Value.bool (decide (y1_8_ ≥ y1_10_))) = (Value.bool false)]) (by kernel_rfl) ⟨(vbT hy1_1), (veT hy1_2), (slStrLo (by kernel_rfl) hy1_3), (m_dfaRun_ok n (ByteArray.extract x1_0 0 (x1_3).toNat) y1_4_ hy1_4), (m_dfaRule_ok n x1_2 y1_5_ hy1_5), (vnF hy1_6), (ixStr (by kernel_rfl) hy1_7), (m_dfaStep_ok n x1_2 (byteAt x1_0 (x1_3).toNat) y1_8_ hy1_8), (vbF hy1_9), (m_dfaLen_ok n y1_10_ hy1_10), (vbF hy1_11), trivial⟩
set_option maxRecDepth 100000 in
theorem q_viewportlaw04DfaSteps_1_1 (n : Nat) (x1_0 : ByteArray) (x1_1 : Int) (x1_2 : Int) (x1_3 : Int) (hy1_1 : x1_3 < (((x1_0).size : Nat) : Int)) (hy1_2 : ¬ (x1_3 = x1_1)) (hy1_3 : 0 ≤ x1_3 ∧ x1_3 < (((x1_0).size : Nat) : Int)) (y1_4_ : Int) (hy1_4 : m_dfaStep n x1_2 (byteAt x1_0 (x1_3).toNat) = some y1_4_) (hy1_5 : ¬ (y1_4_ < (-1 : Int))) (y1_6_ : Int) (hy1_6 : m_dfaLen n = some y1_6_) (hy1_7 : ¬ (y1_4_ ≥ y1_6_)) : CG P none (fnN P 3) 0 (codeOf P 3 [false, false, true, false, true, true, true, true, true]) (S_viewportlaw04DfaSteps_1 x1_0 x1_1 (x1_2, x1_3)) (.normal, S_viewportlaw04DfaSteps_1 x1_0 x1_1 (y1_4_, (w64 (x1_3 + (1 : Int))))) :=
  runC_ok hm (A := aT [(5, .val (.bool true)), (13, .val (.bool false)), (31, .pur (Value.int .u8 (byteAt x1_0 (x1_3).toNat))), (32, .call ⟨0, [], (V_dfaStep x1_2 (byteAt x1_0 (x1_3).toNat) y1_4_), (R_dfaStep x1_2 (byteAt x1_0 (x1_3).toNat) y1_4_), []⟩), (36, .val (.bool false)), (40, .call ⟨0, [], (V_dfaLen  y1_6_), (R_dfaLen  y1_6_), []⟩), (41, .val (.bool false))]) (L := lT []) (wk := ⟨[1, 2, 3, 7, 8], [(0, 0, false)], 1, 0⟩)
    (ps := [(Value.bool (decide (x1_3 < (((x1_0).size : Nat) : Int)))) = (Value.bool true),
    (Value.bool (x1_3 == x1_1)) = (Value.bool false),
    opIndex P 9 (Value.string x1_0) (Value.int .i64 x1_3) Ax.h0 = some ((Value.int .u8 (byteAt x1_0 (x1_3).toNat)), Ax.h0),
    Gv P (.func 10) (A_dfaStep x1_2 (byteAt x1_0 (x1_3).toNat)) (H_dfaStep x1_2 (byteAt x1_0 (x1_3).toNat)) (V_dfaStep x1_2 (byteAt x1_0 (x1_3).toNat) y1_4_) (R_dfaStep x1_2 (byteAt x1_0 (x1_3).toNat) y1_4_),
    (Value.bool (decide (y1_4_ < (-1 : Int)))) = (Value.bool false),
    Gv P (.func 11) A_dfaLen H_dfaLen (V_dfaLen  y1_6_) (R_dfaLen  y1_6_),
    (Value.bool (decide (y1_4_ ≥ y1_6_))) = (Value.bool false)]) (by kernel_rfl) ⟨(vbT hy1_1), (veF hy1_2), (ixStr (by kernel_rfl) hy1_3), (m_dfaStep_ok n x1_2 (byteAt x1_0 (x1_3).toNat) y1_4_ hy1_4), (vbF hy1_5), (m_dfaLen_ok n y1_6_ hy1_6), (vbF hy1_7), trivial⟩
set_option maxRecDepth 100000 in
theorem q_viewportlaw04DfaSteps_1_2 (n : Nat) (x1_0 : ByteArray) (x1_1 : Int) (x1_2 : Int) (x1_3 : Int) (hy1_1 : ¬ (x1_3 < (((x1_0).size : Nat) : Int))) : CG P none (fnN P 3) 0 (codeOf P 3 [false, false, true, false, true, true, true, true, true]) (S_viewportlaw04DfaSteps_1 x1_0 x1_1 (x1_2, x1_3)) (X_viewportlaw04DfaSteps_1 x1_0 x1_1 x1_2) :=
  runC_ok hm (A := aT [(5, .val (.bool false))]) (L := lT []) (wk := ⟨[1, 3, 7], [(0, 0, false)], 1, 0⟩)
    (ps := [(Value.bool (decide (x1_3 < (((x1_0).size : Nat) : Int)))) = (Value.bool false)]) (by kernel_rfl) ⟨(vbF hy1_1), trivial⟩
theorem m_viewportlaw04DfaSteps_1_ok (n : Nat) (x1_0 : ByteArray) (x1_1 : Int) (st : Int × Int) (r : Int) (h : m_viewportlaw04DfaSteps_1 n x1_0 x1_1 st = some r) : CG P none (fnN P 3) 0 (codeOf P 3 [false, true, false, true, true, true, true, true]) (S_viewportlaw04DfaSteps_1 x1_0 x1_1 st) (X_viewportlaw04DfaSteps_1 x1_0 x1_1 r) :=
  CG.iter (b := codeOf P 3 [false, false, true, false, true, true, true, true, true]) (by kernel_rfl) (body := B_viewportlaw04DfaSteps_1 n x1_0 x1_1) (S := S_viewportlaw04DfaSteps_1 x1_0 x1_1) (X := X_viewportlaw04DfaSteps_1 x1_0 x1_1)
    (fun s s' h => by
    obtain ⟨x1_2, x1_3⟩ := s
    unfold B_viewportlaw04DfaSteps_1 at h
    dsimp only at h
    by_cases hy1_1 : x1_3 < (((x1_0).size : Nat) : Int)
    · rw [if_pos hy1_1] at h
      by_cases hy1_2 : x1_3 = x1_1
      · rw [if_pos hy1_2] at h
        by_cases hy1_3 : 0 ≤ x1_3 ∧ x1_3 ≤ (((x1_0).size : Nat) : Int)
        · rw [if_pos hy1_3] at h
          obtain ⟨y1_4_, hy1_4, h⟩ := Option.bind_eq_some_iff.1 h
          obtain ⟨y1_5_, hy1_5, h⟩ := Option.bind_eq_some_iff.1 h
          by_cases hy1_6 : y1_4_ = y1_5_
          · rw [if_pos hy1_6] at h
            by_cases hy1_7 : 0 ≤ x1_3 ∧ x1_3 < (((x1_0).size : Nat) : Int)
            · rw [if_pos hy1_7] at h
              obtain ⟨y1_8_, hy1_8, h⟩ := Option.bind_eq_some_iff.1 h
              by_cases hy1_9 : y1_8_ < (-1 : Int)
              · rw [if_pos hy1_9] at h
                cases h
              · rw [if_neg hy1_9] at h
                obtain ⟨y1_10_, hy1_10, h⟩ := Option.bind_eq_some_iff.1 h
                by_cases hy1_11 : y1_8_ ≥ y1_10_
                · rw [if_pos hy1_11] at h
                  cases h
                · rw [if_neg hy1_11] at h
                  obtain rfl := Sum.inl.inj (Option.some.inj h); exact q_viewportlaw04DfaSteps_1_0 n x1_0 x1_1 x1_2 x1_3 hy1_1 hy1_2 hy1_3 y1_4_ hy1_4 y1_5_ hy1_5 hy1_6 hy1_7 y1_8_ hy1_8 hy1_9 y1_10_ hy1_10 hy1_11
            · rw [if_neg hy1_7] at h; cases h
          · rw [if_neg hy1_6] at h
            cases h
        · rw [if_neg hy1_3] at h; cases h
      · rw [if_neg hy1_2] at h
        by_cases hy1_3 : 0 ≤ x1_3 ∧ x1_3 < (((x1_0).size : Nat) : Int)
        · rw [if_pos hy1_3] at h
          obtain ⟨y1_4_, hy1_4, h⟩ := Option.bind_eq_some_iff.1 h
          by_cases hy1_5 : y1_4_ < (-1 : Int)
          · rw [if_pos hy1_5] at h
            cases h
          · rw [if_neg hy1_5] at h
            obtain ⟨y1_6_, hy1_6, h⟩ := Option.bind_eq_some_iff.1 h
            by_cases hy1_7 : y1_4_ ≥ y1_6_
            · rw [if_pos hy1_7] at h
              cases h
            · rw [if_neg hy1_7] at h
              obtain rfl := Sum.inl.inj (Option.some.inj h); exact q_viewportlaw04DfaSteps_1_1 n x1_0 x1_1 x1_2 x1_3 hy1_1 hy1_2 hy1_3 y1_4_ hy1_4 hy1_5 y1_6_ hy1_6 hy1_7
        · rw [if_neg hy1_3] at h; cases h
    · rw [if_neg hy1_1] at h
      cases h)
    (fun s r h => by
    obtain ⟨x1_2, x1_3⟩ := s
    unfold B_viewportlaw04DfaSteps_1 at h
    dsimp only at h
    by_cases hy1_1 : x1_3 < (((x1_0).size : Nat) : Int)
    · rw [if_pos hy1_1] at h
      by_cases hy1_2 : x1_3 = x1_1
      · rw [if_pos hy1_2] at h
        by_cases hy1_3 : 0 ≤ x1_3 ∧ x1_3 ≤ (((x1_0).size : Nat) : Int)
        · rw [if_pos hy1_3] at h
          obtain ⟨y1_4_, hy1_4, h⟩ := Option.bind_eq_some_iff.1 h
          obtain ⟨y1_5_, hy1_5, h⟩ := Option.bind_eq_some_iff.1 h
          by_cases hy1_6 : y1_4_ = y1_5_
          · rw [if_pos hy1_6] at h
            by_cases hy1_7 : 0 ≤ x1_3 ∧ x1_3 < (((x1_0).size : Nat) : Int)
            · rw [if_pos hy1_7] at h
              obtain ⟨y1_8_, hy1_8, h⟩ := Option.bind_eq_some_iff.1 h
              by_cases hy1_9 : y1_8_ < (-1 : Int)
              · rw [if_pos hy1_9] at h
                cases h
              · rw [if_neg hy1_9] at h
                obtain ⟨y1_10_, hy1_10, h⟩ := Option.bind_eq_some_iff.1 h
                by_cases hy1_11 : y1_8_ ≥ y1_10_
                · rw [if_pos hy1_11] at h
                  cases h
                · rw [if_neg hy1_11] at h
                  cases h
            · rw [if_neg hy1_7] at h; cases h
          · rw [if_neg hy1_6] at h
            cases h
        · rw [if_neg hy1_3] at h; cases h
      · rw [if_neg hy1_2] at h
        by_cases hy1_3 : 0 ≤ x1_3 ∧ x1_3 < (((x1_0).size : Nat) : Int)
        · rw [if_pos hy1_3] at h
          obtain ⟨y1_4_, hy1_4, h⟩ := Option.bind_eq_some_iff.1 h
          by_cases hy1_5 : y1_4_ < (-1 : Int)
          · rw [if_pos hy1_5] at h
            cases h
          · rw [if_neg hy1_5] at h
            obtain ⟨y1_6_, hy1_6, h⟩ := Option.bind_eq_some_iff.1 h
            by_cases hy1_7 : y1_4_ ≥ y1_6_
            · rw [if_pos hy1_7] at h
              cases h
            · rw [if_neg hy1_7] at h
              cases h
        · rw [if_neg hy1_3] at h; cases h
    · rw [if_neg hy1_1] at h
      obtain rfl := Sum.inr.inj (Option.some.inj h); exact q_viewportlaw04DfaSteps_1_2 n x1_0 x1_1 x1_2 x1_3 hy1_1)
    (fun r => by intro hx; cases hx) h
noncomputable def A_viewportlaw04DfaSteps (x : ByteArray) (a : Int) : List Value := [(Value.agg #[(Value.slice (some ⟨0, 0, some 1⟩) (Args.N).length Args.cN), (Value.slice (some ⟨1, 0, some 1⟩) (Args.R).length Args.cR)]), (Value.string x), (Value.int .i64 a)]
noncomputable def H_viewportlaw04DfaSteps (x : ByteArray) (a : Int) : AH := ⟨sB [], 0, 0⟩
noncomputable def V_viewportlaw04DfaSteps (x : ByteArray) (a : Int) (r : Unit) : Value := match r with
  | _ => (Value.bool true)
noncomputable def R_viewportlaw04DfaSteps (x : ByteArray) (a : Int) (r : Unit) : AH := match r with
  | _ => ⟨sB [], 0, 0⟩
def m_viewportlaw04DfaSteps (n : Nat) (x : ByteArray) (a : Int) : Option (Unit) :=
  (m_viewportlaw04lives n).bind fun _ =>
  (m_viewportkitLightDfa n 24).bind fun c2_ =>
  if c2_ = true then
    if (((x).size : Nat) : Int) > (40 : Int) then
      some ()
    else
      (m_dfaCheck n).bind fun c5_ =>
      if c5_ = (0 : Int) then
        (m_viewportkitPick n a (w64 ((((x).size : Nat) : Int) + (1 : Int)))).bind fun c7_ =>
        (m_viewportlaw04DfaSteps_1 n x c7_ (0, 0)).bind fun c8_ =>
        (m_dfaRun n x).bind fun c9_ =>
        (m_dfaRule n c8_).bind fun c10_ =>
        if c9_ = c10_ then
          (m_dfaStep n (-1) 7).bind fun c12_ =>
          if c12_ = (-1 : Int) then
            some ()
          else
            none
        else
          none
      else
        some ()
  else
    some ()
set_option maxRecDepth 100000 in
theorem p_viewportlaw04DfaSteps_0 (n : Nat) (x : ByteArray) (a : Int) (hc1 : m_viewportlaw04lives n = some ()) (c2_ : Bool) (hc2 : m_viewportkitLightDfa n 24 = some c2_) (hc3 : c2_ = true) (hc4 : (((x).size : Nat) : Int) > (40 : Int)) : Gv P (.func 3) (A_viewportlaw04DfaSteps x a) (H_viewportlaw04DfaSteps x a) (V_viewportlaw04DfaSteps x a ()) (R_viewportlaw04DfaSteps x a ()) :=
  runF_ok hm (A := aT [(5, .call ⟨0, [], (Value.bool true), Ax.h0, []⟩), (11, .call ⟨0, [], (V_viewportkitLightDfa 24 c2_), (R_viewportkitLightDfa 24 c2_), []⟩), (12, .val (.bool false)), (16, .val (.bool true))]) (L := lT []) (wk := ⟨[6], [], 0, 0⟩)
    (ps := [Gv P (.func 4) [] Ax.h0 (Value.bool true) Ax.h0,
    Gv P (.func 5) (A_viewportkitLightDfa 24) (H_viewportkitLightDfa 24) (V_viewportkitLightDfa 24 c2_) (R_viewportkitLightDfa 24 c2_),
    (Value.bool (!c2_)) = (Value.bool false),
    (Value.bool (decide ((((x).size : Nat) : Int) > (40 : Int)))) = (Value.bool true)]) (by kernel_rfl) ⟨(m_viewportlaw04lives_ok n () hc1), (m_viewportkitLightDfa_ok n 24 c2_ hc2), (vBn hc3), (vbT hc4), trivial⟩
set_option maxRecDepth 100000 in
theorem p_viewportlaw04DfaSteps_1 (n : Nat) (x : ByteArray) (a : Int) (hc1 : m_viewportlaw04lives n = some ()) (c2_ : Bool) (hc2 : m_viewportkitLightDfa n 24 = some c2_) (hc3 : c2_ = true) (hc4 : ¬ ((((x).size : Nat) : Int) > (40 : Int))) (c5_ : Int) (hc5 : m_dfaCheck n = some c5_) (hc6 : c5_ = (0 : Int)) (c7_ : Int) (hc7 : m_viewportkitPick n a (w64 ((((x).size : Nat) : Int) + (1 : Int))) = some c7_) (c8_ : Int) (hc8 : m_viewportlaw04DfaSteps_1 n x c7_ (0, 0) = some c8_) (c9_ : Int) (hc9 : m_dfaRun n x = some c9_) (c10_ : Int) (hc10 : m_dfaRule n c8_ = some c10_) (hc11 : c9_ = c10_) (c12_ : Int) (hc12 : m_dfaStep n (-1) 7 = some c12_) (hc13 : c12_ = (-1 : Int)) : Gv P (.func 3) (A_viewportlaw04DfaSteps x a) (H_viewportlaw04DfaSteps x a) (V_viewportlaw04DfaSteps x a ()) (R_viewportlaw04DfaSteps x a ()) :=
  runF_ok hm (A := aT [(5, .call ⟨0, [], (Value.bool true), Ax.h0, []⟩), (11, .call ⟨0, [], (V_viewportkitLightDfa 24 c2_), (R_viewportkitLightDfa 24 c2_), []⟩), (12, .val (.bool false)), (16, .val (.bool false)), (20, .call ⟨0, [], (V_dfaCheck  c5_), (R_dfaCheck  c5_), []⟩), (21, .val (.bool false)), (29, .call ⟨0, [], (V_viewportkitPick a (w64 ((((x).size : Nat) : Int) + (1 : Int))) c7_), (R_viewportkitPick a (w64 ((((x).size : Nat) : Int) + (1 : Int))) c7_), []⟩), (41, .call ⟨0, [], (V_dfaRun x c9_), (R_dfaRun x c9_), []⟩), (44, .call ⟨0, [], (V_dfaRule c8_ c10_), (R_dfaRule c8_ c10_), []⟩), (45, .val (.bool true)), (48, .call ⟨0, [], (V_dfaStep (-1) 7 c12_), (R_dfaStep (-1) 7 c12_), []⟩), (49, .val (.bool true))]) (L := lT [(37, ⟨⟨[1, 2, 3, 7, 8], [(0, 0, false)], 1, 0⟩, (X_viewportlaw04DfaSteps_1 x c7_ c8_).1, (X_viewportlaw04DfaSteps_1 x c7_ c8_).2⟩)]) (wk := ⟨[6], [], 0, 0⟩)
    (ps := [Gv P (.func 4) [] Ax.h0 (Value.bool true) Ax.h0,
    Gv P (.func 5) (A_viewportkitLightDfa 24) (H_viewportkitLightDfa 24) (V_viewportkitLightDfa 24 c2_) (R_viewportkitLightDfa 24 c2_),
    (Value.bool (!c2_)) = (Value.bool false),
    (Value.bool (decide ((((x).size : Nat) : Int) > (40 : Int)))) = (Value.bool false),
    Gv P (.func 6) A_dfaCheck H_dfaCheck (V_dfaCheck  c5_) (R_dfaCheck  c5_),
    (Value.bool (c5_ != (0 : Int))) = (Value.bool false),
    Gv P (.func 7) (A_viewportkitPick a (w64 ((((x).size : Nat) : Int) + (1 : Int)))) (H_viewportkitPick a (w64 ((((x).size : Nat) : Int) + (1 : Int)))) (V_viewportkitPick a (w64 ((((x).size : Nat) : Int) + (1 : Int))) c7_) (R_viewportkitPick a (w64 ((((x).size : Nat) : Int) + (1 : Int))) c7_),
    CG P none (fnN P 3) 0 (codeOf P 3 [false, true, false, true, true, true, true, true]) (S_viewportlaw04DfaSteps_1 x c7_ (0, 0)) (X_viewportlaw04DfaSteps_1 x c7_ c8_),
    Gv P (.func 8) (A_dfaRun x) (H_dfaRun x) (V_dfaRun x c9_) (R_dfaRun x c9_),
    Gv P (.func 9) (A_dfaRule c8_) (H_dfaRule c8_) (V_dfaRule c8_ c10_) (R_dfaRule c8_ c10_),
    (Value.bool (c9_ == c10_)) = (Value.bool true),
    Gv P (.func 10) (A_dfaStep (-1) 7) (H_dfaStep (-1) 7) (V_dfaStep (-1) 7 c12_) (R_dfaStep (-1) 7 c12_),
    (Value.bool (c12_ == (-1 : Int))) = (Value.bool true)]) (by kernel_rfl) ⟨(m_viewportlaw04lives_ok n () hc1), (m_viewportkitLightDfa_ok n 24 c2_ hc2), (vBn hc3), (vbF hc4), (m_dfaCheck_ok n c5_ hc5), (vnF hc6), (m_viewportkitPick_ok n a (w64 ((((x).size : Nat) : Int) + (1 : Int))) c7_ hc7), (m_viewportlaw04DfaSteps_1_ok n x c7_ (0, 0) c8_ hc8), (m_dfaRun_ok n x c9_ hc9), (m_dfaRule_ok n c8_ c10_ hc10), (veT hc11), (m_dfaStep_ok n (-1) 7 c12_ hc12), (veT hc13), trivial⟩
set_option maxRecDepth 100000 in
theorem p_viewportlaw04DfaSteps_2 (n : Nat) (x : ByteArray) (a : Int) (hc1 : m_viewportlaw04lives n = some ()) (c2_ : Bool) (hc2 : m_viewportkitLightDfa n 24 = some c2_) (hc3 : c2_ = true) (hc4 : ¬ ((((x).size : Nat) : Int) > (40 : Int))) (c5_ : Int) (hc5 : m_dfaCheck n = some c5_) (hc6 : ¬ (c5_ = (0 : Int))) : Gv P (.func 3) (A_viewportlaw04DfaSteps x a) (H_viewportlaw04DfaSteps x a) (V_viewportlaw04DfaSteps x a ()) (R_viewportlaw04DfaSteps x a ()) :=
  runF_ok hm (A := aT [(5, .call ⟨0, [], (Value.bool true), Ax.h0, []⟩), (11, .call ⟨0, [], (V_viewportkitLightDfa 24 c2_), (R_viewportkitLightDfa 24 c2_), []⟩), (12, .val (.bool false)), (16, .val (.bool false)), (20, .call ⟨0, [], (V_dfaCheck  c5_), (R_dfaCheck  c5_), []⟩), (21, .val (.bool true))]) (L := lT []) (wk := ⟨[6], [], 0, 0⟩)
    (ps := [Gv P (.func 4) [] Ax.h0 (Value.bool true) Ax.h0,
    Gv P (.func 5) (A_viewportkitLightDfa 24) (H_viewportkitLightDfa 24) (V_viewportkitLightDfa 24 c2_) (R_viewportkitLightDfa 24 c2_),
    (Value.bool (!c2_)) = (Value.bool false),
    (Value.bool (decide ((((x).size : Nat) : Int) > (40 : Int)))) = (Value.bool false),
    Gv P (.func 6) A_dfaCheck H_dfaCheck (V_dfaCheck  c5_) (R_dfaCheck  c5_),
    (Value.bool (c5_ != (0 : Int))) = (Value.bool true)]) (by kernel_rfl) ⟨(m_viewportlaw04lives_ok n () hc1), (m_viewportkitLightDfa_ok n 24 c2_ hc2), (vBn hc3), (vbF hc4), (m_dfaCheck_ok n c5_ hc5), (vnT hc6), trivial⟩
set_option maxRecDepth 100000 in
theorem p_viewportlaw04DfaSteps_3 (n : Nat) (x : ByteArray) (a : Int) (hc1 : m_viewportlaw04lives n = some ()) (c2_ : Bool) (hc2 : m_viewportkitLightDfa n 24 = some c2_) (hc3 : ¬ (c2_ = true)) : Gv P (.func 3) (A_viewportlaw04DfaSteps x a) (H_viewportlaw04DfaSteps x a) (V_viewportlaw04DfaSteps x a ()) (R_viewportlaw04DfaSteps x a ()) :=
  runF_ok hm (A := aT [(5, .call ⟨0, [], (Value.bool true), Ax.h0, []⟩), (11, .call ⟨0, [], (V_viewportkitLightDfa 24 c2_), (R_viewportkitLightDfa 24 c2_), []⟩), (12, .val (.bool true))]) (L := lT []) (wk := ⟨[6], [], 0, 0⟩)
    (ps := [Gv P (.func 4) [] Ax.h0 (Value.bool true) Ax.h0,
    Gv P (.func 5) (A_viewportkitLightDfa 24) (H_viewportkitLightDfa 24) (V_viewportkitLightDfa 24 c2_) (R_viewportkitLightDfa 24 c2_),
    (Value.bool (!c2_)) = (Value.bool true)]) (by kernel_rfl) ⟨(m_viewportlaw04lives_ok n () hc1), (m_viewportkitLightDfa_ok n 24 c2_ hc2), (vBn (Bool.eq_false_iff.2 hc3)), trivial⟩
theorem m_viewportlaw04DfaSteps_ok (n : Nat) (x : ByteArray) (a : Int) (r : Unit) (h : m_viewportlaw04DfaSteps n x a = some r) : Gv P (.func 3) (A_viewportlaw04DfaSteps x a) (H_viewportlaw04DfaSteps x a) (V_viewportlaw04DfaSteps x a r) (R_viewportlaw04DfaSteps x a r) := by
  unfold m_viewportlaw04DfaSteps at h
  obtain ⟨_, hc1, h⟩ := Option.bind_eq_some_iff.1 h
  obtain ⟨c2_, hc2, h⟩ := Option.bind_eq_some_iff.1 h
  by_cases hc3 : c2_ = true
  · rw [if_pos hc3] at h
    by_cases hc4 : (((x).size : Nat) : Int) > (40 : Int)
    · rw [if_pos hc4] at h
      obtain rfl := Option.some.inj h; exact p_viewportlaw04DfaSteps_0 n x a hc1 c2_ hc2 hc3 hc4
    · rw [if_neg hc4] at h
      obtain ⟨c5_, hc5, h⟩ := Option.bind_eq_some_iff.1 h
      by_cases hc6 : c5_ = (0 : Int)
      · rw [if_pos hc6] at h
        obtain ⟨c7_, hc7, h⟩ := Option.bind_eq_some_iff.1 h
        obtain ⟨c8_, hc8, h⟩ := Option.bind_eq_some_iff.1 h
        obtain ⟨c9_, hc9, h⟩ := Option.bind_eq_some_iff.1 h
        obtain ⟨c10_, hc10, h⟩ := Option.bind_eq_some_iff.1 h
        by_cases hc11 : c9_ = c10_
        · rw [if_pos hc11] at h
          obtain ⟨c12_, hc12, h⟩ := Option.bind_eq_some_iff.1 h
          by_cases hc13 : c12_ = (-1 : Int)
          · rw [if_pos hc13] at h
            obtain rfl := Option.some.inj h; exact p_viewportlaw04DfaSteps_1 n x a hc1 c2_ hc2 hc3 hc4 c5_ hc5 hc6 c7_ hc7 c8_ hc8 c9_ hc9 c10_ hc10 hc11 c12_ hc12 hc13
          · rw [if_neg hc13] at h
            cases h
        · rw [if_neg hc11] at h
          cases h
      · rw [if_neg hc6] at h
        obtain rfl := Option.some.inj h; exact p_viewportlaw04DfaSteps_2 n x a hc1 c2_ hc2 hc3 hc4 c5_ hc5 hc6
  · rw [if_neg hc3] at h
    obtain rfl := Option.some.inj h; exact p_viewportlaw04DfaSteps_3 n x a hc1 c2_ hc2 hc3

end Go.Proofs.YtilppdkfnfdjnaaDoor.dfaw
