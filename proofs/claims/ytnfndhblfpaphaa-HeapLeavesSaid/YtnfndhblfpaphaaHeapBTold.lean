/-
  What functions do, told by pure functions. No condition.
-/
import Derived.Test.YtnfndhblfpaphaaHeapATold
set_option linter.unusedSimpArgs false
set_option linter.unusedVariables false
set_option linter.unusedSectionVars false
set_option linter.unnecessarySimpa false
namespace Go.Proofs.Ytnfndhblfpaphaa.heapw
open Go Go.Proofs.Ytnfndhblfpaphaa Ax
variable [Args]
noncomputable def S_viewportlaw23leastq1_1 (st : Int × Int) : XSt := match st with
  | (x1_0, x1_1) => (sT 21 [(0, (Value.slice (some ⟨0, 0, some 1⟩) (Args.L).length Args.cL)), (3, (Value.int .i64 x1_0)), (4, (Value.int .i64 x1_1))], [], ⟨sB [], 0, 0⟩)
noncomputable def X_viewportlaw23leastq1_1 (r : Int) : Ex × XSt := match r with
  | z1_0 => (.exit 0, (sT 21 [(3, (Value.int .i64 z1_0))], [], ⟨sB [], 0, 0⟩))
def B_viewportlaw23leastq1_1 (n : Nat) (st : Int × Int) : Option ((Int × Int) ⊕ (Int)) := match st with
  | (x1_0, x1_1) =>
    if x1_1 < (((Args.L).length : Nat) : Int) then
      if 0 ≤ x1_1 ∧ x1_1 < (((Args.L).length : Nat) : Int) then
        some (.inl ((minB x1_0 ((Args.L).getD (x1_1).toNat 0)), (w64 (x1_1 + (1 : Int)))))
      else none
    else
      some (.inr x1_0)
def m_viewportlaw23leastq1_1 (n : Nat) (st : Int × Int) : Option (Int) := iterM (B_viewportlaw23leastq1_1 n) n st
set_option maxRecDepth 100000 in
theorem q_viewportlaw23leastq1_1_0 (n : Nat) {rnd : Option Nat} (x1_0 : Int) (x1_1 : Int) (hy1_1 : x1_1 < (((Args.L).length : Nat) : Int)) (hy1_2 : 0 ≤ x1_1 ∧ x1_1 < (((Args.L).length : Nat) : Int)) : CG P rnd (fnN P 19) 0 (codeOf P 19 [false, false, true, false, true, true]) (S_viewportlaw23leastq1_1 (x1_0, x1_1)) (.normal, S_viewportlaw23leastq1_1 ((minB x1_0 ((Args.L).getD (x1_1).toNat 0)), (w64 (x1_1 + (1 : Int))))) :=
  runC_ok hm (A := aT [(5, .val (.bool true)), (12, .pur (Value.pointer (some ⟨0, (x1_1).toNat, some 1⟩))), (13, .ld (Value.int .i64 ((Args.L).getD (x1_1).toNat 0)))]) (L := lT []) (wk := ⟨[0, 3, 4], [], 0, 0⟩)
    (ps := [(Value.bool (decide (x1_1 < (((Args.L).length : Nat) : Int)))) = (Value.bool true),
    opIndexAddr P 45 (Value.slice (some ⟨0, 0, some 1⟩) (Args.L).length Args.cL) (Value.int .i64 x1_1) Ax.h0 = some ((Value.pointer (some ⟨0, (x1_1).toNat, some 1⟩)), Ax.h0),
    loadG P 3 (Value.pointer (some ⟨0, (x1_1).toNat, some 1⟩)) Ax.h0 = some ((Value.int .i64 ((Args.L).getD (x1_1).toNat 0)), Ax.h0)]) (by kernel_rfl) ⟨(vbT hy1_1), (ixW1 (e := 3) (by kernel_rfl) (by kernel_rfl) hy1_2), (ldW rfl (by kernel_rfl) (toNatLt hy1_2)), trivial⟩
set_option maxRecDepth 100000 in
theorem q_viewportlaw23leastq1_1_1 (n : Nat) {rnd : Option Nat} (x1_0 : Int) (x1_1 : Int) (hy1_1 : ¬ (x1_1 < (((Args.L).length : Nat) : Int))) : CG P rnd (fnN P 19) 0 (codeOf P 19 [false, false, true, false, true, true]) (S_viewportlaw23leastq1_1 (x1_0, x1_1)) (X_viewportlaw23leastq1_1 x1_0) :=
  runC_ok hm (A := aT [(5, .val (.bool false))]) (L := lT []) (wk := ⟨[3], [], 0, 0⟩)
    (ps := [(Value.bool (decide (x1_1 < (((Args.L).length : Nat) : Int)))) = (Value.bool false)]) (by kernel_rfl) ⟨(vbF hy1_1), trivial⟩
theorem m_viewportlaw23leastq1_1_ok (n : Nat) {rnd : Option Nat} (st : Int × Int) (r : Int) (h : m_viewportlaw23leastq1_1 n st = some r) : CG P rnd (fnN P 19) 0 (codeOf P 19 [false, true, false, true, true]) (S_viewportlaw23leastq1_1 st) (X_viewportlaw23leastq1_1 r) :=
  CG.iter (b := codeOf P 19 [false, false, true, false, true, true]) (by kernel_rfl) (body := B_viewportlaw23leastq1_1 n) (S := S_viewportlaw23leastq1_1) (X := X_viewportlaw23leastq1_1)
    (fun s s' h => by
    obtain ⟨x1_0, x1_1⟩ := s
    unfold B_viewportlaw23leastq1_1 at h
    dsimp only at h
    by_cases hy1_1 : x1_1 < (((Args.L).length : Nat) : Int)
    · rw [if_pos hy1_1] at h
      by_cases hy1_2 : 0 ≤ x1_1 ∧ x1_1 < (((Args.L).length : Nat) : Int)
      · rw [if_pos hy1_2] at h
        obtain rfl := Sum.inl.inj (Option.some.inj h); exact q_viewportlaw23leastq1_1_0 n x1_0 x1_1 hy1_1 hy1_2
      · rw [if_neg hy1_2] at h; cases h
    · rw [if_neg hy1_1] at h
      cases h)
    (fun s r h => by
    obtain ⟨x1_0, x1_1⟩ := s
    unfold B_viewportlaw23leastq1_1 at h
    dsimp only at h
    by_cases hy1_1 : x1_1 < (((Args.L).length : Nat) : Int)
    · rw [if_pos hy1_1] at h
      by_cases hy1_2 : 0 ≤ x1_1 ∧ x1_1 < (((Args.L).length : Nat) : Int)
      · rw [if_pos hy1_2] at h
        cases h
      · rw [if_neg hy1_2] at h; cases h
    · rw [if_neg hy1_1] at h
      obtain rfl := Sum.inr.inj (Option.some.inj h); exact q_viewportlaw23leastq1_1_1 n x1_0 x1_1 hy1_1)
    (fun r => by intro hx; cases hx) h
noncomputable def A_viewportlaw23leastq1 : List Value := [(Value.slice (some ⟨0, 0, some 1⟩) (Args.L).length Args.cL)]
noncomputable def H_viewportlaw23leastq1 : AH := ⟨sB [], 0, 0⟩
noncomputable def V_viewportlaw23leastq1 (r : Int) : Value := match r with
  | o0 => (Value.int .i64 o0)
noncomputable def R_viewportlaw23leastq1 (r : Int) : AH := match r with
  | o0 => ⟨sB [], 0, 0⟩
def m_viewportlaw23leastq1 (n : Nat) : Option (Int) :=
  if 0 ≤ (0 : Int) ∧ (0 : Int) < (((Args.L).length : Nat) : Int) then
    (m_viewportlaw23leastq1_1 n (((Args.L).getD ((0 : Int)).toNat 0), 1)).bind fun c2_ =>
    some c2_
  else none
set_option maxRecDepth 100000 in
theorem p_viewportlaw23leastq1_0 (n : Nat) (hc1 : 0 ≤ (0 : Int) ∧ (0 : Int) < (((Args.L).length : Nat) : Int)) (c2_ : Int) (hc2 : m_viewportlaw23leastq1_1 n (((Args.L).getD ((0 : Int)).toNat 0), 1) = some c2_) : Gv P (.func 19) A_viewportlaw23leastq1 H_viewportlaw23leastq1 (V_viewportlaw23leastq1  c2_) (R_viewportlaw23leastq1  c2_) :=
  runF_ok hm (A := aT [(4, .pur (Value.pointer (some ⟨0, ((0 : Int)).toNat, some 1⟩))), (5, .ld (Value.int .i64 ((Args.L).getD ((0 : Int)).toNat 0)))]) (L := lT [(11, ⟨⟨[0, 3, 4], [], 0, 0⟩, (X_viewportlaw23leastq1_1 c2_).1, (X_viewportlaw23leastq1_1 c2_).2⟩)]) (wk := ⟨[2], [], 0, 0⟩)
    (ps := [opIndexAddr P 45 (Value.slice (some ⟨0, 0, some 1⟩) (Args.L).length Args.cL) (Value.int .i64 (0 : Int)) Ax.h0 = some ((Value.pointer (some ⟨0, ((0 : Int)).toNat, some 1⟩)), Ax.h0),
    loadG P 3 (Value.pointer (some ⟨0, ((0 : Int)).toNat, some 1⟩)) Ax.h0 = some ((Value.int .i64 ((Args.L).getD ((0 : Int)).toNat 0)), Ax.h0),
    CG P none (fnN P 19) 0 (codeOf P 19 [false, true, false, true, true]) (S_viewportlaw23leastq1_1 (((Args.L).getD ((0 : Int)).toNat 0), 1)) (X_viewportlaw23leastq1_1 c2_)]) (by kernel_rfl) ⟨(ixW1 (e := 3) (by kernel_rfl) (by kernel_rfl) hc1), (ldW rfl (by kernel_rfl) (toNatLt hc1)), (m_viewportlaw23leastq1_1_ok n (((Args.L).getD ((0 : Int)).toNat 0), 1) c2_ hc2), trivial⟩
theorem m_viewportlaw23leastq1_ok (n : Nat) (r : Int) (h : m_viewportlaw23leastq1 n = some r) : Gv P (.func 19) A_viewportlaw23leastq1 H_viewportlaw23leastq1 (V_viewportlaw23leastq1  r) (R_viewportlaw23leastq1  r) := by
  unfold m_viewportlaw23leastq1 at h
  by_cases hc1 : 0 ≤ (0 : Int) ∧ (0 : Int) < (((Args.L).length : Nat) : Int)
  · rw [if_pos hc1] at h
    obtain ⟨c2_, hc2, h⟩ := Option.bind_eq_some_iff.1 h
    obtain rfl := Option.some.inj h; exact p_viewportlaw23leastq1_0 n hc1 c2_ hc2
  · rw [if_neg hc1] at h; cases h

noncomputable def A_viewportlaw23HeapLeaves_111010y1 (a0 : Int) (a1 : Bool) (a2 : List (Int × Int × Int)) (a3 : Nat) (a4 : Int) (a5 : Int) (a6 : Int) (a7 : Int) : List Value := [(Value.agg #[(Value.int .i64 a6), (Value.int .i64 a7)])]
noncomputable def H_viewportlaw23HeapLeaves_111010y1 (a0 : Int) (a1 : Bool) (a2 : List (Int × Int × Int)) (a3 : Nat) (a4 : Int) (a5 : Int) (a6 : Int) (a7 : Int) : AH := ⟨sB [(0, (some (rblk P 5 [false, true, false, true, true, true, true, true, true, true, true, true] .ready none [(2, (Value.pointer (some ⟨2, 0, none⟩))), (3, (Value.pointer (some ⟨3, 0, none⟩))), (4, (Value.pointer (some ⟨4, 0, none⟩))), (5, (Value.pointer (some ⟨5, 0, none⟩))), (8, (Value.pointer (some ⟨7, 0, none⟩))), (39, (Value.func (.func 23) #[] #[(Value.pointer (some ⟨8, 0, none⟩))]))] 1))), (1, (some (.marks true))), (2, (some (.cells (layT [(Value.slice (some ⟨0, 0, some 1⟩) (Args.L).length Args.cL)]) 45))), (3, (some (.cells (layT [(Value.int .i64 a0)]) 3))), (4, (some (.cells (layT [(Value.bool a1)]) 4))), (5, (some (.cells (layT [(Value.pointer (some ⟨5, 0, none⟩)), (Value.func (.func 8) #[] #[]), (Value.slice (some ⟨6, 0, none⟩) a3 (Nat.add big 3)), (Value.int .i64 a4)]) 51))), (6, (some (.cells (layT (rows rw_iii a2)) 55))), (7, (some (.cells (layT [(Value.int .i64 a5)]) 3))), (8, (some (.cells (layT [(Value.pointer (some ⟨5, 0, none⟩))]) 24)))], 9, 9⟩
noncomputable def V_viewportlaw23HeapLeaves_111010y1 (a0 : Int) (a1 : Bool) (a2 : List (Int × Int × Int)) (a3 : Nat) (a4 : Int) (a5 : Int) (a6 : Int) (a7 : Int) (r : (Unit) ⊕ (Unit)) : Value := match r with
  | .inl _ => (Value.bool false)
  | .inr _ => (Value.bool true)
noncomputable def R_viewportlaw23HeapLeaves_111010y1 (a0 : Int) (a1 : Bool) (a2 : List (Int × Int × Int)) (a3 : Nat) (a4 : Int) (a5 : Int) (a6 : Int) (a7 : Int) (r : (Unit) ⊕ (Unit)) : AH := match r with
  | .inl _ => ⟨sB [(0, (some (rblk P 5 [false, true, false, true, true, true, true, true, true, true, true, true] .done (some (.exit 2)) [(2, (Value.pointer (some ⟨2, 0, none⟩))), (3, (Value.pointer (some ⟨3, 0, none⟩))), (4, (Value.pointer (some ⟨4, 0, none⟩))), (5, (Value.pointer (some ⟨5, 0, none⟩))), (8, (Value.pointer (some ⟨7, 0, none⟩))), (39, (Value.func (.func 23) #[] #[(Value.pointer (some ⟨8, 0, none⟩))]))] 1))), (1, (some (.marks true))), (2, (some (.cells (layT [(Value.slice (some ⟨0, 0, some 1⟩) (Args.L).length Args.cL)]) 45))), (3, (some (.cells (layT [(Value.int .i64 a0)]) 3))), (4, (some (.cells (layT [(Value.bool a1)]) 4))), (5, (some (.cells (layT [(Value.pointer (some ⟨5, 0, none⟩)), (Value.func (.func 8) #[] #[]), (Value.slice (some ⟨6, 0, none⟩) a3 (Nat.add big 3)), (Value.int .i64 a4)]) 51))), (6, (some (.cells (layT (rows rw_iii a2)) 55))), (7, (some (.cells (layT [(Value.int .i64 a5)]) 3))), (8, (some (.cells (layT [(Value.pointer (some ⟨5, 0, none⟩))]) 24)))], 9, 0⟩
  | .inr _ => ⟨sB [(0, (some (rblk P 5 [false, true, false, true, true, true, true, true, true, true, true, true] .ready none [(2, (Value.pointer (some ⟨2, 0, none⟩))), (3, (Value.pointer (some ⟨3, 0, none⟩))), (4, (Value.pointer (some ⟨4, 0, none⟩))), (5, (Value.pointer (some ⟨5, 0, none⟩))), (8, (Value.pointer (some ⟨7, 0, none⟩))), (39, (Value.func (.func 23) #[] #[(Value.pointer (some ⟨8, 0, none⟩))]))] 1))), (1, (some (.marks true))), (2, (some (.cells (layT [(Value.slice (some ⟨0, 0, some 1⟩) (Args.L).length Args.cL)]) 45))), (3, (some (.cells (layT [(Value.int .i64 a0)]) 3))), (4, (some (.cells (layT [(Value.bool a1)]) 4))), (5, (some (.cells (layT [(Value.pointer (some ⟨5, 0, none⟩)), (Value.func (.func 8) #[] #[]), (Value.slice (some ⟨6, 0, none⟩) a3 (Nat.add big 3)), (Value.int .i64 a4)]) 51))), (6, (some (.cells (layT (rows rw_iii a2)) 55))), (7, (some (.cells (layT [(Value.int .i64 (w64 (a5 + (1 : Int))))]) 3))), (8, (some (.cells (layT [(Value.pointer (some ⟨5, 0, none⟩))]) 24)))], 9, 0⟩
def m_viewportlaw23HeapLeaves_111010y1 (n : Nat) (a0 : Int) (a1 : Bool) (a2 : List (Int × Int × Int)) (a3 : Nat) (a4 : Int) (a5 : Int) (a6 : Int) (a7 : Int) : Option ((Unit) ⊕ (Unit)) :=
  if a5 = a0 then
    some (.inl ())
  else
    if a7 < (0 : Int) then
      none
    else
      if a7 ≥ (((Args.L).length : Nat) : Int) then
        none
      else
        if a5 = (0 : Int) then
          if 0 ≤ a7 ∧ a7 < (((Args.L).length : Nat) : Int) then
            (m_viewportlaw23leastq1 n).bind fun c6_ =>
            if ((Args.L).getD (a7).toNat 0) = c6_ then
              some (.inr ())
            else
              none
          else none
        else
          some (.inr ())
set_option maxRecDepth 100000 in
theorem p_viewportlaw23HeapLeaves_111010y1_0 (n : Nat) (a0 : Int) (a1 : Bool) (a2 : List (Int × Int × Int)) (a3 : Nat) (a4 : Int) (a5 : Int) (a6 : Int) (a7 : Int) (hc1 : a5 = a0) : Gv P (.yield 0) (A_viewportlaw23HeapLeaves_111010y1 a0 a1 a2 a3 a4 a5 a6 a7) (H_viewportlaw23HeapLeaves_111010y1 a0 a1 a2 a3 a4 a5 a6 a7) (V_viewportlaw23HeapLeaves_111010y1 a0 a1 a2 a3 a4 a5 a6 a7 (.inl ())) (R_viewportlaw23HeapLeaves_111010y1 a0 a1 a2 a3 a4 a5 a6 a7 (.inl ())) :=
  runY_ok hm (A1 := aT []) (L1 := lT []) (A2 := aT [(5, .val (.bool true))]) (L2 := lT []) (wk := ⟨[], [(0, 0, false), (1, 1, false), (2, 2, false), (3, 3, false), (4, 4, false), (5, 5, false), (6, 6, true), (7, 7, false), (8, 8, false)], 9, 0⟩)
    (ps := [(Value.bool (a5 == a0)) = (Value.bool true),
    FlatB (.cells (layT (rows rw_iii a2)) 55)]) (by kernel_rfl) ⟨(veT hc1), (rows_flat rwf_iii _ _), trivial⟩
set_option maxRecDepth 100000 in
theorem p_viewportlaw23HeapLeaves_111010y1_1 (n : Nat) (a0 : Int) (a1 : Bool) (a2 : List (Int × Int × Int)) (a3 : Nat) (a4 : Int) (a5 : Int) (a6 : Int) (a7 : Int) (hc1 : ¬ (a5 = a0)) (hc2 : ¬ (a7 < (0 : Int))) (hc3 : ¬ (a7 ≥ (((Args.L).length : Nat) : Int))) (hc4 : a5 = (0 : Int)) (hc5 : 0 ≤ a7 ∧ a7 < (((Args.L).length : Nat) : Int)) (c6_ : Int) (hc6 : m_viewportlaw23leastq1 n = some c6_) (hc7 : ((Args.L).getD (a7).toNat 0) = c6_) : Gv P (.yield 0) (A_viewportlaw23HeapLeaves_111010y1 a0 a1 a2 a3 a4 a5 a6 a7) (H_viewportlaw23HeapLeaves_111010y1 a0 a1 a2 a3 a4 a5 a6 a7) (V_viewportlaw23HeapLeaves_111010y1 a0 a1 a2 a3 a4 a5 a6 a7 (.inr ())) (R_viewportlaw23HeapLeaves_111010y1 a0 a1 a2 a3 a4 a5 a6 a7 (.inr ())) :=
  runY_ok hm (A1 := aT []) (L1 := lT []) (A2 := aT [(5, .val (.bool false)), (11, .val (.bool false)), (17, .val (.bool false)), (21, .val (.bool true)), (26, .pur (Value.pointer (some ⟨0, (a7).toNat, some 1⟩))), (27, .ld (Value.int .i64 ((Args.L).getD (a7).toNat 0))), (29, .call ⟨0, [], (V_viewportlaw23leastq1  c6_), (R_viewportlaw23leastq1  c6_), []⟩), (30, .val (.bool false))]) (L2 := lT []) (wk := ⟨[], [(0, 0, false), (1, 1, false), (2, 2, false), (3, 3, false), (4, 4, false), (5, 5, false), (6, 6, true), (7, 7, false), (8, 8, false)], 9, 0⟩)
    (ps := [(Value.bool (a5 == a0)) = (Value.bool false),
    (Value.bool (decide (a7 < (0 : Int)))) = (Value.bool false),
    (Value.bool (decide (a7 ≥ (((Args.L).length : Nat) : Int)))) = (Value.bool false),
    (Value.bool (a5 == (0 : Int))) = (Value.bool true),
    opIndexAddr P 45 (Value.slice (some ⟨0, 0, some 1⟩) (Args.L).length Args.cL) (Value.int .i64 a7) Ax.h0 = some ((Value.pointer (some ⟨0, (a7).toNat, some 1⟩)), Ax.h0),
    loadG P 3 (Value.pointer (some ⟨0, (a7).toNat, some 1⟩)) Ax.h0 = some ((Value.int .i64 ((Args.L).getD (a7).toNat 0)), Ax.h0),
    Gv P (.func 19) A_viewportlaw23leastq1 H_viewportlaw23leastq1 (V_viewportlaw23leastq1  c6_) (R_viewportlaw23leastq1  c6_),
    (Value.bool (((Args.L).getD (a7).toNat 0) != c6_)) = (Value.bool false),
    FlatB (.cells (layT (rows rw_iii a2)) 55)]) (by kernel_rfl) ⟨(veF hc1), (vbF hc2), (vbF hc3), (veT hc4), (ixW1 (e := 3) (by kernel_rfl) (by kernel_rfl) hc5), (ldW rfl (by kernel_rfl) (toNatLt hc5)), (m_viewportlaw23leastq1_ok n c6_ hc6), (vnF hc7), (rows_flat rwf_iii _ _), trivial⟩
set_option maxRecDepth 100000 in
theorem p_viewportlaw23HeapLeaves_111010y1_2 (n : Nat) (a0 : Int) (a1 : Bool) (a2 : List (Int × Int × Int)) (a3 : Nat) (a4 : Int) (a5 : Int) (a6 : Int) (a7 : Int) (hc1 : ¬ (a5 = a0)) (hc2 : ¬ (a7 < (0 : Int))) (hc3 : ¬ (a7 ≥ (((Args.L).length : Nat) : Int))) (hc4 : ¬ (a5 = (0 : Int))) : Gv P (.yield 0) (A_viewportlaw23HeapLeaves_111010y1 a0 a1 a2 a3 a4 a5 a6 a7) (H_viewportlaw23HeapLeaves_111010y1 a0 a1 a2 a3 a4 a5 a6 a7) (V_viewportlaw23HeapLeaves_111010y1 a0 a1 a2 a3 a4 a5 a6 a7 (.inr ())) (R_viewportlaw23HeapLeaves_111010y1 a0 a1 a2 a3 a4 a5 a6 a7 (.inr ())) :=
  runY_ok hm (A1 := aT []) (L1 := lT []) (A2 := aT [(5, .val (.bool false)), (11, .val (.bool false)), (17, .val (.bool false)), (21, .val (.bool false))]) (L2 := lT []) (wk := ⟨[], [(0, 0, false), (1, 1, false), (2, 2, false), (3, 3, false), (4, 4, false), (5, 5, false), (6, 6, true), (7, 7, false), (8, 8, false)], 9, 0⟩)
    (ps := [(Value.bool (a5 == a0)) = (Value.bool false),
    (Value.bool (decide (a7 < (0 : Int)))) = (Value.bool false),
    (Value.bool (decide (a7 ≥ (((Args.L).length : Nat) : Int)))) = (Value.bool false),
    (Value.bool (a5 == (0 : Int))) = (Value.bool false),
    FlatB (.cells (layT (rows rw_iii a2)) 55)]) (by kernel_rfl) ⟨(veF hc1), (vbF hc2), (vbF hc3), (veF hc4), (rows_flat rwf_iii _ _), trivial⟩
theorem m_viewportlaw23HeapLeaves_111010y1_ok (n : Nat) (a0 : Int) (a1 : Bool) (a2 : List (Int × Int × Int)) (a3 : Nat) (a4 : Int) (a5 : Int) (a6 : Int) (a7 : Int) (r : (Unit) ⊕ (Unit)) (h : m_viewportlaw23HeapLeaves_111010y1 n a0 a1 a2 a3 a4 a5 a6 a7 = some r) : Gv P (.yield 0) (A_viewportlaw23HeapLeaves_111010y1 a0 a1 a2 a3 a4 a5 a6 a7) (H_viewportlaw23HeapLeaves_111010y1 a0 a1 a2 a3 a4 a5 a6 a7) (V_viewportlaw23HeapLeaves_111010y1 a0 a1 a2 a3 a4 a5 a6 a7 r) (R_viewportlaw23HeapLeaves_111010y1 a0 a1 a2 a3 a4 a5 a6 a7 r) := by
  unfold m_viewportlaw23HeapLeaves_111010y1 at h
  by_cases hc1 : a5 = a0
  · rw [if_pos hc1] at h
    obtain rfl := Option.some.inj h; exact p_viewportlaw23HeapLeaves_111010y1_0 n a0 a1 a2 a3 a4 a5 a6 a7 hc1
  · rw [if_neg hc1] at h
    by_cases hc2 : a7 < (0 : Int)
    · rw [if_pos hc2] at h
      cases h
    · rw [if_neg hc2] at h
      by_cases hc3 : a7 ≥ (((Args.L).length : Nat) : Int)
      · rw [if_pos hc3] at h
        cases h
      · rw [if_neg hc3] at h
        by_cases hc4 : a5 = (0 : Int)
        · rw [if_pos hc4] at h
          by_cases hc5 : 0 ≤ a7 ∧ a7 < (((Args.L).length : Nat) : Int)
          · rw [if_pos hc5] at h
            obtain ⟨c6_, hc6, h⟩ := Option.bind_eq_some_iff.1 h
            by_cases hc7 : ((Args.L).getD (a7).toNat 0) = c6_
            · rw [if_pos hc7] at h
              obtain rfl := Option.some.inj h; exact p_viewportlaw23HeapLeaves_111010y1_1 n a0 a1 a2 a3 a4 a5 a6 a7 hc1 hc2 hc3 hc4 hc5 c6_ hc6 hc7
            · rw [if_neg hc7] at h
              cases h
          · rw [if_neg hc5] at h; cases h
        · rw [if_neg hc4] at h
          obtain rfl := Option.some.inj h; exact p_viewportlaw23HeapLeaves_111010y1_2 n a0 a1 a2 a3 a4 a5 a6 a7 hc1 hc2 hc3 hc4

noncomputable def A_heapHeapviewportlaw23itemAll1_111110y1 (a0 : Int) (a1 : Bool) (a2 : List (Int × Int × Int)) (a3 : Nat) (a4 : Int) (a5 : Int) (a6 : List (Int × Int × Int)) (a7 : Nat) (a8 : Int) (a9 : Int) (a10 : Int) : List Value := [(Value.agg #[(Value.int .i64 a9), (Value.int .i64 a10)])]
noncomputable def H_heapHeapviewportlaw23itemAll1_111110y1 (a0 : Int) (a1 : Bool) (a2 : List (Int × Int × Int)) (a3 : Nat) (a4 : Int) (a5 : Int) (a6 : List (Int × Int × Int)) (a7 : Nat) (a8 : Int) (a9 : Int) (a10 : Int) : AH := ⟨sB [(0, (some (rblk P 23 [false, true, true, true, true, true] .ready none [(2, (Value.pointer (some ⟨2, 0, none⟩))), (22, (Value.func (.func 27) #[] #[(Value.pointer (some ⟨12, 0, none⟩))]))] 1))), (1, (some (.marks true))), (2, (some (.cells (layT [(Value.func (.yield 3) #[] #[])]) 57))), (3, (some (rblk P 5 [false, true, false, true, true, true, true, true, true, true, true, true] .ready none [(2, (Value.pointer (some ⟨5, 0, none⟩))), (3, (Value.pointer (some ⟨6, 0, none⟩))), (4, (Value.pointer (some ⟨7, 0, none⟩))), (5, (Value.pointer (some ⟨8, 0, none⟩))), (8, (Value.pointer (some ⟨10, 0, none⟩))), (39, (Value.func (.func 23) #[] #[(Value.pointer (some ⟨11, 0, none⟩))]))] 4))), (4, (some (.marks true))), (5, (some (.cells (layT [(Value.slice (some ⟨0, 0, some 1⟩) (Args.L).length Args.cL)]) 45))), (6, (some (.cells (layT [(Value.int .i64 a0)]) 3))), (7, (some (.cells (layT [(Value.bool a1)]) 4))), (8, (some (.cells (layT [(Value.pointer (some ⟨8, 0, none⟩)), (Value.func (.func 8) #[] #[]), (Value.slice (some ⟨9, 0, none⟩) a3 (Nat.add big 3)), (Value.int .i64 a4)]) 51))), (9, (some (.cells (layT (rows rw_iii a2)) 55))), (10, (some (.cells (layT [(Value.int .i64 a5)]) 3))), (11, (some (.cells (layT [(Value.pointer (some ⟨8, 0, none⟩))]) 24))), (12, (some (.cells (layT [(Value.pointer (some ⟨13, 0, none⟩))]) 24))), (13, (some (.cells (layT [(Value.pointer (some ⟨13, 0, none⟩)), (Value.func (.func 8) #[] #[]), (Value.slice (some ⟨14, 0, none⟩) a7 (Nat.add big 3)), (Value.int .i64 a8)]) 51))), (14, (some (.cells (layT (rows rw_iii a6)) 55)))], 15, 15⟩
noncomputable def V_heapHeapviewportlaw23itemAll1_111110y1 (a0 : Int) (a1 : Bool) (a2 : List (Int × Int × Int)) (a3 : Nat) (a4 : Int) (a5 : Int) (a6 : List (Int × Int × Int)) (a7 : Nat) (a8 : Int) (a9 : Int) (a10 : Int) (r : (Unit) ⊕ (Unit)) : Value := match r with
  | .inl _ => (Value.bool false)
  | .inr _ => (Value.bool true)
noncomputable def R_heapHeapviewportlaw23itemAll1_111110y1 (a0 : Int) (a1 : Bool) (a2 : List (Int × Int × Int)) (a3 : Nat) (a4 : Int) (a5 : Int) (a6 : List (Int × Int × Int)) (a7 : Nat) (a8 : Int) (a9 : Int) (a10 : Int) (r : (Unit) ⊕ (Unit)) : AH := match r with
  | .inl _ => ⟨sB [(0, (some (rblk P 23 [false, true, true, true, true, true] .done (some .ret) [(2, (Value.pointer (some ⟨2, 0, none⟩))), (22, (Value.func (.func 27) #[] #[(Value.pointer (some ⟨12, 0, none⟩))]))] 1))), (1, (some (.marks true))), (2, (some (.cells (layT [(Value.func (.yield 3) #[] #[])]) 57))), (3, (some (rblk P 5 [false, true, false, true, true, true, true, true, true, true, true, true] .done (some (.exit 2)) [(2, (Value.pointer (some ⟨5, 0, none⟩))), (3, (Value.pointer (some ⟨6, 0, none⟩))), (4, (Value.pointer (some ⟨7, 0, none⟩))), (5, (Value.pointer (some ⟨8, 0, none⟩))), (8, (Value.pointer (some ⟨10, 0, none⟩))), (39, (Value.func (.func 23) #[] #[(Value.pointer (some ⟨11, 0, none⟩))]))] 4))), (4, (some (.marks true))), (5, (some (.cells (layT [(Value.slice (some ⟨0, 0, some 1⟩) (Args.L).length Args.cL)]) 45))), (6, (some (.cells (layT [(Value.int .i64 a0)]) 3))), (7, (some (.cells (layT [(Value.bool a1)]) 4))), (8, (some (.cells (layT [(Value.pointer (some ⟨8, 0, none⟩)), (Value.func (.func 8) #[] #[]), (Value.slice (some ⟨9, 0, none⟩) a3 (Nat.add big 3)), (Value.int .i64 a4)]) 51))), (9, (some (.cells (layT (rows rw_iii a2)) 55))), (10, (some (.cells (layT [(Value.int .i64 a5)]) 3))), (11, (some (.cells (layT [(Value.pointer (some ⟨8, 0, none⟩))]) 24))), (12, (some (.cells (layT [(Value.pointer (some ⟨13, 0, none⟩))]) 24))), (13, (some (.cells (layT [(Value.pointer (some ⟨13, 0, none⟩)), (Value.func (.func 8) #[] #[]), (Value.slice (some ⟨14, 0, none⟩) a7 (Nat.add big 3)), (Value.int .i64 a8)]) 51))), (14, (some (.cells (layT (rows rw_iii a6)) 55)))], 15, 0⟩
  | .inr _ => ⟨sB [(0, (some (rblk P 23 [false, true, true, true, true, true] .ready none [(2, (Value.pointer (some ⟨2, 0, none⟩))), (22, (Value.func (.func 27) #[] #[(Value.pointer (some ⟨12, 0, none⟩))]))] 1))), (1, (some (.marks true))), (2, (some (.cells (layT [(Value.func (.yield 3) #[] #[])]) 57))), (3, (some (rblk P 5 [false, true, false, true, true, true, true, true, true, true, true, true] .ready none [(2, (Value.pointer (some ⟨5, 0, none⟩))), (3, (Value.pointer (some ⟨6, 0, none⟩))), (4, (Value.pointer (some ⟨7, 0, none⟩))), (5, (Value.pointer (some ⟨8, 0, none⟩))), (8, (Value.pointer (some ⟨10, 0, none⟩))), (39, (Value.func (.func 23) #[] #[(Value.pointer (some ⟨11, 0, none⟩))]))] 4))), (4, (some (.marks true))), (5, (some (.cells (layT [(Value.slice (some ⟨0, 0, some 1⟩) (Args.L).length Args.cL)]) 45))), (6, (some (.cells (layT [(Value.int .i64 a0)]) 3))), (7, (some (.cells (layT [(Value.bool a1)]) 4))), (8, (some (.cells (layT [(Value.pointer (some ⟨8, 0, none⟩)), (Value.func (.func 8) #[] #[]), (Value.slice (some ⟨9, 0, none⟩) a3 (Nat.add big 3)), (Value.int .i64 a4)]) 51))), (9, (some (.cells (layT (rows rw_iii a2)) 55))), (10, (some (.cells (layT [(Value.int .i64 (w64 (a5 + (1 : Int))))]) 3))), (11, (some (.cells (layT [(Value.pointer (some ⟨8, 0, none⟩))]) 24))), (12, (some (.cells (layT [(Value.pointer (some ⟨13, 0, none⟩))]) 24))), (13, (some (.cells (layT [(Value.pointer (some ⟨13, 0, none⟩)), (Value.func (.func 8) #[] #[]), (Value.slice (some ⟨14, 0, none⟩) a7 (Nat.add big 3)), (Value.int .i64 a8)]) 51))), (14, (some (.cells (layT (rows rw_iii a6)) 55)))], 15, 0⟩
def m_heapHeapviewportlaw23itemAll1_111110y1 (n : Nat) (a0 : Int) (a1 : Bool) (a2 : List (Int × Int × Int)) (a3 : Nat) (a4 : Int) (a5 : Int) (a6 : List (Int × Int × Int)) (a7 : Nat) (a8 : Int) (a9 : Int) (a10 : Int) : Option ((Unit) ⊕ (Unit)) :=
  match m_viewportlaw23HeapLeaves_111010y1 n a0 a1 a2 a3 a4 a5 a9 a10 with
  | none => none
  | some (.inl _) =>
    some (.inl ())
  | some (.inr _) =>
    some (.inr ())
set_option maxRecDepth 100000 in
theorem p_heapHeapviewportlaw23itemAll1_111110y1_0 (n : Nat) (a0 : Int) (a1 : Bool) (a2 : List (Int × Int × Int)) (a3 : Nat) (a4 : Int) (a5 : Int) (a6 : List (Int × Int × Int)) (a7 : Nat) (a8 : Int) (a9 : Int) (a10 : Int) (hc1 : m_viewportlaw23HeapLeaves_111010y1 n a0 a1 a2 a3 a4 a5 a9 a10 = some (.inl ())) : Gv P (.yield 0) (A_heapHeapviewportlaw23itemAll1_111110y1 a0 a1 a2 a3 a4 a5 a6 a7 a8 a9 a10) (H_heapHeapviewportlaw23itemAll1_111110y1 a0 a1 a2 a3 a4 a5 a6 a7 a8 a9 a10) (V_heapHeapviewportlaw23itemAll1_111110y1 a0 a1 a2 a3 a4 a5 a6 a7 a8 a9 a10 (.inl ())) (R_heapHeapviewportlaw23itemAll1_111110y1 a0 a1 a2 a3 a4 a5 a6 a7 a8 a9 a10 (.inl ())) :=
  runY_ok hm (A1 := aT []) (L1 := lT []) (A2 := aT [(4, .call ⟨9, [(0, 3, false), (1, 4, false), (2, 5, false), (3, 6, false), (4, 7, false), (5, 8, false), (6, 9, true), (7, 10, false), (8, 11, false)], (V_viewportlaw23HeapLeaves_111010y1 a0 a1 a2 a3 a4 a5 a9 a10 (.inl ())), (R_viewportlaw23HeapLeaves_111010y1 a0 a1 a2 a3 a4 a5 a9 a10 (.inl ())), [(3, 0, false), (4, 1, false), (5, 2, false), (6, 3, false), (7, 4, false), (8, 5, false), (9, 6, true), (10, 7, false), (11, 8, false)]⟩)]) (L2 := lT []) (wk := ⟨[], [(0, 0, false), (1, 1, false), (2, 2, false), (3, 3, false), (4, 4, false), (5, 5, false), (6, 6, false), (7, 7, false), (8, 8, false), (9, 9, true), (10, 10, false), (11, 11, false), (12, 12, false), (13, 13, false), (14, 14, true)], 15, 0⟩)
    (ps := [Gv P (.yield 0) (A_viewportlaw23HeapLeaves_111010y1 a0 a1 a2 a3 a4 a5 a9 a10) (H_viewportlaw23HeapLeaves_111010y1 a0 a1 a2 a3 a4 a5 a9 a10) (V_viewportlaw23HeapLeaves_111010y1 a0 a1 a2 a3 a4 a5 a9 a10 (.inl ())) (R_viewportlaw23HeapLeaves_111010y1 a0 a1 a2 a3 a4 a5 a9 a10 (.inl ())),
    FlatB (.cells (layT (rows rw_iii a2)) 55),
    FlatB (.cells (layT (rows rw_iii a2)) 55),
    FlatB (.cells (layT (rows rw_iii a2)) 55),
    FlatB (.cells (layT (rows rw_iii a6)) 55)]) (by kernel_rfl) ⟨(m_viewportlaw23HeapLeaves_111010y1_ok n a0 a1 a2 a3 a4 a5 a9 a10 (.inl ()) hc1), (rows_flat rwf_iii _ _), (rows_flat rwf_iii _ _), (rows_flat rwf_iii _ _), (rows_flat rwf_iii _ _), trivial⟩
set_option maxRecDepth 100000 in
theorem p_heapHeapviewportlaw23itemAll1_111110y1_1 (n : Nat) (a0 : Int) (a1 : Bool) (a2 : List (Int × Int × Int)) (a3 : Nat) (a4 : Int) (a5 : Int) (a6 : List (Int × Int × Int)) (a7 : Nat) (a8 : Int) (a9 : Int) (a10 : Int) (hc1 : m_viewportlaw23HeapLeaves_111010y1 n a0 a1 a2 a3 a4 a5 a9 a10 = some (.inr ())) : Gv P (.yield 0) (A_heapHeapviewportlaw23itemAll1_111110y1 a0 a1 a2 a3 a4 a5 a6 a7 a8 a9 a10) (H_heapHeapviewportlaw23itemAll1_111110y1 a0 a1 a2 a3 a4 a5 a6 a7 a8 a9 a10) (V_heapHeapviewportlaw23itemAll1_111110y1 a0 a1 a2 a3 a4 a5 a6 a7 a8 a9 a10 (.inr ())) (R_heapHeapviewportlaw23itemAll1_111110y1 a0 a1 a2 a3 a4 a5 a6 a7 a8 a9 a10 (.inr ())) :=
  runY_ok hm (A1 := aT []) (L1 := lT []) (A2 := aT [(4, .call ⟨9, [(0, 3, false), (1, 4, false), (2, 5, false), (3, 6, false), (4, 7, false), (5, 8, false), (6, 9, true), (7, 10, false), (8, 11, false)], (V_viewportlaw23HeapLeaves_111010y1 a0 a1 a2 a3 a4 a5 a9 a10 (.inr ())), (R_viewportlaw23HeapLeaves_111010y1 a0 a1 a2 a3 a4 a5 a9 a10 (.inr ())), [(3, 0, false), (4, 1, false), (5, 2, false), (6, 3, false), (7, 4, false), (8, 5, false), (9, 6, true), (10, 7, false), (11, 8, false)]⟩)]) (L2 := lT []) (wk := ⟨[], [(0, 0, false), (1, 1, false), (2, 2, false), (3, 3, false), (4, 4, false), (5, 5, false), (6, 6, false), (7, 7, false), (8, 8, false), (9, 9, true), (10, 10, false), (11, 11, false), (12, 12, false), (13, 13, false), (14, 14, true)], 15, 0⟩)
    (ps := [Gv P (.yield 0) (A_viewportlaw23HeapLeaves_111010y1 a0 a1 a2 a3 a4 a5 a9 a10) (H_viewportlaw23HeapLeaves_111010y1 a0 a1 a2 a3 a4 a5 a9 a10) (V_viewportlaw23HeapLeaves_111010y1 a0 a1 a2 a3 a4 a5 a9 a10 (.inr ())) (R_viewportlaw23HeapLeaves_111010y1 a0 a1 a2 a3 a4 a5 a9 a10 (.inr ())),
    FlatB (.cells (layT (rows rw_iii a2)) 55),
    FlatB (.cells (layT (rows rw_iii a2)) 55),
    FlatB (.cells (layT (rows rw_iii a2)) 55),
    FlatB (.cells (layT (rows rw_iii a6)) 55)]) (by kernel_rfl) ⟨(m_viewportlaw23HeapLeaves_111010y1_ok n a0 a1 a2 a3 a4 a5 a9 a10 (.inr ()) hc1), (rows_flat rwf_iii _ _), (rows_flat rwf_iii _ _), (rows_flat rwf_iii _ _), (rows_flat rwf_iii _ _), trivial⟩
theorem m_heapHeapviewportlaw23itemAll1_111110y1_ok (n : Nat) (a0 : Int) (a1 : Bool) (a2 : List (Int × Int × Int)) (a3 : Nat) (a4 : Int) (a5 : Int) (a6 : List (Int × Int × Int)) (a7 : Nat) (a8 : Int) (a9 : Int) (a10 : Int) (r : (Unit) ⊕ (Unit)) (h : m_heapHeapviewportlaw23itemAll1_111110y1 n a0 a1 a2 a3 a4 a5 a6 a7 a8 a9 a10 = some r) : Gv P (.yield 0) (A_heapHeapviewportlaw23itemAll1_111110y1 a0 a1 a2 a3 a4 a5 a6 a7 a8 a9 a10) (H_heapHeapviewportlaw23itemAll1_111110y1 a0 a1 a2 a3 a4 a5 a6 a7 a8 a9 a10) (V_heapHeapviewportlaw23itemAll1_111110y1 a0 a1 a2 a3 a4 a5 a6 a7 a8 a9 a10 r) (R_heapHeapviewportlaw23itemAll1_111110y1 a0 a1 a2 a3 a4 a5 a6 a7 a8 a9 a10 r) := by
  unfold m_heapHeapviewportlaw23itemAll1_111110y1 at h
  rcases hc1 : m_viewportlaw23HeapLeaves_111010y1 n a0 a1 a2 a3 a4 a5 a9 a10 with _ | (⟨⟩ | ⟨⟩)
  · rw [hc1] at h; cases h
  · rw [hc1] at h
    dsimp only at h
    obtain rfl := Option.some.inj h; exact p_heapHeapviewportlaw23itemAll1_111110y1_0 n a0 a1 a2 a3 a4 a5 a6 a7 a8 a9 a10 hc1
  · rw [hc1] at h
    dsimp only at h
    obtain rfl := Option.some.inj h; exact p_heapHeapviewportlaw23itemAll1_111110y1_1 n a0 a1 a2 a3 a4 a5 a6 a7 a8 a9 a10 hc1

noncomputable def A_heapHeapviewportlaw23itemLenq3 (a0 : List (Int × Int × Int)) (a1 : Nat) (a2 : Int) : List Value := [(Value.pointer (some ⟨0, 0, none⟩))]
noncomputable def H_heapHeapviewportlaw23itemLenq3 (a0 : List (Int × Int × Int)) (a1 : Nat) (a2 : Int) : AH := ⟨sB [(0, (some (.cells (layT [(Value.pointer (some ⟨0, 0, none⟩)), (Value.func (.func 8) #[] #[]), (Value.slice (some ⟨1, 0, none⟩) a1 (Nat.add big 3)), (Value.int .i64 a2)]) 51))), (1, (some (.cells (layT (rows rw_iii a0)) 55)))], 2, 2⟩
noncomputable def V_heapHeapviewportlaw23itemLenq3 (a0 : List (Int × Int × Int)) (a1 : Nat) (a2 : Int) (r : Unit) : Value := match r with
  | _ => (Value.int .i64 ((a1 : Nat) : Int))
noncomputable def R_heapHeapviewportlaw23itemLenq3 (a0 : List (Int × Int × Int)) (a1 : Nat) (a2 : Int) (r : Unit) : AH := match r with
  | _ => ⟨sB [], 2, 2⟩
def m_heapHeapviewportlaw23itemLenq3 (n : Nat) (a0 : List (Int × Int × Int)) (a1 : Nat) (a2 : Int) : Option (Unit) :=
  (m_heapHeapviewportlaw23itemvalidq3 n a0 a1 a2).bind fun _ =>
  some ()
set_option maxRecDepth 100000 in
theorem p_heapHeapviewportlaw23itemLenq3_0 (n : Nat) (a0 : List (Int × Int × Int)) (a1 : Nat) (a2 : Int) (hc1 : m_heapHeapviewportlaw23itemvalidq3 n a0 a1 a2 = some ()) : Gv P (.func 17) (A_heapHeapviewportlaw23itemLenq3 a0 a1 a2) (H_heapHeapviewportlaw23itemLenq3 a0 a1 a2) (V_heapHeapviewportlaw23itemLenq3 a0 a1 a2 ()) (R_heapHeapviewportlaw23itemLenq3 a0 a1 a2 ()) :=
  runF_ok hm (A := aT [(5, .call ⟨2, [(0, 0, false), (1, 1, true)], (V_heapHeapviewportlaw23itemvalidq3 a0 a1 a2 ()), (R_heapHeapviewportlaw23itemvalidq3 a0 a1 a2 ()), []⟩)]) (L := lT []) (wk := ⟨[2], [], 2, 2⟩)
    (ps := [Gv P (.func 20) (A_heapHeapviewportlaw23itemvalidq3 a0 a1 a2) (H_heapHeapviewportlaw23itemvalidq3 a0 a1 a2) (V_heapHeapviewportlaw23itemvalidq3 a0 a1 a2 ()) (R_heapHeapviewportlaw23itemvalidq3 a0 a1 a2 ()),
    FlatB (.cells (layT (rows rw_iii a0)) 55)]) (by kernel_rfl) ⟨(m_heapHeapviewportlaw23itemvalidq3_ok n a0 a1 a2 () hc1), (rows_flat rwf_iii _ _), trivial⟩
theorem m_heapHeapviewportlaw23itemLenq3_ok (n : Nat) (a0 : List (Int × Int × Int)) (a1 : Nat) (a2 : Int) (r : Unit) (h : m_heapHeapviewportlaw23itemLenq3 n a0 a1 a2 = some r) : Gv P (.func 17) (A_heapHeapviewportlaw23itemLenq3 a0 a1 a2) (H_heapHeapviewportlaw23itemLenq3 a0 a1 a2) (V_heapHeapviewportlaw23itemLenq3 a0 a1 a2 r) (R_heapHeapviewportlaw23itemLenq3 a0 a1 a2 r) := by
  unfold m_heapHeapviewportlaw23itemLenq3 at h
  obtain ⟨_, hc1, h⟩ := Option.bind_eq_some_iff.1 h
  obtain rfl := Option.some.inj h; exact p_heapHeapviewportlaw23itemLenq3_0 n a0 a1 a2 hc1

noncomputable def A_heapHeapviewportlaw23itemLeastq2 (a0 : List (Int × Int × Int)) (a1 : Nat) (a2 : Int) : List Value := [(Value.pointer (some ⟨0, 0, none⟩))]
noncomputable def H_heapHeapviewportlaw23itemLeastq2 (a0 : List (Int × Int × Int)) (a1 : Nat) (a2 : Int) : AH := ⟨sB [(0, (some (.cells (layT [(Value.pointer (some ⟨0, 0, none⟩)), (Value.func (.func 8) #[] #[]), (Value.slice (some ⟨1, 0, none⟩) a1 (Nat.add big 3)), (Value.int .i64 a2)]) 51))), (1, (some (.cells (layT (rows rw_iii a0)) 55)))], 2, 2⟩
noncomputable def V_heapHeapviewportlaw23itemLeastq2 (a0 : List (Int × Int × Int)) (a1 : Nat) (a2 : Int) (r : Int × Int × Bool) : Value := match r with
  | (o0, o1, o2) => (Value.tuple #[(Value.agg #[(Value.int .i64 o0), (Value.int .i64 o1)]), (Value.bool o2)])
noncomputable def R_heapHeapviewportlaw23itemLeastq2 (a0 : List (Int × Int × Int)) (a1 : Nat) (a2 : Int) (r : Int × Int × Bool) : AH := match r with
  | (o0, o1, o2) => ⟨sB [(2, (some (.cells (layT [(Value.int .i64 o0), (Value.int .i64 o1)]) 27)))], 3, 2⟩
def m_heapHeapviewportlaw23itemLeastq2 (n : Nat) (a0 : List (Int × Int × Int)) (a1 : Nat) (a2 : Int) : Option (Int × Int × Bool) :=
  (m_heapHeapviewportlaw23itemLenq3 n a0 a1 a2).bind fun _ =>
  if ((a1 : Nat) : Int) = (0 : Int) then
    some (0, 0, false)
  else
    if 0 ≤ (0 : Int) ∧ (0 : Int) < ((a1 : Nat) : Int) then
      if ((0 : Int)).toNat < (a0).length then
        some ((((a0).getD ((0 : Int)).toNat (0, 0, 0)).2.1), (((a0).getD ((0 : Int)).toNat (0, 0, 0)).2.2), true)
      else none
    else none
set_option maxRecDepth 100000 in
theorem p_heapHeapviewportlaw23itemLeastq2_0 (n : Nat) (a0 : List (Int × Int × Int)) (a1 : Nat) (a2 : Int) (hc1 : m_heapHeapviewportlaw23itemLenq3 n a0 a1 a2 = some ()) (hc2 : ((a1 : Nat) : Int) = (0 : Int)) : Gv P (.func 15) (A_heapHeapviewportlaw23itemLeastq2 a0 a1 a2) (H_heapHeapviewportlaw23itemLeastq2 a0 a1 a2) (V_heapHeapviewportlaw23itemLeastq2 a0 a1 a2 (0, 0, false)) (R_heapHeapviewportlaw23itemLeastq2 a0 a1 a2 (0, 0, false)) :=
  runF_ok hm (A := aT [(6, .call ⟨2, [(0, 0, false), (1, 1, true)], (V_heapHeapviewportlaw23itemLenq3 a0 a1 a2 ()), (R_heapHeapviewportlaw23itemLenq3 a0 a1 a2 ()), []⟩), (7, .val (.bool true))]) (L := lT []) (wk := ⟨[2, 3], [(2, 2, false)], 3, 2⟩)
    (ps := [Gv P (.func 17) (A_heapHeapviewportlaw23itemLenq3 a0 a1 a2) (H_heapHeapviewportlaw23itemLenq3 a0 a1 a2) (V_heapHeapviewportlaw23itemLenq3 a0 a1 a2 ()) (R_heapHeapviewportlaw23itemLenq3 a0 a1 a2 ()),
    FlatB (.cells (layT (rows rw_iii a0)) 55),
    (Value.bool (((a1 : Nat) : Int) == (0 : Int))) = (Value.bool true)]) (by kernel_rfl) ⟨(m_heapHeapviewportlaw23itemLenq3_ok n a0 a1 a2 () hc1), (rows_flat rwf_iii _ _), (veT hc2), trivial⟩
set_option maxRecDepth 100000 in
theorem p_heapHeapviewportlaw23itemLeastq2_1 (n : Nat) (a0 : List (Int × Int × Int)) (a1 : Nat) (a2 : Int) (hc1 : m_heapHeapviewportlaw23itemLenq3 n a0 a1 a2 = some ()) (hc2 : ¬ (((a1 : Nat) : Int) = (0 : Int))) (hc3 : 0 ≤ (0 : Int) ∧ (0 : Int) < ((a1 : Nat) : Int)) (hc4 : ((0 : Int)).toNat < (a0).length) : Gv P (.func 15) (A_heapHeapviewportlaw23itemLeastq2 a0 a1 a2) (H_heapHeapviewportlaw23itemLeastq2 a0 a1 a2) (V_heapHeapviewportlaw23itemLeastq2 a0 a1 a2 ((((a0).getD ((0 : Int)).toNat (0, 0, 0)).2.1), (((a0).getD ((0 : Int)).toNat (0, 0, 0)).2.2), true)) (R_heapHeapviewportlaw23itemLeastq2 a0 a1 a2 ((((a0).getD ((0 : Int)).toNat (0, 0, 0)).2.1), (((a0).getD ((0 : Int)).toNat (0, 0, 0)).2.2), true)) :=
  runF_ok hm (A := aT [(6, .call ⟨2, [(0, 0, false), (1, 1, true)], (V_heapHeapviewportlaw23itemLenq3 a0 a1 a2 ()), (R_heapHeapviewportlaw23itemLenq3 a0 a1 a2 ()), []⟩), (7, .val (.bool false)), (14, .pur (Value.pointer (some ⟨1, (((0 : Int)).toNat * 3), none⟩))), (16, .ld (Value.agg #[(Value.int .i64 (((a0).getD ((0 : Int)).toNat (0, 0, 0)).2.1)), (Value.int .i64 (((a0).getD ((0 : Int)).toNat (0, 0, 0)).2.2))]))]) (L := lT []) (wk := ⟨[2, 3], [(2, 2, false)], 3, 2⟩)
    (ps := [Gv P (.func 17) (A_heapHeapviewportlaw23itemLenq3 a0 a1 a2) (H_heapHeapviewportlaw23itemLenq3 a0 a1 a2) (V_heapHeapviewportlaw23itemLenq3 a0 a1 a2 ()) (R_heapHeapviewportlaw23itemLenq3 a0 a1 a2 ()),
    FlatB (.cells (layT (rows rw_iii a0)) 55),
    (Value.bool (((a1 : Nat) : Int) == (0 : Int))) = (Value.bool false),
    opIndexAddr P 49 (Value.slice (some ⟨1, 0, none⟩) a1 (Nat.add big 3)) (Value.int .i64 (0 : Int)) Ax.h0 = some ((Value.pointer (some ⟨1, (((0 : Int)).toNat * 3), none⟩)), Ax.h0),
    rdT (layT (rows rw_iii a0)) 2 (Nat.add (((0 : Int)).toNat * 3) 1) = some [(Value.int .i64 (((a0).getD ((0 : Int)).toNat (0, 0, 0)).2.1)), (Value.int .i64 (((a0).getD ((0 : Int)).toNat (0, 0, 0)).2.2))]]) (by kernel_rfl) ⟨(m_heapHeapviewportlaw23itemLenq3_ok n a0 a1 a2 () hc1), (rows_flat rwf_iii _ _), (veF hc2), (ixS (e := 55) (by kernel_rfl) (by kernel_rfl) (hc3).1 (hc3).2), (rows_rdp rwf_iii (0, 0, 0) (i := ((0 : Int)).toNat) (j := 1) (Nat.add (((0 : Int)).toNat * 3) 1) rfl (hc4) (by decide) rfl), trivial⟩
theorem m_heapHeapviewportlaw23itemLeastq2_ok (n : Nat) (a0 : List (Int × Int × Int)) (a1 : Nat) (a2 : Int) (r : Int × Int × Bool) (h : m_heapHeapviewportlaw23itemLeastq2 n a0 a1 a2 = some r) : Gv P (.func 15) (A_heapHeapviewportlaw23itemLeastq2 a0 a1 a2) (H_heapHeapviewportlaw23itemLeastq2 a0 a1 a2) (V_heapHeapviewportlaw23itemLeastq2 a0 a1 a2 r) (R_heapHeapviewportlaw23itemLeastq2 a0 a1 a2 r) := by
  unfold m_heapHeapviewportlaw23itemLeastq2 at h
  obtain ⟨_, hc1, h⟩ := Option.bind_eq_some_iff.1 h
  by_cases hc2 : ((a1 : Nat) : Int) = (0 : Int)
  · rw [if_pos hc2] at h
    obtain rfl := Option.some.inj h; exact p_heapHeapviewportlaw23itemLeastq2_0 n a0 a1 a2 hc1 hc2
  · rw [if_neg hc2] at h
    by_cases hc3 : 0 ≤ (0 : Int) ∧ (0 : Int) < ((a1 : Nat) : Int)
    · rw [if_pos hc3] at h
      by_cases hc4 : ((0 : Int)).toNat < (a0).length
      · rw [if_pos hc4] at h
        obtain rfl := Option.some.inj h; exact p_heapHeapviewportlaw23itemLeastq2_1 n a0 a1 a2 hc1 hc2 hc3 hc4
      · rw [if_neg hc4] at h; cases h
    · rw [if_neg hc3] at h; cases h

noncomputable def A_heapHeapviewportlaw23itemTakeq2 (a0 : List (Int × Int × Int)) (a1 : Nat) (a2 : Int) : List Value := [(Value.pointer (some ⟨0, 0, none⟩))]
noncomputable def H_heapHeapviewportlaw23itemTakeq2 (a0 : List (Int × Int × Int)) (a1 : Nat) (a2 : Int) : AH := ⟨sB [(0, (some (.cells (layT [(Value.pointer (some ⟨0, 0, none⟩)), (Value.func (.func 8) #[] #[]), (Value.slice (some ⟨1, 0, none⟩) a1 (Nat.add big 3)), (Value.int .i64 a2)]) 51))), (1, (some (.cells (layT (rows rw_iii a0)) 55)))], 2, 2⟩
noncomputable def V_heapHeapviewportlaw23itemTakeq2 (a0 : List (Int × Int × Int)) (a1 : Nat) (a2 : Int) (r : List (Int × Int × Int) × Nat × Int × Int × Bool) : Value := match r with
  | (o0, o1, o2, o3, o4) => (Value.tuple #[(Value.agg #[(Value.int .i64 o2), (Value.int .i64 o3)]), (Value.bool o4)])
noncomputable def R_heapHeapviewportlaw23itemTakeq2 (a0 : List (Int × Int × Int)) (a1 : Nat) (a2 : Int) (r : List (Int × Int × Int) × Nat × Int × Int × Bool) : AH := match r with
  | (o0, o1, o2, o3, o4) => ⟨sB [(0, (some (.cells (layT [(Value.pointer (some ⟨0, 0, none⟩)), (Value.func (.func 8) #[] #[]), (Value.slice (some ⟨1, 0, none⟩) o1 (Nat.add big 3)), (Value.int .i64 a2)]) 51))), (1, (some (.cells (layT (rows rw_iii o0)) 55))), (2, (some (.cells (layT [(Value.int .i64 o2), (Value.int .i64 o3)]) 27)))], 3, 0⟩
def m_heapHeapviewportlaw23itemTakeq2 (n : Nat) (a0 : List (Int × Int × Int)) (a1 : Nat) (a2 : Int) : Option (List (Int × Int × Int) × Nat × Int × Int × Bool) :=
  (m_heapHeapviewportlaw23itemLeastq2 n a0 a1 a2).bind fun t => match t with
  | (c1_0, c1_1, c1_2) =>
    if c1_2 = true then
      if 0 ≤ (w64 (((a1 : Nat) : Int) - (1 : Int))) ∧ (w64 (((a1 : Nat) : Int) - (1 : Int))) < ((a1 : Nat) : Int) then
        if ((w64 (((a1 : Nat) : Int) - (1 : Int)))).toNat < (a0).length then
          if 0 ≤ (0 : Int) ∧ (0 : Int) < ((a1 : Nat) : Int) then
            if ((0 : Int)).toNat < (a0).length then
              if ((w64 (((a1 : Nat) : Int) - (1 : Int)))).toNat < (((a0).set ((0 : Int)).toNat ((((a0).getD ((w64 (((a1 : Nat) : Int) - (1 : Int)))).toNat (0, 0, 0)).1), (((a0).getD ((w64 (((a1 : Nat) : Int) - (1 : Int)))).toNat (0, 0, 0)).2.1), (((a0).getD ((w64 (((a1 : Nat) : Int) - (1 : Int)))).toNat (0, 0, 0)).2.2)))).length then
                if 0 ≤ (w64 (((a1 : Nat) : Int) - (1 : Int))) ∧ (w64 (((a1 : Nat) : Int) - (1 : Int))) ≤ ((a1 : Nat) : Int) then
                  (m_heapHeapviewportlaw23itemdownq1 n ((((a0).set ((0 : Int)).toNat ((((a0).getD ((w64 (((a1 : Nat) : Int) - (1 : Int)))).toNat (0, 0, 0)).1), (((a0).getD ((w64 (((a1 : Nat) : Int) - (1 : Int)))).toNat (0, 0, 0)).2.1), (((a0).getD ((w64 (((a1 : Nat) : Int) - (1 : Int)))).toNat (0, 0, 0)).2.2)))).set ((w64 (((a1 : Nat) : Int) - (1 : Int)))).toNat ((0 : Int), (0 : Int), (0 : Int))) (((w64 (((a1 : Nat) : Int) - (1 : Int)))).toNat) a2 0).bind fun c9_ =>
                  some (c9_, (((w64 (((a1 : Nat) : Int) - (1 : Int)))).toNat), c1_0, c1_1, true)
                else none
              else none
            else none
          else none
        else none
      else none
    else
      some (a0, a1, c1_0, c1_1, false)
set_option maxRecDepth 100000 in
theorem p_heapHeapviewportlaw23itemTakeq2_0 (n : Nat) (a0 : List (Int × Int × Int)) (a1 : Nat) (a2 : Int) (c1_0 : Int) (c1_1 : Int) (c1_2 : Bool) (hc1 : m_heapHeapviewportlaw23itemLeastq2 n a0 a1 a2 = some (c1_0, c1_1, c1_2)) (hc2 : c1_2 = true) (hc3 : 0 ≤ (w64 (((a1 : Nat) : Int) - (1 : Int))) ∧ (w64 (((a1 : Nat) : Int) - (1 : Int))) < ((a1 : Nat) : Int)) (hc4 : ((w64 (((a1 : Nat) : Int) - (1 : Int)))).toNat < (a0).length) (hc5 : 0 ≤ (0 : Int) ∧ (0 : Int) < ((a1 : Nat) : Int)) (hc6 : ((0 : Int)).toNat < (a0).length) (hc7 : ((w64 (((a1 : Nat) : Int) - (1 : Int)))).toNat < (((a0).set ((0 : Int)).toNat ((((a0).getD ((w64 (((a1 : Nat) : Int) - (1 : Int)))).toNat (0, 0, 0)).1), (((a0).getD ((w64 (((a1 : Nat) : Int) - (1 : Int)))).toNat (0, 0, 0)).2.1), (((a0).getD ((w64 (((a1 : Nat) : Int) - (1 : Int)))).toNat (0, 0, 0)).2.2)))).length) (hc8 : 0 ≤ (w64 (((a1 : Nat) : Int) - (1 : Int))) ∧ (w64 (((a1 : Nat) : Int) - (1 : Int))) ≤ ((a1 : Nat) : Int)) (c9_ : List (Int × Int × Int)) (hc9 : m_heapHeapviewportlaw23itemdownq1 n ((((a0).set ((0 : Int)).toNat ((((a0).getD ((w64 (((a1 : Nat) : Int) - (1 : Int)))).toNat (0, 0, 0)).1), (((a0).getD ((w64 (((a1 : Nat) : Int) - (1 : Int)))).toNat (0, 0, 0)).2.1), (((a0).getD ((w64 (((a1 : Nat) : Int) - (1 : Int)))).toNat (0, 0, 0)).2.2)))).set ((w64 (((a1 : Nat) : Int) - (1 : Int)))).toNat ((0 : Int), (0 : Int), (0 : Int))) (((w64 (((a1 : Nat) : Int) - (1 : Int)))).toNat) a2 0 = some c9_) : Gv P (.func 13) (A_heapHeapviewportlaw23itemTakeq2 a0 a1 a2) (H_heapHeapviewportlaw23itemTakeq2 a0 a1 a2) (V_heapHeapviewportlaw23itemTakeq2 a0 a1 a2 (c9_, (((w64 (((a1 : Nat) : Int) - (1 : Int)))).toNat), c1_0, c1_1, true)) (R_heapHeapviewportlaw23itemTakeq2 a0 a1 a2 (c9_, (((w64 (((a1 : Nat) : Int) - (1 : Int)))).toNat), c1_0, c1_1, true)) :=
  runF_ok hm (A := aT [(5, .call ⟨2, [(0, 0, false), (1, 1, true)], (V_heapHeapviewportlaw23itemLeastq2 a0 a1 a2 (c1_0, c1_1, c1_2)), (R_heapHeapviewportlaw23itemLeastq2 a0 a1 a2 (c1_0, c1_1, c1_2)), [(3, 2, false)]⟩), (15, .val (.bool false)), (35, .pur (Value.pointer (some ⟨1, (((w64 (((a1 : Nat) : Int) - (1 : Int)))).toNat * 3), none⟩))), (36, .ld (Value.agg #[(Value.int .i64 (((a0).getD ((w64 (((a1 : Nat) : Int) - (1 : Int)))).toNat (0, 0, 0)).1)), (Value.int .i64 (((a0).getD ((w64 (((a1 : Nat) : Int) - (1 : Int)))).toNat (0, 0, 0)).2.1)), (Value.int .i64 (((a0).getD ((w64 (((a1 : Nat) : Int) - (1 : Int)))).toNat (0, 0, 0)).2.2))])), (37, .pur (Value.pointer (some ⟨1, (((0 : Int)).toNat * 3), none⟩))), (38, .sto (layT (rows rw_iii ((a0).set ((0 : Int)).toNat ((((a0).getD ((w64 (((a1 : Nat) : Int) - (1 : Int)))).toNat (0, 0, 0)).1), (((a0).getD ((w64 (((a1 : Nat) : Int) - (1 : Int)))).toNat (0, 0, 0)).2.1), (((a0).getD ((w64 (((a1 : Nat) : Int) - (1 : Int)))).toNat (0, 0, 0)).2.2)))))), (46, .pur (Value.pointer (some ⟨1, (((w64 (((a1 : Nat) : Int) - (1 : Int)))).toNat * 3), none⟩))), (47, .sto (layT (rows rw_iii ((((a0).set ((0 : Int)).toNat ((((a0).getD ((w64 (((a1 : Nat) : Int) - (1 : Int)))).toNat (0, 0, 0)).1), (((a0).getD ((w64 (((a1 : Nat) : Int) - (1 : Int)))).toNat (0, 0, 0)).2.1), (((a0).getD ((w64 (((a1 : Nat) : Int) - (1 : Int)))).toNat (0, 0, 0)).2.2)))).set ((w64 (((a1 : Nat) : Int) - (1 : Int)))).toNat ((0 : Int), (0 : Int), (0 : Int)))))), (55, .pur (Value.slice (some ⟨1, 0, none⟩) ((w64 (((a1 : Nat) : Int) - (1 : Int)))).toNat (Nat.add big 3))), (61, .call ⟨2, [(0, 0, false), (1, 1, true)], (V_heapHeapviewportlaw23itemdownq1 ((((a0).set ((0 : Int)).toNat ((((a0).getD ((w64 (((a1 : Nat) : Int) - (1 : Int)))).toNat (0, 0, 0)).1), (((a0).getD ((w64 (((a1 : Nat) : Int) - (1 : Int)))).toNat (0, 0, 0)).2.1), (((a0).getD ((w64 (((a1 : Nat) : Int) - (1 : Int)))).toNat (0, 0, 0)).2.2)))).set ((w64 (((a1 : Nat) : Int) - (1 : Int)))).toNat ((0 : Int), (0 : Int), (0 : Int))) (((w64 (((a1 : Nat) : Int) - (1 : Int)))).toNat) a2 0 c9_), (R_heapHeapviewportlaw23itemdownq1 ((((a0).set ((0 : Int)).toNat ((((a0).getD ((w64 (((a1 : Nat) : Int) - (1 : Int)))).toNat (0, 0, 0)).1), (((a0).getD ((w64 (((a1 : Nat) : Int) - (1 : Int)))).toNat (0, 0, 0)).2.1), (((a0).getD ((w64 (((a1 : Nat) : Int) - (1 : Int)))).toNat (0, 0, 0)).2.2)))).set ((w64 (((a1 : Nat) : Int) - (1 : Int)))).toNat ((0 : Int), (0 : Int), (0 : Int))) (((w64 (((a1 : Nat) : Int) - (1 : Int)))).toNat) a2 0 c9_), [(1, 1, true)]⟩)]) (L := lT []) (wk := ⟨[2, 3], [(0, 0, false), (1, 1, true), (2, 2, false)], 3, 0⟩)
    (ps := [Gv P (.func 15) (A_heapHeapviewportlaw23itemLeastq2 a0 a1 a2) (H_heapHeapviewportlaw23itemLeastq2 a0 a1 a2) (V_heapHeapviewportlaw23itemLeastq2 a0 a1 a2 (c1_0, c1_1, c1_2)) (R_heapHeapviewportlaw23itemLeastq2 a0 a1 a2 (c1_0, c1_1, c1_2)),
    FlatB (.cells (layT (rows rw_iii a0)) 55),
    (Value.bool (!c1_2)) = (Value.bool false),
    opIndexAddr P 49 (Value.slice (some ⟨1, 0, none⟩) a1 (Nat.add big 3)) (Value.int .i64 (w64 (((a1 : Nat) : Int) - (1 : Int)))) Ax.h0 = some ((Value.pointer (some ⟨1, (((w64 (((a1 : Nat) : Int) - (1 : Int)))).toNat * 3), none⟩)), Ax.h0),
    rdT (layT (rows rw_iii a0)) 3 (((w64 (((a1 : Nat) : Int) - (1 : Int)))).toNat * 3) = some [(Value.int .i64 (((a0).getD ((w64 (((a1 : Nat) : Int) - (1 : Int)))).toNat (0, 0, 0)).1)), (Value.int .i64 (((a0).getD ((w64 (((a1 : Nat) : Int) - (1 : Int)))).toNat (0, 0, 0)).2.1)), (Value.int .i64 (((a0).getD ((w64 (((a1 : Nat) : Int) - (1 : Int)))).toNat (0, 0, 0)).2.2))],
    opIndexAddr P 49 (Value.slice (some ⟨1, 0, none⟩) a1 (Nat.add big 3)) (Value.int .i64 (0 : Int)) Ax.h0 = some ((Value.pointer (some ⟨1, (((0 : Int)).toNat * 3), none⟩)), Ax.h0),
    ∃ old, rdT (layT (rows rw_iii a0)) 3 (((0 : Int)).toNat * 3) = some old,
    layL [(Value.int .i64 (((a0).getD ((w64 (((a1 : Nat) : Int) - (1 : Int)))).toNat (0, 0, 0)).1)), (Value.int .i64 (((a0).getD ((w64 (((a1 : Nat) : Int) - (1 : Int)))).toNat (0, 0, 0)).2.1)), (Value.int .i64 (((a0).getD ((w64 (((a1 : Nat) : Int) - (1 : Int)))).toNat (0, 0, 0)).2.2))] (((0 : Int)).toNat * 3) (layT (rows rw_iii a0)) = layT (rows rw_iii ((a0).set ((0 : Int)).toNat ((((a0).getD ((w64 (((a1 : Nat) : Int) - (1 : Int)))).toNat (0, 0, 0)).1), (((a0).getD ((w64 (((a1 : Nat) : Int) - (1 : Int)))).toNat (0, 0, 0)).2.1), (((a0).getD ((w64 (((a1 : Nat) : Int) - (1 : Int)))).toNat (0, 0, 0)).2.2)))),
    opIndexAddr P 49 (Value.slice (some ⟨1, 0, none⟩) a1 (Nat.add big 3)) (Value.int .i64 (w64 (((a1 : Nat) : Int) - (1 : Int)))) Ax.h0 = some ((Value.pointer (some ⟨1, (((w64 (((a1 : Nat) : Int) - (1 : Int)))).toNat * 3), none⟩)), Ax.h0),
    ∃ old, rdT (layT (rows rw_iii ((a0).set ((0 : Int)).toNat ((((a0).getD ((w64 (((a1 : Nat) : Int) - (1 : Int)))).toNat (0, 0, 0)).1), (((a0).getD ((w64 (((a1 : Nat) : Int) - (1 : Int)))).toNat (0, 0, 0)).2.1), (((a0).getD ((w64 (((a1 : Nat) : Int) - (1 : Int)))).toNat (0, 0, 0)).2.2))))) 3 (((w64 (((a1 : Nat) : Int) - (1 : Int)))).toNat * 3) = some old,
    layL [(Value.int .i64 (0 : Int)), (Value.int .i64 (0 : Int)), (Value.int .i64 (0 : Int))] (((w64 (((a1 : Nat) : Int) - (1 : Int)))).toNat * 3) (layT (rows rw_iii ((a0).set ((0 : Int)).toNat ((((a0).getD ((w64 (((a1 : Nat) : Int) - (1 : Int)))).toNat (0, 0, 0)).1), (((a0).getD ((w64 (((a1 : Nat) : Int) - (1 : Int)))).toNat (0, 0, 0)).2.1), (((a0).getD ((w64 (((a1 : Nat) : Int) - (1 : Int)))).toNat (0, 0, 0)).2.2))))) = layT (rows rw_iii ((((a0).set ((0 : Int)).toNat ((((a0).getD ((w64 (((a1 : Nat) : Int) - (1 : Int)))).toNat (0, 0, 0)).1), (((a0).getD ((w64 (((a1 : Nat) : Int) - (1 : Int)))).toNat (0, 0, 0)).2.1), (((a0).getD ((w64 (((a1 : Nat) : Int) - (1 : Int)))).toNat (0, 0, 0)).2.2)))).set ((w64 (((a1 : Nat) : Int) - (1 : Int)))).toNat ((0 : Int), (0 : Int), (0 : Int)))),
    opSlice P 49 (Value.slice (some ⟨1, 0, none⟩) a1 (Nat.add big 3)) none (some (Value.int .i64 (w64 (((a1 : Nat) : Int) - (1 : Int))))) none Ax.h0 = some ((Value.slice (some ⟨1, 0, none⟩) ((w64 (((a1 : Nat) : Int) - (1 : Int)))).toNat (Nat.add big 3)), Ax.h0),
    Gv P (.func 22) (A_heapHeapviewportlaw23itemdownq1 ((((a0).set ((0 : Int)).toNat ((((a0).getD ((w64 (((a1 : Nat) : Int) - (1 : Int)))).toNat (0, 0, 0)).1), (((a0).getD ((w64 (((a1 : Nat) : Int) - (1 : Int)))).toNat (0, 0, 0)).2.1), (((a0).getD ((w64 (((a1 : Nat) : Int) - (1 : Int)))).toNat (0, 0, 0)).2.2)))).set ((w64 (((a1 : Nat) : Int) - (1 : Int)))).toNat ((0 : Int), (0 : Int), (0 : Int))) (((w64 (((a1 : Nat) : Int) - (1 : Int)))).toNat) a2 0) (H_heapHeapviewportlaw23itemdownq1 ((((a0).set ((0 : Int)).toNat ((((a0).getD ((w64 (((a1 : Nat) : Int) - (1 : Int)))).toNat (0, 0, 0)).1), (((a0).getD ((w64 (((a1 : Nat) : Int) - (1 : Int)))).toNat (0, 0, 0)).2.1), (((a0).getD ((w64 (((a1 : Nat) : Int) - (1 : Int)))).toNat (0, 0, 0)).2.2)))).set ((w64 (((a1 : Nat) : Int) - (1 : Int)))).toNat ((0 : Int), (0 : Int), (0 : Int))) (((w64 (((a1 : Nat) : Int) - (1 : Int)))).toNat) a2 0) (V_heapHeapviewportlaw23itemdownq1 ((((a0).set ((0 : Int)).toNat ((((a0).getD ((w64 (((a1 : Nat) : Int) - (1 : Int)))).toNat (0, 0, 0)).1), (((a0).getD ((w64 (((a1 : Nat) : Int) - (1 : Int)))).toNat (0, 0, 0)).2.1), (((a0).getD ((w64 (((a1 : Nat) : Int) - (1 : Int)))).toNat (0, 0, 0)).2.2)))).set ((w64 (((a1 : Nat) : Int) - (1 : Int)))).toNat ((0 : Int), (0 : Int), (0 : Int))) (((w64 (((a1 : Nat) : Int) - (1 : Int)))).toNat) a2 0 c9_) (R_heapHeapviewportlaw23itemdownq1 ((((a0).set ((0 : Int)).toNat ((((a0).getD ((w64 (((a1 : Nat) : Int) - (1 : Int)))).toNat (0, 0, 0)).1), (((a0).getD ((w64 (((a1 : Nat) : Int) - (1 : Int)))).toNat (0, 0, 0)).2.1), (((a0).getD ((w64 (((a1 : Nat) : Int) - (1 : Int)))).toNat (0, 0, 0)).2.2)))).set ((w64 (((a1 : Nat) : Int) - (1 : Int)))).toNat ((0 : Int), (0 : Int), (0 : Int))) (((w64 (((a1 : Nat) : Int) - (1 : Int)))).toNat) a2 0 c9_),
    FlatB (.cells (layT (rows rw_iii ((((a0).set ((0 : Int)).toNat ((((a0).getD ((w64 (((a1 : Nat) : Int) - (1 : Int)))).toNat (0, 0, 0)).1), (((a0).getD ((w64 (((a1 : Nat) : Int) - (1 : Int)))).toNat (0, 0, 0)).2.1), (((a0).getD ((w64 (((a1 : Nat) : Int) - (1 : Int)))).toNat (0, 0, 0)).2.2)))).set ((w64 (((a1 : Nat) : Int) - (1 : Int)))).toNat ((0 : Int), (0 : Int), (0 : Int))))) 55),
    FlatB (.cells (layT (rows rw_iii c9_)) 55),
    FlatB (.cells (layT (rows rw_iii c9_)) 55)]) (by kernel_rfl) ⟨(m_heapHeapviewportlaw23itemLeastq2_ok n a0 a1 a2 (c1_0, c1_1, c1_2) hc1), (rows_flat rwf_iii _ _), (vBn hc2), (ixS (e := 55) (by kernel_rfl) (by kernel_rfl) (hc3).1 (hc3).2), (rows_rdp rwf_iii (0, 0, 0) (i := ((w64 (((a1 : Nat) : Int) - (1 : Int)))).toNat) (j := 0) (((w64 (((a1 : Nat) : Int) - (1 : Int)))).toNat * 3) rfl (hc4) (by decide) rfl), (ixS (e := 55) (by kernel_rfl) (by kernel_rfl) (hc5).1 (hc5).2), (Exists.elim (rows_st rwf_iii (0, 0, 0) (i := ((0 : Int)).toNat) (j := 0) (l := [(Value.int .i64 (((a0).getD ((w64 (((a1 : Nat) : Int) - (1 : Int)))).toNat (0, 0, 0)).1)), (Value.int .i64 (((a0).getD ((w64 (((a1 : Nat) : Int) - (1 : Int)))).toNat (0, 0, 0)).2.1)), (Value.int .i64 (((a0).getD ((w64 (((a1 : Nat) : Int) - (1 : Int)))).toNat (0, 0, 0)).2.2))]) ((((a0).getD ((w64 (((a1 : Nat) : Int) - (1 : Int)))).toNat (0, 0, 0)).1), (((a0).getD ((w64 (((a1 : Nat) : Int) - (1 : Int)))).toNat (0, 0, 0)).2.1), (((a0).getD ((w64 (((a1 : Nat) : Int) - (1 : Int)))).toNat (0, 0, 0)).2.2)) (((0 : Int)).toNat * 3) rfl (hc6) (Nat.le_of_ble_eq_true rfl) rfl) fun o h => ⟨o, h.1⟩), (Exists.elim (rows_st rwf_iii (0, 0, 0) (i := ((0 : Int)).toNat) (j := 0) (l := [(Value.int .i64 (((a0).getD ((w64 (((a1 : Nat) : Int) - (1 : Int)))).toNat (0, 0, 0)).1)), (Value.int .i64 (((a0).getD ((w64 (((a1 : Nat) : Int) - (1 : Int)))).toNat (0, 0, 0)).2.1)), (Value.int .i64 (((a0).getD ((w64 (((a1 : Nat) : Int) - (1 : Int)))).toNat (0, 0, 0)).2.2))]) ((((a0).getD ((w64 (((a1 : Nat) : Int) - (1 : Int)))).toNat (0, 0, 0)).1), (((a0).getD ((w64 (((a1 : Nat) : Int) - (1 : Int)))).toNat (0, 0, 0)).2.1), (((a0).getD ((w64 (((a1 : Nat) : Int) - (1 : Int)))).toNat (0, 0, 0)).2.2)) (((0 : Int)).toNat * 3) rfl (hc6) (Nat.le_of_ble_eq_true rfl) rfl) fun o h => h.2), (ixS (e := 55) (by kernel_rfl) (by kernel_rfl) (hc3).1 (hc3).2), (Exists.elim (rows_st rwf_iii (0, 0, 0) (i := ((w64 (((a1 : Nat) : Int) - (1 : Int)))).toNat) (j := 0) (l := [(Value.int .i64 (0 : Int)), (Value.int .i64 (0 : Int)), (Value.int .i64 (0 : Int))]) ((0 : Int), (0 : Int), (0 : Int)) (((w64 (((a1 : Nat) : Int) - (1 : Int)))).toNat * 3) rfl (hc7) (Nat.le_of_ble_eq_true rfl) rfl) fun o h => ⟨o, h.1⟩), (Exists.elim (rows_st rwf_iii (0, 0, 0) (i := ((w64 (((a1 : Nat) : Int) - (1 : Int)))).toNat) (j := 0) (l := [(Value.int .i64 (0 : Int)), (Value.int .i64 (0 : Int)), (Value.int .i64 (0 : Int))]) ((0 : Int), (0 : Int), (0 : Int)) (((w64 (((a1 : Nat) : Int) - (1 : Int)))).toNat * 3) rfl (hc7) (Nat.le_of_ble_eq_true rfl) rfl) fun o h => h.2), (slRowHi (e := 55) (es := 3) (by kernel_rfl) (by kernel_rfl) rfl rfl hc8), (m_heapHeapviewportlaw23itemdownq1_ok n ((((a0).set ((0 : Int)).toNat ((((a0).getD ((w64 (((a1 : Nat) : Int) - (1 : Int)))).toNat (0, 0, 0)).1), (((a0).getD ((w64 (((a1 : Nat) : Int) - (1 : Int)))).toNat (0, 0, 0)).2.1), (((a0).getD ((w64 (((a1 : Nat) : Int) - (1 : Int)))).toNat (0, 0, 0)).2.2)))).set ((w64 (((a1 : Nat) : Int) - (1 : Int)))).toNat ((0 : Int), (0 : Int), (0 : Int))) (((w64 (((a1 : Nat) : Int) - (1 : Int)))).toNat) a2 0 c9_ hc9), (rows_flat rwf_iii _ _), (rows_flat rwf_iii _ _), (rows_flat rwf_iii _ _), trivial⟩
set_option maxRecDepth 100000 in
theorem p_heapHeapviewportlaw23itemTakeq2_1 (n : Nat) (a0 : List (Int × Int × Int)) (a1 : Nat) (a2 : Int) (c1_0 : Int) (c1_1 : Int) (c1_2 : Bool) (hc1 : m_heapHeapviewportlaw23itemLeastq2 n a0 a1 a2 = some (c1_0, c1_1, c1_2)) (hc2 : ¬ (c1_2 = true)) : Gv P (.func 13) (A_heapHeapviewportlaw23itemTakeq2 a0 a1 a2) (H_heapHeapviewportlaw23itemTakeq2 a0 a1 a2) (V_heapHeapviewportlaw23itemTakeq2 a0 a1 a2 (a0, a1, c1_0, c1_1, false)) (R_heapHeapviewportlaw23itemTakeq2 a0 a1 a2 (a0, a1, c1_0, c1_1, false)) :=
  runF_ok hm (A := aT [(5, .call ⟨2, [(0, 0, false), (1, 1, true)], (V_heapHeapviewportlaw23itemLeastq2 a0 a1 a2 (c1_0, c1_1, c1_2)), (R_heapHeapviewportlaw23itemLeastq2 a0 a1 a2 (c1_0, c1_1, c1_2)), [(3, 2, false)]⟩), (15, .val (.bool true))]) (L := lT []) (wk := ⟨[2, 3], [(0, 0, false), (1, 1, true), (2, 2, false)], 3, 0⟩)
    (ps := [Gv P (.func 15) (A_heapHeapviewportlaw23itemLeastq2 a0 a1 a2) (H_heapHeapviewportlaw23itemLeastq2 a0 a1 a2) (V_heapHeapviewportlaw23itemLeastq2 a0 a1 a2 (c1_0, c1_1, c1_2)) (R_heapHeapviewportlaw23itemLeastq2 a0 a1 a2 (c1_0, c1_1, c1_2)),
    FlatB (.cells (layT (rows rw_iii a0)) 55),
    (Value.bool (!c1_2)) = (Value.bool true),
    FlatB (.cells (layT (rows rw_iii a0)) 55)]) (by kernel_rfl) ⟨(m_heapHeapviewportlaw23itemLeastq2_ok n a0 a1 a2 (c1_0, c1_1, c1_2) hc1), (rows_flat rwf_iii _ _), (vBn (Bool.eq_false_iff.2 hc2)), (rows_flat rwf_iii _ _), trivial⟩
theorem m_heapHeapviewportlaw23itemTakeq2_ok (n : Nat) (a0 : List (Int × Int × Int)) (a1 : Nat) (a2 : Int) (r : List (Int × Int × Int) × Nat × Int × Int × Bool) (h : m_heapHeapviewportlaw23itemTakeq2 n a0 a1 a2 = some r) : Gv P (.func 13) (A_heapHeapviewportlaw23itemTakeq2 a0 a1 a2) (H_heapHeapviewportlaw23itemTakeq2 a0 a1 a2) (V_heapHeapviewportlaw23itemTakeq2 a0 a1 a2 r) (R_heapHeapviewportlaw23itemTakeq2 a0 a1 a2 r) := by
  unfold m_heapHeapviewportlaw23itemTakeq2 at h
  obtain ⟨⟨c1_0, c1_1, c1_2⟩, hc1, h⟩ := Option.bind_eq_some_iff.1 h
  dsimp only at h
  by_cases hc2 : c1_2 = true
  · rw [if_pos hc2] at h
    by_cases hc3 : 0 ≤ (w64 (((a1 : Nat) : Int) - (1 : Int))) ∧ (w64 (((a1 : Nat) : Int) - (1 : Int))) < ((a1 : Nat) : Int)
    · rw [if_pos hc3] at h
      by_cases hc4 : ((w64 (((a1 : Nat) : Int) - (1 : Int)))).toNat < (a0).length
      · rw [if_pos hc4] at h
        by_cases hc5 : 0 ≤ (0 : Int) ∧ (0 : Int) < ((a1 : Nat) : Int)
        · rw [if_pos hc5] at h
          by_cases hc6 : ((0 : Int)).toNat < (a0).length
          · rw [if_pos hc6] at h
            by_cases hc7 : ((w64 (((a1 : Nat) : Int) - (1 : Int)))).toNat < (((a0).set ((0 : Int)).toNat ((((a0).getD ((w64 (((a1 : Nat) : Int) - (1 : Int)))).toNat (0, 0, 0)).1), (((a0).getD ((w64 (((a1 : Nat) : Int) - (1 : Int)))).toNat (0, 0, 0)).2.1), (((a0).getD ((w64 (((a1 : Nat) : Int) - (1 : Int)))).toNat (0, 0, 0)).2.2)))).length
            · rw [if_pos hc7] at h
              by_cases hc8 : 0 ≤ (w64 (((a1 : Nat) : Int) - (1 : Int))) ∧ (w64 (((a1 : Nat) : Int) - (1 : Int))) ≤ ((a1 : Nat) : Int)
              · rw [if_pos hc8] at h
                obtain ⟨c9_, hc9, h⟩ := Option.bind_eq_some_iff.1 h
                obtain rfl := Option.some.inj h; exact p_heapHeapviewportlaw23itemTakeq2_0 n a0 a1 a2 c1_0 c1_1 c1_2 hc1 hc2 hc3 hc4 hc5 hc6 hc7 hc8 c9_ hc9
              · rw [if_neg hc8] at h; cases h
            · rw [if_neg hc7] at h; cases h
          · rw [if_neg hc6] at h; cases h
        · rw [if_neg hc5] at h; cases h
      · rw [if_neg hc4] at h; cases h
    · rw [if_neg hc3] at h; cases h
  · rw [if_neg hc2] at h
    obtain rfl := Option.some.inj h; exact p_heapHeapviewportlaw23itemTakeq2_1 n a0 a1 a2 c1_0 c1_1 c1_2 hc1 hc2

noncomputable def S_heapHeapviewportlaw23itemdrain1q2_1 (x1_0 : Int) (x1_1 : Bool) (x1_2 : List (Int × Int × Int)) (x1_3 : Nat) (x1_4 : Int) (x1_8 : Int) (st : Int × List (Int × Int × Int) × Nat) : XSt := match st with
  | (x1_5, x1_6, x1_7) => (sT 17 [(0, (Value.func (.yield 0) #[] #[])), (1, (Value.pointer (some ⟨12, 0, none⟩)))], [], ⟨sB [(0, (some (rblk P 23 [false, true, true, true, true, true] .ready none [(2, (Value.pointer (some ⟨2, 0, none⟩))), (22, (Value.func (.func 27) #[] #[(Value.pointer (some ⟨12, 0, none⟩))]))] 1))), (1, (some (.marks true))), (2, (some (.cells (layT [(Value.func (.yield 3) #[] #[])]) 57))), (3, (some (rblk P 5 [false, true, false, true, true, true, true, true, true, true, true, true] .ready none [(2, (Value.pointer (some ⟨5, 0, none⟩))), (3, (Value.pointer (some ⟨6, 0, none⟩))), (4, (Value.pointer (some ⟨7, 0, none⟩))), (5, (Value.pointer (some ⟨8, 0, none⟩))), (8, (Value.pointer (some ⟨10, 0, none⟩))), (39, (Value.func (.func 23) #[] #[(Value.pointer (some ⟨11, 0, none⟩))]))] 4))), (4, (some (.marks true))), (5, (some (.cells (layT [(Value.slice (some ⟨0, 0, some 1⟩) (Args.L).length Args.cL)]) 45))), (6, (some (.cells (layT [(Value.int .i64 x1_0)]) 3))), (7, (some (.cells (layT [(Value.bool x1_1)]) 4))), (8, (some (.cells (layT [(Value.pointer (some ⟨8, 0, none⟩)), (Value.func (.func 8) #[] #[]), (Value.slice (some ⟨9, 0, none⟩) x1_3 (Nat.add big 3)), (Value.int .i64 x1_4)]) 51))), (9, (some (.cells (layT (rows rw_iii x1_2)) 55))), (10, (some (.cells (layT [(Value.int .i64 x1_5)]) 3))), (11, (some (.cells (layT [(Value.pointer (some ⟨8, 0, none⟩))]) 24))), (12, (some (.cells (layT [(Value.pointer (some ⟨13, 0, none⟩))]) 24))), (13, (some (.cells (layT [(Value.pointer (some ⟨13, 0, none⟩)), (Value.func (.func 8) #[] #[]), (Value.slice (some ⟨14, 0, none⟩) x1_7 (Nat.add big 3)), (Value.int .i64 x1_8)]) 51))), (14, (some (.cells (layT (rows rw_iii x1_6)) 55)))], 15, 0⟩)
noncomputable def X_heapHeapviewportlaw23itemdrain1q2_1 (x1_0 : Int) (x1_1 : Bool) (x1_2 : List (Int × Int × Int)) (x1_3 : Nat) (x1_4 : Int) (x1_8 : Int) (r : (Int × List (Int × Int × Int) × Nat) ⊕ (Int × List (Int × Int × Int) × Nat)) : Ex × XSt := match r with
  | .inl (z1_0, z1_1, z1_2) => (.ret, (sT 17 [], [], ⟨sB [(0, (some (rblk P 23 [false, true, true, true, true, true] .done (some .ret) [(2, (Value.pointer (some ⟨2, 0, none⟩))), (22, (Value.func (.func 27) #[] #[(Value.pointer (some ⟨12, 0, none⟩))]))] 1))), (1, (some (.marks true))), (2, (some (.cells (layT [(Value.func (.yield 3) #[] #[])]) 57))), (3, (some (rblk P 5 [false, true, false, true, true, true, true, true, true, true, true, true] .done (some (.exit 2)) [(2, (Value.pointer (some ⟨5, 0, none⟩))), (3, (Value.pointer (some ⟨6, 0, none⟩))), (4, (Value.pointer (some ⟨7, 0, none⟩))), (5, (Value.pointer (some ⟨8, 0, none⟩))), (8, (Value.pointer (some ⟨10, 0, none⟩))), (39, (Value.func (.func 23) #[] #[(Value.pointer (some ⟨11, 0, none⟩))]))] 4))), (4, (some (.marks true))), (5, (some (.cells (layT [(Value.slice (some ⟨0, 0, some 1⟩) (Args.L).length Args.cL)]) 45))), (6, (some (.cells (layT [(Value.int .i64 x1_0)]) 3))), (7, (some (.cells (layT [(Value.bool x1_1)]) 4))), (8, (some (.cells (layT [(Value.pointer (some ⟨8, 0, none⟩)), (Value.func (.func 8) #[] #[]), (Value.slice (some ⟨9, 0, none⟩) x1_3 (Nat.add big 3)), (Value.int .i64 x1_4)]) 51))), (9, (some (.cells (layT (rows rw_iii x1_2)) 55))), (10, (some (.cells (layT [(Value.int .i64 z1_0)]) 3))), (11, (some (.cells (layT [(Value.pointer (some ⟨8, 0, none⟩))]) 24))), (12, (some (.cells (layT [(Value.pointer (some ⟨13, 0, none⟩))]) 24))), (13, (some (.cells (layT [(Value.pointer (some ⟨13, 0, none⟩)), (Value.func (.func 8) #[] #[]), (Value.slice (some ⟨14, 0, none⟩) z1_2 (Nat.add big 3)), (Value.int .i64 x1_8)]) 51))), (14, (some (.cells (layT (rows rw_iii z1_1)) 55)))], 15, 0⟩))
  | .inr (z1_0, z1_1, z1_2) => (.exit 0, (sT 17 [], [], ⟨sB [(0, (some (rblk P 23 [false, true, true, true, true, true] .ready none [(2, (Value.pointer (some ⟨2, 0, none⟩))), (22, (Value.func (.func 27) #[] #[(Value.pointer (some ⟨12, 0, none⟩))]))] 1))), (1, (some (.marks true))), (2, (some (.cells (layT [(Value.func (.yield 3) #[] #[])]) 57))), (3, (some (rblk P 5 [false, true, false, true, true, true, true, true, true, true, true, true] .ready none [(2, (Value.pointer (some ⟨5, 0, none⟩))), (3, (Value.pointer (some ⟨6, 0, none⟩))), (4, (Value.pointer (some ⟨7, 0, none⟩))), (5, (Value.pointer (some ⟨8, 0, none⟩))), (8, (Value.pointer (some ⟨10, 0, none⟩))), (39, (Value.func (.func 23) #[] #[(Value.pointer (some ⟨11, 0, none⟩))]))] 4))), (4, (some (.marks true))), (5, (some (.cells (layT [(Value.slice (some ⟨0, 0, some 1⟩) (Args.L).length Args.cL)]) 45))), (6, (some (.cells (layT [(Value.int .i64 x1_0)]) 3))), (7, (some (.cells (layT [(Value.bool x1_1)]) 4))), (8, (some (.cells (layT [(Value.pointer (some ⟨8, 0, none⟩)), (Value.func (.func 8) #[] #[]), (Value.slice (some ⟨9, 0, none⟩) x1_3 (Nat.add big 3)), (Value.int .i64 x1_4)]) 51))), (9, (some (.cells (layT (rows rw_iii x1_2)) 55))), (10, (some (.cells (layT [(Value.int .i64 z1_0)]) 3))), (11, (some (.cells (layT [(Value.pointer (some ⟨8, 0, none⟩))]) 24))), (12, (some (.cells (layT [(Value.pointer (some ⟨13, 0, none⟩))]) 24))), (13, (some (.cells (layT [(Value.pointer (some ⟨13, 0, none⟩)), (Value.func (.func 8) #[] #[]), (Value.slice (some ⟨14, 0, none⟩) z1_2 (Nat.add big 3)), (Value.int .i64 x1_8)]) 51))), (14, (some (.cells (layT (rows rw_iii z1_1)) 55)))], 15, 0⟩))
def B_heapHeapviewportlaw23itemdrain1q2_1 (n : Nat) (x1_0 : Int) (x1_1 : Bool) (x1_2 : List (Int × Int × Int)) (x1_3 : Nat) (x1_4 : Int) (x1_8 : Int) (st : Int × List (Int × Int × Int) × Nat) : Option ((Int × List (Int × Int × Int) × Nat) ⊕ ((Int × List (Int × Int × Int) × Nat) ⊕ (Int × List (Int × Int × Int) × Nat))) := match st with
  | (x1_5, x1_6, x1_7) =>
    (m_heapHeapviewportlaw23itemLenq3 n x1_6 x1_7 x1_8).bind fun _ =>
    if ((x1_7 : Nat) : Int) > (0 : Int) then
      (m_heapHeapviewportlaw23itemTakeq2 n x1_6 x1_7 x1_8).bind fun t => match t with
      | (y1_3_0, y1_3_1, y1_3_2, y1_3_3, y1_3_4) =>
        match m_heapHeapviewportlaw23itemAll1_111110y1 n x1_0 x1_1 x1_2 x1_3 x1_4 x1_5 y1_3_0 y1_3_1 x1_8 y1_3_2 y1_3_3 with
        | none => none
        | some (.inl _) =>
          some (.inr (.inl (x1_5, y1_3_0, y1_3_1)))
        | some (.inr _) =>
          some (.inl ((w64 (x1_5 + (1 : Int))), y1_3_0, y1_3_1))
    else
      some (.inr (.inr (x1_5, x1_6, x1_7)))
def m_heapHeapviewportlaw23itemdrain1q2_1 (n : Nat) (x1_0 : Int) (x1_1 : Bool) (x1_2 : List (Int × Int × Int)) (x1_3 : Nat) (x1_4 : Int) (x1_8 : Int) (st : Int × List (Int × Int × Int) × Nat) : Option ((Int × List (Int × Int × Int) × Nat) ⊕ (Int × List (Int × Int × Int) × Nat)) := iterM (B_heapHeapviewportlaw23itemdrain1q2_1 n x1_0 x1_1 x1_2 x1_3 x1_4 x1_8) n st
set_option maxRecDepth 100000 in
theorem q_heapHeapviewportlaw23itemdrain1q2_1_0 (n : Nat) {rnd : Option Nat} (x1_0 : Int) (x1_1 : Bool) (x1_2 : List (Int × Int × Int)) (x1_3 : Nat) (x1_4 : Int) (x1_5 : Int) (x1_6 : List (Int × Int × Int)) (x1_7 : Nat) (x1_8 : Int) (hy1_1 : m_heapHeapviewportlaw23itemLenq3 n x1_6 x1_7 x1_8 = some ()) (hy1_2 : ((x1_7 : Nat) : Int) > (0 : Int)) (y1_3_0 : List (Int × Int × Int)) (y1_3_1 : Nat) (y1_3_2 : Int) (y1_3_3 : Int) (y1_3_4 : Bool) (hy1_3 : m_heapHeapviewportlaw23itemTakeq2 n x1_6 x1_7 x1_8 = some (y1_3_0, y1_3_1, y1_3_2, y1_3_3, y1_3_4)) (hy1_4 : m_heapHeapviewportlaw23itemAll1_111110y1 n x1_0 x1_1 x1_2 x1_3 x1_4 x1_5 y1_3_0 y1_3_1 x1_8 y1_3_2 y1_3_3 = some (.inl ())) : CG P rnd (fnN P 27) 15 (codeOf P 27 [false, false]) (S_heapHeapviewportlaw23itemdrain1q2_1 x1_0 x1_1 x1_2 x1_3 x1_4 x1_8 (x1_5, x1_6, x1_7)) (X_heapHeapviewportlaw23itemdrain1q2_1 x1_0 x1_1 x1_2 x1_3 x1_4 x1_8 (.inl (x1_5, y1_3_0, y1_3_1))) :=
  runC_ok hm (A := aT [(3, .call ⟨2, [(0, 13, false), (1, 14, true)], (V_heapHeapviewportlaw23itemLenq3 x1_6 x1_7 x1_8 ()), (R_heapHeapviewportlaw23itemLenq3 x1_6 x1_7 x1_8 ()), []⟩), (4, .val (.bool true)), (9, .call ⟨2, [(0, 13, false), (1, 14, true)], (V_heapHeapviewportlaw23itemTakeq2 x1_6 x1_7 x1_8 (y1_3_0, y1_3_1, y1_3_2, y1_3_3, y1_3_4)), (R_heapHeapviewportlaw23itemTakeq2 x1_6 x1_7 x1_8 (y1_3_0, y1_3_1, y1_3_2, y1_3_3, y1_3_4)), [(13, 0, false), (14, 1, true), (15, 2, false)]⟩), (19, .call ⟨15, [(0, 0, false), (1, 1, false), (2, 2, false), (3, 3, false), (4, 4, false), (5, 5, false), (6, 6, false), (7, 7, false), (8, 8, false), (9, 9, true), (10, 10, false), (11, 11, false), (12, 12, false), (13, 13, false), (14, 14, true)], (V_heapHeapviewportlaw23itemAll1_111110y1 x1_0 x1_1 x1_2 x1_3 x1_4 x1_5 y1_3_0 y1_3_1 x1_8 y1_3_2 y1_3_3 (.inl ())), (R_heapHeapviewportlaw23itemAll1_111110y1 x1_0 x1_1 x1_2 x1_3 x1_4 x1_5 y1_3_0 y1_3_1 x1_8 y1_3_2 y1_3_3 (.inl ())), [(0, 0, false), (1, 1, false), (2, 2, false), (3, 3, false), (4, 4, false), (5, 5, false), (6, 6, false), (7, 7, false), (8, 8, false), (9, 9, true), (10, 10, false), (11, 11, false), (12, 12, false), (13, 13, false), (14, 14, true)]⟩)]) (L := lT []) (wk := ⟨[], [(0, 0, false), (1, 1, false), (2, 2, false), (3, 3, false), (4, 4, false), (5, 5, false), (6, 6, false), (7, 7, false), (8, 8, false), (9, 9, true), (10, 10, false), (11, 11, false), (12, 12, false), (13, 13, false), (14, 14, true)], 15, 0⟩)
    (ps := [Gv P (.func 17) (A_heapHeapviewportlaw23itemLenq3 x1_6 x1_7 x1_8) (H_heapHeapviewportlaw23itemLenq3 x1_6 x1_7 x1_8) (V_heapHeapviewportlaw23itemLenq3 x1_6 x1_7 x1_8 ()) (R_heapHeapviewportlaw23itemLenq3 x1_6 x1_7 x1_8 ()),
    FlatB (.cells (layT (rows rw_iii x1_6)) 55),
    (Value.bool (decide (((x1_7 : Nat) : Int) > (0 : Int)))) = (Value.bool true),
    Gv P (.func 13) (A_heapHeapviewportlaw23itemTakeq2 x1_6 x1_7 x1_8) (H_heapHeapviewportlaw23itemTakeq2 x1_6 x1_7 x1_8) (V_heapHeapviewportlaw23itemTakeq2 x1_6 x1_7 x1_8 (y1_3_0, y1_3_1, y1_3_2, y1_3_3, y1_3_4)) (R_heapHeapviewportlaw23itemTakeq2 x1_6 x1_7 x1_8 (y1_3_0, y1_3_1, y1_3_2, y1_3_3, y1_3_4)),
    FlatB (.cells (layT (rows rw_iii x1_6)) 55),
    FlatB (.cells (layT (rows rw_iii y1_3_0)) 55),
    Gv P (.yield 0) (A_heapHeapviewportlaw23itemAll1_111110y1 x1_0 x1_1 x1_2 x1_3 x1_4 x1_5 y1_3_0 y1_3_1 x1_8 y1_3_2 y1_3_3) (H_heapHeapviewportlaw23itemAll1_111110y1 x1_0 x1_1 x1_2 x1_3 x1_4 x1_5 y1_3_0 y1_3_1 x1_8 y1_3_2 y1_3_3) (V_heapHeapviewportlaw23itemAll1_111110y1 x1_0 x1_1 x1_2 x1_3 x1_4 x1_5 y1_3_0 y1_3_1 x1_8 y1_3_2 y1_3_3 (.inl ())) (R_heapHeapviewportlaw23itemAll1_111110y1 x1_0 x1_1 x1_2 x1_3 x1_4 x1_5 y1_3_0 y1_3_1 x1_8 y1_3_2 y1_3_3 (.inl ())),
    FlatB (.cells (layT (rows rw_iii x1_2)) 55),
    FlatB (.cells (layT (rows rw_iii y1_3_0)) 55),
    FlatB (.cells (layT (rows rw_iii x1_2)) 55),
    FlatB (.cells (layT (rows rw_iii y1_3_0)) 55),
    FlatB (.cells (layT (rows rw_iii x1_2)) 55),
    FlatB (.cells (layT (rows rw_iii y1_3_0)) 55)]) (by kernel_rfl) ⟨(m_heapHeapviewportlaw23itemLenq3_ok n x1_6 x1_7 x1_8 () hy1_1), (rows_flat rwf_iii _ _), (vbT hy1_2), (m_heapHeapviewportlaw23itemTakeq2_ok n x1_6 x1_7 x1_8 (y1_3_0, y1_3_1, y1_3_2, y1_3_3, y1_3_4) hy1_3), (rows_flat rwf_iii _ _), (rows_flat rwf_iii _ _), (m_heapHeapviewportlaw23itemAll1_111110y1_ok n x1_0 x1_1 x1_2 x1_3 x1_4 x1_5 y1_3_0 y1_3_1 x1_8 y1_3_2 y1_3_3 (.inl ()) hy1_4), (rows_flat rwf_iii _ _), (rows_flat rwf_iii _ _), (rows_flat rwf_iii _ _), (rows_flat rwf_iii _ _), (rows_flat rwf_iii _ _), (rows_flat rwf_iii _ _), trivial⟩
set_option maxRecDepth 100000 in
theorem q_heapHeapviewportlaw23itemdrain1q2_1_1 (n : Nat) {rnd : Option Nat} (x1_0 : Int) (x1_1 : Bool) (x1_2 : List (Int × Int × Int)) (x1_3 : Nat) (x1_4 : Int) (x1_5 : Int) (x1_6 : List (Int × Int × Int)) (x1_7 : Nat) (x1_8 : Int) (hy1_1 : m_heapHeapviewportlaw23itemLenq3 n x1_6 x1_7 x1_8 = some ()) (hy1_2 : ((x1_7 : Nat) : Int) > (0 : Int)) (y1_3_0 : List (Int × Int × Int)) (y1_3_1 : Nat) (y1_3_2 : Int) (y1_3_3 : Int) (y1_3_4 : Bool) (hy1_3 : m_heapHeapviewportlaw23itemTakeq2 n x1_6 x1_7 x1_8 = some (y1_3_0, y1_3_1, y1_3_2, y1_3_3, y1_3_4)) (hy1_4 : m_heapHeapviewportlaw23itemAll1_111110y1 n x1_0 x1_1 x1_2 x1_3 x1_4 x1_5 y1_3_0 y1_3_1 x1_8 y1_3_2 y1_3_3 = some (.inr ())) : CG P rnd (fnN P 27) 15 (codeOf P 27 [false, false]) (S_heapHeapviewportlaw23itemdrain1q2_1 x1_0 x1_1 x1_2 x1_3 x1_4 x1_8 (x1_5, x1_6, x1_7)) (.normal, S_heapHeapviewportlaw23itemdrain1q2_1 x1_0 x1_1 x1_2 x1_3 x1_4 x1_8 ((w64 (x1_5 + (1 : Int))), y1_3_0, y1_3_1)) :=
  runC_ok hm (A := aT [(3, .call ⟨2, [(0, 13, false), (1, 14, true)], (V_heapHeapviewportlaw23itemLenq3 x1_6 x1_7 x1_8 ()), (R_heapHeapviewportlaw23itemLenq3 x1_6 x1_7 x1_8 ()), []⟩), (4, .val (.bool true)), (9, .call ⟨2, [(0, 13, false), (1, 14, true)], (V_heapHeapviewportlaw23itemTakeq2 x1_6 x1_7 x1_8 (y1_3_0, y1_3_1, y1_3_2, y1_3_3, y1_3_4)), (R_heapHeapviewportlaw23itemTakeq2 x1_6 x1_7 x1_8 (y1_3_0, y1_3_1, y1_3_2, y1_3_3, y1_3_4)), [(13, 0, false), (14, 1, true), (15, 2, false)]⟩), (19, .call ⟨15, [(0, 0, false), (1, 1, false), (2, 2, false), (3, 3, false), (4, 4, false), (5, 5, false), (6, 6, false), (7, 7, false), (8, 8, false), (9, 9, true), (10, 10, false), (11, 11, false), (12, 12, false), (13, 13, false), (14, 14, true)], (V_heapHeapviewportlaw23itemAll1_111110y1 x1_0 x1_1 x1_2 x1_3 x1_4 x1_5 y1_3_0 y1_3_1 x1_8 y1_3_2 y1_3_3 (.inr ())), (R_heapHeapviewportlaw23itemAll1_111110y1 x1_0 x1_1 x1_2 x1_3 x1_4 x1_5 y1_3_0 y1_3_1 x1_8 y1_3_2 y1_3_3 (.inr ())), [(0, 0, false), (1, 1, false), (2, 2, false), (3, 3, false), (4, 4, false), (5, 5, false), (6, 6, false), (7, 7, false), (8, 8, false), (9, 9, true), (10, 10, false), (11, 11, false), (12, 12, false), (13, 13, false), (14, 14, true)]⟩)]) (L := lT []) (wk := ⟨[0, 1], [(0, 0, false), (1, 1, false), (2, 2, false), (3, 3, false), (4, 4, false), (5, 5, false), (6, 6, false), (7, 7, false), (8, 8, false), (9, 9, true), (10, 10, false), (11, 11, false), (12, 12, false), (13, 13, false), (14, 14, true)], 15, 0⟩)
    (ps := [Gv P (.func 17) (A_heapHeapviewportlaw23itemLenq3 x1_6 x1_7 x1_8) (H_heapHeapviewportlaw23itemLenq3 x1_6 x1_7 x1_8) (V_heapHeapviewportlaw23itemLenq3 x1_6 x1_7 x1_8 ()) (R_heapHeapviewportlaw23itemLenq3 x1_6 x1_7 x1_8 ()),
    FlatB (.cells (layT (rows rw_iii x1_6)) 55),
    (Value.bool (decide (((x1_7 : Nat) : Int) > (0 : Int)))) = (Value.bool true),
    Gv P (.func 13) (A_heapHeapviewportlaw23itemTakeq2 x1_6 x1_7 x1_8) (H_heapHeapviewportlaw23itemTakeq2 x1_6 x1_7 x1_8) (V_heapHeapviewportlaw23itemTakeq2 x1_6 x1_7 x1_8 (y1_3_0, y1_3_1, y1_3_2, y1_3_3, y1_3_4)) (R_heapHeapviewportlaw23itemTakeq2 x1_6 x1_7 x1_8 (y1_3_0, y1_3_1, y1_3_2, y1_3_3, y1_3_4)),
    FlatB (.cells (layT (rows rw_iii x1_6)) 55),
    FlatB (.cells (layT (rows rw_iii y1_3_0)) 55),
    Gv P (.yield 0) (A_heapHeapviewportlaw23itemAll1_111110y1 x1_0 x1_1 x1_2 x1_3 x1_4 x1_5 y1_3_0 y1_3_1 x1_8 y1_3_2 y1_3_3) (H_heapHeapviewportlaw23itemAll1_111110y1 x1_0 x1_1 x1_2 x1_3 x1_4 x1_5 y1_3_0 y1_3_1 x1_8 y1_3_2 y1_3_3) (V_heapHeapviewportlaw23itemAll1_111110y1 x1_0 x1_1 x1_2 x1_3 x1_4 x1_5 y1_3_0 y1_3_1 x1_8 y1_3_2 y1_3_3 (.inr ())) (R_heapHeapviewportlaw23itemAll1_111110y1 x1_0 x1_1 x1_2 x1_3 x1_4 x1_5 y1_3_0 y1_3_1 x1_8 y1_3_2 y1_3_3 (.inr ())),
    FlatB (.cells (layT (rows rw_iii x1_2)) 55),
    FlatB (.cells (layT (rows rw_iii y1_3_0)) 55),
    FlatB (.cells (layT (rows rw_iii x1_2)) 55),
    FlatB (.cells (layT (rows rw_iii y1_3_0)) 55),
    FlatB (.cells (layT (rows rw_iii x1_2)) 55),
    FlatB (.cells (layT (rows rw_iii y1_3_0)) 55)]) (by kernel_rfl) ⟨(m_heapHeapviewportlaw23itemLenq3_ok n x1_6 x1_7 x1_8 () hy1_1), (rows_flat rwf_iii _ _), (vbT hy1_2), (m_heapHeapviewportlaw23itemTakeq2_ok n x1_6 x1_7 x1_8 (y1_3_0, y1_3_1, y1_3_2, y1_3_3, y1_3_4) hy1_3), (rows_flat rwf_iii _ _), (rows_flat rwf_iii _ _), (m_heapHeapviewportlaw23itemAll1_111110y1_ok n x1_0 x1_1 x1_2 x1_3 x1_4 x1_5 y1_3_0 y1_3_1 x1_8 y1_3_2 y1_3_3 (.inr ()) hy1_4), (rows_flat rwf_iii _ _), (rows_flat rwf_iii _ _), (rows_flat rwf_iii _ _), (rows_flat rwf_iii _ _), (rows_flat rwf_iii _ _), (rows_flat rwf_iii _ _), trivial⟩
set_option maxRecDepth 100000 in
theorem q_heapHeapviewportlaw23itemdrain1q2_1_2 (n : Nat) {rnd : Option Nat} (x1_0 : Int) (x1_1 : Bool) (x1_2 : List (Int × Int × Int)) (x1_3 : Nat) (x1_4 : Int) (x1_5 : Int) (x1_6 : List (Int × Int × Int)) (x1_7 : Nat) (x1_8 : Int) (hy1_1 : m_heapHeapviewportlaw23itemLenq3 n x1_6 x1_7 x1_8 = some ()) (hy1_2 : ¬ (((x1_7 : Nat) : Int) > (0 : Int))) : CG P rnd (fnN P 27) 15 (codeOf P 27 [false, false]) (S_heapHeapviewportlaw23itemdrain1q2_1 x1_0 x1_1 x1_2 x1_3 x1_4 x1_8 (x1_5, x1_6, x1_7)) (X_heapHeapviewportlaw23itemdrain1q2_1 x1_0 x1_1 x1_2 x1_3 x1_4 x1_8 (.inr (x1_5, x1_6, x1_7))) :=
  runC_ok hm (A := aT [(3, .call ⟨2, [(0, 13, false), (1, 14, true)], (V_heapHeapviewportlaw23itemLenq3 x1_6 x1_7 x1_8 ()), (R_heapHeapviewportlaw23itemLenq3 x1_6 x1_7 x1_8 ()), []⟩), (4, .val (.bool false))]) (L := lT []) (wk := ⟨[], [(0, 0, false), (1, 1, false), (2, 2, false), (3, 3, false), (4, 4, false), (5, 5, false), (6, 6, false), (7, 7, false), (8, 8, false), (9, 9, true), (10, 10, false), (11, 11, false), (12, 12, false), (13, 13, false), (14, 14, true)], 15, 0⟩)
    (ps := [Gv P (.func 17) (A_heapHeapviewportlaw23itemLenq3 x1_6 x1_7 x1_8) (H_heapHeapviewportlaw23itemLenq3 x1_6 x1_7 x1_8) (V_heapHeapviewportlaw23itemLenq3 x1_6 x1_7 x1_8 ()) (R_heapHeapviewportlaw23itemLenq3 x1_6 x1_7 x1_8 ()),
    FlatB (.cells (layT (rows rw_iii x1_6)) 55),
    (Value.bool (decide (((x1_7 : Nat) : Int) > (0 : Int)))) = (Value.bool false),
    FlatB (.cells (layT (rows rw_iii x1_2)) 55),
    FlatB (.cells (layT (rows rw_iii x1_6)) 55)]) (by kernel_rfl) ⟨(m_heapHeapviewportlaw23itemLenq3_ok n x1_6 x1_7 x1_8 () hy1_1), (rows_flat rwf_iii _ _), (vbF hy1_2), (rows_flat rwf_iii _ _), (rows_flat rwf_iii _ _), trivial⟩
theorem m_heapHeapviewportlaw23itemdrain1q2_1_ok (n : Nat) {rnd : Option Nat} (x1_0 : Int) (x1_1 : Bool) (x1_2 : List (Int × Int × Int)) (x1_3 : Nat) (x1_4 : Int) (x1_8 : Int) (st : Int × List (Int × Int × Int) × Nat) (r : (Int × List (Int × Int × Int) × Nat) ⊕ (Int × List (Int × Int × Int) × Nat)) (h : m_heapHeapviewportlaw23itemdrain1q2_1 n x1_0 x1_1 x1_2 x1_3 x1_4 x1_8 st = some r) : CG P rnd (fnN P 27) 15 (codeOf P 27 [false]) (S_heapHeapviewportlaw23itemdrain1q2_1 x1_0 x1_1 x1_2 x1_3 x1_4 x1_8 st) (X_heapHeapviewportlaw23itemdrain1q2_1 x1_0 x1_1 x1_2 x1_3 x1_4 x1_8 r) :=
  CG.iter (b := codeOf P 27 [false, false]) (by kernel_rfl) (body := B_heapHeapviewportlaw23itemdrain1q2_1 n x1_0 x1_1 x1_2 x1_3 x1_4 x1_8) (S := S_heapHeapviewportlaw23itemdrain1q2_1 x1_0 x1_1 x1_2 x1_3 x1_4 x1_8) (X := X_heapHeapviewportlaw23itemdrain1q2_1 x1_0 x1_1 x1_2 x1_3 x1_4 x1_8)
    (fun s s' h => by
    obtain ⟨x1_5, x1_6, x1_7⟩ := s
    unfold B_heapHeapviewportlaw23itemdrain1q2_1 at h
    dsimp only at h
    obtain ⟨_, hy1_1, h⟩ := Option.bind_eq_some_iff.1 h
    by_cases hy1_2 : ((x1_7 : Nat) : Int) > (0 : Int)
    · rw [if_pos hy1_2] at h
      obtain ⟨⟨y1_3_0, y1_3_1, y1_3_2, y1_3_3, y1_3_4⟩, hy1_3, h⟩ := Option.bind_eq_some_iff.1 h
      dsimp only at h
      rcases hy1_4 : m_heapHeapviewportlaw23itemAll1_111110y1 n x1_0 x1_1 x1_2 x1_3 x1_4 x1_5 y1_3_0 y1_3_1 x1_8 y1_3_2 y1_3_3 with _ | (⟨⟩ | ⟨⟩)
      · rw [hy1_4] at h; cases h
      · rw [hy1_4] at h
        dsimp only at h
        cases h
      · rw [hy1_4] at h
        dsimp only at h
        obtain rfl := Sum.inl.inj (Option.some.inj h); exact q_heapHeapviewportlaw23itemdrain1q2_1_1 n x1_0 x1_1 x1_2 x1_3 x1_4 x1_5 x1_6 x1_7 x1_8 hy1_1 hy1_2 y1_3_0 y1_3_1 y1_3_2 y1_3_3 y1_3_4 hy1_3 hy1_4
    · rw [if_neg hy1_2] at h
      cases h)
    (fun s r h => by
    obtain ⟨x1_5, x1_6, x1_7⟩ := s
    unfold B_heapHeapviewportlaw23itemdrain1q2_1 at h
    dsimp only at h
    obtain ⟨_, hy1_1, h⟩ := Option.bind_eq_some_iff.1 h
    by_cases hy1_2 : ((x1_7 : Nat) : Int) > (0 : Int)
    · rw [if_pos hy1_2] at h
      obtain ⟨⟨y1_3_0, y1_3_1, y1_3_2, y1_3_3, y1_3_4⟩, hy1_3, h⟩ := Option.bind_eq_some_iff.1 h
      dsimp only at h
      rcases hy1_4 : m_heapHeapviewportlaw23itemAll1_111110y1 n x1_0 x1_1 x1_2 x1_3 x1_4 x1_5 y1_3_0 y1_3_1 x1_8 y1_3_2 y1_3_3 with _ | (⟨⟩ | ⟨⟩)
      · rw [hy1_4] at h; cases h
      · rw [hy1_4] at h
        dsimp only at h
        obtain rfl := Sum.inr.inj (Option.some.inj h); exact q_heapHeapviewportlaw23itemdrain1q2_1_0 n x1_0 x1_1 x1_2 x1_3 x1_4 x1_5 x1_6 x1_7 x1_8 hy1_1 hy1_2 y1_3_0 y1_3_1 y1_3_2 y1_3_3 y1_3_4 hy1_3 hy1_4
      · rw [hy1_4] at h
        dsimp only at h
        cases h
    · rw [if_neg hy1_2] at h
      obtain rfl := Sum.inr.inj (Option.some.inj h); exact q_heapHeapviewportlaw23itemdrain1q2_1_2 n x1_0 x1_1 x1_2 x1_3 x1_4 x1_5 x1_6 x1_7 x1_8 hy1_1 hy1_2)
    (fun r => by intro hx; rcases r with _ | _ <;> cases hx) h
noncomputable def A_heapHeapviewportlaw23itemdrain1q2 (a0 : Int) (a1 : Bool) (a2 : List (Int × Int × Int)) (a3 : Nat) (a4 : Int) (a5 : Int) (a6 : List (Int × Int × Int)) (a7 : Int) : List Value := [(Value.func (.yield 0) #[] #[]), (Value.pointer (some ⟨12, 0, none⟩))]
noncomputable def H_heapHeapviewportlaw23itemdrain1q2 (a0 : Int) (a1 : Bool) (a2 : List (Int × Int × Int)) (a3 : Nat) (a4 : Int) (a5 : Int) (a6 : List (Int × Int × Int)) (a7 : Int) : AH := ⟨sB [(0, (some (rblk P 23 [false, true, true, true, true, true] .ready none [(2, (Value.pointer (some ⟨2, 0, none⟩))), (22, (Value.func (.func 27) #[] #[(Value.pointer (some ⟨12, 0, none⟩))]))] 1))), (1, (some (.marks true))), (2, (some (.cells (layT [(Value.func (.yield 3) #[] #[])]) 57))), (3, (some (rblk P 5 [false, true, false, true, true, true, true, true, true, true, true, true] .ready none [(2, (Value.pointer (some ⟨5, 0, none⟩))), (3, (Value.pointer (some ⟨6, 0, none⟩))), (4, (Value.pointer (some ⟨7, 0, none⟩))), (5, (Value.pointer (some ⟨8, 0, none⟩))), (8, (Value.pointer (some ⟨10, 0, none⟩))), (39, (Value.func (.func 23) #[] #[(Value.pointer (some ⟨11, 0, none⟩))]))] 4))), (4, (some (.marks true))), (5, (some (.cells (layT [(Value.slice (some ⟨0, 0, some 1⟩) (Args.L).length Args.cL)]) 45))), (6, (some (.cells (layT [(Value.int .i64 a0)]) 3))), (7, (some (.cells (layT [(Value.bool a1)]) 4))), (8, (some (.cells (layT [(Value.pointer (some ⟨8, 0, none⟩)), (Value.func (.func 8) #[] #[]), (Value.slice (some ⟨9, 0, none⟩) a3 (Nat.add big 3)), (Value.int .i64 a4)]) 51))), (9, (some (.cells (layT (rows rw_iii a2)) 55))), (10, (some (.cells (layT [(Value.int .i64 a5)]) 3))), (11, (some (.cells (layT [(Value.pointer (some ⟨8, 0, none⟩))]) 24))), (12, (some (.cells (layT [(Value.pointer (some ⟨13, 0, none⟩))]) 24))), (13, (some (.cells (layT [(Value.pointer (some ⟨13, 0, none⟩)), (Value.func (.func 8) #[] #[]), (Value.slice (some ⟨14, 0, none⟩) (a6).length (Nat.add big 3)), (Value.int .i64 a7)]) 51))), (14, (some (.cells (layT (rows rw_iii a6)) 55)))], 15, 15⟩
noncomputable def V_heapHeapviewportlaw23itemdrain1q2 (a0 : Int) (a1 : Bool) (a2 : List (Int × Int × Int)) (a3 : Nat) (a4 : Int) (a5 : Int) (a6 : List (Int × Int × Int)) (a7 : Int) (r : (Int × List (Int × Int × Int) × Nat) ⊕ (Int × List (Int × Int × Int) × Nat)) : Value := match r with
  | .inl (o0, o1, o2) => (Value.tuple #[])
  | .inr (o0, o1, o2) => (Value.tuple #[])
noncomputable def R_heapHeapviewportlaw23itemdrain1q2 (a0 : Int) (a1 : Bool) (a2 : List (Int × Int × Int)) (a3 : Nat) (a4 : Int) (a5 : Int) (a6 : List (Int × Int × Int)) (a7 : Int) (r : (Int × List (Int × Int × Int) × Nat) ⊕ (Int × List (Int × Int × Int) × Nat)) : AH := match r with
  | .inl (o0, o1, o2) => ⟨sB [(0, (some (rblk P 23 [false, true, true, true, true, true] .done (some .ret) [(2, (Value.pointer (some ⟨2, 0, none⟩))), (22, (Value.func (.func 27) #[] #[(Value.pointer (some ⟨12, 0, none⟩))]))] 1))), (1, (some (.marks true))), (2, (some (.cells (layT [(Value.func (.yield 3) #[] #[])]) 57))), (3, (some (rblk P 5 [false, true, false, true, true, true, true, true, true, true, true, true] .done (some (.exit 2)) [(2, (Value.pointer (some ⟨5, 0, none⟩))), (3, (Value.pointer (some ⟨6, 0, none⟩))), (4, (Value.pointer (some ⟨7, 0, none⟩))), (5, (Value.pointer (some ⟨8, 0, none⟩))), (8, (Value.pointer (some ⟨10, 0, none⟩))), (39, (Value.func (.func 23) #[] #[(Value.pointer (some ⟨11, 0, none⟩))]))] 4))), (4, (some (.marks true))), (5, (some (.cells (layT [(Value.slice (some ⟨0, 0, some 1⟩) (Args.L).length Args.cL)]) 45))), (6, (some (.cells (layT [(Value.int .i64 a0)]) 3))), (7, (some (.cells (layT [(Value.bool a1)]) 4))), (8, (some (.cells (layT [(Value.pointer (some ⟨8, 0, none⟩)), (Value.func (.func 8) #[] #[]), (Value.slice (some ⟨9, 0, none⟩) a3 (Nat.add big 3)), (Value.int .i64 a4)]) 51))), (9, (some (.cells (layT (rows rw_iii a2)) 55))), (10, (some (.cells (layT [(Value.int .i64 o0)]) 3))), (11, (some (.cells (layT [(Value.pointer (some ⟨8, 0, none⟩))]) 24))), (12, (some (.cells (layT [(Value.pointer (some ⟨13, 0, none⟩))]) 24))), (13, (some (.cells (layT [(Value.pointer (some ⟨13, 0, none⟩)), (Value.func (.func 8) #[] #[]), (Value.slice (some ⟨14, 0, none⟩) o2 (Nat.add big 3)), (Value.int .i64 a7)]) 51))), (14, (some (.cells (layT (rows rw_iii o1)) 55)))], 15, 0⟩
  | .inr (o0, o1, o2) => ⟨sB [(0, (some (rblk P 23 [false, true, true, true, true, true] .ready none [(2, (Value.pointer (some ⟨2, 0, none⟩))), (22, (Value.func (.func 27) #[] #[(Value.pointer (some ⟨12, 0, none⟩))]))] 1))), (1, (some (.marks true))), (2, (some (.cells (layT [(Value.func (.yield 3) #[] #[])]) 57))), (3, (some (rblk P 5 [false, true, false, true, true, true, true, true, true, true, true, true] .ready none [(2, (Value.pointer (some ⟨5, 0, none⟩))), (3, (Value.pointer (some ⟨6, 0, none⟩))), (4, (Value.pointer (some ⟨7, 0, none⟩))), (5, (Value.pointer (some ⟨8, 0, none⟩))), (8, (Value.pointer (some ⟨10, 0, none⟩))), (39, (Value.func (.func 23) #[] #[(Value.pointer (some ⟨11, 0, none⟩))]))] 4))), (4, (some (.marks true))), (5, (some (.cells (layT [(Value.slice (some ⟨0, 0, some 1⟩) (Args.L).length Args.cL)]) 45))), (6, (some (.cells (layT [(Value.int .i64 a0)]) 3))), (7, (some (.cells (layT [(Value.bool a1)]) 4))), (8, (some (.cells (layT [(Value.pointer (some ⟨8, 0, none⟩)), (Value.func (.func 8) #[] #[]), (Value.slice (some ⟨9, 0, none⟩) a3 (Nat.add big 3)), (Value.int .i64 a4)]) 51))), (9, (some (.cells (layT (rows rw_iii a2)) 55))), (10, (some (.cells (layT [(Value.int .i64 o0)]) 3))), (11, (some (.cells (layT [(Value.pointer (some ⟨8, 0, none⟩))]) 24))), (12, (some (.cells (layT [(Value.pointer (some ⟨13, 0, none⟩))]) 24))), (13, (some (.cells (layT [(Value.pointer (some ⟨13, 0, none⟩)), (Value.func (.func 8) #[] #[]), (Value.slice (some ⟨14, 0, none⟩) o2 (Nat.add big 3)), (Value.int .i64 a7)]) 51))), (14, (some (.cells (layT (rows rw_iii o1)) 55)))], 15, 0⟩
def m_heapHeapviewportlaw23itemdrain1q2 (n : Nat) (a0 : Int) (a1 : Bool) (a2 : List (Int × Int × Int)) (a3 : Nat) (a4 : Int) (a5 : Int) (a6 : List (Int × Int × Int)) (a7 : Int) : Option ((Int × List (Int × Int × Int) × Nat) ⊕ (Int × List (Int × Int × Int) × Nat)) :=
  match m_heapHeapviewportlaw23itemdrain1q2_1 n a0 a1 a2 a3 a4 a7 (a5, a6, ((a6).length)) with
  | none => none
  | some (.inl (c1_0, c1_1, c1_2)) =>
    some (.inl (c1_0, c1_1, c1_2))
  | some (.inr (c1_0, c1_1, c1_2)) =>
    some (.inr (c1_0, c1_1, c1_2))
set_option maxRecDepth 100000 in
theorem p_heapHeapviewportlaw23itemdrain1q2_0 (n : Nat) (a0 : Int) (a1 : Bool) (a2 : List (Int × Int × Int)) (a3 : Nat) (a4 : Int) (a5 : Int) (a6 : List (Int × Int × Int)) (a7 : Int) (c1_0 : Int) (c1_1 : List (Int × Int × Int)) (c1_2 : Nat) (hc1 : m_heapHeapviewportlaw23itemdrain1q2_1 n a0 a1 a2 a3 a4 a7 (a5, a6, ((a6).length)) = some (.inl (c1_0, c1_1, c1_2))) : Gv P (.func 27) (A_heapHeapviewportlaw23itemdrain1q2 a0 a1 a2 a3 a4 a5 a6 a7) (H_heapHeapviewportlaw23itemdrain1q2 a0 a1 a2 a3 a4 a5 a6 a7) (V_heapHeapviewportlaw23itemdrain1q2 a0 a1 a2 a3 a4 a5 a6 a7 (.inl (c1_0, c1_1, c1_2))) (R_heapHeapviewportlaw23itemdrain1q2 a0 a1 a2 a3 a4 a5 a6 a7 (.inl (c1_0, c1_1, c1_2))) :=
  runF_ok hm (A := aT []) (L := lT [(1, ⟨⟨[0, 1], [(0, 0, false), (1, 1, false), (2, 2, false), (3, 3, false), (4, 4, false), (5, 5, false), (6, 6, false), (7, 7, false), (8, 8, false), (9, 9, true), (10, 10, false), (11, 11, false), (12, 12, false), (13, 13, false), (14, 14, true)], 15, 0⟩, (X_heapHeapviewportlaw23itemdrain1q2_1 a0 a1 a2 a3 a4 a7 (.inl (c1_0, c1_1, c1_2))).1, (X_heapHeapviewportlaw23itemdrain1q2_1 a0 a1 a2 a3 a4 a7 (.inl (c1_0, c1_1, c1_2))).2⟩)]) (wk := ⟨[], [(0, 0, false), (1, 1, false), (2, 2, false), (3, 3, false), (4, 4, false), (5, 5, false), (6, 6, false), (7, 7, false), (8, 8, false), (9, 9, true), (10, 10, false), (11, 11, false), (12, 12, false), (13, 13, false), (14, 14, true)], 15, 0⟩)
    (ps := [CG P none (fnN P 27) 15 (codeOf P 27 [false]) (S_heapHeapviewportlaw23itemdrain1q2_1 a0 a1 a2 a3 a4 a7 (a5, a6, ((a6).length))) (X_heapHeapviewportlaw23itemdrain1q2_1 a0 a1 a2 a3 a4 a7 (.inl (c1_0, c1_1, c1_2))),
    FlatB (.cells (layT (rows rw_iii a2)) 55),
    FlatB (.cells (layT (rows rw_iii a6)) 55),
    FlatB (.cells (layT (rows rw_iii a2)) 55),
    FlatB (.cells (layT (rows rw_iii c1_1)) 55)]) (by kernel_rfl) ⟨(m_heapHeapviewportlaw23itemdrain1q2_1_ok n a0 a1 a2 a3 a4 a7 (a5, a6, ((a6).length)) (.inl (c1_0, c1_1, c1_2)) hc1), (rows_flat rwf_iii _ _), (rows_flat rwf_iii _ _), (rows_flat rwf_iii _ _), (rows_flat rwf_iii _ _), trivial⟩
set_option maxRecDepth 100000 in
theorem p_heapHeapviewportlaw23itemdrain1q2_1 (n : Nat) (a0 : Int) (a1 : Bool) (a2 : List (Int × Int × Int)) (a3 : Nat) (a4 : Int) (a5 : Int) (a6 : List (Int × Int × Int)) (a7 : Int) (c1_0 : Int) (c1_1 : List (Int × Int × Int)) (c1_2 : Nat) (hc1 : m_heapHeapviewportlaw23itemdrain1q2_1 n a0 a1 a2 a3 a4 a7 (a5, a6, ((a6).length)) = some (.inr (c1_0, c1_1, c1_2))) : Gv P (.func 27) (A_heapHeapviewportlaw23itemdrain1q2 a0 a1 a2 a3 a4 a5 a6 a7) (H_heapHeapviewportlaw23itemdrain1q2 a0 a1 a2 a3 a4 a5 a6 a7) (V_heapHeapviewportlaw23itemdrain1q2 a0 a1 a2 a3 a4 a5 a6 a7 (.inr (c1_0, c1_1, c1_2))) (R_heapHeapviewportlaw23itemdrain1q2 a0 a1 a2 a3 a4 a5 a6 a7 (.inr (c1_0, c1_1, c1_2))) :=
  runF_ok hm (A := aT []) (L := lT [(1, ⟨⟨[0, 1], [(0, 0, false), (1, 1, false), (2, 2, false), (3, 3, false), (4, 4, false), (5, 5, false), (6, 6, false), (7, 7, false), (8, 8, false), (9, 9, true), (10, 10, false), (11, 11, false), (12, 12, false), (13, 13, false), (14, 14, true)], 15, 0⟩, (X_heapHeapviewportlaw23itemdrain1q2_1 a0 a1 a2 a3 a4 a7 (.inr (c1_0, c1_1, c1_2))).1, (X_heapHeapviewportlaw23itemdrain1q2_1 a0 a1 a2 a3 a4 a7 (.inr (c1_0, c1_1, c1_2))).2⟩)]) (wk := ⟨[], [(0, 0, false), (1, 1, false), (2, 2, false), (3, 3, false), (4, 4, false), (5, 5, false), (6, 6, false), (7, 7, false), (8, 8, false), (9, 9, true), (10, 10, false), (11, 11, false), (12, 12, false), (13, 13, false), (14, 14, true)], 15, 0⟩)
    (ps := [CG P none (fnN P 27) 15 (codeOf P 27 [false]) (S_heapHeapviewportlaw23itemdrain1q2_1 a0 a1 a2 a3 a4 a7 (a5, a6, ((a6).length))) (X_heapHeapviewportlaw23itemdrain1q2_1 a0 a1 a2 a3 a4 a7 (.inr (c1_0, c1_1, c1_2))),
    FlatB (.cells (layT (rows rw_iii a2)) 55),
    FlatB (.cells (layT (rows rw_iii a6)) 55),
    FlatB (.cells (layT (rows rw_iii a2)) 55),
    FlatB (.cells (layT (rows rw_iii c1_1)) 55)]) (by kernel_rfl) ⟨(m_heapHeapviewportlaw23itemdrain1q2_1_ok n a0 a1 a2 a3 a4 a7 (a5, a6, ((a6).length)) (.inr (c1_0, c1_1, c1_2)) hc1), (rows_flat rwf_iii _ _), (rows_flat rwf_iii _ _), (rows_flat rwf_iii _ _), (rows_flat rwf_iii _ _), trivial⟩
theorem m_heapHeapviewportlaw23itemdrain1q2_ok (n : Nat) (a0 : Int) (a1 : Bool) (a2 : List (Int × Int × Int)) (a3 : Nat) (a4 : Int) (a5 : Int) (a6 : List (Int × Int × Int)) (a7 : Int) (r : (Int × List (Int × Int × Int) × Nat) ⊕ (Int × List (Int × Int × Int) × Nat)) (h : m_heapHeapviewportlaw23itemdrain1q2 n a0 a1 a2 a3 a4 a5 a6 a7 = some r) : Gv P (.func 27) (A_heapHeapviewportlaw23itemdrain1q2 a0 a1 a2 a3 a4 a5 a6 a7) (H_heapHeapviewportlaw23itemdrain1q2 a0 a1 a2 a3 a4 a5 a6 a7) (V_heapHeapviewportlaw23itemdrain1q2 a0 a1 a2 a3 a4 a5 a6 a7 r) (R_heapHeapviewportlaw23itemdrain1q2 a0 a1 a2 a3 a4 a5 a6 a7 r) := by
  unfold m_heapHeapviewportlaw23itemdrain1q2 at h
  rcases hc1 : m_heapHeapviewportlaw23itemdrain1q2_1 n a0 a1 a2 a3 a4 a7 (a5, a6, ((a6).length)) with _ | (⟨c1_0, c1_1, c1_2⟩ | ⟨c1_0, c1_1, c1_2⟩)
  · rw [hc1] at h; cases h
  · rw [hc1] at h
    dsimp only at h
    obtain rfl := Option.some.inj h; exact p_heapHeapviewportlaw23itemdrain1q2_0 n a0 a1 a2 a3 a4 a5 a6 a7 c1_0 c1_1 c1_2 hc1
  · rw [hc1] at h
    dsimp only at h
    obtain rfl := Option.some.inj h; exact p_heapHeapviewportlaw23itemdrain1q2_1 n a0 a1 a2 a3 a4 a5 a6 a7 c1_0 c1_1 c1_2 hc1

noncomputable def A_heapHeapviewportlaw23itemAll1q2 (a0 : Int) (a1 : Bool) (a2 : List (Int × Int × Int)) (a3 : Nat) (a4 : Int) (a5 : Int) : List Value := [(Value.func (.yield 0) #[] #[]), (Value.pointer (some ⟨8, 0, none⟩))]
noncomputable def H_heapHeapviewportlaw23itemAll1q2 (a0 : Int) (a1 : Bool) (a2 : List (Int × Int × Int)) (a3 : Nat) (a4 : Int) (a5 : Int) : AH := ⟨sB [(0, (some (rblk P 5 [false, true, false, true, true, true, true, true, true, true, true, true] .ready none [(2, (Value.pointer (some ⟨2, 0, none⟩))), (3, (Value.pointer (some ⟨3, 0, none⟩))), (4, (Value.pointer (some ⟨4, 0, none⟩))), (5, (Value.pointer (some ⟨5, 0, none⟩))), (8, (Value.pointer (some ⟨7, 0, none⟩))), (39, (Value.func (.func 23) #[] #[(Value.pointer (some ⟨8, 0, none⟩))]))] 1))), (1, (some (.marks true))), (2, (some (.cells (layT [(Value.slice (some ⟨0, 0, some 1⟩) (Args.L).length Args.cL)]) 45))), (3, (some (.cells (layT [(Value.int .i64 a0)]) 3))), (4, (some (.cells (layT [(Value.bool a1)]) 4))), (5, (some (.cells (layT [(Value.pointer (some ⟨5, 0, none⟩)), (Value.func (.func 8) #[] #[]), (Value.slice (some ⟨6, 0, none⟩) a3 (Nat.add big 3)), (Value.int .i64 a4)]) 51))), (6, (some (.cells (layT (rows rw_iii a2)) 55))), (7, (some (.cells (layT [(Value.int .i64 a5)]) 3))), (8, (some (.cells (layT [(Value.pointer (some ⟨5, 0, none⟩))]) 24)))], 9, 9⟩
noncomputable def V_heapHeapviewportlaw23itemAll1q2 (a0 : Int) (a1 : Bool) (a2 : List (Int × Int × Int)) (a3 : Nat) (a4 : Int) (a5 : Int) (r : (Int) ⊕ (Int)) : Value := match r with
  | .inl o0 => (Value.tuple #[])
  | .inr o0 => (Value.tuple #[])
noncomputable def R_heapHeapviewportlaw23itemAll1q2 (a0 : Int) (a1 : Bool) (a2 : List (Int × Int × Int)) (a3 : Nat) (a4 : Int) (a5 : Int) (r : (Int) ⊕ (Int)) : AH := match r with
  | .inl o0 => ⟨sB [(0, (some (rblk P 5 [false, true, false, true, true, true, true, true, true, true, true, true] .done (some (.exit 2)) [(2, (Value.pointer (some ⟨2, 0, none⟩))), (3, (Value.pointer (some ⟨3, 0, none⟩))), (4, (Value.pointer (some ⟨4, 0, none⟩))), (5, (Value.pointer (some ⟨5, 0, none⟩))), (8, (Value.pointer (some ⟨7, 0, none⟩))), (39, (Value.func (.func 23) #[] #[(Value.pointer (some ⟨8, 0, none⟩))]))] 1))), (1, (some (.marks true))), (2, (some (.cells (layT [(Value.slice (some ⟨0, 0, some 1⟩) (Args.L).length Args.cL)]) 45))), (3, (some (.cells (layT [(Value.int .i64 a0)]) 3))), (4, (some (.cells (layT [(Value.bool a1)]) 4))), (5, (some (.cells (layT [(Value.pointer (some ⟨5, 0, none⟩)), (Value.func (.func 8) #[] #[]), (Value.slice (some ⟨6, 0, none⟩) a3 (Nat.add big 3)), (Value.int .i64 a4)]) 51))), (6, (some (.cells (layT (rows rw_iii a2)) 55))), (7, (some (.cells (layT [(Value.int .i64 o0)]) 3))), (8, (some (.cells (layT [(Value.pointer (some ⟨5, 0, none⟩))]) 24))), (9, (some (.marks false)))], 10, 0⟩
  | .inr o0 => ⟨sB [(0, (some (rblk P 5 [false, true, false, true, true, true, true, true, true, true, true, true] .ready none [(2, (Value.pointer (some ⟨2, 0, none⟩))), (3, (Value.pointer (some ⟨3, 0, none⟩))), (4, (Value.pointer (some ⟨4, 0, none⟩))), (5, (Value.pointer (some ⟨5, 0, none⟩))), (8, (Value.pointer (some ⟨7, 0, none⟩))), (39, (Value.func (.func 23) #[] #[(Value.pointer (some ⟨8, 0, none⟩))]))] 1))), (1, (some (.marks true))), (2, (some (.cells (layT [(Value.slice (some ⟨0, 0, some 1⟩) (Args.L).length Args.cL)]) 45))), (3, (some (.cells (layT [(Value.int .i64 a0)]) 3))), (4, (some (.cells (layT [(Value.bool a1)]) 4))), (5, (some (.cells (layT [(Value.pointer (some ⟨5, 0, none⟩)), (Value.func (.func 8) #[] #[]), (Value.slice (some ⟨6, 0, none⟩) a3 (Nat.add big 3)), (Value.int .i64 a4)]) 51))), (6, (some (.cells (layT (rows rw_iii a2)) 55))), (7, (some (.cells (layT [(Value.int .i64 o0)]) 3))), (8, (some (.cells (layT [(Value.pointer (some ⟨5, 0, none⟩))]) 24))), (9, (some (.marks false)))], 10, 0⟩
def m_heapHeapviewportlaw23itemAll1q2 (n : Nat) (a0 : Int) (a1 : Bool) (a2 : List (Int × Int × Int)) (a3 : Nat) (a4 : Int) (a5 : Int) : Option ((Int) ⊕ (Int)) :=
  (m_heapHeapviewportlaw23itemvalidq3 n a2 a3 a4).bind fun _ =>
  (m_heapNewviewportref23Itemq1 n).bind fun _ =>
  (m_slicesCloneviewportref23Itemq2 n a2 a3).bind fun _ =>
  (m_heapHeapviewportlaw23itemdrainq2 n (([] : List (Int × Int × Int)) ++ a2) 0).bind fun _ =>
  match m_heapHeapviewportlaw23itemdrain1q2 n a0 a1 a2 a3 a4 a5 (([] : List (Int × Int × Int)) ++ a2) 0 with
  | none => none
  | some (.inl (c5_0, c5_1, c5_2)) =>
    some (.inl c5_0)
  | some (.inr (c5_0, c5_1, c5_2)) =>
    some (.inr c5_0)
set_option maxRecDepth 100000 in
theorem p_heapHeapviewportlaw23itemAll1q2_0 (n : Nat) (a0 : Int) (a1 : Bool) (a2 : List (Int × Int × Int)) (a3 : Nat) (a4 : Int) (a5 : Int) (hc1 : m_heapHeapviewportlaw23itemvalidq3 n a2 a3 a4 = some ()) (hc2 : m_heapNewviewportref23Itemq1 n = some ()) (hc3 : m_slicesCloneviewportref23Itemq2 n a2 a3 = some ()) (hc4 : m_heapHeapviewportlaw23itemdrainq2 n (([] : List (Int × Int × Int)) ++ a2) 0 = some ()) (c5_0 : Int) (c5_1 : List (Int × Int × Int)) (c5_2 : Nat) (hc5 : m_heapHeapviewportlaw23itemdrain1q2 n a0 a1 a2 a3 a4 a5 (([] : List (Int × Int × Int)) ++ a2) 0 = some (.inl (c5_0, c5_1, c5_2))) : Gv P (.func 23) (A_heapHeapviewportlaw23itemAll1q2 a0 a1 a2 a3 a4 a5) (H_heapHeapviewportlaw23itemAll1q2 a0 a1 a2 a3 a4 a5) (V_heapHeapviewportlaw23itemAll1q2 a0 a1 a2 a3 a4 a5 (.inl c5_0)) (R_heapHeapviewportlaw23itemAll1q2 a0 a1 a2 a3 a4 a5 (.inl c5_0)) :=
  runF_ok hm (A := aT [(5, .call ⟨2, [(0, 5, false), (1, 6, true)], (V_heapHeapviewportlaw23itemvalidq3 a2 a3 a4 ()), (R_heapHeapviewportlaw23itemvalidq3 a2 a3 a4 ()), []⟩), (13, .call ⟨0, [], (V_heapNewviewportref23Itemq1  ()), (R_heapNewviewportref23Itemq1  ()), [(10, 0, false)]⟩), (21, .call ⟨1, [(0, 6, true)], (V_slicesCloneviewportref23Itemq2 a2 a3 ()), (R_slicesCloneviewportref23Itemq2 a2 a3 ()), [(11, 1, true)]⟩), (27, .call ⟨2, [(0, 10, false), (1, 11, true)], (V_heapHeapviewportlaw23itemdrainq2 (([] : List (Int × Int × Int)) ++ a2) 0 ()), (R_heapHeapviewportlaw23itemdrainq2 (([] : List (Int × Int × Int)) ++ a2) 0 ()), [(10, 0, false), (11, 1, true), (12, 2, false)]⟩), (29, .rng ⟨15, [(0, 14, false), (1, 13, false), (2, 9, false), (3, 0, false), (4, 1, false), (5, 2, false), (6, 3, false), (7, 4, false), (8, 5, false), (9, 6, true), (10, 7, false), (11, 8, false), (12, 12, false), (13, 10, false), (14, 11, true)], (V_heapHeapviewportlaw23itemdrain1q2 a0 a1 a2 a3 a4 a5 (([] : List (Int × Int × Int)) ++ a2) 0 (.inl (c5_0, c5_1, c5_2))), (R_heapHeapviewportlaw23itemdrain1q2 a0 a1 a2 a3 a4 a5 (([] : List (Int × Int × Int)) ++ a2) 0 (.inl (c5_0, c5_1, c5_2))), [(14, 0, false), (13, 1, false), (9, 2, false), (0, 3, false), (1, 4, false), (2, 5, false), (3, 6, false), (4, 7, false), (5, 8, false), (6, 9, true), (7, 10, false), (8, 11, false), (12, 12, false), (10, 13, false), (11, 14, true)]⟩ [2, 22])]) (L := lT []) (wk := ⟨[], [(0, 0, false), (1, 1, false), (2, 2, false), (3, 3, false), (4, 4, false), (5, 5, false), (6, 6, true), (7, 7, false), (8, 8, false), (9, 13, false)], 10, 0⟩)
    (ps := [Gv P (.func 20) (A_heapHeapviewportlaw23itemvalidq3 a2 a3 a4) (H_heapHeapviewportlaw23itemvalidq3 a2 a3 a4) (V_heapHeapviewportlaw23itemvalidq3 a2 a3 a4 ()) (R_heapHeapviewportlaw23itemvalidq3 a2 a3 a4 ()),
    FlatB (.cells (layT (rows rw_iii a2)) 55),
    Gv P (.func 7) A_heapNewviewportref23Itemq1 H_heapNewviewportref23Itemq1 (V_heapNewviewportref23Itemq1  ()) (R_heapNewviewportref23Itemq1  ()),
    Gv P (.func 24) (A_slicesCloneviewportref23Itemq2 a2 a3) (H_slicesCloneviewportref23Itemq2 a2 a3) (V_slicesCloneviewportref23Itemq2 a2 a3 ()) (R_slicesCloneviewportref23Itemq2 a2 a3 ()),
    FlatB (.cells (layT (rows rw_iii a2)) 55),
    FlatB (.cells (layT (rows rw_iii (([] : List (Int × Int × Int)) ++ a2))) 55),
    Gv P (.func 25) (A_heapHeapviewportlaw23itemdrainq2 (([] : List (Int × Int × Int)) ++ a2) 0) (H_heapHeapviewportlaw23itemdrainq2 (([] : List (Int × Int × Int)) ++ a2) 0) (V_heapHeapviewportlaw23itemdrainq2 (([] : List (Int × Int × Int)) ++ a2) 0 ()) (R_heapHeapviewportlaw23itemdrainq2 (([] : List (Int × Int × Int)) ++ a2) 0 ()),
    FlatB (.cells (layT (rows rw_iii (([] : List (Int × Int × Int)) ++ a2))) 55),
    FlatB (.cells (layT (rows rw_iii (([] : List (Int × Int × Int)) ++ a2))) 55),
    Gv P (.func 27) (A_heapHeapviewportlaw23itemdrain1q2 a0 a1 a2 a3 a4 a5 (([] : List (Int × Int × Int)) ++ a2) 0) (H_heapHeapviewportlaw23itemdrain1q2 a0 a1 a2 a3 a4 a5 (([] : List (Int × Int × Int)) ++ a2) 0) (V_heapHeapviewportlaw23itemdrain1q2 a0 a1 a2 a3 a4 a5 (([] : List (Int × Int × Int)) ++ a2) 0 (.inl (c5_0, c5_1, c5_2))) (R_heapHeapviewportlaw23itemdrain1q2 a0 a1 a2 a3 a4 a5 (([] : List (Int × Int × Int)) ++ a2) 0 (.inl (c5_0, c5_1, c5_2))),
    FlatB (.cells (layT (rows rw_iii a2)) 55),
    FlatB (.cells (layT (rows rw_iii (([] : List (Int × Int × Int)) ++ a2))) 55),
    FlatB (.cells (layT (rows rw_iii a2)) 55),
    FlatB (.cells (layT (rows rw_iii c5_1)) 55),
    FlatB (.cells (layT (rows rw_iii a2)) 55)]) (by kernel_rfl) ⟨(m_heapHeapviewportlaw23itemvalidq3_ok n a2 a3 a4 () hc1), (rows_flat rwf_iii _ _), (m_heapNewviewportref23Itemq1_ok n () hc2), (m_slicesCloneviewportref23Itemq2_ok n a2 a3 () hc3), (rows_flat rwf_iii _ _), (rows_flat rwf_iii _ _), (m_heapHeapviewportlaw23itemdrainq2_ok n (([] : List (Int × Int × Int)) ++ a2) 0 () hc4), (rows_flat rwf_iii _ _), (rows_flat rwf_iii _ _), (m_heapHeapviewportlaw23itemdrain1q2_ok n a0 a1 a2 a3 a4 a5 (([] : List (Int × Int × Int)) ++ a2) 0 (.inl (c5_0, c5_1, c5_2)) hc5), (rows_flat rwf_iii _ _), (rows_flat rwf_iii _ _), (rows_flat rwf_iii _ _), (rows_flat rwf_iii _ _), (rows_flat rwf_iii _ _), trivial⟩
set_option maxRecDepth 100000 in
theorem p_heapHeapviewportlaw23itemAll1q2_1 (n : Nat) (a0 : Int) (a1 : Bool) (a2 : List (Int × Int × Int)) (a3 : Nat) (a4 : Int) (a5 : Int) (hc1 : m_heapHeapviewportlaw23itemvalidq3 n a2 a3 a4 = some ()) (hc2 : m_heapNewviewportref23Itemq1 n = some ()) (hc3 : m_slicesCloneviewportref23Itemq2 n a2 a3 = some ()) (hc4 : m_heapHeapviewportlaw23itemdrainq2 n (([] : List (Int × Int × Int)) ++ a2) 0 = some ()) (c5_0 : Int) (c5_1 : List (Int × Int × Int)) (c5_2 : Nat) (hc5 : m_heapHeapviewportlaw23itemdrain1q2 n a0 a1 a2 a3 a4 a5 (([] : List (Int × Int × Int)) ++ a2) 0 = some (.inr (c5_0, c5_1, c5_2))) : Gv P (.func 23) (A_heapHeapviewportlaw23itemAll1q2 a0 a1 a2 a3 a4 a5) (H_heapHeapviewportlaw23itemAll1q2 a0 a1 a2 a3 a4 a5) (V_heapHeapviewportlaw23itemAll1q2 a0 a1 a2 a3 a4 a5 (.inr c5_0)) (R_heapHeapviewportlaw23itemAll1q2 a0 a1 a2 a3 a4 a5 (.inr c5_0)) :=
  runF_ok hm (A := aT [(5, .call ⟨2, [(0, 5, false), (1, 6, true)], (V_heapHeapviewportlaw23itemvalidq3 a2 a3 a4 ()), (R_heapHeapviewportlaw23itemvalidq3 a2 a3 a4 ()), []⟩), (13, .call ⟨0, [], (V_heapNewviewportref23Itemq1  ()), (R_heapNewviewportref23Itemq1  ()), [(10, 0, false)]⟩), (21, .call ⟨1, [(0, 6, true)], (V_slicesCloneviewportref23Itemq2 a2 a3 ()), (R_slicesCloneviewportref23Itemq2 a2 a3 ()), [(11, 1, true)]⟩), (27, .call ⟨2, [(0, 10, false), (1, 11, true)], (V_heapHeapviewportlaw23itemdrainq2 (([] : List (Int × Int × Int)) ++ a2) 0 ()), (R_heapHeapviewportlaw23itemdrainq2 (([] : List (Int × Int × Int)) ++ a2) 0 ()), [(10, 0, false), (11, 1, true), (12, 2, false)]⟩), (29, .rng ⟨15, [(0, 14, false), (1, 13, false), (2, 9, false), (3, 0, false), (4, 1, false), (5, 2, false), (6, 3, false), (7, 4, false), (8, 5, false), (9, 6, true), (10, 7, false), (11, 8, false), (12, 12, false), (13, 10, false), (14, 11, true)], (V_heapHeapviewportlaw23itemdrain1q2 a0 a1 a2 a3 a4 a5 (([] : List (Int × Int × Int)) ++ a2) 0 (.inr (c5_0, c5_1, c5_2))), (R_heapHeapviewportlaw23itemdrain1q2 a0 a1 a2 a3 a4 a5 (([] : List (Int × Int × Int)) ++ a2) 0 (.inr (c5_0, c5_1, c5_2))), [(14, 0, false), (13, 1, false), (9, 2, false), (0, 3, false), (1, 4, false), (2, 5, false), (3, 6, false), (4, 7, false), (5, 8, false), (6, 9, true), (7, 10, false), (8, 11, false), (12, 12, false), (10, 13, false), (11, 14, true)]⟩ [2, 22])]) (L := lT []) (wk := ⟨[], [(0, 0, false), (1, 1, false), (2, 2, false), (3, 3, false), (4, 4, false), (5, 5, false), (6, 6, true), (7, 7, false), (8, 8, false), (9, 13, false)], 10, 0⟩)
    (ps := [Gv P (.func 20) (A_heapHeapviewportlaw23itemvalidq3 a2 a3 a4) (H_heapHeapviewportlaw23itemvalidq3 a2 a3 a4) (V_heapHeapviewportlaw23itemvalidq3 a2 a3 a4 ()) (R_heapHeapviewportlaw23itemvalidq3 a2 a3 a4 ()),
    FlatB (.cells (layT (rows rw_iii a2)) 55),
    Gv P (.func 7) A_heapNewviewportref23Itemq1 H_heapNewviewportref23Itemq1 (V_heapNewviewportref23Itemq1  ()) (R_heapNewviewportref23Itemq1  ()),
    Gv P (.func 24) (A_slicesCloneviewportref23Itemq2 a2 a3) (H_slicesCloneviewportref23Itemq2 a2 a3) (V_slicesCloneviewportref23Itemq2 a2 a3 ()) (R_slicesCloneviewportref23Itemq2 a2 a3 ()),
    FlatB (.cells (layT (rows rw_iii a2)) 55),
    FlatB (.cells (layT (rows rw_iii (([] : List (Int × Int × Int)) ++ a2))) 55),
    Gv P (.func 25) (A_heapHeapviewportlaw23itemdrainq2 (([] : List (Int × Int × Int)) ++ a2) 0) (H_heapHeapviewportlaw23itemdrainq2 (([] : List (Int × Int × Int)) ++ a2) 0) (V_heapHeapviewportlaw23itemdrainq2 (([] : List (Int × Int × Int)) ++ a2) 0 ()) (R_heapHeapviewportlaw23itemdrainq2 (([] : List (Int × Int × Int)) ++ a2) 0 ()),
    FlatB (.cells (layT (rows rw_iii (([] : List (Int × Int × Int)) ++ a2))) 55),
    FlatB (.cells (layT (rows rw_iii (([] : List (Int × Int × Int)) ++ a2))) 55),
    Gv P (.func 27) (A_heapHeapviewportlaw23itemdrain1q2 a0 a1 a2 a3 a4 a5 (([] : List (Int × Int × Int)) ++ a2) 0) (H_heapHeapviewportlaw23itemdrain1q2 a0 a1 a2 a3 a4 a5 (([] : List (Int × Int × Int)) ++ a2) 0) (V_heapHeapviewportlaw23itemdrain1q2 a0 a1 a2 a3 a4 a5 (([] : List (Int × Int × Int)) ++ a2) 0 (.inr (c5_0, c5_1, c5_2))) (R_heapHeapviewportlaw23itemdrain1q2 a0 a1 a2 a3 a4 a5 (([] : List (Int × Int × Int)) ++ a2) 0 (.inr (c5_0, c5_1, c5_2))),
    FlatB (.cells (layT (rows rw_iii a2)) 55),
    FlatB (.cells (layT (rows rw_iii (([] : List (Int × Int × Int)) ++ a2))) 55),
    FlatB (.cells (layT (rows rw_iii a2)) 55),
    FlatB (.cells (layT (rows rw_iii c5_1)) 55),
    FlatB (.cells (layT (rows rw_iii a2)) 55)]) (by kernel_rfl) ⟨(m_heapHeapviewportlaw23itemvalidq3_ok n a2 a3 a4 () hc1), (rows_flat rwf_iii _ _), (m_heapNewviewportref23Itemq1_ok n () hc2), (m_slicesCloneviewportref23Itemq2_ok n a2 a3 () hc3), (rows_flat rwf_iii _ _), (rows_flat rwf_iii _ _), (m_heapHeapviewportlaw23itemdrainq2_ok n (([] : List (Int × Int × Int)) ++ a2) 0 () hc4), (rows_flat rwf_iii _ _), (rows_flat rwf_iii _ _), (m_heapHeapviewportlaw23itemdrain1q2_ok n a0 a1 a2 a3 a4 a5 (([] : List (Int × Int × Int)) ++ a2) 0 (.inr (c5_0, c5_1, c5_2)) hc5), (rows_flat rwf_iii _ _), (rows_flat rwf_iii _ _), (rows_flat rwf_iii _ _), (rows_flat rwf_iii _ _), (rows_flat rwf_iii _ _), trivial⟩
theorem m_heapHeapviewportlaw23itemAll1q2_ok (n : Nat) (a0 : Int) (a1 : Bool) (a2 : List (Int × Int × Int)) (a3 : Nat) (a4 : Int) (a5 : Int) (r : (Int) ⊕ (Int)) (h : m_heapHeapviewportlaw23itemAll1q2 n a0 a1 a2 a3 a4 a5 = some r) : Gv P (.func 23) (A_heapHeapviewportlaw23itemAll1q2 a0 a1 a2 a3 a4 a5) (H_heapHeapviewportlaw23itemAll1q2 a0 a1 a2 a3 a4 a5) (V_heapHeapviewportlaw23itemAll1q2 a0 a1 a2 a3 a4 a5 r) (R_heapHeapviewportlaw23itemAll1q2 a0 a1 a2 a3 a4 a5 r) := by
  unfold m_heapHeapviewportlaw23itemAll1q2 at h
  obtain ⟨_, hc1, h⟩ := Option.bind_eq_some_iff.1 h
  obtain ⟨_, hc2, h⟩ := Option.bind_eq_some_iff.1 h
  obtain ⟨_, hc3, h⟩ := Option.bind_eq_some_iff.1 h
  obtain ⟨_, hc4, h⟩ := Option.bind_eq_some_iff.1 h
  rcases hc5 : m_heapHeapviewportlaw23itemdrain1q2 n a0 a1 a2 a3 a4 a5 (([] : List (Int × Int × Int)) ++ a2) 0 with _ | (⟨c5_0, c5_1, c5_2⟩ | ⟨c5_0, c5_1, c5_2⟩)
  · rw [hc5] at h; cases h
  · rw [hc5] at h
    dsimp only at h
    obtain rfl := Option.some.inj h; exact p_heapHeapviewportlaw23itemAll1q2_0 n a0 a1 a2 a3 a4 a5 hc1 hc2 hc3 hc4 c5_0 c5_1 c5_2 hc5
  · rw [hc5] at h
    dsimp only at h
    obtain rfl := Option.some.inj h; exact p_heapHeapviewportlaw23itemAll1q2_1 n a0 a1 a2 a3 a4 a5 hc1 hc2 hc3 hc4 c5_0 c5_1 c5_2 hc5

noncomputable def S_viewportlaw23HeapLeaves_1 (x1_0 : Int) (st : List (Int × Int × Int) × Nat × Int × Int) : XSt := match st with
  | (x1_1, x1_2, x1_3, x1_4) => (sT 80 [(2, (Value.pointer (some ⟨0, 0, none⟩))), (3, (Value.pointer (some ⟨1, 0, none⟩))), (4, (Value.pointer (some ⟨2, 0, none⟩))), (5, (Value.pointer (some ⟨3, 0, none⟩))), (6, (Value.int .i64 x1_4))], [], ⟨sB [(0, (some (.cells (layT [(Value.slice (some ⟨0, 0, some 1⟩) (Args.L).length Args.cL)]) 45))), (1, (some (.cells (layT [(Value.int .i64 x1_0)]) 3))), (2, (some (.cells (layT [(Value.bool false)]) 4))), (3, (some (.cells (layT [(Value.pointer (some ⟨3, 0, none⟩)), (Value.func (.func 8) #[] #[]), (slQ x1_1 4 x1_2 3), (Value.int .i64 x1_3)]) 51))), (4, (nblkR rw_iii x1_1 55))], 5, 0⟩)
noncomputable def X_viewportlaw23HeapLeaves_1 (x1_0 : Int) (r : List (Int × Int × Int) × Nat × Int) : Ex × XSt := match r with
  | (z1_0, z1_1, z1_2) => (.exit 0, (sT 80 [(2, (Value.pointer (some ⟨0, 0, none⟩))), (3, (Value.pointer (some ⟨1, 0, none⟩))), (4, (Value.pointer (some ⟨2, 0, none⟩))), (5, (Value.pointer (some ⟨3, 0, none⟩)))], [], ⟨sB [(0, (some (.cells (layT [(Value.slice (some ⟨0, 0, some 1⟩) (Args.L).length Args.cL)]) 45))), (1, (some (.cells (layT [(Value.int .i64 x1_0)]) 3))), (2, (some (.cells (layT [(Value.bool false)]) 4))), (3, (some (.cells (layT [(Value.pointer (some ⟨3, 0, none⟩)), (Value.func (.func 8) #[] #[]), (slQ z1_0 4 z1_1 3), (Value.int .i64 z1_2)]) 51))), (4, (nblkR rw_iii z1_0 55))], 5, 0⟩))
def B_viewportlaw23HeapLeaves_1 (n : Nat) (x1_0 : Int) (st : List (Int × Int × Int) × Nat × Int × Int) : Option ((List (Int × Int × Int) × Nat × Int × Int) ⊕ (List (Int × Int × Int) × Nat × Int)) := match st with
  | (x1_1, x1_2, x1_3, x1_4) =>
    match x1_1 with
    | [] =>
      if x1_4 < (((Args.L).length : Nat) : Int) then
        if 0 ≤ x1_4 ∧ x1_4 < (((Args.L).length : Nat) : Int) then
          (m_viewportlaw23oneq1 n ((Args.L).getD (x1_4).toNat 0) x1_4).bind fun _ =>
          (m_heapHeapviewportlaw23itemPutq1 n x1_3 ((Args.L).getD (x1_4).toNat 0) x1_4).bind fun y1_4_ =>
          match y1_4_ with
          | [] =>
            none
          | y1_4_a :: y1_4_t =>
            some (.inl ((y1_4_a :: y1_4_t), 1, (w64 (x1_3 + (1 : Int))), (w64 (x1_4 + (1 : Int)))))
        else none
      else
        some (.inr (([] : List (Int × Int × Int)), 0, x1_3))
    | x1_1a :: x1_1t =>
      if x1_4 < (((Args.L).length : Nat) : Int) then
        if 0 ≤ x1_4 ∧ x1_4 < (((Args.L).length : Nat) : Int) then
          (m_viewportlaw23oneq1 n ((Args.L).getD (x1_4).toNat 0) x1_4).bind fun _ =>
          (m_heapHeapviewportlaw23itemPutq3 n (x1_1a :: x1_1t) x1_2 x1_3 ((Args.L).getD (x1_4).toNat 0) x1_4).bind fun t => match t with
          | (y1_4_0, y1_4_1) =>
            match y1_4_0 with
            | [] =>
              none
            | y1_4_0a :: y1_4_0t =>
              some (.inl ((y1_4_0a :: y1_4_0t), y1_4_1, (w64 (x1_3 + (1 : Int))), (w64 (x1_4 + (1 : Int)))))
        else none
      else
        some (.inr ((x1_1a :: x1_1t), x1_2, x1_3))
def m_viewportlaw23HeapLeaves_1 (n : Nat) (x1_0 : Int) (st : List (Int × Int × Int) × Nat × Int × Int) : Option (List (Int × Int × Int) × Nat × Int) := iterM (B_viewportlaw23HeapLeaves_1 n x1_0) n st
set_option maxRecDepth 100000 in
theorem q_viewportlaw23HeapLeaves_1_0 (n : Nat) {rnd : Option Nat} (x1_0 : Int) (x1_2 : Nat) (x1_3 : Int) (x1_4 : Int) (hy1_1 : x1_4 < (((Args.L).length : Nat) : Int)) (hy1_2 : 0 ≤ x1_4 ∧ x1_4 < (((Args.L).length : Nat) : Int)) (hy1_3 : m_viewportlaw23oneq1 n ((Args.L).getD (x1_4).toNat 0) x1_4 = some ()) (y1_4_a : Int × Int × Int) (y1_4_t : List (Int × Int × Int)) (hy1_4 : m_heapHeapviewportlaw23itemPutq1 n x1_3 ((Args.L).getD (x1_4).toNat 0) x1_4 = some (y1_4_a :: y1_4_t)) : CG P rnd (fnN P 5) 0 (codeOf P 5 [false, false, true, false, true, true, true, true]) (S_viewportlaw23HeapLeaves_1 x1_0 (([] : List (Int × Int × Int)), x1_2, x1_3, x1_4)) (.normal, S_viewportlaw23HeapLeaves_1 x1_0 ((y1_4_a :: y1_4_t), 1, (w64 (x1_3 + (1 : Int))), (w64 (x1_4 + (1 : Int))))) :=
  runC_ok hm (A := aT [(5, .val (.bool true)), (12, .pur (Value.pointer (some ⟨0, (x1_4).toNat, some 1⟩))), (13, .ld (Value.int .i64 ((Args.L).getD (x1_4).toNat 0))), (15, .call ⟨0, [], (V_viewportlaw23oneq1 ((Args.L).getD (x1_4).toNat 0) x1_4 ()), (R_viewportlaw23oneq1 ((Args.L).getD (x1_4).toNat 0) x1_4 ()), [(5, 0, false)]⟩), (16, .call ⟨1, [(0, 3, false)], (V_heapHeapviewportlaw23itemPutq1 x1_3 ((Args.L).getD (x1_4).toNat 0) x1_4 (y1_4_a :: y1_4_t)), (R_heapHeapviewportlaw23itemPutq1 x1_3 ((Args.L).getD (x1_4).toNat 0) x1_4 (y1_4_a :: y1_4_t)), [(3, 0, false), (6, 1, true)]⟩)]) (L := lT []) (wk := ⟨[2, 3, 4, 5, 6], [(0, 0, false), (1, 1, false), (2, 2, false), (3, 3, false), (4, 6, true)], 5, 0⟩)
    (ps := [(Value.bool (decide (x1_4 < (((Args.L).length : Nat) : Int)))) = (Value.bool true),
    opIndexAddr P 45 (Value.slice (some ⟨0, 0, some 1⟩) (Args.L).length Args.cL) (Value.int .i64 x1_4) Ax.h0 = some ((Value.pointer (some ⟨0, (x1_4).toNat, some 1⟩)), Ax.h0),
    loadG P 3 (Value.pointer (some ⟨0, (x1_4).toNat, some 1⟩)) Ax.h0 = some ((Value.int .i64 ((Args.L).getD (x1_4).toNat 0)), Ax.h0),
    Gv P (.func 11) (A_viewportlaw23oneq1 ((Args.L).getD (x1_4).toNat 0) x1_4) (H_viewportlaw23oneq1 ((Args.L).getD (x1_4).toNat 0) x1_4) (V_viewportlaw23oneq1 ((Args.L).getD (x1_4).toNat 0) x1_4 ()) (R_viewportlaw23oneq1 ((Args.L).getD (x1_4).toNat 0) x1_4 ()),
    Gv P (.func 10) (A_heapHeapviewportlaw23itemPutq1 x1_3 ((Args.L).getD (x1_4).toNat 0) x1_4) (H_heapHeapviewportlaw23itemPutq1 x1_3 ((Args.L).getD (x1_4).toNat 0) x1_4) (V_heapHeapviewportlaw23itemPutq1 x1_3 ((Args.L).getD (x1_4).toNat 0) x1_4 (y1_4_a :: y1_4_t)) (R_heapHeapviewportlaw23itemPutq1 x1_3 ((Args.L).getD (x1_4).toNat 0) x1_4 (y1_4_a :: y1_4_t)),
    FlatB (.cells (layT (rows rw_iii (y1_4_a :: y1_4_t))) 55),
    FlatB (.cells (layT (rows rw_iii (y1_4_a :: y1_4_t))) 55)]) (by kernel_rfl) ⟨(vbT hy1_1), (ixW1 (e := 3) (by kernel_rfl) (by kernel_rfl) hy1_2), (ldW rfl (by kernel_rfl) (toNatLt hy1_2)), (m_viewportlaw23oneq1_ok n ((Args.L).getD (x1_4).toNat 0) x1_4 () hy1_3), (m_heapHeapviewportlaw23itemPutq1_ok n x1_3 ((Args.L).getD (x1_4).toNat 0) x1_4 (y1_4_a :: y1_4_t) hy1_4), (rows_flat rwf_iii _ _), (rows_flat rwf_iii _ _), trivial⟩
set_option maxRecDepth 100000 in
theorem q_viewportlaw23HeapLeaves_1_1 (n : Nat) {rnd : Option Nat} (x1_0 : Int) (x1_2 : Nat) (x1_3 : Int) (x1_4 : Int) (hy1_1 : ¬ (x1_4 < (((Args.L).length : Nat) : Int))) : CG P rnd (fnN P 5) 0 (codeOf P 5 [false, false, true, false, true, true, true, true]) (S_viewportlaw23HeapLeaves_1 x1_0 (([] : List (Int × Int × Int)), x1_2, x1_3, x1_4)) (X_viewportlaw23HeapLeaves_1 x1_0 (([] : List (Int × Int × Int)), 0, x1_3)) :=
  runC_ok hm (A := aT [(5, .val (.bool false))]) (L := lT []) (wk := ⟨[2, 3, 4, 5], [(0, 0, false), (1, 1, false), (2, 2, false), (3, 3, false)], 5, 0⟩)
    (ps := [(Value.bool (decide (x1_4 < (((Args.L).length : Nat) : Int)))) = (Value.bool false)]) (by kernel_rfl) ⟨(vbF hy1_1), trivial⟩
set_option maxRecDepth 100000 in
theorem q_viewportlaw23HeapLeaves_1_2 (n : Nat) {rnd : Option Nat} (x1_0 : Int) (x1_1a : Int × Int × Int) (x1_1t : List (Int × Int × Int)) (x1_2 : Nat) (x1_3 : Int) (x1_4 : Int) (hy1_1 : x1_4 < (((Args.L).length : Nat) : Int)) (hy1_2 : 0 ≤ x1_4 ∧ x1_4 < (((Args.L).length : Nat) : Int)) (hy1_3 : m_viewportlaw23oneq1 n ((Args.L).getD (x1_4).toNat 0) x1_4 = some ()) (y1_4_0a : Int × Int × Int) (y1_4_0t : List (Int × Int × Int)) (y1_4_1 : Nat) (hy1_4 : m_heapHeapviewportlaw23itemPutq3 n (x1_1a :: x1_1t) x1_2 x1_3 ((Args.L).getD (x1_4).toNat 0) x1_4 = some ((y1_4_0a :: y1_4_0t), y1_4_1)) : CG P rnd (fnN P 5) 0 (codeOf P 5 [false, false, true, false, true, true, true, true]) (S_viewportlaw23HeapLeaves_1 x1_0 ((x1_1a :: x1_1t), x1_2, x1_3, x1_4)) (.normal, S_viewportlaw23HeapLeaves_1 x1_0 ((y1_4_0a :: y1_4_0t), y1_4_1, (w64 (x1_3 + (1 : Int))), (w64 (x1_4 + (1 : Int))))) :=
  runC_ok hm (A := aT [(5, .val (.bool true)), (12, .pur (Value.pointer (some ⟨0, (x1_4).toNat, some 1⟩))), (13, .ld (Value.int .i64 ((Args.L).getD (x1_4).toNat 0))), (15, .call ⟨0, [], (V_viewportlaw23oneq1 ((Args.L).getD (x1_4).toNat 0) x1_4 ()), (R_viewportlaw23oneq1 ((Args.L).getD (x1_4).toNat 0) x1_4 ()), [(5, 0, false)]⟩), (16, .call ⟨2, [(0, 3, false), (1, 4, true)], (V_heapHeapviewportlaw23itemPutq3 (x1_1a :: x1_1t) x1_2 x1_3 ((Args.L).getD (x1_4).toNat 0) x1_4 ((y1_4_0a :: y1_4_0t), y1_4_1)), (R_heapHeapviewportlaw23itemPutq3 (x1_1a :: x1_1t) x1_2 x1_3 ((Args.L).getD (x1_4).toNat 0) x1_4 ((y1_4_0a :: y1_4_0t), y1_4_1)), [(3, 0, false), (6, 2, true)]⟩)]) (L := lT []) (wk := ⟨[2, 3, 4, 5, 6], [(0, 0, false), (1, 1, false), (2, 2, false), (3, 3, false), (4, 6, true)], 5, 0⟩)
    (ps := [(Value.bool (decide (x1_4 < (((Args.L).length : Nat) : Int)))) = (Value.bool true),
    opIndexAddr P 45 (Value.slice (some ⟨0, 0, some 1⟩) (Args.L).length Args.cL) (Value.int .i64 x1_4) Ax.h0 = some ((Value.pointer (some ⟨0, (x1_4).toNat, some 1⟩)), Ax.h0),
    loadG P 3 (Value.pointer (some ⟨0, (x1_4).toNat, some 1⟩)) Ax.h0 = some ((Value.int .i64 ((Args.L).getD (x1_4).toNat 0)), Ax.h0),
    Gv P (.func 11) (A_viewportlaw23oneq1 ((Args.L).getD (x1_4).toNat 0) x1_4) (H_viewportlaw23oneq1 ((Args.L).getD (x1_4).toNat 0) x1_4) (V_viewportlaw23oneq1 ((Args.L).getD (x1_4).toNat 0) x1_4 ()) (R_viewportlaw23oneq1 ((Args.L).getD (x1_4).toNat 0) x1_4 ()),
    Gv P (.func 10) (A_heapHeapviewportlaw23itemPutq3 (x1_1a :: x1_1t) x1_2 x1_3 ((Args.L).getD (x1_4).toNat 0) x1_4) (H_heapHeapviewportlaw23itemPutq3 (x1_1a :: x1_1t) x1_2 x1_3 ((Args.L).getD (x1_4).toNat 0) x1_4) (V_heapHeapviewportlaw23itemPutq3 (x1_1a :: x1_1t) x1_2 x1_3 ((Args.L).getD (x1_4).toNat 0) x1_4 ((y1_4_0a :: y1_4_0t), y1_4_1)) (R_heapHeapviewportlaw23itemPutq3 (x1_1a :: x1_1t) x1_2 x1_3 ((Args.L).getD (x1_4).toNat 0) x1_4 ((y1_4_0a :: y1_4_0t), y1_4_1)),
    FlatB (.cells (layT (rows rw_iii (x1_1a :: x1_1t))) 55),
    FlatB (.cells (layT (rows rw_iii (y1_4_0a :: y1_4_0t))) 55),
    FlatB (.cells (layT (rows rw_iii (y1_4_0a :: y1_4_0t))) 55)]) (by kernel_rfl) ⟨(vbT hy1_1), (ixW1 (e := 3) (by kernel_rfl) (by kernel_rfl) hy1_2), (ldW rfl (by kernel_rfl) (toNatLt hy1_2)), (m_viewportlaw23oneq1_ok n ((Args.L).getD (x1_4).toNat 0) x1_4 () hy1_3), (m_heapHeapviewportlaw23itemPutq3_ok n (x1_1a :: x1_1t) x1_2 x1_3 ((Args.L).getD (x1_4).toNat 0) x1_4 ((y1_4_0a :: y1_4_0t), y1_4_1) hy1_4), (rows_flat rwf_iii _ _), (rows_flat rwf_iii _ _), (rows_flat rwf_iii _ _), trivial⟩
set_option maxRecDepth 100000 in
theorem q_viewportlaw23HeapLeaves_1_3 (n : Nat) {rnd : Option Nat} (x1_0 : Int) (x1_1a : Int × Int × Int) (x1_1t : List (Int × Int × Int)) (x1_2 : Nat) (x1_3 : Int) (x1_4 : Int) (hy1_1 : ¬ (x1_4 < (((Args.L).length : Nat) : Int))) : CG P rnd (fnN P 5) 0 (codeOf P 5 [false, false, true, false, true, true, true, true]) (S_viewportlaw23HeapLeaves_1 x1_0 ((x1_1a :: x1_1t), x1_2, x1_3, x1_4)) (X_viewportlaw23HeapLeaves_1 x1_0 ((x1_1a :: x1_1t), x1_2, x1_3)) :=
  runC_ok hm (A := aT [(5, .val (.bool false))]) (L := lT []) (wk := ⟨[2, 3, 4, 5], [(0, 0, false), (1, 1, false), (2, 2, false), (3, 3, false), (4, 4, true)], 5, 0⟩)
    (ps := [(Value.bool (decide (x1_4 < (((Args.L).length : Nat) : Int)))) = (Value.bool false),
    FlatB (.cells (layT (rows rw_iii (x1_1a :: x1_1t))) 55)]) (by kernel_rfl) ⟨(vbF hy1_1), (rows_flat rwf_iii _ _), trivial⟩
theorem m_viewportlaw23HeapLeaves_1_ok (n : Nat) {rnd : Option Nat} (x1_0 : Int) (st : List (Int × Int × Int) × Nat × Int × Int) (r : List (Int × Int × Int) × Nat × Int) (h : m_viewportlaw23HeapLeaves_1 n x1_0 st = some r) : CG P rnd (fnN P 5) 0 (codeOf P 5 [false, true, false, true, true, true, true]) (S_viewportlaw23HeapLeaves_1 x1_0 st) (X_viewportlaw23HeapLeaves_1 x1_0 r) :=
  CG.iter (b := codeOf P 5 [false, false, true, false, true, true, true, true]) (by kernel_rfl) (body := B_viewportlaw23HeapLeaves_1 n x1_0) (S := S_viewportlaw23HeapLeaves_1 x1_0) (X := X_viewportlaw23HeapLeaves_1 x1_0)
    (fun s s' h => by
    obtain ⟨x1_1, x1_2, x1_3, x1_4⟩ := s
    unfold B_viewportlaw23HeapLeaves_1 at h
    dsimp only at h
    cases x1_1 with
    | nil =>
      dsimp only at h
      by_cases hy1_1 : x1_4 < (((Args.L).length : Nat) : Int)
      · rw [if_pos hy1_1] at h
        by_cases hy1_2 : 0 ≤ x1_4 ∧ x1_4 < (((Args.L).length : Nat) : Int)
        · rw [if_pos hy1_2] at h
          obtain ⟨_, hy1_3, h⟩ := Option.bind_eq_some_iff.1 h
          obtain ⟨y1_4_, hy1_4, h⟩ := Option.bind_eq_some_iff.1 h
          cases y1_4_ with
          | nil =>
            dsimp only at h
            cases h
          | cons y1_4_a y1_4_t =>
            dsimp only at h
            obtain rfl := Sum.inl.inj (Option.some.inj h); exact q_viewportlaw23HeapLeaves_1_0 n x1_0 x1_2 x1_3 x1_4 hy1_1 hy1_2 hy1_3 y1_4_a y1_4_t hy1_4
        · rw [if_neg hy1_2] at h; cases h
      · rw [if_neg hy1_1] at h
        cases h
    | cons x1_1a x1_1t =>
      dsimp only at h
      by_cases hy1_1 : x1_4 < (((Args.L).length : Nat) : Int)
      · rw [if_pos hy1_1] at h
        by_cases hy1_2 : 0 ≤ x1_4 ∧ x1_4 < (((Args.L).length : Nat) : Int)
        · rw [if_pos hy1_2] at h
          obtain ⟨_, hy1_3, h⟩ := Option.bind_eq_some_iff.1 h
          obtain ⟨⟨y1_4_0, y1_4_1⟩, hy1_4, h⟩ := Option.bind_eq_some_iff.1 h
          dsimp only at h
          cases y1_4_0 with
          | nil =>
            dsimp only at h
            cases h
          | cons y1_4_0a y1_4_0t =>
            dsimp only at h
            obtain rfl := Sum.inl.inj (Option.some.inj h); exact q_viewportlaw23HeapLeaves_1_2 n x1_0 x1_1a x1_1t x1_2 x1_3 x1_4 hy1_1 hy1_2 hy1_3 y1_4_0a y1_4_0t y1_4_1 hy1_4
        · rw [if_neg hy1_2] at h; cases h
      · rw [if_neg hy1_1] at h
        cases h)
    (fun s r h => by
    obtain ⟨x1_1, x1_2, x1_3, x1_4⟩ := s
    unfold B_viewportlaw23HeapLeaves_1 at h
    dsimp only at h
    cases x1_1 with
    | nil =>
      dsimp only at h
      by_cases hy1_1 : x1_4 < (((Args.L).length : Nat) : Int)
      · rw [if_pos hy1_1] at h
        by_cases hy1_2 : 0 ≤ x1_4 ∧ x1_4 < (((Args.L).length : Nat) : Int)
        · rw [if_pos hy1_2] at h
          obtain ⟨_, hy1_3, h⟩ := Option.bind_eq_some_iff.1 h
          obtain ⟨y1_4_, hy1_4, h⟩ := Option.bind_eq_some_iff.1 h
          cases y1_4_ with
          | nil =>
            dsimp only at h
            cases h
          | cons y1_4_a y1_4_t =>
            dsimp only at h
            cases h
        · rw [if_neg hy1_2] at h; cases h
      · rw [if_neg hy1_1] at h
        obtain rfl := Sum.inr.inj (Option.some.inj h); exact q_viewportlaw23HeapLeaves_1_1 n x1_0 x1_2 x1_3 x1_4 hy1_1
    | cons x1_1a x1_1t =>
      dsimp only at h
      by_cases hy1_1 : x1_4 < (((Args.L).length : Nat) : Int)
      · rw [if_pos hy1_1] at h
        by_cases hy1_2 : 0 ≤ x1_4 ∧ x1_4 < (((Args.L).length : Nat) : Int)
        · rw [if_pos hy1_2] at h
          obtain ⟨_, hy1_3, h⟩ := Option.bind_eq_some_iff.1 h
          obtain ⟨⟨y1_4_0, y1_4_1⟩, hy1_4, h⟩ := Option.bind_eq_some_iff.1 h
          dsimp only at h
          cases y1_4_0 with
          | nil =>
            dsimp only at h
            cases h
          | cons y1_4_0a y1_4_0t =>
            dsimp only at h
            cases h
        · rw [if_neg hy1_2] at h; cases h
      · rw [if_neg hy1_1] at h
        obtain rfl := Sum.inr.inj (Option.some.inj h); exact q_viewportlaw23HeapLeaves_1_3 n x1_0 x1_1a x1_1t x1_2 x1_3 x1_4 hy1_1)
    (fun r => by intro hx; cases hx) h
noncomputable def A_viewportlaw23HeapLeaves (early : Int) : List Value := [(Value.slice (some ⟨0, 0, some 1⟩) (Args.L).length Args.cL), (Value.int .i64 early)]
noncomputable def H_viewportlaw23HeapLeaves (early : Int) : AH := ⟨sB [], 0, 0⟩
noncomputable def V_viewportlaw23HeapLeaves (early : Int) (r : (Unit) ⊕ (Unit)) : Value := match r with
  | .inl _ => (Value.bool true)
  | .inr _ => (Value.bool true)
noncomputable def R_viewportlaw23HeapLeaves (early : Int) (r : (Unit) ⊕ (Unit)) : AH := match r with
  | .inl _ => ⟨sB [(0, (some (.cells (layT [(Value.bool true)]) 4)))], 1, 0⟩
  | .inr _ => ⟨sB [(0, (some (.marks false))), (1, (some (.cells (layT [(Value.bool true)]) 4)))], 2, 0⟩
def m_viewportlaw23HeapLeaves (n : Nat) (early : Int) : Option ((Unit) ⊕ (Unit)) :=
  (m_viewportlaw23lives n).bind fun _ =>
  if (((Args.L).length : Nat) : Int) > (200 : Int) then
    some (.inl ())
  else
    (m_heapNewviewportref23Itemq1 n).bind fun _ =>
    (m_viewportlaw23HeapLeaves_1 n early (([] : List (Int × Int × Int)), 0, 0, 0)).bind fun t => match t with
    | (c4_0, c4_1, c4_2) =>
      match c4_0 with
      | [] =>
        (m_heapHeapviewportlaw23itemAllq1 n c4_2).bind fun _ =>
        (m_viewportkitPickq1 n early (w64 ((((Args.L).length : Nat) : Int) + (1 : Int)))).bind fun c6_ =>
        (m_heapHeapviewportlaw23itemAll1q1 n c6_ false c4_2 0).bind fun _ =>
        if (0 : Int) = c6_ then
          (m_heapHeapviewportlaw23itemLenq1 n c4_2).bind fun _ =>
          if (0 : Int) = (((Args.L).length : Nat) : Int) then
            some (.inr ())
          else
            none
        else
          none
      | c4_0a :: c4_0t =>
        (m_heapHeapviewportlaw23itemAllq2 n (c4_0a :: c4_0t) c4_1 c4_2).bind fun _ =>
        (m_viewportkitPickq1 n early (w64 ((((Args.L).length : Nat) : Int) + (1 : Int)))).bind fun c6_ =>
        match m_heapHeapviewportlaw23itemAll1q2 n c6_ false (c4_0a :: c4_0t) c4_1 c4_2 0 with
        | none => none
        | some (.inl c7_) =>
          if c7_ = c6_ then
            (m_heapHeapviewportlaw23itemLenq3 n (c4_0a :: c4_0t) c4_1 c4_2).bind fun _ =>
            if ((c4_1 : Nat) : Int) = (((Args.L).length : Nat) : Int) then
              some (.inr ())
            else
              none
          else
            none
        | some (.inr c7_) =>
          if c7_ = c6_ then
            (m_heapHeapviewportlaw23itemLenq3 n (c4_0a :: c4_0t) c4_1 c4_2).bind fun _ =>
            if ((c4_1 : Nat) : Int) = (((Args.L).length : Nat) : Int) then
              some (.inr ())
            else
              none
          else
            none
set_option maxRecDepth 100000 in
theorem p_viewportlaw23HeapLeaves_0 (n : Nat) (early : Int) (hc1 : m_viewportlaw23lives n = some ()) (hc2 : (((Args.L).length : Nat) : Int) > (200 : Int)) : Gv P (.func 5) (A_viewportlaw23HeapLeaves early) (H_viewportlaw23HeapLeaves early) (V_viewportlaw23HeapLeaves early (.inl ())) (R_viewportlaw23HeapLeaves early (.inl ())) :=
  runF_ok hm (A := aT [(6, .call ⟨0, [], (Value.bool true), Ax.h0, []⟩), (13, .val (.bool true))]) (L := lT []) (wk := ⟨[4], [(0, 2, false)], 1, 0⟩)
    (ps := [Gv P (.func 6) [] Ax.h0 (Value.bool true) Ax.h0,
    (Value.bool (decide ((((Args.L).length : Nat) : Int) > (200 : Int)))) = (Value.bool true)]) (by kernel_rfl) ⟨(m_viewportlaw23lives_ok n () hc1), (vbT hc2), trivial⟩
set_option maxRecDepth 100000 in
theorem p_viewportlaw23HeapLeaves_1 (n : Nat) (early : Int) (hc1 : m_viewportlaw23lives n = some ()) (hc2 : ¬ ((((Args.L).length : Nat) : Int) > (200 : Int))) (hc3 : m_heapNewviewportref23Itemq1 n = some ()) (c4_1 : Nat) (c4_2 : Int) (hc4 : m_viewportlaw23HeapLeaves_1 n early (([] : List (Int × Int × Int)), 0, 0, 0) = some ([], c4_1, c4_2)) (hc5 : m_heapHeapviewportlaw23itemAllq1 n c4_2 = some ()) (c6_ : Int) (hc6 : m_viewportkitPickq1 n early (w64 ((((Args.L).length : Nat) : Int) + (1 : Int))) = some c6_) (hc7 : m_heapHeapviewportlaw23itemAll1q1 n c6_ false c4_2 0 = some ()) (hc8 : (0 : Int) = c6_) (hc9 : m_heapHeapviewportlaw23itemLenq1 n c4_2 = some ()) (hc10 : (0 : Int) = (((Args.L).length : Nat) : Int)) : Gv P (.func 5) (A_viewportlaw23HeapLeaves early) (H_viewportlaw23HeapLeaves early) (V_viewportlaw23HeapLeaves early (.inr ())) (R_viewportlaw23HeapLeaves early (.inr ())) :=
  runF_ok hm (A := aT [(6, .call ⟨0, [], (Value.bool true), Ax.h0, []⟩), (13, .val (.bool false)), (16, .call ⟨0, [], (V_heapNewviewportref23Itemq1  ()), (R_heapNewviewportref23Itemq1  ()), [(3, 0, false)]⟩), (25, .call ⟨1, [(0, 3, false)], (V_heapHeapviewportlaw23itemAllq1 c4_2 ()), (R_heapHeapviewportlaw23itemAllq1 c4_2 ()), [(3, 0, false), (5, 1, false)]⟩), (37, .call ⟨0, [], (V_viewportkitPickq1 early (w64 ((((Args.L).length : Nat) : Int) + (1 : Int))) c6_), (R_viewportkitPickq1 early (w64 ((((Args.L).length : Nat) : Int) + (1 : Int))) c6_), []⟩), (46, .rng ⟨8, [(0, 8, false), (1, 7, false), (2, 0, false), (3, 1, false), (4, 2, false), (5, 3, false), (6, 6, false), (7, 5, false)], (V_heapHeapviewportlaw23itemAll1q1 c6_ false c4_2 0 ()), (R_heapHeapviewportlaw23itemAll1q1 c6_ false c4_2 0 ()), []⟩ [2, 3, 4, 5, 8, 39]), (50, .val (.bool true)), (53, .call ⟨1, [(0, 3, false)], (V_heapHeapviewportlaw23itemLenq1 c4_2 ()), (R_heapHeapviewportlaw23itemLenq1 c4_2 ()), []⟩), (56, .val (.bool true))]) (L := lT [(22, ⟨⟨[2, 3, 4, 5, 6], [(0, 0, false), (1, 1, false), (2, 2, false), (3, 3, false)], 5, 0⟩, (X_viewportlaw23HeapLeaves_1 early (([] : List (Int × Int × Int)), c4_1, c4_2)).1, (X_viewportlaw23HeapLeaves_1 early (([] : List (Int × Int × Int)), c4_1, c4_2)).2⟩)]) (wk := ⟨[4], [(0, 7, false), (1, 2, false)], 2, 0⟩)
    (ps := [Gv P (.func 6) [] Ax.h0 (Value.bool true) Ax.h0,
    (Value.bool (decide ((((Args.L).length : Nat) : Int) > (200 : Int)))) = (Value.bool false),
    Gv P (.func 7) A_heapNewviewportref23Itemq1 H_heapNewviewportref23Itemq1 (V_heapNewviewportref23Itemq1  ()) (R_heapNewviewportref23Itemq1  ()),
    CG P none (fnN P 5) 0 (codeOf P 5 [false, true, false, true, true, true, true]) (S_viewportlaw23HeapLeaves_1 early (([] : List (Int × Int × Int)), 0, 0, 0)) (X_viewportlaw23HeapLeaves_1 early (([] : List (Int × Int × Int)), c4_1, c4_2)),
    Gv P (.func 18) (A_heapHeapviewportlaw23itemAllq1 c4_2) (H_heapHeapviewportlaw23itemAllq1 c4_2) (V_heapHeapviewportlaw23itemAllq1 c4_2 ()) (R_heapHeapviewportlaw23itemAllq1 c4_2 ()),
    Gv P (.func 9) (A_viewportkitPickq1 early (w64 ((((Args.L).length : Nat) : Int) + (1 : Int)))) (H_viewportkitPickq1 early (w64 ((((Args.L).length : Nat) : Int) + (1 : Int)))) (V_viewportkitPickq1 early (w64 ((((Args.L).length : Nat) : Int) + (1 : Int))) c6_) (R_viewportkitPickq1 early (w64 ((((Args.L).length : Nat) : Int) + (1 : Int))) c6_),
    Gv P (.func 23) (A_heapHeapviewportlaw23itemAll1q1 c6_ false c4_2 0) (H_heapHeapviewportlaw23itemAll1q1 c6_ false c4_2 0) (V_heapHeapviewportlaw23itemAll1q1 c6_ false c4_2 0 ()) (R_heapHeapviewportlaw23itemAll1q1 c6_ false c4_2 0 ()),
    (Value.bool ((0 : Int) == c6_)) = (Value.bool true),
    Gv P (.func 17) (A_heapHeapviewportlaw23itemLenq1 c4_2) (H_heapHeapviewportlaw23itemLenq1 c4_2) (V_heapHeapviewportlaw23itemLenq1 c4_2 ()) (R_heapHeapviewportlaw23itemLenq1 c4_2 ()),
    (Value.bool ((0 : Int) == (((Args.L).length : Nat) : Int))) = (Value.bool true)]) (by kernel_rfl) ⟨(m_viewportlaw23lives_ok n () hc1), (vbF hc2), (m_heapNewviewportref23Itemq1_ok n () hc3), (m_viewportlaw23HeapLeaves_1_ok n early (([] : List (Int × Int × Int)), 0, 0, 0) (([] : List (Int × Int × Int)), c4_1, c4_2) hc4), (m_heapHeapviewportlaw23itemAllq1_ok n c4_2 () hc5), (m_viewportkitPickq1_ok n early (w64 ((((Args.L).length : Nat) : Int) + (1 : Int))) c6_ hc6), (m_heapHeapviewportlaw23itemAll1q1_ok n c6_ false c4_2 0 () hc7), (veT hc8), (m_heapHeapviewportlaw23itemLenq1_ok n c4_2 () hc9), (veT hc10), trivial⟩
set_option maxRecDepth 100000 in
theorem p_viewportlaw23HeapLeaves_2 (n : Nat) (early : Int) (hc1 : m_viewportlaw23lives n = some ()) (hc2 : ¬ ((((Args.L).length : Nat) : Int) > (200 : Int))) (hc3 : m_heapNewviewportref23Itemq1 n = some ()) (c4_0a : Int × Int × Int) (c4_0t : List (Int × Int × Int)) (c4_1 : Nat) (c4_2 : Int) (hc4 : m_viewportlaw23HeapLeaves_1 n early (([] : List (Int × Int × Int)), 0, 0, 0) = some ((c4_0a :: c4_0t), c4_1, c4_2)) (hc5 : m_heapHeapviewportlaw23itemAllq2 n (c4_0a :: c4_0t) c4_1 c4_2 = some ()) (c6_ : Int) (hc6 : m_viewportkitPickq1 n early (w64 ((((Args.L).length : Nat) : Int) + (1 : Int))) = some c6_) (c7_ : Int) (hc7 : m_heapHeapviewportlaw23itemAll1q2 n c6_ false (c4_0a :: c4_0t) c4_1 c4_2 0 = some (.inl c7_)) (hc8 : c7_ = c6_) (hc9 : m_heapHeapviewportlaw23itemLenq3 n (c4_0a :: c4_0t) c4_1 c4_2 = some ()) (hc10 : ((c4_1 : Nat) : Int) = (((Args.L).length : Nat) : Int)) : Gv P (.func 5) (A_viewportlaw23HeapLeaves early) (H_viewportlaw23HeapLeaves early) (V_viewportlaw23HeapLeaves early (.inr ())) (R_viewportlaw23HeapLeaves early (.inr ())) :=
  runF_ok hm (A := aT [(6, .call ⟨0, [], (Value.bool true), Ax.h0, []⟩), (13, .val (.bool false)), (16, .call ⟨0, [], (V_heapNewviewportref23Itemq1  ()), (R_heapNewviewportref23Itemq1  ()), [(3, 0, false)]⟩), (25, .call ⟨2, [(0, 3, false), (1, 4, true)], (V_heapHeapviewportlaw23itemAllq2 (c4_0a :: c4_0t) c4_1 c4_2 ()), (R_heapHeapviewportlaw23itemAllq2 (c4_0a :: c4_0t) c4_1 c4_2 ()), [(3, 0, false), (4, 1, true), (5, 2, false)]⟩), (37, .call ⟨0, [], (V_viewportkitPickq1 early (w64 ((((Args.L).length : Nat) : Int) + (1 : Int))) c6_), (R_viewportkitPickq1 early (w64 ((((Args.L).length : Nat) : Int) + (1 : Int))) c6_), []⟩), (46, .rng ⟨9, [(0, 8, false), (1, 7, false), (2, 0, false), (3, 1, false), (4, 2, false), (5, 3, false), (6, 4, true), (7, 6, false), (8, 5, false)], (V_heapHeapviewportlaw23itemAll1q2 c6_ false (c4_0a :: c4_0t) c4_1 c4_2 0 (.inl c7_)), (R_heapHeapviewportlaw23itemAll1q2 c6_ false (c4_0a :: c4_0t) c4_1 c4_2 0 (.inl c7_)), [(8, 0, false), (7, 1, false), (0, 2, false), (1, 3, false), (2, 4, false), (3, 5, false), (4, 6, true), (6, 7, false), (5, 8, false)]⟩ [2, 3, 4, 5, 8, 39]), (50, .val (.bool true)), (53, .call ⟨2, [(0, 3, false), (1, 4, true)], (V_heapHeapviewportlaw23itemLenq3 (c4_0a :: c4_0t) c4_1 c4_2 ()), (R_heapHeapviewportlaw23itemLenq3 (c4_0a :: c4_0t) c4_1 c4_2 ()), []⟩), (56, .val (.bool true))]) (L := lT [(22, ⟨⟨[2, 3, 4, 5, 6], [(0, 0, false), (1, 1, false), (2, 2, false), (3, 3, false)], 5, 0⟩, (X_viewportlaw23HeapLeaves_1 early ((c4_0a :: c4_0t), c4_1, c4_2)).1, (X_viewportlaw23HeapLeaves_1 early ((c4_0a :: c4_0t), c4_1, c4_2)).2⟩)]) (wk := ⟨[4], [(0, 7, false), (1, 2, false)], 2, 0⟩)
    (ps := [Gv P (.func 6) [] Ax.h0 (Value.bool true) Ax.h0,
    (Value.bool (decide ((((Args.L).length : Nat) : Int) > (200 : Int)))) = (Value.bool false),
    Gv P (.func 7) A_heapNewviewportref23Itemq1 H_heapNewviewportref23Itemq1 (V_heapNewviewportref23Itemq1  ()) (R_heapNewviewportref23Itemq1  ()),
    CG P none (fnN P 5) 0 (codeOf P 5 [false, true, false, true, true, true, true]) (S_viewportlaw23HeapLeaves_1 early (([] : List (Int × Int × Int)), 0, 0, 0)) (X_viewportlaw23HeapLeaves_1 early ((c4_0a :: c4_0t), c4_1, c4_2)),
    Gv P (.func 18) (A_heapHeapviewportlaw23itemAllq2 (c4_0a :: c4_0t) c4_1 c4_2) (H_heapHeapviewportlaw23itemAllq2 (c4_0a :: c4_0t) c4_1 c4_2) (V_heapHeapviewportlaw23itemAllq2 (c4_0a :: c4_0t) c4_1 c4_2 ()) (R_heapHeapviewportlaw23itemAllq2 (c4_0a :: c4_0t) c4_1 c4_2 ()),
    FlatB (.cells (layT (rows rw_iii (c4_0a :: c4_0t))) 55),
    FlatB (.cells (layT (rows rw_iii (c4_0a :: c4_0t))) 55),
    Gv P (.func 9) (A_viewportkitPickq1 early (w64 ((((Args.L).length : Nat) : Int) + (1 : Int)))) (H_viewportkitPickq1 early (w64 ((((Args.L).length : Nat) : Int) + (1 : Int)))) (V_viewportkitPickq1 early (w64 ((((Args.L).length : Nat) : Int) + (1 : Int))) c6_) (R_viewportkitPickq1 early (w64 ((((Args.L).length : Nat) : Int) + (1 : Int))) c6_),
    Gv P (.func 23) (A_heapHeapviewportlaw23itemAll1q2 c6_ false (c4_0a :: c4_0t) c4_1 c4_2 0) (H_heapHeapviewportlaw23itemAll1q2 c6_ false (c4_0a :: c4_0t) c4_1 c4_2 0) (V_heapHeapviewportlaw23itemAll1q2 c6_ false (c4_0a :: c4_0t) c4_1 c4_2 0 (.inl c7_)) (R_heapHeapviewportlaw23itemAll1q2 c6_ false (c4_0a :: c4_0t) c4_1 c4_2 0 (.inl c7_)),
    FlatB (.cells (layT (rows rw_iii (c4_0a :: c4_0t))) 55),
    FlatB (.cells (layT (rows rw_iii (c4_0a :: c4_0t))) 55),
    (Value.bool (c7_ == c6_)) = (Value.bool true),
    Gv P (.func 17) (A_heapHeapviewportlaw23itemLenq3 (c4_0a :: c4_0t) c4_1 c4_2) (H_heapHeapviewportlaw23itemLenq3 (c4_0a :: c4_0t) c4_1 c4_2) (V_heapHeapviewportlaw23itemLenq3 (c4_0a :: c4_0t) c4_1 c4_2 ()) (R_heapHeapviewportlaw23itemLenq3 (c4_0a :: c4_0t) c4_1 c4_2 ()),
    FlatB (.cells (layT (rows rw_iii (c4_0a :: c4_0t))) 55),
    (Value.bool (((c4_1 : Nat) : Int) == (((Args.L).length : Nat) : Int))) = (Value.bool true)]) (by kernel_rfl) ⟨(m_viewportlaw23lives_ok n () hc1), (vbF hc2), (m_heapNewviewportref23Itemq1_ok n () hc3), (m_viewportlaw23HeapLeaves_1_ok n early (([] : List (Int × Int × Int)), 0, 0, 0) ((c4_0a :: c4_0t), c4_1, c4_2) hc4), (m_heapHeapviewportlaw23itemAllq2_ok n (c4_0a :: c4_0t) c4_1 c4_2 () hc5), (rows_flat rwf_iii _ _), (rows_flat rwf_iii _ _), (m_viewportkitPickq1_ok n early (w64 ((((Args.L).length : Nat) : Int) + (1 : Int))) c6_ hc6), (m_heapHeapviewportlaw23itemAll1q2_ok n c6_ false (c4_0a :: c4_0t) c4_1 c4_2 0 (.inl c7_) hc7), (rows_flat rwf_iii _ _), (rows_flat rwf_iii _ _), (veT hc8), (m_heapHeapviewportlaw23itemLenq3_ok n (c4_0a :: c4_0t) c4_1 c4_2 () hc9), (rows_flat rwf_iii _ _), (veT hc10), trivial⟩
set_option maxRecDepth 100000 in
theorem p_viewportlaw23HeapLeaves_3 (n : Nat) (early : Int) (hc1 : m_viewportlaw23lives n = some ()) (hc2 : ¬ ((((Args.L).length : Nat) : Int) > (200 : Int))) (hc3 : m_heapNewviewportref23Itemq1 n = some ()) (c4_0a : Int × Int × Int) (c4_0t : List (Int × Int × Int)) (c4_1 : Nat) (c4_2 : Int) (hc4 : m_viewportlaw23HeapLeaves_1 n early (([] : List (Int × Int × Int)), 0, 0, 0) = some ((c4_0a :: c4_0t), c4_1, c4_2)) (hc5 : m_heapHeapviewportlaw23itemAllq2 n (c4_0a :: c4_0t) c4_1 c4_2 = some ()) (c6_ : Int) (hc6 : m_viewportkitPickq1 n early (w64 ((((Args.L).length : Nat) : Int) + (1 : Int))) = some c6_) (c7_ : Int) (hc7 : m_heapHeapviewportlaw23itemAll1q2 n c6_ false (c4_0a :: c4_0t) c4_1 c4_2 0 = some (.inr c7_)) (hc8 : c7_ = c6_) (hc9 : m_heapHeapviewportlaw23itemLenq3 n (c4_0a :: c4_0t) c4_1 c4_2 = some ()) (hc10 : ((c4_1 : Nat) : Int) = (((Args.L).length : Nat) : Int)) : Gv P (.func 5) (A_viewportlaw23HeapLeaves early) (H_viewportlaw23HeapLeaves early) (V_viewportlaw23HeapLeaves early (.inr ())) (R_viewportlaw23HeapLeaves early (.inr ())) :=
  runF_ok hm (A := aT [(6, .call ⟨0, [], (Value.bool true), Ax.h0, []⟩), (13, .val (.bool false)), (16, .call ⟨0, [], (V_heapNewviewportref23Itemq1  ()), (R_heapNewviewportref23Itemq1  ()), [(3, 0, false)]⟩), (25, .call ⟨2, [(0, 3, false), (1, 4, true)], (V_heapHeapviewportlaw23itemAllq2 (c4_0a :: c4_0t) c4_1 c4_2 ()), (R_heapHeapviewportlaw23itemAllq2 (c4_0a :: c4_0t) c4_1 c4_2 ()), [(3, 0, false), (4, 1, true), (5, 2, false)]⟩), (37, .call ⟨0, [], (V_viewportkitPickq1 early (w64 ((((Args.L).length : Nat) : Int) + (1 : Int))) c6_), (R_viewportkitPickq1 early (w64 ((((Args.L).length : Nat) : Int) + (1 : Int))) c6_), []⟩), (46, .rng ⟨9, [(0, 8, false), (1, 7, false), (2, 0, false), (3, 1, false), (4, 2, false), (5, 3, false), (6, 4, true), (7, 6, false), (8, 5, false)], (V_heapHeapviewportlaw23itemAll1q2 c6_ false (c4_0a :: c4_0t) c4_1 c4_2 0 (.inr c7_)), (R_heapHeapviewportlaw23itemAll1q2 c6_ false (c4_0a :: c4_0t) c4_1 c4_2 0 (.inr c7_)), [(8, 0, false), (7, 1, false), (0, 2, false), (1, 3, false), (2, 4, false), (3, 5, false), (4, 6, true), (6, 7, false), (5, 8, false)]⟩ [2, 3, 4, 5, 8, 39]), (50, .val (.bool true)), (53, .call ⟨2, [(0, 3, false), (1, 4, true)], (V_heapHeapviewportlaw23itemLenq3 (c4_0a :: c4_0t) c4_1 c4_2 ()), (R_heapHeapviewportlaw23itemLenq3 (c4_0a :: c4_0t) c4_1 c4_2 ()), []⟩), (56, .val (.bool true))]) (L := lT [(22, ⟨⟨[2, 3, 4, 5, 6], [(0, 0, false), (1, 1, false), (2, 2, false), (3, 3, false)], 5, 0⟩, (X_viewportlaw23HeapLeaves_1 early ((c4_0a :: c4_0t), c4_1, c4_2)).1, (X_viewportlaw23HeapLeaves_1 early ((c4_0a :: c4_0t), c4_1, c4_2)).2⟩)]) (wk := ⟨[4], [(0, 7, false), (1, 2, false)], 2, 0⟩)
    (ps := [Gv P (.func 6) [] Ax.h0 (Value.bool true) Ax.h0,
    (Value.bool (decide ((((Args.L).length : Nat) : Int) > (200 : Int)))) = (Value.bool false),
    Gv P (.func 7) A_heapNewviewportref23Itemq1 H_heapNewviewportref23Itemq1 (V_heapNewviewportref23Itemq1  ()) (R_heapNewviewportref23Itemq1  ()),
    CG P none (fnN P 5) 0 (codeOf P 5 [false, true, false, true, true, true, true]) (S_viewportlaw23HeapLeaves_1 early (([] : List (Int × Int × Int)), 0, 0, 0)) (X_viewportlaw23HeapLeaves_1 early ((c4_0a :: c4_0t), c4_1, c4_2)),
    Gv P (.func 18) (A_heapHeapviewportlaw23itemAllq2 (c4_0a :: c4_0t) c4_1 c4_2) (H_heapHeapviewportlaw23itemAllq2 (c4_0a :: c4_0t) c4_1 c4_2) (V_heapHeapviewportlaw23itemAllq2 (c4_0a :: c4_0t) c4_1 c4_2 ()) (R_heapHeapviewportlaw23itemAllq2 (c4_0a :: c4_0t) c4_1 c4_2 ()),
    FlatB (.cells (layT (rows rw_iii (c4_0a :: c4_0t))) 55),
    FlatB (.cells (layT (rows rw_iii (c4_0a :: c4_0t))) 55),
    Gv P (.func 9) (A_viewportkitPickq1 early (w64 ((((Args.L).length : Nat) : Int) + (1 : Int)))) (H_viewportkitPickq1 early (w64 ((((Args.L).length : Nat) : Int) + (1 : Int)))) (V_viewportkitPickq1 early (w64 ((((Args.L).length : Nat) : Int) + (1 : Int))) c6_) (R_viewportkitPickq1 early (w64 ((((Args.L).length : Nat) : Int) + (1 : Int))) c6_),
    Gv P (.func 23) (A_heapHeapviewportlaw23itemAll1q2 c6_ false (c4_0a :: c4_0t) c4_1 c4_2 0) (H_heapHeapviewportlaw23itemAll1q2 c6_ false (c4_0a :: c4_0t) c4_1 c4_2 0) (V_heapHeapviewportlaw23itemAll1q2 c6_ false (c4_0a :: c4_0t) c4_1 c4_2 0 (.inr c7_)) (R_heapHeapviewportlaw23itemAll1q2 c6_ false (c4_0a :: c4_0t) c4_1 c4_2 0 (.inr c7_)),
    FlatB (.cells (layT (rows rw_iii (c4_0a :: c4_0t))) 55),
    FlatB (.cells (layT (rows rw_iii (c4_0a :: c4_0t))) 55),
    (Value.bool (c7_ == c6_)) = (Value.bool true),
    Gv P (.func 17) (A_heapHeapviewportlaw23itemLenq3 (c4_0a :: c4_0t) c4_1 c4_2) (H_heapHeapviewportlaw23itemLenq3 (c4_0a :: c4_0t) c4_1 c4_2) (V_heapHeapviewportlaw23itemLenq3 (c4_0a :: c4_0t) c4_1 c4_2 ()) (R_heapHeapviewportlaw23itemLenq3 (c4_0a :: c4_0t) c4_1 c4_2 ()),
    FlatB (.cells (layT (rows rw_iii (c4_0a :: c4_0t))) 55),
    (Value.bool (((c4_1 : Nat) : Int) == (((Args.L).length : Nat) : Int))) = (Value.bool true)]) (by kernel_rfl) ⟨(m_viewportlaw23lives_ok n () hc1), (vbF hc2), (m_heapNewviewportref23Itemq1_ok n () hc3), (m_viewportlaw23HeapLeaves_1_ok n early (([] : List (Int × Int × Int)), 0, 0, 0) ((c4_0a :: c4_0t), c4_1, c4_2) hc4), (m_heapHeapviewportlaw23itemAllq2_ok n (c4_0a :: c4_0t) c4_1 c4_2 () hc5), (rows_flat rwf_iii _ _), (rows_flat rwf_iii _ _), (m_viewportkitPickq1_ok n early (w64 ((((Args.L).length : Nat) : Int) + (1 : Int))) c6_ hc6), (m_heapHeapviewportlaw23itemAll1q2_ok n c6_ false (c4_0a :: c4_0t) c4_1 c4_2 0 (.inr c7_) hc7), (rows_flat rwf_iii _ _), (rows_flat rwf_iii _ _), (veT hc8), (m_heapHeapviewportlaw23itemLenq3_ok n (c4_0a :: c4_0t) c4_1 c4_2 () hc9), (rows_flat rwf_iii _ _), (veT hc10), trivial⟩
theorem m_viewportlaw23HeapLeaves_ok (n : Nat) (early : Int) (r : (Unit) ⊕ (Unit)) (h : m_viewportlaw23HeapLeaves n early = some r) : Gv P (.func 5) (A_viewportlaw23HeapLeaves early) (H_viewportlaw23HeapLeaves early) (V_viewportlaw23HeapLeaves early r) (R_viewportlaw23HeapLeaves early r) := by
  unfold m_viewportlaw23HeapLeaves at h
  obtain ⟨_, hc1, h⟩ := Option.bind_eq_some_iff.1 h
  by_cases hc2 : (((Args.L).length : Nat) : Int) > (200 : Int)
  · rw [if_pos hc2] at h
    obtain rfl := Option.some.inj h; exact p_viewportlaw23HeapLeaves_0 n early hc1 hc2
  · rw [if_neg hc2] at h
    obtain ⟨_, hc3, h⟩ := Option.bind_eq_some_iff.1 h
    obtain ⟨⟨c4_0, c4_1, c4_2⟩, hc4, h⟩ := Option.bind_eq_some_iff.1 h
    dsimp only at h
    cases c4_0 with
    | nil =>
      dsimp only at h
      obtain ⟨_, hc5, h⟩ := Option.bind_eq_some_iff.1 h
      obtain ⟨c6_, hc6, h⟩ := Option.bind_eq_some_iff.1 h
      obtain ⟨_, hc7, h⟩ := Option.bind_eq_some_iff.1 h
      by_cases hc8 : (0 : Int) = c6_
      · rw [if_pos hc8] at h
        obtain ⟨_, hc9, h⟩ := Option.bind_eq_some_iff.1 h
        by_cases hc10 : (0 : Int) = (((Args.L).length : Nat) : Int)
        · rw [if_pos hc10] at h
          obtain rfl := Option.some.inj h; exact p_viewportlaw23HeapLeaves_1 n early hc1 hc2 hc3 c4_1 c4_2 hc4 hc5 c6_ hc6 hc7 hc8 hc9 hc10
        · rw [if_neg hc10] at h
          cases h
      · rw [if_neg hc8] at h
        cases h
    | cons c4_0a c4_0t =>
      dsimp only at h
      obtain ⟨_, hc5, h⟩ := Option.bind_eq_some_iff.1 h
      obtain ⟨c6_, hc6, h⟩ := Option.bind_eq_some_iff.1 h
      rcases hc7 : m_heapHeapviewportlaw23itemAll1q2 n c6_ false (c4_0a :: c4_0t) c4_1 c4_2 0 with _ | (c7_ | c7_)
      · rw [hc7] at h; cases h
      · rw [hc7] at h
        dsimp only at h
        by_cases hc8 : c7_ = c6_
        · rw [if_pos hc8] at h
          obtain ⟨_, hc9, h⟩ := Option.bind_eq_some_iff.1 h
          by_cases hc10 : ((c4_1 : Nat) : Int) = (((Args.L).length : Nat) : Int)
          · rw [if_pos hc10] at h
            obtain rfl := Option.some.inj h; exact p_viewportlaw23HeapLeaves_2 n early hc1 hc2 hc3 c4_0a c4_0t c4_1 c4_2 hc4 hc5 c6_ hc6 c7_ hc7 hc8 hc9 hc10
          · rw [if_neg hc10] at h
            cases h
        · rw [if_neg hc8] at h
          cases h
      · rw [hc7] at h
        dsimp only at h
        by_cases hc8 : c7_ = c6_
        · rw [if_pos hc8] at h
          obtain ⟨_, hc9, h⟩ := Option.bind_eq_some_iff.1 h
          by_cases hc10 : ((c4_1 : Nat) : Int) = (((Args.L).length : Nat) : Int)
          · rw [if_pos hc10] at h
            obtain rfl := Option.some.inj h; exact p_viewportlaw23HeapLeaves_3 n early hc1 hc2 hc3 c4_0a c4_0t c4_1 c4_2 hc4 hc5 c6_ hc6 c7_ hc7 hc8 hc9 hc10
          · rw [if_neg hc10] at h
            cases h
        · rw [if_neg hc8] at h
          cases h

end Go.Proofs.Ytnfndhblfpaphaa.heapw
