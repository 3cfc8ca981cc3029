/-
  What functions do, told by pure functions. No condition.
-/
import Derived.Test.YtpbhdiapgeiopaaGramBTold
set_option linter.unusedSimpArgs false
set_option linter.unusedVariables false
set_option linter.unusedSectionVars false
set_option linter.unnecessarySimpa false
namespace Go.Proofs.Ytpbhdiapgeiopaa.gramw
open Go Go.Proofs.Ytpbhdiapgeiopaa Ax
variable [Args]
noncomputable def S_gramOf_1 (x1_0 : Int) (x1_2 : Int) (st : List Int × Int) : XSt := match st with
  | (x1_1, x1_3) => (sT 29 [(1, (Value.int .i64 x1_0)), (5, (slN x1_1 0)), (12, (Value.slice (some ⟨0, 0, some 1⟩) (Args.G).length Args.cG)), (13, (Value.int .i64 x1_2)), (14, (Value.int .i64 x1_3))], [], ⟨sB [(0, (nblk x1_1 3))], 1, 0⟩)
noncomputable def X_gramOf_1 (x1_0 : Int) (x1_2 : Int) (r : List Int) : Ex × XSt := match r with
  | z1_0 => (.exit 0, (sT 29 [(5, (slN z1_0 0))], [], ⟨sB [(0, (nblk z1_0 3))], 1, 0⟩))
def B_gramOf_1 (n : Nat) (x1_0 : Int) (x1_2 : Int) (st : List Int × Int) : Option ((List Int × Int) ⊕ (List Int)) := match st with
  | (x1_1, x1_3) =>
    match x1_1 with
    | [] =>
      if x1_3 < x1_2 then
        if 0 ≤ x1_3 ∧ x1_3 < (((Args.G).length : Nat) : Int) then
          if (((Args.G).getD (x1_3).toNat (0, nl0)).1) = x1_0 then
            some (.inl ([x1_3], (w64 (x1_3 + (1 : Int)))))
          else
            some (.inl (([] : List Int), (w64 (x1_3 + (1 : Int)))))
        else none
      else
        some (.inr ([] : List Int))
    | x1_1a :: x1_1t =>
      if x1_3 < x1_2 then
        if 0 ≤ x1_3 ∧ x1_3 < (((Args.G).length : Nat) : Int) then
          if (((Args.G).getD (x1_3).toNat (0, nl0)).1) = x1_0 then
            if (((x1_1a :: x1_1t)).length + 1) * 8 ≤ 140737488355328 then
              some (.inl (((x1_1a :: x1_1t) ++ [x1_3]), (w64 (x1_3 + (1 : Int)))))
            else none
          else
            some (.inl ((x1_1a :: x1_1t), (w64 (x1_3 + (1 : Int)))))
        else none
      else
        some (.inr (x1_1a :: x1_1t))
def m_gramOf_1 (n : Nat) (x1_0 : Int) (x1_2 : Int) (st : List Int × Int) : Option (List Int) := iterM (B_gramOf_1 n x1_0 x1_2) n st
set_option maxRecDepth 100000 in
theorem q_gramOf_1_0 (n : Nat) (x1_0 : Int) (x1_2 : Int) (x1_3 : Int) (hy1_1 : x1_3 < x1_2) (hy1_2 : 0 ≤ x1_3 ∧ x1_3 < (((Args.G).length : Nat) : Int)) (hy1_3 : (((Args.G).getD (x1_3).toNat (0, nl0)).1) = x1_0) : CG P none (fnN P 17) 0 (codeOf P 17 [false, false, true, false, true, true, true]) (S_gramOf_1 x1_0 x1_2 (([] : List Int), x1_3)) (.normal, S_gramOf_1 x1_0 x1_2 ([x1_3], (w64 (x1_3 + (1 : Int))))) :=
  runC_ok hm (A := aT [(1, .val (.bool true)), (8, .pur (Value.pointer (some ⟨0, ((x1_3).toNat * 2), some 1⟩))), (9, .ld (Value.agg #[(Value.int .i64 (((Args.G).getD (x1_3).toNat (0, nl0)).1)), (nlV (((Args.G).getD (x1_3).toNat (0, nl0)).2))])), (17, .val (.bool true))]) (L := lT []) (wk := ⟨[1, 5, 12, 13, 14], [(0, 3, false)], 1, 0⟩)
    (ps := [(Value.bool (decide (x1_3 < x1_2))) = (Value.bool true),
    opIndexAddr P 22 (Value.slice (some ⟨0, 0, some 1⟩) (Args.G).length Args.cG) (Value.int .i64 x1_3) Ax.h0 = some ((Value.pointer (some ⟨0, ((x1_3).toNat * 2), some 1⟩)), Ax.h0),
    loadG P 41 (Value.pointer (some ⟨0, ((x1_3).toNat * 2), some 1⟩)) Ax.h0 = some ((Value.agg #[(Value.int .i64 (((Args.G).getD (x1_3).toNat (0, nl0)).1)), (nlV (((Args.G).getD (x1_3).toNat (0, nl0)).2))]), Ax.h0),
    (Value.bool ((((Args.G).getD (x1_3).toNat (0, nl0)).1) == x1_0)) = (Value.bool true)]) (by kernel_rfl) ⟨(vbT hy1_1), (ixW (e := 41) (by kernel_rfl) (by kernel_rfl) (hy1_2).1 (hy1_2).2), (ldWA rwf_iL (0, nl0) (i := (x1_3).toNat) (q := 0) (L := Args.G) (n := 2) ((x1_3).toNat * 2) rfl rfl (by kernel_rfl) (by kernel_rfl) (toNatLt hy1_2) (by decide) rfl), (veT hy1_3), trivial⟩
set_option maxRecDepth 100000 in
theorem q_gramOf_1_1 (n : Nat) (x1_0 : Int) (x1_2 : Int) (x1_3 : Int) (hy1_1 : x1_3 < x1_2) (hy1_2 : 0 ≤ x1_3 ∧ x1_3 < (((Args.G).length : Nat) : Int)) (hy1_3 : ¬ ((((Args.G).getD (x1_3).toNat (0, nl0)).1) = x1_0)) : CG P none (fnN P 17) 0 (codeOf P 17 [false, false, true, false, true, true, true]) (S_gramOf_1 x1_0 x1_2 (([] : List Int), x1_3)) (.normal, S_gramOf_1 x1_0 x1_2 (([] : List Int), (w64 (x1_3 + (1 : Int))))) :=
  runC_ok hm (A := aT [(1, .val (.bool true)), (8, .pur (Value.pointer (some ⟨0, ((x1_3).toNat * 2), some 1⟩))), (9, .ld (Value.agg #[(Value.int .i64 (((Args.G).getD (x1_3).toNat (0, nl0)).1)), (nlV (((Args.G).getD (x1_3).toNat (0, nl0)).2))])), (17, .val (.bool false))]) (L := lT []) (wk := ⟨[1, 5, 12, 13, 14], [], 1, 0⟩)
    (ps := [(Value.bool (decide (x1_3 < x1_2))) = (Value.bool true),
    opIndexAddr P 22 (Value.slice (some ⟨0, 0, some 1⟩) (Args.G).length Args.cG) (Value.int .i64 x1_3) Ax.h0 = some ((Value.pointer (some ⟨0, ((x1_3).toNat * 2), some 1⟩)), Ax.h0),
    loadG P 41 (Value.pointer (some ⟨0, ((x1_3).toNat * 2), some 1⟩)) Ax.h0 = some ((Value.agg #[(Value.int .i64 (((Args.G).getD (x1_3).toNat (0, nl0)).1)), (nlV (((Args.G).getD (x1_3).toNat (0, nl0)).2))]), Ax.h0),
    (Value.bool ((((Args.G).getD (x1_3).toNat (0, nl0)).1) == x1_0)) = (Value.bool false)]) (by kernel_rfl) ⟨(vbT hy1_1), (ixW (e := 41) (by kernel_rfl) (by kernel_rfl) (hy1_2).1 (hy1_2).2), (ldWA rwf_iL (0, nl0) (i := (x1_3).toNat) (q := 0) (L := Args.G) (n := 2) ((x1_3).toNat * 2) rfl rfl (by kernel_rfl) (by kernel_rfl) (toNatLt hy1_2) (by decide) rfl), (veF hy1_3), trivial⟩
set_option maxRecDepth 100000 in
theorem q_gramOf_1_2 (n : Nat) (x1_0 : Int) (x1_2 : Int) (x1_3 : Int) (hy1_1 : ¬ (x1_3 < x1_2)) : CG P none (fnN P 17) 0 (codeOf P 17 [false, false, true, false, true, true, true]) (S_gramOf_1 x1_0 x1_2 (([] : List Int), x1_3)) (X_gramOf_1 x1_0 x1_2 ([] : List Int)) :=
  runC_ok hm (A := aT [(1, .val (.bool false))]) (L := lT []) (wk := ⟨[5], [], 1, 0⟩)
    (ps := [(Value.bool (decide (x1_3 < x1_2))) = (Value.bool false)]) (by kernel_rfl) ⟨(vbF hy1_1), trivial⟩
set_option maxRecDepth 100000 in
theorem q_gramOf_1_3 (n : Nat) (x1_0 : Int) (x1_1a : Int) (x1_1t : List (Int)) (x1_2 : Int) (x1_3 : Int) (hy1_1 : x1_3 < x1_2) (hy1_2 : 0 ≤ x1_3 ∧ x1_3 < (((Args.G).length : Nat) : Int)) (hy1_3 : (((Args.G).getD (x1_3).toNat (0, nl0)).1) = x1_0) (hy1_4 : (((x1_1a :: x1_1t)).length + 1) * 8 ≤ 140737488355328) : CG P none (fnN P 17) 0 (codeOf P 17 [false, false, true, false, true, true, true]) (S_gramOf_1 x1_0 x1_2 ((x1_1a :: x1_1t), x1_3)) (.normal, S_gramOf_1 x1_0 x1_2 (((x1_1a :: x1_1t) ++ [x1_3]), (w64 (x1_3 + (1 : Int))))) :=
  runC_ok hm (A := aT [(1, .val (.bool true)), (8, .pur (Value.pointer (some ⟨0, ((x1_3).toNat * 2), some 1⟩))), (9, .ld (Value.agg #[(Value.int .i64 (((Args.G).getD (x1_3).toNat (0, nl0)).1)), (nlV (((Args.G).getD (x1_3).toNat (0, nl0)).2))])), (17, .val (.bool true)), (22, .app ⟨none, iv (x1_1a :: x1_1t), (iv ((x1_1a :: x1_1t) ++ [x1_3])), (((x1_1a :: x1_1t) ++ [x1_3])).length, false⟩)]) (L := lT []) (wk := ⟨[1, 5, 12, 13, 14], [(0, 3, true)], 1, 0⟩)
    (ps := [(Value.bool (decide (x1_3 < x1_2))) = (Value.bool true),
    opIndexAddr P 22 (Value.slice (some ⟨0, 0, some 1⟩) (Args.G).length Args.cG) (Value.int .i64 x1_3) Ax.h0 = some ((Value.pointer (some ⟨0, ((x1_3).toNat * 2), some 1⟩)), Ax.h0),
    loadG P 41 (Value.pointer (some ⟨0, ((x1_3).toNat * 2), some 1⟩)) Ax.h0 = some ((Value.agg #[(Value.int .i64 (((Args.G).getD (x1_3).toNat (0, nl0)).1)), (nlV (((Args.G).getD (x1_3).toNat (0, nl0)).2))]), Ax.h0),
    (Value.bool ((((Args.G).getD (x1_3).toNat (0, nl0)).1) == x1_0)) = (Value.bool true),
    0 < 1,
    rdT (layT (iv (x1_1a :: x1_1t))) (Nat.mul ((x1_1a :: x1_1t)).length 1) 0 = some (iv (x1_1a :: x1_1t)),
    fits (Nat.add ((x1_1a :: x1_1t)).length 1) 8 = true,
    allCells [(Value.int .i64 x1_3)] = true,
    allCells (iv (x1_1a :: x1_1t)) = true,
    iv (x1_1a :: x1_1t) ++ [(Value.int .i64 x1_3)] = (iv ((x1_1a :: x1_1t) ++ [x1_3])),
    Nat.add ((x1_1a :: x1_1t)).length 1 = (((x1_1a :: x1_1t) ++ [x1_3])).length,
    FlatB (.cells (layT (iv ((x1_1a :: x1_1t) ++ [x1_3]))) 3)]) (by kernel_rfl) ⟨(vbT hy1_1), (ixW (e := 41) (by kernel_rfl) (by kernel_rfl) (hy1_2).1 (hy1_2).2), (ldWA rwf_iL (0, nl0) (i := (x1_3).toNat) (q := 0) (L := Args.G) (n := 2) ((x1_3).toNat * 2) rfl rfl (by kernel_rfl) (by kernel_rfl) (toNatLt hy1_2) (by decide) rfl), (veT hy1_3), ((by decide)), (iv_rd _), (fits_ok hy1_4 (by have := hy1_4; show (_ : Nat) + _ ≤ _; omega)), (rfl), (iv_cells _), (by simp [iv]), (by simp), (iv_flat _ _), trivial⟩
set_option maxRecDepth 100000 in
theorem q_gramOf_1_4 (n : Nat) (x1_0 : Int) (x1_1a : Int) (x1_1t : List (Int)) (x1_2 : Int) (x1_3 : Int) (hy1_1 : x1_3 < x1_2) (hy1_2 : 0 ≤ x1_3 ∧ x1_3 < (((Args.G).length : Nat) : Int)) (hy1_3 : ¬ ((((Args.G).getD (x1_3).toNat (0, nl0)).1) = x1_0)) : CG P none (fnN P 17) 0 (codeOf P 17 [false, false, true, false, true, true, true]) (S_gramOf_1 x1_0 x1_2 ((x1_1a :: x1_1t), x1_3)) (.normal, S_gramOf_1 x1_0 x1_2 ((x1_1a :: x1_1t), (w64 (x1_3 + (1 : Int))))) :=
  runC_ok hm (A := aT [(1, .val (.bool true)), (8, .pur (Value.pointer (some ⟨0, ((x1_3).toNat * 2), some 1⟩))), (9, .ld (Value.agg #[(Value.int .i64 (((Args.G).getD (x1_3).toNat (0, nl0)).1)), (nlV (((Args.G).getD (x1_3).toNat (0, nl0)).2))])), (17, .val (.bool false))]) (L := lT []) (wk := ⟨[1, 5, 12, 13, 14], [(0, 0, true)], 1, 0⟩)
    (ps := [(Value.bool (decide (x1_3 < x1_2))) = (Value.bool true),
    opIndexAddr P 22 (Value.slice (some ⟨0, 0, some 1⟩) (Args.G).length Args.cG) (Value.int .i64 x1_3) Ax.h0 = some ((Value.pointer (some ⟨0, ((x1_3).toNat * 2), some 1⟩)), Ax.h0),
    loadG P 41 (Value.pointer (some ⟨0, ((x1_3).toNat * 2), some 1⟩)) Ax.h0 = some ((Value.agg #[(Value.int .i64 (((Args.G).getD (x1_3).toNat (0, nl0)).1)), (nlV (((Args.G).getD (x1_3).toNat (0, nl0)).2))]), Ax.h0),
    (Value.bool ((((Args.G).getD (x1_3).toNat (0, nl0)).1) == x1_0)) = (Value.bool false),
    FlatB (.cells (layT (iv (x1_1a :: x1_1t))) 3)]) (by kernel_rfl) ⟨(vbT hy1_1), (ixW (e := 41) (by kernel_rfl) (by kernel_rfl) (hy1_2).1 (hy1_2).2), (ldWA rwf_iL (0, nl0) (i := (x1_3).toNat) (q := 0) (L := Args.G) (n := 2) ((x1_3).toNat * 2) rfl rfl (by kernel_rfl) (by kernel_rfl) (toNatLt hy1_2) (by decide) rfl), (veF hy1_3), (iv_flat _ _), trivial⟩
set_option maxRecDepth 100000 in
theorem q_gramOf_1_5 (n : Nat) (x1_0 : Int) (x1_1a : Int) (x1_1t : List (Int)) (x1_2 : Int) (x1_3 : Int) (hy1_1 : ¬ (x1_3 < x1_2)) : CG P none (fnN P 17) 0 (codeOf P 17 [false, false, true, false, true, true, true]) (S_gramOf_1 x1_0 x1_2 ((x1_1a :: x1_1t), x1_3)) (X_gramOf_1 x1_0 x1_2 (x1_1a :: x1_1t)) :=
  runC_ok hm (A := aT [(1, .val (.bool false))]) (L := lT []) (wk := ⟨[5], [(0, 0, true)], 1, 0⟩)
    (ps := [(Value.bool (decide (x1_3 < x1_2))) = (Value.bool false),
    FlatB (.cells (layT (iv (x1_1a :: x1_1t))) 3)]) (by kernel_rfl) ⟨(vbF hy1_1), (iv_flat _ _), trivial⟩
theorem m_gramOf_1_ok (n : Nat) (x1_0 : Int) (x1_2 : Int) (st : List Int × Int) (r : List Int) (h : m_gramOf_1 n x1_0 x1_2 st = some r) : CG P none (fnN P 17) 0 (codeOf P 17 [false, true, false, true, true, true]) (S_gramOf_1 x1_0 x1_2 st) (X_gramOf_1 x1_0 x1_2 r) :=
  CG.iter (b := codeOf P 17 [false, false, true, false, true, true, true]) (by kernel_rfl) (body := B_gramOf_1 n x1_0 x1_2) (S := S_gramOf_1 x1_0 x1_2) (X := X_gramOf_1 x1_0 x1_2)
    (fun s s' h => by
    obtain ⟨x1_1, x1_3⟩ := s
    unfold B_gramOf_1 at h
    dsimp only at h
    cases x1_1 with
    | nil =>
      dsimp only at h
      by_cases hy1_1 : x1_3 < x1_2
      · rw [if_pos hy1_1] at h
        by_cases hy1_2 : 0 ≤ x1_3 ∧ x1_3 < (((Args.G).length : Nat) : Int)
        · rw [if_pos hy1_2] at h
          by_cases hy1_3 : (((Args.G).getD (x1_3).toNat (0, nl0)).1) = x1_0
          · rw [if_pos hy1_3] at h
            obtain rfl := Sum.inl.inj (Option.some.inj h); exact q_gramOf_1_0 n x1_0 x1_2 x1_3 hy1_1 hy1_2 hy1_3
          · rw [if_neg hy1_3] at h
            obtain rfl := Sum.inl.inj (Option.some.inj h); exact q_gramOf_1_1 n x1_0 x1_2 x1_3 hy1_1 hy1_2 hy1_3
        · rw [if_neg hy1_2] at h; cases h
      · rw [if_neg hy1_1] at h
        cases h
    | cons x1_1a x1_1t =>
      dsimp only at h
      by_cases hy1_1 : x1_3 < x1_2
      · rw [if_pos hy1_1] at h
        by_cases hy1_2 : 0 ≤ x1_3 ∧ x1_3 < (((Args.G).length : Nat) : Int)
        · rw [if_pos hy1_2] at h
          by_cases hy1_3 : (((Args.G).getD (x1_3).toNat (0, nl0)).1) = x1_0
          · rw [if_pos hy1_3] at h
            by_cases hy1_4 : (((x1_1a :: x1_1t)).length + 1) * 8 ≤ 140737488355328
            · rw [if_pos hy1_4] at h
              obtain rfl := Sum.inl.inj (Option.some.inj h); exact q_gramOf_1_3 n x1_0 x1_1a x1_1t x1_2 x1_3 hy1_1 hy1_2 hy1_3 hy1_4
            · rw [if_neg hy1_4] at h; cases h
          · rw [if_neg hy1_3] at h
            obtain rfl := Sum.inl.inj (Option.some.inj h); exact q_gramOf_1_4 n x1_0 x1_1a x1_1t x1_2 x1_3 hy1_1 hy1_2 hy1_3
        · rw [if_neg hy1_2] at h; cases h
      · rw [if_neg hy1_1] at h
        cases h)
    (fun s r h => by
    obtain ⟨x1_1, x1_3⟩ := s
    unfold B_gramOf_1 at h
    dsimp only at h
    cases x1_1 with
    | nil =>
      dsimp only at h
      by_cases hy1_1 : x1_3 < x1_2
      · rw [if_pos hy1_1] at h
        by_cases hy1_2 : 0 ≤ x1_3 ∧ x1_3 < (((Args.G).length : Nat) : Int)
        · rw [if_pos hy1_2] at h
          by_cases hy1_3 : (((Args.G).getD (x1_3).toNat (0, nl0)).1) = x1_0
          · rw [if_pos hy1_3] at h
            cases h
          · rw [if_neg hy1_3] at h
            cases h
        · rw [if_neg hy1_2] at h; cases h
      · rw [if_neg hy1_1] at h
        obtain rfl := Sum.inr.inj (Option.some.inj h); exact q_gramOf_1_2 n x1_0 x1_2 x1_3 hy1_1
    | cons x1_1a x1_1t =>
      dsimp only at h
      by_cases hy1_1 : x1_3 < x1_2
      · rw [if_pos hy1_1] at h
        by_cases hy1_2 : 0 ≤ x1_3 ∧ x1_3 < (((Args.G).length : Nat) : Int)
        · rw [if_pos hy1_2] at h
          by_cases hy1_3 : (((Args.G).getD (x1_3).toNat (0, nl0)).1) = x1_0
          · rw [if_pos hy1_3] at h
            by_cases hy1_4 : (((x1_1a :: x1_1t)).length + 1) * 8 ≤ 140737488355328
            · rw [if_pos hy1_4] at h
              cases h
            · rw [if_neg hy1_4] at h; cases h
          · rw [if_neg hy1_3] at h
            cases h
        · rw [if_neg hy1_2] at h; cases h
      · rw [if_neg hy1_1] at h
        obtain rfl := Sum.inr.inj (Option.some.inj h); exact q_gramOf_1_5 n x1_0 x1_1a x1_1t x1_2 x1_3 hy1_1)
    (fun r => by intro hx; cases hx) h
noncomputable def A_gramOf (gT : Int) (gN : Int) (gK : Int) (x : Int) : List Value := [(Value.agg #[(Value.int .i64 gT), (Value.int .i64 gN), (Value.int .i64 gK), (Value.slice (some ⟨0, 0, some 1⟩) (Args.G).length Args.cG)]), (Value.int .i64 x)]
noncomputable def H_gramOf (gT : Int) (gN : Int) (gK : Int) (x : Int) : AH := ⟨sB [], 0, 0⟩
noncomputable def V_gramOf (gT : Int) (gN : Int) (gK : Int) (x : Int) (r : List Int) : Value := match r with
  | o0 => (slN o0 0)
noncomputable def R_gramOf (gT : Int) (gN : Int) (gK : Int) (x : Int) (r : List Int) : AH := match r with
  | o0 => ⟨sB [(0, (nblk o0 3))], 1, 0⟩
def m_gramOf (n : Nat) (gT : Int) (gN : Int) (gK : Int) (x : Int) : Option (List Int) :=
  (m_gramCheck n gT gN gK).bind fun c1_ =>
  if c1_ = (0 : Int) then
    (m_gramOf_1 n x (((Args.G).length : Nat) : Int) (([] : List Int), 0)).bind fun c3_ =>
    match c3_ with
    | [] =>
      some ([] : List Int)
    | c3_a :: c3_t =>
      some (c3_a :: c3_t)
  else
    none
set_option maxRecDepth 100000 in
theorem p_gramOf_0 (n : Nat) (gT : Int) (gN : Int) (gK : Int) (x : Int) (c1_ : Int) (hc1 : m_gramCheck n gT gN gK = some c1_) (hc2 : c1_ = (0 : Int)) (hc3 : m_gramOf_1 n x (((Args.G).length : Nat) : Int) (([] : List Int), 0) = some []) : Gv P (.func 17) (A_gramOf gT gN gK x) (H_gramOf gT gN gK x) (V_gramOf gT gN gK x ([] : List Int)) (R_gramOf gT gN gK x ([] : List Int)) :=
  runF_ok hm (A := aT [(6, .call ⟨0, [], (V_gramCheck gT gN gK c1_), (R_gramCheck gT gN gK c1_), []⟩), (7, .val (.bool false))]) (L := lT [(18, ⟨⟨[1, 5, 12, 13, 14], [], 1, 0⟩, (X_gramOf_1 x (((Args.G).length : Nat) : Int) ([] : List Int)).1, (X_gramOf_1 x (((Args.G).length : Nat) : Int) ([] : List Int)).2⟩)]) (wk := ⟨[4], [], 1, 0⟩)
    (ps := [Gv P (.func 14) (A_gramCheck gT gN gK) (H_gramCheck gT gN gK) (V_gramCheck gT gN gK c1_) (R_gramCheck gT gN gK c1_),
    (Value.bool (c1_ != (0 : Int))) = (Value.bool false),
    CG P none (fnN P 17) 0 (codeOf P 17 [false, true, false, true, true, true]) (S_gramOf_1 x (((Args.G).length : Nat) : Int) (([] : List Int), 0)) (X_gramOf_1 x (((Args.G).length : Nat) : Int) ([] : List Int))]) (by kernel_rfl) ⟨(m_gramCheck_ok n gT gN gK c1_ hc1), (vnF hc2), (m_gramOf_1_ok n x (((Args.G).length : Nat) : Int) (([] : List Int), 0) ([] : List Int) hc3), trivial⟩
set_option maxRecDepth 100000 in
theorem p_gramOf_1 (n : Nat) (gT : Int) (gN : Int) (gK : Int) (x : Int) (c1_ : Int) (hc1 : m_gramCheck n gT gN gK = some c1_) (hc2 : c1_ = (0 : Int)) (c3_a : Int) (c3_t : List (Int)) (hc3 : m_gramOf_1 n x (((Args.G).length : Nat) : Int) (([] : List Int), 0) = some (c3_a :: c3_t)) : Gv P (.func 17) (A_gramOf gT gN gK x) (H_gramOf gT gN gK x) (V_gramOf gT gN gK x (c3_a :: c3_t)) (R_gramOf gT gN gK x (c3_a :: c3_t)) :=
  runF_ok hm (A := aT [(6, .call ⟨0, [], (V_gramCheck gT gN gK c1_), (R_gramCheck gT gN gK c1_), []⟩), (7, .val (.bool false))]) (L := lT [(18, ⟨⟨[1, 5, 12, 13, 14], [], 1, 0⟩, (X_gramOf_1 x (((Args.G).length : Nat) : Int) (c3_a :: c3_t)).1, (X_gramOf_1 x (((Args.G).length : Nat) : Int) (c3_a :: c3_t)).2⟩)]) (wk := ⟨[4], [(0, 0, true)], 1, 0⟩)
    (ps := [Gv P (.func 14) (A_gramCheck gT gN gK) (H_gramCheck gT gN gK) (V_gramCheck gT gN gK c1_) (R_gramCheck gT gN gK c1_),
    (Value.bool (c1_ != (0 : Int))) = (Value.bool false),
    CG P none (fnN P 17) 0 (codeOf P 17 [false, true, false, true, true, true]) (S_gramOf_1 x (((Args.G).length : Nat) : Int) (([] : List Int), 0)) (X_gramOf_1 x (((Args.G).length : Nat) : Int) (c3_a :: c3_t)),
    FlatB (.cells (layT (iv (c3_a :: c3_t))) 3)]) (by kernel_rfl) ⟨(m_gramCheck_ok n gT gN gK c1_ hc1), (vnF hc2), (m_gramOf_1_ok n x (((Args.G).length : Nat) : Int) (([] : List Int), 0) (c3_a :: c3_t) hc3), (iv_flat _ _), trivial⟩
theorem m_gramOf_ok (n : Nat) (gT : Int) (gN : Int) (gK : Int) (x : Int) (r : List Int) (h : m_gramOf n gT gN gK x = some r) : Gv P (.func 17) (A_gramOf gT gN gK x) (H_gramOf gT gN gK x) (V_gramOf gT gN gK x r) (R_gramOf gT gN gK x r) := by
  unfold m_gramOf at h
  obtain ⟨c1_, hc1, h⟩ := Option.bind_eq_some_iff.1 h
  by_cases hc2 : c1_ = (0 : Int)
  · rw [if_pos hc2] at h
    obtain ⟨c3_, hc3, h⟩ := Option.bind_eq_some_iff.1 h
    cases c3_ with
    | nil =>
      dsimp only at h
      obtain rfl := Option.some.inj h; exact p_gramOf_0 n gT gN gK x c1_ hc1 hc2 hc3
    | cons c3_a c3_t =>
      dsimp only at h
      obtain rfl := Option.some.inj h; exact p_gramOf_1 n gT gN gK x c1_ hc1 hc2 c3_a c3_t hc3
  · rw [if_neg hc2] at h
    cases h

noncomputable def S_gramReduced_1 (x1_0 : List (Bool)) (x1_1 : Nat) (x1_2 : List (Bool)) (x1_3 : Int) (st : Int) : XSt := match st with
  | x1_4 => (sT 33 [(4, (Value.slice (some ⟨0, 0, none⟩) x1_1 x1_1)), (5, (Value.slice (some ⟨1, 0, none⟩) x1_1 x1_1)), (15, (Value.int .i64 x1_3)), (16, (Value.int .i64 x1_4))], [], ⟨sB [(0, (some (.cells (layT (rows rw_b x1_0)) 4))), (1, (some (.cells (layT (rows rw_b x1_2)) 4)))], 2, 0⟩)
noncomputable def X_gramReduced_1 (x1_0 : List (Bool)) (x1_1 : Nat) (x1_2 : List (Bool)) (x1_3 : Int) (r : (Int) ⊕ (Unit)) : Ex × XSt := match r with
  | .inl z1_0 => (.ret, (sT 33 [(2, (Value.int .i64 z1_0)), (3, (Value.bool false))], [], ⟨sB [], 0, 0⟩))
  | .inr _ => (.exit 0, (sT 33 [], [], ⟨sB [], 0, 0⟩))
def B_gramReduced_1 (n : Nat) (x1_0 : List (Bool)) (x1_1 : Nat) (x1_2 : List (Bool)) (x1_3 : Int) (st : Int) : Option ((Int) ⊕ ((Int) ⊕ (Unit))) := match st with
  | x1_4 =>
    if x1_4 < x1_3 then
      if 0 ≤ x1_4 ∧ x1_4 < ((x1_1 : Nat) : Int) then
        if (x1_4).toNat < (x1_0).length then
          if ((x1_0).getD (x1_4).toNat (false)) = true then
            if (x1_4).toNat < (x1_2).length then
              if ((x1_2).getD (x1_4).toNat (false)) = true then
                some (.inl (w64 (x1_4 + (1 : Int))))
              else
                some (.inr (.inl x1_4))
            else none
          else
            some (.inr (.inl x1_4))
        else none
      else none
    else
      some (.inr (.inr ()))
def m_gramReduced_1 (n : Nat) (x1_0 : List (Bool)) (x1_1 : Nat) (x1_2 : List (Bool)) (x1_3 : Int) (st : Int) : Option ((Int) ⊕ (Unit)) := iterM (B_gramReduced_1 n x1_0 x1_1 x1_2 x1_3) n st
set_option maxRecDepth 100000 in
theorem q_gramReduced_1_0 (n : Nat) (x1_0 : List (Bool)) (x1_1 : Nat) (x1_2 : List (Bool)) (x1_3 : Int) (x1_4 : Int) (hy1_1 : x1_4 < x1_3) (hy1_2 : 0 ≤ x1_4 ∧ x1_4 < ((x1_1 : Nat) : Int)) (hy1_3 : (x1_4).toNat < (x1_0).length) (hy1_4 : ((x1_0).getD (x1_4).toNat (false)) = true) (hy1_5 : (x1_4).toNat < (x1_2).length) (hy1_6 : ((x1_2).getD (x1_4).toNat (false)) = true) : CG P none (fnN P 10) 0 (codeOf P 10 [false, false, true, false, true, true, true]) (S_gramReduced_1 x1_0 x1_1 x1_2 x1_3 x1_4) (.normal, S_gramReduced_1 x1_0 x1_1 x1_2 x1_3 (w64 (x1_4 + (1 : Int)))) :=
  runC_ok hm (A := aT [(1, .val (.bool true)), (12, .pur (Value.pointer (some ⟨0, ((x1_4).toNat * 1), none⟩))), (13, .ld (Value.bool ((x1_0).getD (x1_4).toNat (false)))), (14, .val (.bool false)), (18, .pur (Value.pointer (some ⟨1, ((x1_4).toNat * 1), none⟩))), (19, .ld (Value.bool ((x1_2).getD (x1_4).toNat (false)))), (20, .val (.bool false))]) (L := lT []) (wk := ⟨[4, 5, 15, 16], [(0, 0, true), (1, 1, true)], 2, 0⟩)
    (ps := [(Value.bool (decide (x1_4 < x1_3))) = (Value.bool true),
    opIndexAddr P 35 (Value.slice (some ⟨0, 0, none⟩) x1_1 x1_1) (Value.int .i64 x1_4) Ax.h0 = some ((Value.pointer (some ⟨0, ((x1_4).toNat * 1), none⟩)), Ax.h0),
    (layT (rows rw_b x1_0)).get ((x1_4).toNat * 1) = some (Value.bool ((x1_0).getD (x1_4).toNat (false))),
    (Value.bool (!((x1_0).getD (x1_4).toNat (false)))) = (Value.bool false),
    opIndexAddr P 35 (Value.slice (some ⟨1, 0, none⟩) x1_1 x1_1) (Value.int .i64 x1_4) Ax.h0 = some ((Value.pointer (some ⟨1, ((x1_4).toNat * 1), none⟩)), Ax.h0),
    (layT (rows rw_b x1_2)).get ((x1_4).toNat * 1) = some (Value.bool ((x1_2).getD (x1_4).toNat (false))),
    (Value.bool (!((x1_2).getD (x1_4).toNat (false)))) = (Value.bool false),
    FlatB (.cells (layT (rows rw_b x1_0)) 4),
    FlatB (.cells (layT (rows rw_b x1_2)) 4)]) (by kernel_rfl) ⟨(vbT hy1_1), (ixS (e := 4) (by kernel_rfl) (by kernel_rfl) (hy1_2).1 (hy1_2).2), (rows_ld rwf_b (false) (i := (x1_4).toNat) (j := 0) ((x1_4).toNat * 1) rfl (hy1_3) (by decide) rfl), (vBn hy1_4), (ixS (e := 4) (by kernel_rfl) (by kernel_rfl) (hy1_2).1 (hy1_2).2), (rows_ld rwf_b (false) (i := (x1_4).toNat) (j := 0) ((x1_4).toNat * 1) rfl (hy1_5) (by decide) rfl), (vBn hy1_6), (rows_flat rwf_b _ _), (rows_flat rwf_b _ _), trivial⟩
set_option maxRecDepth 100000 in
theorem q_gramReduced_1_1 (n : Nat) (x1_0 : List (Bool)) (x1_1 : Nat) (x1_2 : List (Bool)) (x1_3 : Int) (x1_4 : Int) (hy1_1 : x1_4 < x1_3) (hy1_2 : 0 ≤ x1_4 ∧ x1_4 < ((x1_1 : Nat) : Int)) (hy1_3 : (x1_4).toNat < (x1_0).length) (hy1_4 : ((x1_0).getD (x1_4).toNat (false)) = true) (hy1_5 : (x1_4).toNat < (x1_2).length) (hy1_6 : ¬ (((x1_2).getD (x1_4).toNat (false)) = true)) : CG P none (fnN P 10) 0 (codeOf P 10 [false, false, true, false, true, true, true]) (S_gramReduced_1 x1_0 x1_1 x1_2 x1_3 x1_4) (X_gramReduced_1 x1_0 x1_1 x1_2 x1_3 (.inl x1_4)) :=
  runC_ok hm (A := aT [(1, .val (.bool true)), (12, .pur (Value.pointer (some ⟨0, ((x1_4).toNat * 1), none⟩))), (13, .ld (Value.bool ((x1_0).getD (x1_4).toNat (false)))), (14, .val (.bool false)), (18, .pur (Value.pointer (some ⟨1, ((x1_4).toNat * 1), none⟩))), (19, .ld (Value.bool ((x1_2).getD (x1_4).toNat (false)))), (20, .val (.bool true))]) (L := lT []) (wk := ⟨[2, 3], [], 0, 0⟩)
    (ps := [(Value.bool (decide (x1_4 < x1_3))) = (Value.bool true),
    opIndexAddr P 35 (Value.slice (some ⟨0, 0, none⟩) x1_1 x1_1) (Value.int .i64 x1_4) Ax.h0 = some ((Value.pointer (some ⟨0, ((x1_4).toNat * 1), none⟩)), Ax.h0),
    (layT (rows rw_b x1_0)).get ((x1_4).toNat * 1) = some (Value.bool ((x1_0).getD (x1_4).toNat (false))),
    (Value.bool (!((x1_0).getD (x1_4).toNat (false)))) = (Value.bool false),
    opIndexAddr P 35 (Value.slice (some ⟨1, 0, none⟩) x1_1 x1_1) (Value.int .i64 x1_4) Ax.h0 = some ((Value.pointer (some ⟨1, ((x1_4).toNat * 1), none⟩)), Ax.h0),
    (layT (rows rw_b x1_2)).get ((x1_4).toNat * 1) = some (Value.bool ((x1_2).getD (x1_4).toNat (false))),
    (Value.bool (!((x1_2).getD (x1_4).toNat (false)))) = (Value.bool true)]) (by kernel_rfl) ⟨(vbT hy1_1), (ixS (e := 4) (by kernel_rfl) (by kernel_rfl) (hy1_2).1 (hy1_2).2), (rows_ld rwf_b (false) (i := (x1_4).toNat) (j := 0) ((x1_4).toNat * 1) rfl (hy1_3) (by decide) rfl), (vBn hy1_4), (ixS (e := 4) (by kernel_rfl) (by kernel_rfl) (hy1_2).1 (hy1_2).2), (rows_ld rwf_b (false) (i := (x1_4).toNat) (j := 0) ((x1_4).toNat * 1) rfl (hy1_5) (by decide) rfl), (vBn (Bool.eq_false_iff.2 hy1_6)), trivial⟩
set_option maxRecDepth 100000 in
theorem q_gramReduced_1_2 (n : Nat) (x1_0 : List (Bool)) (x1_1 : Nat) (x1_2 : List (Bool)) (x1_3 : Int) (x1_4 : Int) (hy1_1 : x1_4 < x1_3) (hy1_2 : 0 ≤ x1_4 ∧ x1_4 < ((x1_1 : Nat) : Int)) (hy1_3 : (x1_4).toNat < (x1_0).length) (hy1_4 : ¬ (((x1_0).getD (x1_4).toNat (false)) = true)) : CG P none (fnN P 10) 0 (codeOf P 10 [false, false, true, false, true, true, true]) (S_gramReduced_1 x1_0 x1_1 x1_2 x1_3 x1_4) (X_gramReduced_1 x1_0 x1_1 x1_2 x1_3 (.inl x1_4)) :=
  runC_ok hm (A := aT [(1, .val (.bool true)), (12, .pur (Value.pointer (some ⟨0, ((x1_4).toNat * 1), none⟩))), (13, .ld (Value.bool ((x1_0).getD (x1_4).toNat (false)))), (14, .val (.bool true))]) (L := lT []) (wk := ⟨[2, 3], [], 0, 0⟩)
    (ps := [(Value.bool (decide (x1_4 < x1_3))) = (Value.bool true),
    opIndexAddr P 35 (Value.slice (some ⟨0, 0, none⟩) x1_1 x1_1) (Value.int .i64 x1_4) Ax.h0 = some ((Value.pointer (some ⟨0, ((x1_4).toNat * 1), none⟩)), Ax.h0),
    (layT (rows rw_b x1_0)).get ((x1_4).toNat * 1) = some (Value.bool ((x1_0).getD (x1_4).toNat (false))),
    (Value.bool (!((x1_0).getD (x1_4).toNat (false)))) = (Value.bool true)]) (by kernel_rfl) ⟨(vbT hy1_1), (ixS (e := 4) (by kernel_rfl) (by kernel_rfl) (hy1_2).1 (hy1_2).2), (rows_ld rwf_b (false) (i := (x1_4).toNat) (j := 0) ((x1_4).toNat * 1) rfl (hy1_3) (by decide) rfl), (vBn (Bool.eq_false_iff.2 hy1_4)), trivial⟩
set_option maxRecDepth 100000 in
theorem q_gramReduced_1_3 (n : Nat) (x1_0 : List (Bool)) (x1_1 : Nat) (x1_2 : List (Bool)) (x1_3 : Int) (x1_4 : Int) (hy1_1 : ¬ (x1_4 < x1_3)) : CG P none (fnN P 10) 0 (codeOf P 10 [false, false, true, false, true, true, true]) (S_gramReduced_1 x1_0 x1_1 x1_2 x1_3 x1_4) (X_gramReduced_1 x1_0 x1_1 x1_2 x1_3 (.inr ())) :=
  runC_ok hm (A := aT [(1, .val (.bool false))]) (L := lT []) (wk := ⟨[], [], 0, 0⟩)
    (ps := [(Value.bool (decide (x1_4 < x1_3))) = (Value.bool false)]) (by kernel_rfl) ⟨(vbF hy1_1), trivial⟩
theorem m_gramReduced_1_ok (n : Nat) (x1_0 : List (Bool)) (x1_1 : Nat) (x1_2 : List (Bool)) (x1_3 : Int) (st : Int) (r : (Int) ⊕ (Unit)) (h : m_gramReduced_1 n x1_0 x1_1 x1_2 x1_3 st = some r) : CG P none (fnN P 10) 0 (codeOf P 10 [false, true, false, true, true, true]) (S_gramReduced_1 x1_0 x1_1 x1_2 x1_3 st) (X_gramReduced_1 x1_0 x1_1 x1_2 x1_3 r) :=
  CG.iter (b := codeOf P 10 [false, false, true, false, true, true, true]) (by kernel_rfl) (body := B_gramReduced_1 n x1_0 x1_1 x1_2 x1_3) (S := S_gramReduced_1 x1_0 x1_1 x1_2 x1_3) (X := X_gramReduced_1 x1_0 x1_1 x1_2 x1_3)
    (fun x1_4 s' h => by
    unfold B_gramReduced_1 at h
    dsimp only at h
    by_cases hy1_1 : x1_4 < x1_3
    · rw [if_pos hy1_1] at h
      by_cases hy1_2 : 0 ≤ x1_4 ∧ x1_4 < ((x1_1 : Nat) : Int)
      · rw [if_pos hy1_2] at h
        by_cases hy1_3 : (x1_4).toNat < (x1_0).length
        · rw [if_pos hy1_3] at h
          by_cases hy1_4 : ((x1_0).getD (x1_4).toNat (false)) = true
          · rw [if_pos hy1_4] at h
            by_cases hy1_5 : (x1_4).toNat < (x1_2).length
            · rw [if_pos hy1_5] at h
              by_cases hy1_6 : ((x1_2).getD (x1_4).toNat (false)) = true
              · rw [if_pos hy1_6] at h
                obtain rfl := Sum.inl.inj (Option.some.inj h); exact q_gramReduced_1_0 n x1_0 x1_1 x1_2 x1_3 x1_4 hy1_1 hy1_2 hy1_3 hy1_4 hy1_5 hy1_6
              · rw [if_neg hy1_6] at h
                cases h
            · rw [if_neg hy1_5] at h; cases h
          · rw [if_neg hy1_4] at h
            cases h
        · rw [if_neg hy1_3] at h; cases h
      · rw [if_neg hy1_2] at h; cases h
    · rw [if_neg hy1_1] at h
      cases h)
    (fun x1_4 r h => by
    unfold B_gramReduced_1 at h
    dsimp only at h
    by_cases hy1_1 : x1_4 < x1_3
    · rw [if_pos hy1_1] at h
      by_cases hy1_2 : 0 ≤ x1_4 ∧ x1_4 < ((x1_1 : Nat) : Int)
      · rw [if_pos hy1_2] at h
        by_cases hy1_3 : (x1_4).toNat < (x1_0).length
        · rw [if_pos hy1_3] at h
          by_cases hy1_4 : ((x1_0).getD (x1_4).toNat (false)) = true
          · rw [if_pos hy1_4] at h
            by_cases hy1_5 : (x1_4).toNat < (x1_2).length
            · rw [if_pos hy1_5] at h
              by_cases hy1_6 : ((x1_2).getD (x1_4).toNat (false)) = true
              · rw [if_pos hy1_6] at h
                cases h
              · rw [if_neg hy1_6] at h
                obtain rfl := Sum.inr.inj (Option.some.inj h); exact q_gramReduced_1_1 n x1_0 x1_1 x1_2 x1_3 x1_4 hy1_1 hy1_2 hy1_3 hy1_4 hy1_5 hy1_6
            · rw [if_neg hy1_5] at h; cases h
          · rw [if_neg hy1_4] at h
            obtain rfl := Sum.inr.inj (Option.some.inj h); exact q_gramReduced_1_2 n x1_0 x1_1 x1_2 x1_3 x1_4 hy1_1 hy1_2 hy1_3 hy1_4
        · rw [if_neg hy1_3] at h; cases h
      · rw [if_neg hy1_2] at h; cases h
    · rw [if_neg hy1_1] at h
      obtain rfl := Sum.inr.inj (Option.some.inj h); exact q_gramReduced_1_3 n x1_0 x1_1 x1_2 x1_3 x1_4 hy1_1)
    (fun r => by intro hx; rcases r with _ | _ <;> cases hx) h
noncomputable def A_gramReduced (gT : Int) (gN : Int) (gK : Int) : List Value := [(Value.agg #[(Value.int .i64 gT), (Value.int .i64 gN), (Value.int .i64 gK), (Value.slice (some ⟨0, 0, some 1⟩) (Args.G).length Args.cG)])]
noncomputable def H_gramReduced (gT : Int) (gN : Int) (gK : Int) : AH := ⟨sB [], 0, 0⟩
noncomputable def V_gramReduced (gT : Int) (gN : Int) (gK : Int) (r : Int × Bool) : Value := match r with
  | (o0, o1) => (Value.tuple #[(Value.int .i64 o0), (Value.bool o1)])
noncomputable def R_gramReduced (gT : Int) (gN : Int) (gK : Int) (r : Int × Bool) : AH := match r with
  | (o0, o1) => ⟨sB [], 0, 0⟩
def m_gramReduced (n : Nat) (gT : Int) (gN : Int) (gK : Int) : Option (Int × Bool) :=
  (m_gramCheck n gT gN gK).bind fun c1_ =>
  if c1_ = (0 : Int) then
    (m_gramProductive n gT gN gK).bind fun c3_ =>
    (m_gramReachable n gT gN gK).bind fun c4_ =>
    match m_gramReduced_1 n c3_ ((gN).toNat) c4_ gN 0 with
    | none => none
    | some (.inl c5_) =>
      some (c5_, false)
    | some (.inr _) =>
      some (0, true)
  else
    some (0, false)
set_option maxRecDepth 100000 in
theorem p_gramReduced_0 (n : Nat) (gT : Int) (gN : Int) (gK : Int) (c1_ : Int) (hc1 : m_gramCheck n gT gN gK = some c1_) (hc2 : c1_ = (0 : Int)) (c3_ : List (Bool)) (hc3 : m_gramProductive n gT gN gK = some c3_) (c4_ : List (Bool)) (hc4 : m_gramReachable n gT gN gK = some c4_) (c5_ : Int) (hc5 : m_gramReduced_1 n c3_ ((gN).toNat) c4_ gN 0 = some (.inl c5_)) : Gv P (.func 10) (A_gramReduced gT gN gK) (H_gramReduced gT gN gK) (V_gramReduced gT gN gK (c5_, false)) (R_gramReduced gT gN gK (c5_, false)) :=
  runF_ok hm (A := aT [(7, .call ⟨0, [], (V_gramCheck gT gN gK c1_), (R_gramCheck gT gN gK c1_), []⟩), (8, .val (.bool false)), (12, .call ⟨0, [], (V_gramProductive gT gN gK c3_), (R_gramProductive gT gN gK c3_), [(1, 0, true)]⟩), (14, .call ⟨0, [], (V_gramReachable gT gN gK c4_), (R_gramReachable gT gN gK c4_), [(2, 0, true)]⟩)]) (L := lT [(23, ⟨⟨[4, 5, 15, 16], [(0, 1, true), (1, 2, true)], 2, 0⟩, (X_gramReduced_1 c3_ ((gN).toNat) c4_ gN (.inl c5_)).1, (X_gramReduced_1 c3_ ((gN).toNat) c4_ gN (.inl c5_)).2⟩)]) (wk := ⟨[2, 3], [], 0, 0⟩)
    (ps := [Gv P (.func 14) (A_gramCheck gT gN gK) (H_gramCheck gT gN gK) (V_gramCheck gT gN gK c1_) (R_gramCheck gT gN gK c1_),
    (Value.bool (c1_ != (0 : Int))) = (Value.bool false),
    Gv P (.func 22) (A_gramProductive gT gN gK) (H_gramProductive gT gN gK) (V_gramProductive gT gN gK c3_) (R_gramProductive gT gN gK c3_),
    FlatB (.cells (layT (rows rw_b c3_)) 4),
    Gv P (.func 24) (A_gramReachable gT gN gK) (H_gramReachable gT gN gK) (V_gramReachable gT gN gK c4_) (R_gramReachable gT gN gK c4_),
    FlatB (.cells (layT (rows rw_b c4_)) 4),
    CG P none (fnN P 10) 0 (codeOf P 10 [false, true, false, true, true, true]) (S_gramReduced_1 c3_ ((gN).toNat) c4_ gN 0) (X_gramReduced_1 c3_ ((gN).toNat) c4_ gN (.inl c5_)),
    FlatB (.cells (layT (rows rw_b c3_)) 4),
    FlatB (.cells (layT (rows rw_b c4_)) 4)]) (by kernel_rfl) ⟨(m_gramCheck_ok n gT gN gK c1_ hc1), (vnF hc2), (m_gramProductive_ok n gT gN gK c3_ hc3), (rows_flat rwf_b _ _), (m_gramReachable_ok n gT gN gK c4_ hc4), (rows_flat rwf_b _ _), (m_gramReduced_1_ok n c3_ ((gN).toNat) c4_ gN 0 (.inl c5_) hc5), (rows_flat rwf_b _ _), (rows_flat rwf_b _ _), trivial⟩
set_option maxRecDepth 100000 in
theorem p_gramReduced_1 (n : Nat) (gT : Int) (gN : Int) (gK : Int) (c1_ : Int) (hc1 : m_gramCheck n gT gN gK = some c1_) (hc2 : c1_ = (0 : Int)) (c3_ : List (Bool)) (hc3 : m_gramProductive n gT gN gK = some c3_) (c4_ : List (Bool)) (hc4 : m_gramReachable n gT gN gK = some c4_) (hc5 : m_gramReduced_1 n c3_ ((gN).toNat) c4_ gN 0 = some (.inr ())) : Gv P (.func 10) (A_gramReduced gT gN gK) (H_gramReduced gT gN gK) (V_gramReduced gT gN gK (0, true)) (R_gramReduced gT gN gK (0, true)) :=
  runF_ok hm (A := aT [(7, .call ⟨0, [], (V_gramCheck gT gN gK c1_), (R_gramCheck gT gN gK c1_), []⟩), (8, .val (.bool false)), (12, .call ⟨0, [], (V_gramProductive gT gN gK c3_), (R_gramProductive gT gN gK c3_), [(1, 0, true)]⟩), (14, .call ⟨0, [], (V_gramReachable gT gN gK c4_), (R_gramReachable gT gN gK c4_), [(2, 0, true)]⟩)]) (L := lT [(23, ⟨⟨[4, 5, 15, 16], [(0, 1, true), (1, 2, true)], 2, 0⟩, (X_gramReduced_1 c3_ ((gN).toNat) c4_ gN (.inr ())).1, (X_gramReduced_1 c3_ ((gN).toNat) c4_ gN (.inr ())).2⟩)]) (wk := ⟨[2, 3], [], 0, 0⟩)
    (ps := [Gv P (.func 14) (A_gramCheck gT gN gK) (H_gramCheck gT gN gK) (V_gramCheck gT gN gK c1_) (R_gramCheck gT gN gK c1_),
    (Value.bool (c1_ != (0 : Int))) = (Value.bool false),
    Gv P (.func 22) (A_gramProductive gT gN gK) (H_gramProductive gT gN gK) (V_gramProductive gT gN gK c3_) (R_gramProductive gT gN gK c3_),
    FlatB (.cells (layT (rows rw_b c3_)) 4),
    Gv P (.func 24) (A_gramReachable gT gN gK) (H_gramReachable gT gN gK) (V_gramReachable gT gN gK c4_) (R_gramReachable gT gN gK c4_),
    FlatB (.cells (layT (rows rw_b c4_)) 4),
    CG P none (fnN P 10) 0 (codeOf P 10 [false, true, false, true, true, true]) (S_gramReduced_1 c3_ ((gN).toNat) c4_ gN 0) (X_gramReduced_1 c3_ ((gN).toNat) c4_ gN (.inr ())),
    FlatB (.cells (layT (rows rw_b c3_)) 4),
    FlatB (.cells (layT (rows rw_b c4_)) 4)]) (by kernel_rfl) ⟨(m_gramCheck_ok n gT gN gK c1_ hc1), (vnF hc2), (m_gramProductive_ok n gT gN gK c3_ hc3), (rows_flat rwf_b _ _), (m_gramReachable_ok n gT gN gK c4_ hc4), (rows_flat rwf_b _ _), (m_gramReduced_1_ok n c3_ ((gN).toNat) c4_ gN 0 (.inr ()) hc5), (rows_flat rwf_b _ _), (rows_flat rwf_b _ _), trivial⟩
set_option maxRecDepth 100000 in
theorem p_gramReduced_2 (n : Nat) (gT : Int) (gN : Int) (gK : Int) (c1_ : Int) (hc1 : m_gramCheck n gT gN gK = some c1_) (hc2 : ¬ (c1_ = (0 : Int))) : Gv P (.func 10) (A_gramReduced gT gN gK) (H_gramReduced gT gN gK) (V_gramReduced gT gN gK (0, false)) (R_gramReduced gT gN gK (0, false)) :=
  runF_ok hm (A := aT [(7, .call ⟨0, [], (V_gramCheck gT gN gK c1_), (R_gramCheck gT gN gK c1_), []⟩), (8, .val (.bool true))]) (L := lT []) (wk := ⟨[2, 3], [], 0, 0⟩)
    (ps := [Gv P (.func 14) (A_gramCheck gT gN gK) (H_gramCheck gT gN gK) (V_gramCheck gT gN gK c1_) (R_gramCheck gT gN gK c1_),
    (Value.bool (c1_ != (0 : Int))) = (Value.bool true)]) (by kernel_rfl) ⟨(m_gramCheck_ok n gT gN gK c1_ hc1), (vnT hc2), trivial⟩
theorem m_gramReduced_ok (n : Nat) (gT : Int) (gN : Int) (gK : Int) (r : Int × Bool) (h : m_gramReduced n gT gN gK = some r) : Gv P (.func 10) (A_gramReduced gT gN gK) (H_gramReduced gT gN gK) (V_gramReduced gT gN gK r) (R_gramReduced gT gN gK r) := by
  unfold m_gramReduced at h
  obtain ⟨c1_, hc1, h⟩ := Option.bind_eq_some_iff.1 h
  by_cases hc2 : c1_ = (0 : Int)
  · rw [if_pos hc2] at h
    obtain ⟨c3_, hc3, h⟩ := Option.bind_eq_some_iff.1 h
    obtain ⟨c4_, hc4, h⟩ := Option.bind_eq_some_iff.1 h
    rcases hc5 : m_gramReduced_1 n c3_ ((gN).toNat) c4_ gN 0 with _ | (c5_ | ⟨⟩)
    · rw [hc5] at h; cases h
    · rw [hc5] at h
      dsimp only at h
      obtain rfl := Option.some.inj h; exact p_gramReduced_0 n gT gN gK c1_ hc1 hc2 c3_ hc3 c4_ hc4 c5_ hc5
    · rw [hc5] at h
      dsimp only at h
      obtain rfl := Option.some.inj h; exact p_gramReduced_1 n gT gN gK c1_ hc1 hc2 c3_ hc3 c4_ hc4 hc5
  · rw [if_neg hc2] at h
    obtain rfl := Option.some.inj h; exact p_gramReduced_2 n gT gN gK c1_ hc1 hc2

noncomputable def S_viewportlaw11GramClosed_3 (x3_0 : Int) (x3_1 : Int) (x3_2 : Int) (x3_3 : List (Bool)) (x3_4 : Nat) (x3_5 : List (Bool)) (x3_6 : List (Bool)) (x3_7 : Int) (x3_8 : Bool) (x3_9 : Bool) (x3_10 : List Int) (x3_11 : Int) (x3_12 : NL) (st : Int) : XSt := match st with
  | x3_13 => (sT 190 [(1, (Value.pointer (some ⟨0, 0, none⟩))), (3, (Value.slice (some ⟨1, 0, none⟩) x3_4 x3_4)), (4, (Value.slice (some ⟨2, 0, none⟩) x3_4 x3_4)), (5, (Value.slice (some ⟨3, 0, none⟩) x3_4 x3_4)), (6, (Value.int .i64 x3_7)), (7, (Value.bool x3_8)), (8, (Value.bool x3_9)), (9, (Value.slice (some ⟨4, 0, none⟩) (x3_10).length (Nat.add big 1))), (10, (Value.int .i64 x3_11)), (11, (nlV x3_12)), (12, (Value.int .i64 x3_13))], [], ⟨sB [(0, (some (.cells (layT [(Value.int .i64 x3_0), (Value.int .i64 x3_1), (Value.int .i64 x3_2), (Value.slice (some ⟨0, 0, some 1⟩) (Args.G).length Args.cG)]) 24))), (1, (some (.cells (layT (rows rw_b x3_3)) 4))), (2, (some (.cells (layT (rows rw_b x3_5)) 4))), (3, (some (.cells (layT (rows rw_b x3_6)) 4))), (4, (some (.cells (layT (iv x3_10)) 3)))], 5, 0⟩)
noncomputable def X_viewportlaw11GramClosed_3 (x3_0 : Int) (x3_1 : Int) (x3_2 : Int) (x3_3 : List (Bool)) (x3_4 : Nat) (x3_5 : List (Bool)) (x3_6 : List (Bool)) (x3_7 : Int) (x3_8 : Bool) (x3_9 : Bool) (x3_10 : List Int) (x3_11 : Int) (x3_12 : NL) (r : Unit) : Ex × XSt := match r with
  | _ => (.exit 4, (sT 190 [(1, (Value.pointer (some ⟨0, 0, none⟩))), (3, (Value.slice (some ⟨1, 0, none⟩) x3_4 x3_4)), (4, (Value.slice (some ⟨2, 0, none⟩) x3_4 x3_4)), (5, (Value.slice (some ⟨3, 0, none⟩) x3_4 x3_4)), (6, (Value.int .i64 x3_7)), (7, (Value.bool x3_8)), (8, (Value.bool x3_9)), (9, (Value.slice (some ⟨4, 0, none⟩) (x3_10).length (Nat.add big 1))), (10, (Value.int .i64 x3_11))], [], ⟨sB [(0, (some (.cells (layT [(Value.int .i64 x3_0), (Value.int .i64 x3_1), (Value.int .i64 x3_2), (Value.slice (some ⟨0, 0, some 1⟩) (Args.G).length Args.cG)]) 24))), (1, (some (.cells (layT (rows rw_b x3_3)) 4))), (2, (some (.cells (layT (rows rw_b x3_5)) 4))), (3, (some (.cells (layT (rows rw_b x3_6)) 4))), (4, (some (.cells (layT (iv x3_10)) 3)))], 5, 0⟩))
def B_viewportlaw11GramClosed_3 (n : Nat) (x3_0 : Int) (x3_1 : Int) (x3_2 : Int) (x3_3 : List (Bool)) (x3_4 : Nat) (x3_5 : List (Bool)) (x3_6 : List (Bool)) (x3_7 : Int) (x3_8 : Bool) (x3_9 : Bool) (x3_10 : List Int) (x3_11 : Int) (x3_12 : NL) (st : Int) : Option ((Int) ⊕ (Unit)) := match st with
  | x3_13 =>
    if x3_13 < (((x3_12).l.length : Nat) : Int) then
      if 0 ≤ x3_7 ∧ x3_7 < ((x3_4 : Nat) : Int) then
        if (x3_7).toNat < (x3_6).length then
          if ((x3_6).getD (x3_7).toNat (false)) = true then
            if 0 ≤ x3_13 ∧ x3_13 < (((x3_12).l.length : Nat) : Int) then
              if (x3_13).toNat < ((x3_12).l).length then
                if (((x3_12).l).getD (x3_13).toNat 0) ≥ x3_0 then
                  if 0 ≤ (w64 ((((x3_12).l).getD (x3_13).toNat 0) - x3_0)) ∧ (w64 ((((x3_12).l).getD (x3_13).toNat 0) - x3_0)) < ((x3_4 : Nat) : Int) then
                    if ((w64 ((((x3_12).l).getD (x3_13).toNat 0) - x3_0))).toNat < (x3_6).length then
                      if ((x3_6).getD ((w64 ((((x3_12).l).getD (x3_13).toNat 0) - x3_0))).toNat (false)) = true then
                        some (.inl (w64 (x3_13 + (1 : Int))))
                      else
                        none
                    else none
                  else none
                else
                  some (.inl (w64 (x3_13 + (1 : Int))))
              else none
            else none
          else
            some (.inl (w64 (x3_13 + (1 : Int))))
        else none
      else none
    else
      some (.inr ())
def m_viewportlaw11GramClosed_3 (n : Nat) (x3_0 : Int) (x3_1 : Int) (x3_2 : Int) (x3_3 : List (Bool)) (x3_4 : Nat) (x3_5 : List (Bool)) (x3_6 : List (Bool)) (x3_7 : Int) (x3_8 : Bool) (x3_9 : Bool) (x3_10 : List Int) (x3_11 : Int) (x3_12 : NL) (st : Int) : Option (Unit) := iterM (B_viewportlaw11GramClosed_3 n x3_0 x3_1 x3_2 x3_3 x3_4 x3_5 x3_6 x3_7 x3_8 x3_9 x3_10 x3_11 x3_12) n st
set_option maxRecDepth 100000 in
theorem q_viewportlaw11GramClosed_3_0 (n : Nat) (x3_0 : Int) (x3_1 : Int) (x3_2 : Int) (x3_3 : List (Bool)) (x3_4 : Nat) (x3_5 : List (Bool)) (x3_6 : List (Bool)) (x3_7 : Int) (x3_8 : Bool) (x3_9 : Bool) (x3_10 : List Int) (x3_11 : Int) (x3_12 : NL) (x3_13 : Int) (hy3_1 : x3_13 < (((x3_12).l.length : Nat) : Int)) (hy3_2 : 0 ≤ x3_7 ∧ x3_7 < ((x3_4 : Nat) : Int)) (hy3_3 : (x3_7).toNat < (x3_6).length) (hy3_4 : ((x3_6).getD (x3_7).toNat (false)) = true) (hy3_5 : 0 ≤ x3_13 ∧ x3_13 < (((x3_12).l.length : Nat) : Int)) (hy3_6 : (x3_13).toNat < ((x3_12).l).length) (hy3_7 : (((x3_12).l).getD (x3_13).toNat 0) ≥ x3_0) (hy3_8 : 0 ≤ (w64 ((((x3_12).l).getD (x3_13).toNat 0) - x3_0)) ∧ (w64 ((((x3_12).l).getD (x3_13).toNat 0) - x3_0)) < ((x3_4 : Nat) : Int)) (hy3_9 : ((w64 ((((x3_12).l).getD (x3_13).toNat 0) - x3_0))).toNat < (x3_6).length) (hy3_10 : ((x3_6).getD ((w64 ((((x3_12).l).getD (x3_13).toNat 0) - x3_0))).toNat (false)) = true) : CG P none (fnN P 4) 0 (codeOf P 4 [false, false, true, true, true, false, false, true, false, false, true, false, true, true, false, false, true, false, false, true, false, true, true, true, true, true]) (S_viewportlaw11GramClosed_3 x3_0 x3_1 x3_2 x3_3 x3_4 x3_5 x3_6 x3_7 x3_8 x3_9 x3_10 x3_11 x3_12 x3_13) (.normal, S_viewportlaw11GramClosed_3 x3_0 x3_1 x3_2 x3_3 x3_4 x3_5 x3_6 x3_7 x3_8 x3_9 x3_10 x3_11 x3_12 (w64 (x3_13 + (1 : Int)))) :=
  runC_ok hm (A := aT [(5, .val (.bool true)), (12, .pur (Value.pointer (some ⟨3, ((x3_7).toNat * 1), none⟩))), (13, .ld (Value.bool ((x3_6).getD (x3_7).toNat (false)))), (14, .val (.bool true)), (17, .pur (Value.pointer (some ⟨(Nat.add (x3_12).num 64), (x3_13).toNat, some 1⟩))), (18, .ld (Value.int .i64 (((x3_12).l).getD (x3_13).toNat 0))), (21, .val (.bool true)), (27, .pur (Value.pointer (some ⟨(Nat.add (x3_12).num 64), (x3_13).toNat, some 1⟩))), (28, .ld (Value.int .i64 (((x3_12).l).getD (x3_13).toNat 0))), (32, .pur (Value.pointer (some ⟨3, (((w64 ((((x3_12).l).getD (x3_13).toNat 0) - x3_0))).toNat * 1), none⟩))), (33, .ld (Value.bool ((x3_6).getD ((w64 ((((x3_12).l).getD (x3_13).toNat 0) - x3_0))).toNat (false)))), (34, .val (.bool false))]) (L := lT []) (wk := ⟨[1, 3, 4, 5, 6, 7, 8, 9, 10, 11, 12], [(0, 0, false), (1, 1, true), (2, 2, true), (3, 3, true), (4, 4, true)], 5, 0⟩)
    (ps := [(Value.bool (decide (x3_13 < (((x3_12).l.length : Nat) : Int)))) = (Value.bool true),
    opIndexAddr P 35 (Value.slice (some ⟨3, 0, none⟩) x3_4 x3_4) (Value.int .i64 x3_7) Ax.h0 = some ((Value.pointer (some ⟨3, ((x3_7).toNat * 1), none⟩)), Ax.h0),
    (layT (rows rw_b x3_6)).get ((x3_7).toNat * 1) = some (Value.bool ((x3_6).getD (x3_7).toNat (false))),
    (Value.bool ((x3_6).getD (x3_7).toNat (false))) = (Value.bool true),
    opIndexAddr P 32 (nlV x3_12) (Value.int .i64 x3_13) Ax.h0 = some ((Value.pointer (some ⟨(Nat.add (x3_12).num 64), (x3_13).toNat, some 1⟩)), Ax.h0),
    loadG P 3 (Value.pointer (some ⟨(Nat.add (x3_12).num 64), (x3_13).toNat, some 1⟩)) Ax.h0 = some ((Value.int .i64 (((x3_12).l).getD (x3_13).toNat 0)), Ax.h0),
    (Value.bool (decide ((((x3_12).l).getD (x3_13).toNat 0) ≥ x3_0))) = (Value.bool true),
    opIndexAddr P 32 (nlV x3_12) (Value.int .i64 x3_13) Ax.h0 = some ((Value.pointer (some ⟨(Nat.add (x3_12).num 64), (x3_13).toNat, some 1⟩)), Ax.h0),
    loadG P 3 (Value.pointer (some ⟨(Nat.add (x3_12).num 64), (x3_13).toNat, some 1⟩)) Ax.h0 = some ((Value.int .i64 (((x3_12).l).getD (x3_13).toNat 0)), Ax.h0),
    opIndexAddr P 35 (Value.slice (some ⟨3, 0, none⟩) x3_4 x3_4) (Value.int .i64 (w64 ((((x3_12).l).getD (x3_13).toNat 0) - x3_0))) Ax.h0 = some ((Value.pointer (some ⟨3, (((w64 ((((x3_12).l).getD (x3_13).toNat 0) - x3_0))).toNat * 1), none⟩)), Ax.h0),
    (layT (rows rw_b x3_6)).get (((w64 ((((x3_12).l).getD (x3_13).toNat 0) - x3_0))).toNat * 1) = some (Value.bool ((x3_6).getD ((w64 ((((x3_12).l).getD (x3_13).toNat 0) - x3_0))).toNat (false))),
    (Value.bool (!((x3_6).getD ((w64 ((((x3_12).l).getD (x3_13).toNat 0) - x3_0))).toNat (false)))) = (Value.bool false),
    FlatB (.cells (layT (rows rw_b x3_3)) 4),
    FlatB (.cells (layT (rows rw_b x3_5)) 4),
    FlatB (.cells (layT (rows rw_b x3_6)) 4),
    FlatB (.cells (layT (iv x3_10)) 3)]) (by kernel_rfl) ⟨(vbT hy3_1), (ixS (e := 4) (by kernel_rfl) (by kernel_rfl) (hy3_2).1 (hy3_2).2), (rows_ld rwf_b (false) (i := (x3_7).toNat) (j := 0) ((x3_7).toNat * 1) rfl (hy3_3) (by decide) rfl), (vB hy3_4), (ixW1 (e := 3) (by kernel_rfl) (by kernel_rfl) hy3_5), (ldN x3_12 (by kernel_rfl) hy3_6), (vbT hy3_7), (ixW1 (e := 3) (by kernel_rfl) (by kernel_rfl) hy3_5), (ldN x3_12 (by kernel_rfl) hy3_6), (ixS (e := 4) (by kernel_rfl) (by kernel_rfl) (hy3_8).1 (hy3_8).2), (rows_ld rwf_b (false) (i := ((w64 ((((x3_12).l).getD (x3_13).toNat 0) - x3_0))).toNat) (j := 0) (((w64 ((((x3_12).l).getD (x3_13).toNat 0) - x3_0))).toNat * 1) rfl (hy3_9) (by decide) rfl), (vBn hy3_10), (rows_flat rwf_b _ _), (rows_flat rwf_b _ _), (rows_flat rwf_b _ _), (iv_flat _ _), trivial⟩
set_option maxRecDepth 100000 in
theorem q_viewportlaw11GramClosed_3_1 (n : Nat) (x3_0 : Int) (x3_1 : Int) (x3_2 : Int) (x3_3 : List (Bool)) (x3_4 : Nat) (x3_5 : List (Bool)) (x3_6 : List (Bool)) (x3_7 : Int) (x3_8 : Bool) (x3_9 : Bool) (x3_10 : List Int) (x3_11 : Int) (x3_12 : NL) (x3_13 : Int) (hy3_1 : x3_13 < (((x3_12).l.length : Nat) : Int)) (hy3_2 : 0 ≤ x3_7 ∧ x3_7 < ((x3_4 : Nat) : Int)) (hy3_3 : (x3_7).toNat < (x3_6).length) (hy3_4 : ((x3_6).getD (x3_7).toNat (false)) = true) (hy3_5 : 0 ≤ x3_13 ∧ x3_13 < (((x3_12).l.length : Nat) : Int)) (hy3_6 : (x3_13).toNat < ((x3_12).l).length) (hy3_7 : ¬ ((((x3_12).l).getD (x3_13).toNat 0) ≥ x3_0)) : CG P none (fnN P 4) 0 (codeOf P 4 [false, false, true, true, true, false, false, true, false, false, true, false, true, true, false, false, true, false, false, true, false, true, true, true, true, true]) (S_viewportlaw11GramClosed_3 x3_0 x3_1 x3_2 x3_3 x3_4 x3_5 x3_6 x3_7 x3_8 x3_9 x3_10 x3_11 x3_12 x3_13) (.normal, S_viewportlaw11GramClosed_3 x3_0 x3_1 x3_2 x3_3 x3_4 x3_5 x3_6 x3_7 x3_8 x3_9 x3_10 x3_11 x3_12 (w64 (x3_13 + (1 : Int)))) :=
  runC_ok hm (A := aT [(5, .val (.bool true)), (12, .pur (Value.pointer (some ⟨3, ((x3_7).toNat * 1), none⟩))), (13, .ld (Value.bool ((x3_6).getD (x3_7).toNat (false)))), (14, .val (.bool true)), (17, .pur (Value.pointer (some ⟨(Nat.add (x3_12).num 64), (x3_13).toNat, some 1⟩))), (18, .ld (Value.int .i64 (((x3_12).l).getD (x3_13).toNat 0))), (21, .val (.bool false))]) (L := lT []) (wk := ⟨[1, 3, 4, 5, 6, 7, 8, 9, 10, 11, 12], [(0, 0, false), (1, 1, true), (2, 2, true), (3, 3, true), (4, 4, true)], 5, 0⟩)
    (ps := [(Value.bool (decide (x3_13 < (((x3_12).l.length : Nat) : Int)))) = (Value.bool true),
    opIndexAddr P 35 (Value.slice (some ⟨3, 0, none⟩) x3_4 x3_4) (Value.int .i64 x3_7) Ax.h0 = some ((Value.pointer (some ⟨3, ((x3_7).toNat * 1), none⟩)), Ax.h0),
    (layT (rows rw_b x3_6)).get ((x3_7).toNat * 1) = some (Value.bool ((x3_6).getD (x3_7).toNat (false))),
    (Value.bool ((x3_6).getD (x3_7).toNat (false))) = (Value.bool true),
    opIndexAddr P 32 (nlV x3_12) (Value.int .i64 x3_13) Ax.h0 = some ((Value.pointer (some ⟨(Nat.add (x3_12).num 64), (x3_13).toNat, some 1⟩)), Ax.h0),
    loadG P 3 (Value.pointer (some ⟨(Nat.add (x3_12).num 64), (x3_13).toNat, some 1⟩)) Ax.h0 = some ((Value.int .i64 (((x3_12).l).getD (x3_13).toNat 0)), Ax.h0),
    (Value.bool (decide ((((x3_12).l).getD (x3_13).toNat 0) ≥ x3_0))) = (Value.bool false),
    FlatB (.cells (layT (rows rw_b x3_3)) 4),
    FlatB (.cells (layT (rows rw_b x3_5)) 4),
    FlatB (.cells (layT (rows rw_b x3_6)) 4),
    FlatB (.cells (layT (iv x3_10)) 3)]) (by kernel_rfl) ⟨(vbT hy3_1), (ixS (e := 4) (by kernel_rfl) (by kernel_rfl) (hy3_2).1 (hy3_2).2), (rows_ld rwf_b (false) (i := (x3_7).toNat) (j := 0) ((x3_7).toNat * 1) rfl (hy3_3) (by decide) rfl), (vB hy3_4), (ixW1 (e := 3) (by kernel_rfl) (by kernel_rfl) hy3_5), (ldN x3_12 (by kernel_rfl) hy3_6), (vbF hy3_7), (rows_flat rwf_b _ _), (rows_flat rwf_b _ _), (rows_flat rwf_b _ _), (iv_flat _ _), trivial⟩
set_option maxRecDepth 100000 in
theorem q_viewportlaw11GramClosed_3_2 (n : Nat) (x3_0 : Int) (x3_1 : Int) (x3_2 : Int) (x3_3 : List (Bool)) (x3_4 : Nat) (x3_5 : List (Bool)) (x3_6 : List (Bool)) (x3_7 : Int) (x3_8 : Bool) (x3_9 : Bool) (x3_10 : List Int) (x3_11 : Int) (x3_12 : NL) (x3_13 : Int) (hy3_1 : x3_13 < (((x3_12).l.length : Nat) : Int)) (hy3_2 : 0 ≤ x3_7 ∧ x3_7 < ((x3_4 : Nat) : Int)) (hy3_3 : (x3_7).toNat < (x3_6).length) (hy3_4 : ¬ (((x3_6).getD (x3_7).toNat (false)) = true)) : CG P none (fnN P 4) 0 (codeOf P 4 [false, false, true, true, true, false, false, true, false, false, true, false, true, true, false, false, true, false, false, true, false, true, true, true, true, true]) (S_viewportlaw11GramClosed_3 x3_0 x3_1 x3_2 x3_3 x3_4 x3_5 x3_6 x3_7 x3_8 x3_9 x3_10 x3_11 x3_12 x3_13) (.normal, S_viewportlaw11GramClosed_3 x3_0 x3_1 x3_2 x3_3 x3_4 x3_5 x3_6 x3_7 x3_8 x3_9 x3_10 x3_11 x3_12 (w64 (x3_13 + (1 : Int)))) :=
  runC_ok hm (A := aT [(5, .val (.bool true)), (12, .pur (Value.pointer (some ⟨3, ((x3_7).toNat * 1), none⟩))), (13, .ld (Value.bool ((x3_6).getD (x3_7).toNat (false)))), (14, .val (.bool false))]) (L := lT []) (wk := ⟨[1, 3, 4, 5, 6, 7, 8, 9, 10, 11, 12], [(0, 0, false), (1, 1, true), (2, 2, true), (3, 3, true), (4, 4, true)], 5, 0⟩)
    (ps := [(Value.bool (decide (x3_13 < (((x3_12).l.length : Nat) : Int)))) = (Value.bool true),
    opIndexAddr P 35 (Value.slice (some ⟨3, 0, none⟩) x3_4 x3_4) (Value.int .i64 x3_7) Ax.h0 = some ((Value.pointer (some ⟨3, ((x3_7).toNat * 1), none⟩)), Ax.h0),
    (layT (rows rw_b x3_6)).get ((x3_7).toNat * 1) = some (Value.bool ((x3_6).getD (x3_7).toNat (false))),
    (Value.bool ((x3_6).getD (x3_7).toNat (false))) = (Value.bool false),
    FlatB (.cells (layT (rows rw_b x3_3)) 4),
    FlatB (.cells (layT (rows rw_b x3_5)) 4),
    FlatB (.cells (layT (rows rw_b x3_6)) 4),
    FlatB (.cells (layT (iv x3_10)) 3)]) (by kernel_rfl) ⟨(vbT hy3_1), (ixS (e := 4) (by kernel_rfl) (by kernel_rfl) (hy3_2).1 (hy3_2).2), (rows_ld rwf_b (false) (i := (x3_7).toNat) (j := 0) ((x3_7).toNat * 1) rfl (hy3_3) (by decide) rfl), (vB (Bool.eq_false_iff.2 hy3_4)), (rows_flat rwf_b _ _), (rows_flat rwf_b _ _), (rows_flat rwf_b _ _), (iv_flat _ _), trivial⟩
set_option maxRecDepth 100000 in
theorem q_viewportlaw11GramClosed_3_3 (n : Nat) (x3_0 : Int) (x3_1 : Int) (x3_2 : Int) (x3_3 : List (Bool)) (x3_4 : Nat) (x3_5 : List (Bool)) (x3_6 : List (Bool)) (x3_7 : Int) (x3_8 : Bool) (x3_9 : Bool) (x3_10 : List Int) (x3_11 : Int) (x3_12 : NL) (x3_13 : Int) (hy3_1 : ¬ (x3_13 < (((x3_12).l.length : Nat) : Int))) : CG P none (fnN P 4) 0 (codeOf P 4 [false, false, true, true, true, false, false, true, false, false, true, false, true, true, false, false, true, false, false, true, false, true, true, true, true, true]) (S_viewportlaw11GramClosed_3 x3_0 x3_1 x3_2 x3_3 x3_4 x3_5 x3_6 x3_7 x3_8 x3_9 x3_10 x3_11 x3_12 x3_13) (X_viewportlaw11GramClosed_3 x3_0 x3_1 x3_2 x3_3 x3_4 x3_5 x3_6 x3_7 x3_8 x3_9 x3_10 x3_11 x3_12 ()) :=
  runC_ok hm (A := aT [(5, .val (.bool false))]) (L := lT []) (wk := ⟨[1, 3, 4, 5, 6, 7, 8, 9, 10], [(0, 0, false), (1, 1, true), (2, 2, true), (3, 3, true), (4, 4, true)], 5, 0⟩)
    (ps := [(Value.bool (decide (x3_13 < (((x3_12).l.length : Nat) : Int)))) = (Value.bool false),
    FlatB (.cells (layT (rows rw_b x3_3)) 4),
    FlatB (.cells (layT (rows rw_b x3_5)) 4),
    FlatB (.cells (layT (rows rw_b x3_6)) 4),
    FlatB (.cells (layT (iv x3_10)) 3)]) (by kernel_rfl) ⟨(vbF hy3_1), (rows_flat rwf_b _ _), (rows_flat rwf_b _ _), (rows_flat rwf_b _ _), (iv_flat _ _), trivial⟩
theorem m_viewportlaw11GramClosed_3_ok (n : Nat) (x3_0 : Int) (x3_1 : Int) (x3_2 : Int) (x3_3 : List (Bool)) (x3_4 : Nat) (x3_5 : List (Bool)) (x3_6 : List (Bool)) (x3_7 : Int) (x3_8 : Bool) (x3_9 : Bool) (x3_10 : List Int) (x3_11 : Int) (x3_12 : NL) (st : Int) (r : Unit) (h : m_viewportlaw11GramClosed_3 n x3_0 x3_1 x3_2 x3_3 x3_4 x3_5 x3_6 x3_7 x3_8 x3_9 x3_10 x3_11 x3_12 st = some r) : CG P none (fnN P 4) 0 (codeOf P 4 [false, true, true, true, false, false, true, false, false, true, false, true, true, false, false, true, false, false, true, false, true, true, true, true, true]) (S_viewportlaw11GramClosed_3 x3_0 x3_1 x3_2 x3_3 x3_4 x3_5 x3_6 x3_7 x3_8 x3_9 x3_10 x3_11 x3_12 st) (X_viewportlaw11GramClosed_3 x3_0 x3_1 x3_2 x3_3 x3_4 x3_5 x3_6 x3_7 x3_8 x3_9 x3_10 x3_11 x3_12 r) :=
  CG.iter (b := codeOf P 4 [false, false, true, true, true, false, false, true, false, false, true, false, true, true, false, false, true, false, false, true, false, true, true, true, true, true]) (by kernel_rfl) (body := B_viewportlaw11GramClosed_3 n x3_0 x3_1 x3_2 x3_3 x3_4 x3_5 x3_6 x3_7 x3_8 x3_9 x3_10 x3_11 x3_12) (S := S_viewportlaw11GramClosed_3 x3_0 x3_1 x3_2 x3_3 x3_4 x3_5 x3_6 x3_7 x3_8 x3_9 x3_10 x3_11 x3_12) (X := X_viewportlaw11GramClosed_3 x3_0 x3_1 x3_2 x3_3 x3_4 x3_5 x3_6 x3_7 x3_8 x3_9 x3_10 x3_11 x3_12)
    (fun x3_13 s' h => by
    unfold B_viewportlaw11GramClosed_3 at h
    dsimp only at h
    by_cases hy3_1 : x3_13 < (((x3_12).l.length : Nat) : Int)
    · rw [if_pos hy3_1] at h
      by_cases hy3_2 : 0 ≤ x3_7 ∧ x3_7 < ((x3_4 : Nat) : Int)
      · rw [if_pos hy3_2] at h
        by_cases hy3_3 : (x3_7).toNat < (x3_6).length
        · rw [if_pos hy3_3] at h
          by_cases hy3_4 : ((x3_6).getD (x3_7).toNat (false)) = true
          · rw [if_pos hy3_4] at h
            by_cases hy3_5 : 0 ≤ x3_13 ∧ x3_13 < (((x3_12).l.length : Nat) : Int)
            · rw [if_pos hy3_5] at h
              by_cases hy3_6 : (x3_13).toNat < ((x3_12).l).length
              · rw [if_pos hy3_6] at h
                by_cases hy3_7 : (((x3_12).l).getD (x3_13).toNat 0) ≥ x3_0
                · rw [if_pos hy3_7] at h
                  by_cases hy3_8 : 0 ≤ (w64 ((((x3_12).l).getD (x3_13).toNat 0) - x3_0)) ∧ (w64 ((((x3_12).l).getD (x3_13).toNat 0) - x3_0)) < ((x3_4 : Nat) : Int)
                  · rw [if_pos hy3_8] at h
                    by_cases hy3_9 : ((w64 ((((x3_12).l).getD (x3_13).toNat 0) - x3_0))).toNat < (x3_6).length
                    · rw [if_pos hy3_9] at h
                      by_cases hy3_10 : ((x3_6).getD ((w64 ((((x3_12).l).getD (x3_13).toNat 0) - x3_0))).toNat (false)) = true
                      · rw [if_pos hy3_10] at h
                        obtain rfl := Sum.inl.inj (Option.some.inj h); exact q_viewportlaw11GramClosed_3_0 n x3_0 x3_1 x3_2 x3_3 x3_4 x3_5 x3_6 x3_7 x3_8 x3_9 x3_10 x3_11 x3_12 x3_13 hy3_1 hy3_2 hy3_3 hy3_4 hy3_5 hy3_6 hy3_7 hy3_8 hy3_9 hy3_10
                      · rw [if_neg hy3_10] at h
                        cases h
                    · rw [if_neg hy3_9] at h; cases h
                  · rw [if_neg hy3_8] at h; cases h
                · rw [if_neg hy3_7] at h
                  obtain rfl := Sum.inl.inj (Option.some.inj h); exact q_viewportlaw11GramClosed_3_1 n x3_0 x3_1 x3_2 x3_3 x3_4 x3_5 x3_6 x3_7 x3_8 x3_9 x3_10 x3_11 x3_12 x3_13 hy3_1 hy3_2 hy3_3 hy3_4 hy3_5 hy3_6 hy3_7
              · rw [if_neg hy3_6] at h; cases h
            · rw [if_neg hy3_5] at h; cases h
          · rw [if_neg hy3_4] at h
            obtain rfl := Sum.inl.inj (Option.some.inj h); exact q_viewportlaw11GramClosed_3_2 n x3_0 x3_1 x3_2 x3_3 x3_4 x3_5 x3_6 x3_7 x3_8 x3_9 x3_10 x3_11 x3_12 x3_13 hy3_1 hy3_2 hy3_3 hy3_4
        · rw [if_neg hy3_3] at h; cases h
      · rw [if_neg hy3_2] at h; cases h
    · rw [if_neg hy3_1] at h
      cases h)
    (fun x3_13 r h => by
    unfold B_viewportlaw11GramClosed_3 at h
    dsimp only at h
    by_cases hy3_1 : x3_13 < (((x3_12).l.length : Nat) : Int)
    · rw [if_pos hy3_1] at h
      by_cases hy3_2 : 0 ≤ x3_7 ∧ x3_7 < ((x3_4 : Nat) : Int)
      · rw [if_pos hy3_2] at h
        by_cases hy3_3 : (x3_7).toNat < (x3_6).length
        · rw [if_pos hy3_3] at h
          by_cases hy3_4 : ((x3_6).getD (x3_7).toNat (false)) = true
          · rw [if_pos hy3_4] at h
            by_cases hy3_5 : 0 ≤ x3_13 ∧ x3_13 < (((x3_12).l.length : Nat) : Int)
            · rw [if_pos hy3_5] at h
              by_cases hy3_6 : (x3_13).toNat < ((x3_12).l).length
              · rw [if_pos hy3_6] at h
                by_cases hy3_7 : (((x3_12).l).getD (x3_13).toNat 0) ≥ x3_0
                · rw [if_pos hy3_7] at h
                  by_cases hy3_8 : 0 ≤ (w64 ((((x3_12).l).getD (x3_13).toNat 0) - x3_0)) ∧ (w64 ((((x3_12).l).getD (x3_13).toNat 0) - x3_0)) < ((x3_4 : Nat) : Int)
                  · rw [if_pos hy3_8] at h
                    by_cases hy3_9 : ((w64 ((((x3_12).l).getD (x3_13).toNat 0) - x3_0))).toNat < (x3_6).length
                    · rw [if_pos hy3_9] at h
                      by_cases hy3_10 : ((x3_6).getD ((w64 ((((x3_12).l).getD (x3_13).toNat 0) - x3_0))).toNat (false)) = true
                      · rw [if_pos hy3_10] at h
                        cases h
                      · rw [if_neg hy3_10] at h
                        cases h
                    · rw [if_neg hy3_9] at h; cases h
                  · rw [if_neg hy3_8] at h; cases h
                · rw [if_neg hy3_7] at h
                  cases h
              · rw [if_neg hy3_6] at h; cases h
            · rw [if_neg hy3_5] at h; cases h
          · rw [if_neg hy3_4] at h
            cases h
        · rw [if_neg hy3_3] at h; cases h
      · rw [if_neg hy3_2] at h; cases h
    · rw [if_neg hy3_1] at h
      obtain rfl := Sum.inr.inj (Option.some.inj h); exact q_viewportlaw11GramClosed_3_3 n x3_0 x3_1 x3_2 x3_3 x3_4 x3_5 x3_6 x3_7 x3_8 x3_9 x3_10 x3_11 x3_12 x3_13 hy3_1)
    (fun r => by intro hx; cases hx) h
noncomputable def S_viewportlaw11GramClosed_2 (x2_0 : Int) (x2_1 : Int) (x2_2 : Int) (x2_3 : List (Bool)) (x2_4 : Nat) (x2_5 : List (Bool)) (x2_6 : List (Bool)) (x2_7 : Int) (st : Bool × Bool × List Int × Int) : XSt := match st with
  | (x2_8, x2_9, x2_10, x2_11) => (sT 190 [(1, (Value.pointer (some ⟨0, 0, none⟩))), (3, (Value.slice (some ⟨1, 0, none⟩) x2_4 x2_4)), (4, (Value.slice (some ⟨2, 0, none⟩) x2_4 x2_4)), (5, (Value.slice (some ⟨3, 0, none⟩) x2_4 x2_4)), (6, (Value.int .i64 x2_7)), (7, (Value.bool x2_8)), (8, (Value.bool x2_9)), (9, (slN x2_10 4)), (10, (Value.int .i64 x2_11))], [], ⟨sB [(0, (some (.cells (layT [(Value.int .i64 x2_0), (Value.int .i64 x2_1), (Value.int .i64 x2_2), (Value.slice (some ⟨0, 0, some 1⟩) (Args.G).length Args.cG)]) 24))), (1, (some (.cells (layT (rows rw_b x2_3)) 4))), (2, (some (.cells (layT (rows rw_b x2_5)) 4))), (3, (some (.cells (layT (rows rw_b x2_6)) 4))), (4, (nblk x2_10 3))], 5, 0⟩)
noncomputable def X_viewportlaw11GramClosed_2 (x2_0 : Int) (x2_1 : Int) (x2_2 : Int) (x2_3 : List (Bool)) (x2_4 : Nat) (x2_5 : List (Bool)) (x2_6 : List (Bool)) (x2_7 : Int) (r : Bool × Bool) : Ex × XSt := match r with
  | (z2_0, z2_1) => (.exit 2, (sT 190 [(1, (Value.pointer (some ⟨0, 0, none⟩))), (3, (Value.slice (some ⟨1, 0, none⟩) x2_4 x2_4)), (4, (Value.slice (some ⟨2, 0, none⟩) x2_4 x2_4)), (5, (Value.slice (some ⟨3, 0, none⟩) x2_4 x2_4)), (6, (Value.int .i64 x2_7)), (7, (Value.bool z2_0)), (8, (Value.bool z2_1))], [], ⟨sB [(0, (some (.cells (layT [(Value.int .i64 x2_0), (Value.int .i64 x2_1), (Value.int .i64 x2_2), (Value.slice (some ⟨0, 0, some 1⟩) (Args.G).length Args.cG)]) 24))), (1, (some (.cells (layT (rows rw_b x2_3)) 4))), (2, (some (.cells (layT (rows rw_b x2_5)) 4))), (3, (some (.cells (layT (rows rw_b x2_6)) 4)))], 4, 0⟩))
def B_viewportlaw11GramClosed_2 (n : Nat) (x2_0 : Int) (x2_1 : Int) (x2_2 : Int) (x2_3 : List (Bool)) (x2_4 : Nat) (x2_5 : List (Bool)) (x2_6 : List (Bool)) (x2_7 : Int) (st : Bool × Bool × List Int × Int) : Option ((Bool × Bool × List Int × Int) ⊕ (Bool × Bool)) := match st with
  | (x2_8, x2_9, x2_10, x2_11) =>
    match x2_10 with
    | [] =>
      if x2_11 < (0 : Int) then
        none
      else
        some (.inr (x2_8, x2_9))
    | x2_10a :: x2_10t =>
      if x2_11 < ((((x2_10a :: x2_10t)).length : Nat) : Int) then
        if 0 ≤ x2_11 ∧ x2_11 < ((((x2_10a :: x2_10t)).length : Nat) : Int) then
          if 0 ≤ (((x2_10a :: x2_10t)).getD (x2_11).toNat 0) ∧ (((x2_10a :: x2_10t)).getD (x2_11).toNat 0) < (((Args.G).length : Nat) : Int) then
            if x2_8 = true then
              if x2_9 = true then
                (m_viewportlaw11GramClosed_3 n x2_0 x2_1 x2_2 x2_3 x2_4 x2_5 x2_6 x2_7 true true (x2_10a :: x2_10t) x2_11 (((Args.G).getD ((((x2_10a :: x2_10t)).getD (x2_11).toNat 0)).toNat (0, nl0)).2) 0).bind fun _ =>
                some (.inl (true, true, (x2_10a :: x2_10t), (w64 (x2_11 + (1 : Int)))))
              else
                (m_viewportlaw11holds n x2_0 x2_1 x2_2 (((Args.G).getD ((((x2_10a :: x2_10t)).getD (x2_11).toNat 0)).toNat (0, nl0)).2) true x2_4 x2_5).bind fun y2_6_ =>
                (m_viewportlaw11GramClosed_3 n x2_0 x2_1 x2_2 x2_3 x2_4 x2_5 x2_6 x2_7 true y2_6_ (x2_10a :: x2_10t) x2_11 (((Args.G).getD ((((x2_10a :: x2_10t)).getD (x2_11).toNat 0)).toNat (0, nl0)).2) 0).bind fun _ =>
                some (.inl (true, y2_6_, (x2_10a :: x2_10t), (w64 (x2_11 + (1 : Int)))))
            else
              (m_viewportlaw11holds n x2_0 x2_1 x2_2 (((Args.G).getD ((((x2_10a :: x2_10t)).getD (x2_11).toNat 0)).toNat (0, nl0)).2) false x2_4 x2_3).bind fun y2_5_ =>
              if x2_9 = true then
                (m_viewportlaw11GramClosed_3 n x2_0 x2_1 x2_2 x2_3 x2_4 x2_5 x2_6 x2_7 y2_5_ true (x2_10a :: x2_10t) x2_11 (((Args.G).getD ((((x2_10a :: x2_10t)).getD (x2_11).toNat 0)).toNat (0, nl0)).2) 0).bind fun _ =>
                some (.inl (y2_5_, true, (x2_10a :: x2_10t), (w64 (x2_11 + (1 : Int)))))
              else
                (m_viewportlaw11holds n x2_0 x2_1 x2_2 (((Args.G).getD ((((x2_10a :: x2_10t)).getD (x2_11).toNat 0)).toNat (0, nl0)).2) true x2_4 x2_5).bind fun y2_7_ =>
                (m_viewportlaw11GramClosed_3 n x2_0 x2_1 x2_2 x2_3 x2_4 x2_5 x2_6 x2_7 y2_5_ y2_7_ (x2_10a :: x2_10t) x2_11 (((Args.G).getD ((((x2_10a :: x2_10t)).getD (x2_11).toNat 0)).toNat (0, nl0)).2) 0).bind fun _ =>
                some (.inl (y2_5_, y2_7_, (x2_10a :: x2_10t), (w64 (x2_11 + (1 : Int)))))
          else none
        else none
      else
        some (.inr (x2_8, x2_9))
def m_viewportlaw11GramClosed_2 (n : Nat) (x2_0 : Int) (x2_1 : Int) (x2_2 : Int) (x2_3 : List (Bool)) (x2_4 : Nat) (x2_5 : List (Bool)) (x2_6 : List (Bool)) (x2_7 : Int) (st : Bool × Bool × List Int × Int) : Option (Bool × Bool) := iterM (B_viewportlaw11GramClosed_2 n x2_0 x2_1 x2_2 x2_3 x2_4 x2_5 x2_6 x2_7) n st
set_option maxRecDepth 100000 in
theorem q_viewportlaw11GramClosed_2_0 (n : Nat) (x2_0 : Int) (x2_1 : Int) (x2_2 : Int) (x2_3 : List (Bool)) (x2_4 : Nat) (x2_5 : List (Bool)) (x2_6 : List (Bool)) (x2_7 : Int) (x2_8 : Bool) (x2_9 : Bool) (x2_11 : Int) (hy2_1 : ¬ (x2_11 < (0 : Int))) : CG P none (fnN P 4) 0 (codeOf P 4 [false, false, true, false, true, true, false, false, true, false, false, true, false, true, true, true, true, true]) (S_viewportlaw11GramClosed_2 x2_0 x2_1 x2_2 x2_3 x2_4 x2_5 x2_6 x2_7 (x2_8, x2_9, ([] : List Int), x2_11)) (X_viewportlaw11GramClosed_2 x2_0 x2_1 x2_2 x2_3 x2_4 x2_5 x2_6 x2_7 (x2_8, x2_9)) :=
  runC_ok hm (A := aT [(5, .val (.bool false))]) (L := lT []) (wk := ⟨[1, 3, 4, 5, 6, 7, 8], [(0, 0, false), (1, 1, true), (2, 2, true), (3, 3, true)], 4, 0⟩)
    (ps := [(Value.bool (decide (x2_11 < (0 : Int)))) = (Value.bool false),
    FlatB (.cells (layT (rows rw_b x2_3)) 4),
    FlatB (.cells (layT (rows rw_b x2_5)) 4),
    FlatB (.cells (layT (rows rw_b x2_6)) 4)]) (by kernel_rfl) ⟨(vbF hy2_1), (rows_flat rwf_b _ _), (rows_flat rwf_b _ _), (rows_flat rwf_b _ _), trivial⟩
set_option maxRecDepth 100000 in
theorem q_viewportlaw11GramClosed_2_1 (n : Nat) (x2_0 : Int) (x2_1 : Int) (x2_2 : Int) (x2_3 : List (Bool)) (x2_4 : Nat) (x2_5 : List (Bool)) (x2_6 : List (Bool)) (x2_7 : Int) (x2_8 : Bool) (x2_9 : Bool) (x2_10a : Int) (x2_10t : List (Int)) (x2_11 : Int) (hy2_1 : x2_11 < ((((x2_10a :: x2_10t)).length : Nat) : Int)) (hy2_2 : 0 ≤ x2_11 ∧ x2_11 < ((((x2_10a :: x2_10t)).length : Nat) : Int)) (hy2_3 : 0 ≤ (((x2_10a :: x2_10t)).getD (x2_11).toNat 0) ∧ (((x2_10a :: x2_10t)).getD (x2_11).toNat 0) < (((Args.G).length : Nat) : Int)) (hy2_4 : x2_8 = true) (hy2_5 : x2_9 = true) (hy2_6 : m_viewportlaw11GramClosed_3 n x2_0 x2_1 x2_2 x2_3 x2_4 x2_5 x2_6 x2_7 true true (x2_10a :: x2_10t) x2_11 (((Args.G).getD ((((x2_10a :: x2_10t)).getD (x2_11).toNat 0)).toNat (0, nl0)).2) 0 = some ()) : CG P none (fnN P 4) 0 (codeOf P 4 [false, false, true, false, true, true, false, false, true, false, false, true, false, true, true, true, true, true]) (S_viewportlaw11GramClosed_2 x2_0 x2_1 x2_2 x2_3 x2_4 x2_5 x2_6 x2_7 (x2_8, x2_9, (x2_10a :: x2_10t), x2_11)) (.normal, S_viewportlaw11GramClosed_2 x2_0 x2_1 x2_2 x2_3 x2_4 x2_5 x2_6 x2_7 (true, true, (x2_10a :: x2_10t), (w64 (x2_11 + (1 : Int))))) :=
  runC_ok hm (A := aT [(5, .val (.bool true)), (14, .pur (Value.pointer (some ⟨4, (x2_11).toNat, none⟩))), (15, .ld (Value.int .i64 (((x2_10a :: x2_10t)).getD (x2_11).toNat 0))), (16, .pur (Value.pointer (some ⟨0, (((((x2_10a :: x2_10t)).getD (x2_11).toNat 0)).toNat * 2), some 1⟩))), (17, .pur (Value.pointer (some ⟨0, (Nat.add (((((x2_10a :: x2_10t)).getD (x2_11).toNat 0)).toNat * 2) 1), some 1⟩))), (18, .ld (nlV (((Args.G).getD ((((x2_10a :: x2_10t)).getD (x2_11).toNat 0)).toNat (0, nl0)).2))), (22, .val (.bool true)), (29, .val (.bool true))]) (L := lT [(40, ⟨⟨[1, 3, 4, 5, 6, 7, 8, 9, 10, 11, 12], [(0, 0, false), (1, 1, true), (2, 2, true), (3, 3, true), (4, 4, true)], 5, 0⟩, (X_viewportlaw11GramClosed_3 x2_0 x2_1 x2_2 x2_3 x2_4 x2_5 x2_6 x2_7 true true (x2_10a :: x2_10t) x2_11 (((Args.G).getD ((((x2_10a :: x2_10t)).getD (x2_11).toNat 0)).toNat (0, nl0)).2) ()).1, (X_viewportlaw11GramClosed_3 x2_0 x2_1 x2_2 x2_3 x2_4 x2_5 x2_6 x2_7 true true (x2_10a :: x2_10t) x2_11 (((Args.G).getD ((((x2_10a :: x2_10t)).getD (x2_11).toNat 0)).toNat (0, nl0)).2) ()).2⟩)]) (wk := ⟨[1, 3, 4, 5, 6, 7, 8, 9, 10], [(0, 0, false), (1, 1, true), (2, 2, true), (3, 3, true), (4, 4, true)], 5, 0⟩)
    (ps := [(Value.bool (decide (x2_11 < ((((x2_10a :: x2_10t)).length : Nat) : Int)))) = (Value.bool true),
    opIndexAddr P 32 (Value.slice (some ⟨4, 0, none⟩) ((x2_10a :: x2_10t)).length (Nat.add big 1)) (Value.int .i64 x2_11) Ax.h0 = some ((Value.pointer (some ⟨4, (x2_11).toNat, none⟩)), Ax.h0),
    (layT (iv (x2_10a :: x2_10t))).get (x2_11).toNat = some (Value.int .i64 (((x2_10a :: x2_10t)).getD (x2_11).toNat 0)),
    opIndexAddr P 22 (Value.slice (some ⟨0, 0, some 1⟩) (Args.G).length Args.cG) (Value.int .i64 (((x2_10a :: x2_10t)).getD (x2_11).toNat 0)) Ax.h0 = some ((Value.pointer (some ⟨0, (((((x2_10a :: x2_10t)).getD (x2_11).toNat 0)).toNat * 2), some 1⟩)), Ax.h0),
    opFieldAddr P 41 (Value.pointer (some ⟨0, (((((x2_10a :: x2_10t)).getD (x2_11).toNat 0)).toNat * 2), some 1⟩)) 1 Ax.h0 = some ((Value.pointer (some ⟨0, (Nat.add (((((x2_10a :: x2_10t)).getD (x2_11).toNat 0)).toNat * 2) 1), some 1⟩)), Ax.h0),
    loadG P 32 (Value.pointer (some ⟨0, (Nat.add (((((x2_10a :: x2_10t)).getD (x2_11).toNat 0)).toNat * 2) 1), some 1⟩)) Ax.h0 = some ((nlV (((Args.G).getD ((((x2_10a :: x2_10t)).getD (x2_11).toNat 0)).toNat (0, nl0)).2)), Ax.h0),
    (Value.bool x2_8) = (Value.bool true),
    (Value.bool x2_9) = (Value.bool true),
    CG P none (fnN P 4) 0 (codeOf P 4 [false, true, true, true, false, false, true, false, false, true, false, true, true, false, false, true, false, false, true, false, true, true, true, true, true]) (S_viewportlaw11GramClosed_3 x2_0 x2_1 x2_2 x2_3 x2_4 x2_5 x2_6 x2_7 true true (x2_10a :: x2_10t) x2_11 (((Args.G).getD ((((x2_10a :: x2_10t)).getD (x2_11).toNat 0)).toNat (0, nl0)).2) 0) (X_viewportlaw11GramClosed_3 x2_0 x2_1 x2_2 x2_3 x2_4 x2_5 x2_6 x2_7 true true (x2_10a :: x2_10t) x2_11 (((Args.G).getD ((((x2_10a :: x2_10t)).getD (x2_11).toNat 0)).toNat (0, nl0)).2) ()),
    FlatB (.cells (layT (rows rw_b x2_3)) 4),
    FlatB (.cells (layT (rows rw_b x2_5)) 4),
    FlatB (.cells (layT (rows rw_b x2_6)) 4),
    FlatB (.cells (layT (iv (x2_10a :: x2_10t))) 3),
    FlatB (.cells (layT (rows rw_b x2_3)) 4),
    FlatB (.cells (layT (rows rw_b x2_5)) 4),
    FlatB (.cells (layT (rows rw_b x2_6)) 4),
    FlatB (.cells (layT (iv (x2_10a :: x2_10t))) 3)]) (by kernel_rfl) ⟨(vbT hy2_1), (ixS1 (e := 3) (by kernel_rfl) (by kernel_rfl) hy2_2), (iv_ld _ _ (toNatLt hy2_2)), (ixW (e := 41) (by kernel_rfl) (by kernel_rfl) (hy2_3).1 (hy2_3).2), (by kernel_rfl), (ldWS rwf_iL (0, nl0) (i := ((((x2_10a :: x2_10t)).getD (x2_11).toNat 0)).toNat) (q := 1) (L := Args.G) (Nat.add (((((x2_10a :: x2_10t)).getD (x2_11).toNat 0)).toNat * 2) 1) rfl rfl (by kernel_rfl) (toNatLt hy2_3) (by decide) rfl), (vB hy2_4), (vB hy2_5), (m_viewportlaw11GramClosed_3_ok n x2_0 x2_1 x2_2 x2_3 x2_4 x2_5 x2_6 x2_7 true true (x2_10a :: x2_10t) x2_11 (((Args.G).getD ((((x2_10a :: x2_10t)).getD (x2_11).toNat 0)).toNat (0, nl0)).2) 0 () hy2_6), (rows_flat rwf_b _ _), (rows_flat rwf_b _ _), (rows_flat rwf_b _ _), (iv_flat _ _), (rows_flat rwf_b _ _), (rows_flat rwf_b _ _), (rows_flat rwf_b _ _), (iv_flat _ _), trivial⟩
set_option maxRecDepth 100000 in
theorem q_viewportlaw11GramClosed_2_2 (n : Nat) (x2_0 : Int) (x2_1 : Int) (x2_2 : Int) (x2_3 : List (Bool)) (x2_4 : Nat) (x2_5 : List (Bool)) (x2_6 : List (Bool)) (x2_7 : Int) (x2_8 : Bool) (x2_9 : Bool) (x2_10a : Int) (x2_10t : List (Int)) (x2_11 : Int) (hy2_1 : x2_11 < ((((x2_10a :: x2_10t)).length : Nat) : Int)) (hy2_2 : 0 ≤ x2_11 ∧ x2_11 < ((((x2_10a :: x2_10t)).length : Nat) : Int)) (hy2_3 : 0 ≤ (((x2_10a :: x2_10t)).getD (x2_11).toNat 0) ∧ (((x2_10a :: x2_10t)).getD (x2_11).toNat 0) < (((Args.G).length : Nat) : Int)) (hy2_4 : x2_8 = true) (hy2_5 : ¬ (x2_9 = true)) (y2_6_ : Bool) (hy2_6 : m_viewportlaw11holds n x2_0 x2_1 x2_2 (((Args.G).getD ((((x2_10a :: x2_10t)).getD (x2_11).toNat 0)).toNat (0, nl0)).2) true x2_4 x2_5 = some y2_6_) (hy2_7 : m_viewportlaw11GramClosed_3 n x2_0 x2_1 x2_2 x2_3 x2_4 x2_5 x2_6 x2_7 true y2_6_ (x2_10a :: x2_10t) x2_11 (((Args.G).getD ((((x2_10a :: x2_10t)).getD (x2_11).toNat 0)).toNat (0, nl0)).2) 0 = some ()) : CG P none (fnN P 4) 0 (codeOf P 4 [false, false, true, false, true, true, false, false, true, false, false, true, false, true, true, true, true, true]) (S_viewportlaw11GramClosed_2 x2_0 x2_1 x2_2 x2_3 x2_4 x2_5 x2_6 x2_7 (x2_8, x2_9, (x2_10a :: x2_10t), x2_11)) (.normal, S_viewportlaw11GramClosed_2 x2_0 x2_1 x2_2 x2_3 x2_4 x2_5 x2_6 x2_7 (true, y2_6_, (x2_10a :: x2_10t), (w64 (x2_11 + (1 : Int))))) :=
  runC_ok hm (A := aT [(5, .val (.bool true)), (14, .pur (Value.pointer (some ⟨4, (x2_11).toNat, none⟩))), (15, .ld (Value.int .i64 (((x2_10a :: x2_10t)).getD (x2_11).toNat 0))), (16, .pur (Value.pointer (some ⟨0, (((((x2_10a :: x2_10t)).getD (x2_11).toNat 0)).toNat * 2), some 1⟩))), (17, .pur (Value.pointer (some ⟨0, (Nat.add (((((x2_10a :: x2_10t)).getD (x2_11).toNat 0)).toNat * 2) 1), some 1⟩))), (18, .ld (nlV (((Args.G).getD ((((x2_10a :: x2_10t)).getD (x2_11).toNat 0)).toNat (0, nl0)).2))), (22, .val (.bool true)), (29, .val (.bool false)), (33, .call ⟨1, [(0, 2, true)], (V_viewportlaw11holds x2_0 x2_1 x2_2 (((Args.G).getD ((((x2_10a :: x2_10t)).getD (x2_11).toNat 0)).toNat (0, nl0)).2) true x2_4 x2_5 y2_6_), (R_viewportlaw11holds x2_0 x2_1 x2_2 (((Args.G).getD ((((x2_10a :: x2_10t)).getD (x2_11).toNat 0)).toNat (0, nl0)).2) true x2_4 x2_5 y2_6_), []⟩)]) (L := lT [(40, ⟨⟨[1, 3, 4, 5, 6, 7, 8, 9, 10, 11, 12], [(0, 0, false), (1, 1, true), (2, 2, true), (3, 3, true), (4, 4, true)], 5, 0⟩, (X_viewportlaw11GramClosed_3 x2_0 x2_1 x2_2 x2_3 x2_4 x2_5 x2_6 x2_7 true y2_6_ (x2_10a :: x2_10t) x2_11 (((Args.G).getD ((((x2_10a :: x2_10t)).getD (x2_11).toNat 0)).toNat (0, nl0)).2) ()).1, (X_viewportlaw11GramClosed_3 x2_0 x2_1 x2_2 x2_3 x2_4 x2_5 x2_6 x2_7 true y2_6_ (x2_10a :: x2_10t) x2_11 (((Args.G).getD ((((x2_10a :: x2_10t)).getD (x2_11).toNat 0)).toNat (0, nl0)).2) ()).2⟩)]) (wk := ⟨[1, 3, 4, 5, 6, 7, 8, 9, 10], [(0, 0, false), (1, 1, true), (2, 2, true), (3, 3, true), (4, 4, true)], 5, 0⟩)
    (ps := [(Value.bool (decide (x2_11 < ((((x2_10a :: x2_10t)).length : Nat) : Int)))) = (Value.bool true),
    opIndexAddr P 32 (Value.slice (some ⟨4, 0, none⟩) ((x2_10a :: x2_10t)).length (Nat.add big 1)) (Value.int .i64 x2_11) Ax.h0 = some ((Value.pointer (some ⟨4, (x2_11).toNat, none⟩)), Ax.h0),
    (layT (iv (x2_10a :: x2_10t))).get (x2_11).toNat = some (Value.int .i64 (((x2_10a :: x2_10t)).getD (x2_11).toNat 0)),
    opIndexAddr P 22 (Value.slice (some ⟨0, 0, some 1⟩) (Args.G).length Args.cG) (Value.int .i64 (((x2_10a :: x2_10t)).getD (x2_11).toNat 0)) Ax.h0 = some ((Value.pointer (some ⟨0, (((((x2_10a :: x2_10t)).getD (x2_11).toNat 0)).toNat * 2), some 1⟩)), Ax.h0),
    opFieldAddr P 41 (Value.pointer (some ⟨0, (((((x2_10a :: x2_10t)).getD (x2_11).toNat 0)).toNat * 2), some 1⟩)) 1 Ax.h0 = some ((Value.pointer (some ⟨0, (Nat.add (((((x2_10a :: x2_10t)).getD (x2_11).toNat 0)).toNat * 2) 1), some 1⟩)), Ax.h0),
    loadG P 32 (Value.pointer (some ⟨0, (Nat.add (((((x2_10a :: x2_10t)).getD (x2_11).toNat 0)).toNat * 2) 1), some 1⟩)) Ax.h0 = some ((nlV (((Args.G).getD ((((x2_10a :: x2_10t)).getD (x2_11).toNat 0)).toNat (0, nl0)).2)), Ax.h0),
    (Value.bool x2_8) = (Value.bool true),
    (Value.bool x2_9) = (Value.bool false),
    Gv P (.func 29) (A_viewportlaw11holds x2_0 x2_1 x2_2 (((Args.G).getD ((((x2_10a :: x2_10t)).getD (x2_11).toNat 0)).toNat (0, nl0)).2) true x2_4 x2_5) (H_viewportlaw11holds x2_0 x2_1 x2_2 (((Args.G).getD ((((x2_10a :: x2_10t)).getD (x2_11).toNat 0)).toNat (0, nl0)).2) true x2_4 x2_5) (V_viewportlaw11holds x2_0 x2_1 x2_2 (((Args.G).getD ((((x2_10a :: x2_10t)).getD (x2_11).toNat 0)).toNat (0, nl0)).2) true x2_4 x2_5 y2_6_) (R_viewportlaw11holds x2_0 x2_1 x2_2 (((Args.G).getD ((((x2_10a :: x2_10t)).getD (x2_11).toNat 0)).toNat (0, nl0)).2) true x2_4 x2_5 y2_6_),
    FlatB (.cells (layT (rows rw_b x2_5)) 4),
    CG P none (fnN P 4) 0 (codeOf P 4 [false, true, true, true, false, false, true, false, false, true, false, true, true, false, false, true, false, false, true, false, true, true, true, true, true]) (S_viewportlaw11GramClosed_3 x2_0 x2_1 x2_2 x2_3 x2_4 x2_5 x2_6 x2_7 true y2_6_ (x2_10a :: x2_10t) x2_11 (((Args.G).getD ((((x2_10a :: x2_10t)).getD (x2_11).toNat 0)).toNat (0, nl0)).2) 0) (X_viewportlaw11GramClosed_3 x2_0 x2_1 x2_2 x2_3 x2_4 x2_5 x2_6 x2_7 true y2_6_ (x2_10a :: x2_10t) x2_11 (((Args.G).getD ((((x2_10a :: x2_10t)).getD (x2_11).toNat 0)).toNat (0, nl0)).2) ()),
    FlatB (.cells (layT (rows rw_b x2_3)) 4),
    FlatB (.cells (layT (rows rw_b x2_5)) 4),
    FlatB (.cells (layT (rows rw_b x2_6)) 4),
    FlatB (.cells (layT (iv (x2_10a :: x2_10t))) 3),
    FlatB (.cells (layT (rows rw_b x2_3)) 4),
    FlatB (.cells (layT (rows rw_b x2_5)) 4),
    FlatB (.cells (layT (rows rw_b x2_6)) 4),
    FlatB (.cells (layT (iv (x2_10a :: x2_10t))) 3)]) (by kernel_rfl) ⟨(vbT hy2_1), (ixS1 (e := 3) (by kernel_rfl) (by kernel_rfl) hy2_2), (iv_ld _ _ (toNatLt hy2_2)), (ixW (e := 41) (by kernel_rfl) (by kernel_rfl) (hy2_3).1 (hy2_3).2), (by kernel_rfl), (ldWS rwf_iL (0, nl0) (i := ((((x2_10a :: x2_10t)).getD (x2_11).toNat 0)).toNat) (q := 1) (L := Args.G) (Nat.add (((((x2_10a :: x2_10t)).getD (x2_11).toNat 0)).toNat * 2) 1) rfl rfl (by kernel_rfl) (toNatLt hy2_3) (by decide) rfl), (vB hy2_4), (vB (Bool.eq_false_iff.2 hy2_5)), (m_viewportlaw11holds_ok n x2_0 x2_1 x2_2 (((Args.G).getD ((((x2_10a :: x2_10t)).getD (x2_11).toNat 0)).toNat (0, nl0)).2) true x2_4 x2_5 y2_6_ hy2_6), (rows_flat rwf_b _ _), (m_viewportlaw11GramClosed_3_ok n x2_0 x2_1 x2_2 x2_3 x2_4 x2_5 x2_6 x2_7 true y2_6_ (x2_10a :: x2_10t) x2_11 (((Args.G).getD ((((x2_10a :: x2_10t)).getD (x2_11).toNat 0)).toNat (0, nl0)).2) 0 () hy2_7), (rows_flat rwf_b _ _), (rows_flat rwf_b _ _), (rows_flat rwf_b _ _), (iv_flat _ _), (rows_flat rwf_b _ _), (rows_flat rwf_b _ _), (rows_flat rwf_b _ _), (iv_flat _ _), trivial⟩
set_option maxRecDepth 100000 in
theorem q_viewportlaw11GramClosed_2_3 (n : Nat) (x2_0 : Int) (x2_1 : Int) (x2_2 : Int) (x2_3 : List (Bool)) (x2_4 : Nat) (x2_5 : List (Bool)) (x2_6 : List (Bool)) (x2_7 : Int) (x2_8 : Bool) (x2_9 : Bool) (x2_10a : Int) (x2_10t : List (Int)) (x2_11 : Int) (hy2_1 : x2_11 < ((((x2_10a :: x2_10t)).length : Nat) : Int)) (hy2_2 : 0 ≤ x2_11 ∧ x2_11 < ((((x2_10a :: x2_10t)).length : Nat) : Int)) (hy2_3 : 0 ≤ (((x2_10a :: x2_10t)).getD (x2_11).toNat 0) ∧ (((x2_10a :: x2_10t)).getD (x2_11).toNat 0) < (((Args.G).length : Nat) : Int)) (hy2_4 : ¬ (x2_8 = true)) (y2_5_ : Bool) (hy2_5 : m_viewportlaw11holds n x2_0 x2_1 x2_2 (((Args.G).getD ((((x2_10a :: x2_10t)).getD (x2_11).toNat 0)).toNat (0, nl0)).2) false x2_4 x2_3 = some y2_5_) (hy2_6 : x2_9 = true) (hy2_7 : m_viewportlaw11GramClosed_3 n x2_0 x2_1 x2_2 x2_3 x2_4 x2_5 x2_6 x2_7 y2_5_ true (x2_10a :: x2_10t) x2_11 (((Args.G).getD ((((x2_10a :: x2_10t)).getD (x2_11).toNat 0)).toNat (0, nl0)).2) 0 = some ()) : CG P none (fnN P 4) 0 (codeOf P 4 [false, false, true, false, true, true, false, false, true, false, false, true, false, true, true, true, true, true]) (S_viewportlaw11GramClosed_2 x2_0 x2_1 x2_2 x2_3 x2_4 x2_5 x2_6 x2_7 (x2_8, x2_9, (x2_10a :: x2_10t), x2_11)) (.normal, S_viewportlaw11GramClosed_2 x2_0 x2_1 x2_2 x2_3 x2_4 x2_5 x2_6 x2_7 (y2_5_, true, (x2_10a :: x2_10t), (w64 (x2_11 + (1 : Int))))) :=
  runC_ok hm (A := aT [(5, .val (.bool true)), (14, .pur (Value.pointer (some ⟨4, (x2_11).toNat, none⟩))), (15, .ld (Value.int .i64 (((x2_10a :: x2_10t)).getD (x2_11).toNat 0))), (16, .pur (Value.pointer (some ⟨0, (((((x2_10a :: x2_10t)).getD (x2_11).toNat 0)).toNat * 2), some 1⟩))), (17, .pur (Value.pointer (some ⟨0, (Nat.add (((((x2_10a :: x2_10t)).getD (x2_11).toNat 0)).toNat * 2) 1), some 1⟩))), (18, .ld (nlV (((Args.G).getD ((((x2_10a :: x2_10t)).getD (x2_11).toNat 0)).toNat (0, nl0)).2))), (22, .val (.bool false)), (26, .call ⟨1, [(0, 1, true)], (V_viewportlaw11holds x2_0 x2_1 x2_2 (((Args.G).getD ((((x2_10a :: x2_10t)).getD (x2_11).toNat 0)).toNat (0, nl0)).2) false x2_4 x2_3 y2_5_), (R_viewportlaw11holds x2_0 x2_1 x2_2 (((Args.G).getD ((((x2_10a :: x2_10t)).getD (x2_11).toNat 0)).toNat (0, nl0)).2) false x2_4 x2_3 y2_5_), []⟩), (29, .val (.bool true))]) (L := lT [(40, ⟨⟨[1, 3, 4, 5, 6, 7, 8, 9, 10, 11, 12], [(0, 0, false), (1, 1, true), (2, 2, true), (3, 3, true), (4, 4, true)], 5, 0⟩, (X_viewportlaw11GramClosed_3 x2_0 x2_1 x2_2 x2_3 x2_4 x2_5 x2_6 x2_7 y2_5_ true (x2_10a :: x2_10t) x2_11 (((Args.G).getD ((((x2_10a :: x2_10t)).getD (x2_11).toNat 0)).toNat (0, nl0)).2) ()).1, (X_viewportlaw11GramClosed_3 x2_0 x2_1 x2_2 x2_3 x2_4 x2_5 x2_6 x2_7 y2_5_ true (x2_10a :: x2_10t) x2_11 (((Args.G).getD ((((x2_10a :: x2_10t)).getD (x2_11).toNat 0)).toNat (0, nl0)).2) ()).2⟩)]) (wk := ⟨[1, 3, 4, 5, 6, 7, 8, 9, 10], [(0, 0, false), (1, 1, true), (2, 2, true), (3, 3, true), (4, 4, true)], 5, 0⟩)
    (ps := [(Value.bool (decide (x2_11 < ((((x2_10a :: x2_10t)).length : Nat) : Int)))) = (Value.bool true),
    opIndexAddr P 32 (Value.slice (some ⟨4, 0, none⟩) ((x2_10a :: x2_10t)).length (Nat.add big 1)) (Value.int .i64 x2_11) Ax.h0 = some ((Value.pointer (some ⟨4, (x2_11).toNat, none⟩)), Ax.h0),
    (layT (iv (x2_10a :: x2_10t))).get (x2_11).toNat = some (Value.int .i64 (((x2_10a :: x2_10t)).getD (x2_11).toNat 0)),
    opIndexAddr P 22 (Value.slice (some ⟨0, 0, some 1⟩) (Args.G).length Args.cG) (Value.int .i64 (((x2_10a :: x2_10t)).getD (x2_11).toNat 0)) Ax.h0 = some ((Value.pointer (some ⟨0, (((((x2_10a :: x2_10t)).getD (x2_11).toNat 0)).toNat * 2), some 1⟩)), Ax.h0),
    opFieldAddr P 41 (Value.pointer (some ⟨0, (((((x2_10a :: x2_10t)).getD (x2_11).toNat 0)).toNat * 2), some 1⟩)) 1 Ax.h0 = some ((Value.pointer (some ⟨0, (Nat.add (((((x2_10a :: x2_10t)).getD (x2_11).toNat 0)).toNat * 2) 1), some 1⟩)), Ax.h0),
    loadG P 32 (Value.pointer (some ⟨0, (Nat.add (((((x2_10a :: x2_10t)).getD (x2_11).toNat 0)).toNat * 2) 1), some 1⟩)) Ax.h0 = some ((nlV (((Args.G).getD ((((x2_10a :: x2_10t)).getD (x2_11).toNat 0)).toNat (0, nl0)).2)), Ax.h0),
    (Value.bool x2_8) = (Value.bool false),
    Gv P (.func 29) (A_viewportlaw11holds x2_0 x2_1 x2_2 (((Args.G).getD ((((x2_10a :: x2_10t)).getD (x2_11).toNat 0)).toNat (0, nl0)).2) false x2_4 x2_3) (H_viewportlaw11holds x2_0 x2_1 x2_2 (((Args.G).getD ((((x2_10a :: x2_10t)).getD (x2_11).toNat 0)).toNat (0, nl0)).2) false x2_4 x2_3) (V_viewportlaw11holds x2_0 x2_1 x2_2 (((Args.G).getD ((((x2_10a :: x2_10t)).getD (x2_11).toNat 0)).toNat (0, nl0)).2) false x2_4 x2_3 y2_5_) (R_viewportlaw11holds x2_0 x2_1 x2_2 (((Args.G).getD ((((x2_10a :: x2_10t)).getD (x2_11).toNat 0)).toNat (0, nl0)).2) false x2_4 x2_3 y2_5_),
    FlatB (.cells (layT (rows rw_b x2_3)) 4),
    (Value.bool x2_9) = (Value.bool true),
    CG P none (fnN P 4) 0 (codeOf P 4 [false, true, true, true, false, false, true, false, false, true, false, true, true, false, false, true, false, false, true, false, true, true, true, true, true]) (S_viewportlaw11GramClosed_3 x2_0 x2_1 x2_2 x2_3 x2_4 x2_5 x2_6 x2_7 y2_5_ true (x2_10a :: x2_10t) x2_11 (((Args.G).getD ((((x2_10a :: x2_10t)).getD (x2_11).toNat 0)).toNat (0, nl0)).2) 0) (X_viewportlaw11GramClosed_3 x2_0 x2_1 x2_2 x2_3 x2_4 x2_5 x2_6 x2_7 y2_5_ true (x2_10a :: x2_10t) x2_11 (((Args.G).getD ((((x2_10a :: x2_10t)).getD (x2_11).toNat 0)).toNat (0, nl0)).2) ()),
    FlatB (.cells (layT (rows rw_b x2_3)) 4),
    FlatB (.cells (layT (rows rw_b x2_5)) 4),
    FlatB (.cells (layT (rows rw_b x2_6)) 4),
    FlatB (.cells (layT (iv (x2_10a :: x2_10t))) 3),
    FlatB (.cells (layT (rows rw_b x2_3)) 4),
    FlatB (.cells (layT (rows rw_b x2_5)) 4),
    FlatB (.cells (layT (rows rw_b x2_6)) 4),
    FlatB (.cells (layT (iv (x2_10a :: x2_10t))) 3)]) (by kernel_rfl) ⟨(vbT hy2_1), (ixS1 (e := 3) (by kernel_rfl) (by kernel_rfl) hy2_2), (iv_ld _ _ (toNatLt hy2_2)), (ixW (e := 41) (by kernel_rfl) (by kernel_rfl) (hy2_3).1 (hy2_3).2), (by kernel_rfl), (ldWS rwf_iL (0, nl0) (i := ((((x2_10a :: x2_10t)).getD (x2_11).toNat 0)).toNat) (q := 1) (L := Args.G) (Nat.add (((((x2_10a :: x2_10t)).getD (x2_11).toNat 0)).toNat * 2) 1) rfl rfl (by kernel_rfl) (toNatLt hy2_3) (by decide) rfl), (vB (Bool.eq_false_iff.2 hy2_4)), (m_viewportlaw11holds_ok n x2_0 x2_1 x2_2 (((Args.G).getD ((((x2_10a :: x2_10t)).getD (x2_11).toNat 0)).toNat (0, nl0)).2) false x2_4 x2_3 y2_5_ hy2_5), (rows_flat rwf_b _ _), (vB hy2_6), (m_viewportlaw11GramClosed_3_ok n x2_0 x2_1 x2_2 x2_3 x2_4 x2_5 x2_6 x2_7 y2_5_ true (x2_10a :: x2_10t) x2_11 (((Args.G).getD ((((x2_10a :: x2_10t)).getD (x2_11).toNat 0)).toNat (0, nl0)).2) 0 () hy2_7), (rows_flat rwf_b _ _), (rows_flat rwf_b _ _), (rows_flat rwf_b _ _), (iv_flat _ _), (rows_flat rwf_b _ _), (rows_flat rwf_b _ _), (rows_flat rwf_b _ _), (iv_flat _ _), trivial⟩
set_option maxRecDepth 100000 in
theorem q_viewportlaw11GramClosed_2_4 (n : Nat) (x2_0 : Int) (x2_1 : Int) (x2_2 : Int) (x2_3 : List (Bool)) (x2_4 : Nat) (x2_5 : List (Bool)) (x2_6 : List (Bool)) (x2_7 : Int) (x2_8 : Bool) (x2_9 : Bool) (x2_10a : Int) (x2_10t : List (Int)) (x2_11 : Int) (hy2_1 : x2_11 < ((((x2_10a :: x2_10t)).length : Nat) : Int)) (hy2_2 : 0 ≤ x2_11 ∧ x2_11 < ((((x2_10a :: x2_10t)).length : Nat) : Int)) (hy2_3 : 0 ≤ (((x2_10a :: x2_10t)).getD (x2_11).toNat 0) ∧ (((x2_10a :: x2_10t)).getD (x2_11).toNat 0) < (((Args.G).length : Nat) : Int)) (hy2_4 : ¬ (x2_8 = true)) (y2_5_ : Bool) (hy2_5 : m_viewportlaw11holds n x2_0 x2_1 x2_2 (((Args.G).getD ((((x2_10a :: x2_10t)).getD (x2_11).toNat 0)).toNat (0, nl0)).2) false x2_4 x2_3 = some y2_5_) (hy2_6 : ¬ (x2_9 = true)) (y2_7_ : Bool) (hy2_7 : m_viewportlaw11holds n x2_0 x2_1 x2_2 (((Args.G).getD ((((x2_10a :: x2_10t)).getD (x2_11).toNat 0)).toNat (0, nl0)).2) true x2_4 x2_5 = some y2_7_) (hy2_8 : m_viewportlaw11GramClosed_3 n x2_0 x2_1 x2_2 x2_3 x2_4 x2_5 x2_6 x2_7 y2_5_ y2_7_ (x2_10a :: x2_10t) x2_11 (((Args.G).getD ((((x2_10a :: x2_10t)).getD (x2_11).toNat 0)).toNat (0, nl0)).2) 0 = some ()) : CG P none (fnN P 4) 0 (codeOf P 4 [false, false, true, false, true, true, false, false, true, false, false, true, false, true, true, true, true, true]) (S_viewportlaw11GramClosed_2 x2_0 x2_1 x2_2 x2_3 x2_4 x2_5 x2_6 x2_7 (x2_8, x2_9, (x2_10a :: x2_10t), x2_11)) (.normal, S_viewportlaw11GramClosed_2 x2_0 x2_1 x2_2 x2_3 x2_4 x2_5 x2_6 x2_7 (y2_5_, y2_7_, (x2_10a :: x2_10t), (w64 (x2_11 + (1 : Int))))) :=
  runC_ok hm (A := aT [(5, .val (.bool true)), (14, .pur (Value.pointer (some ⟨4, (x2_11).toNat, none⟩))), (15, .ld (Value.int .i64 (((x2_10a :: x2_10t)).getD (x2_11).toNat 0))), (16, .pur (Value.pointer (some ⟨0, (((((x2_10a :: x2_10t)).getD (x2_11).toNat 0)).toNat * 2), some 1⟩))), (17, .pur (Value.pointer (some ⟨0, (Nat.add (((((x2_10a :: x2_10t)).getD (x2_11).toNat 0)).toNat * 2) 1), some 1⟩))), (18, .ld (nlV (((Args.G).getD ((((x2_10a :: x2_10t)).getD (x2_11).toNat 0)).toNat (0, nl0)).2))), (22, .val (.bool false)), (26, .call ⟨1, [(0, 1, true)], (V_viewportlaw11holds x2_0 x2_1 x2_2 (((Args.G).getD ((((x2_10a :: x2_10t)).getD (x2_11).toNat 0)).toNat (0, nl0)).2) false x2_4 x2_3 y2_5_), (R_viewportlaw11holds x2_0 x2_1 x2_2 (((Args.G).getD ((((x2_10a :: x2_10t)).getD (x2_11).toNat 0)).toNat (0, nl0)).2) false x2_4 x2_3 y2_5_), []⟩), (29, .val (.bool false)), (33, .call ⟨1, [(0, 2, true)], (V_viewportlaw11holds x2_0 x2_1 x2_2 (((Args.G).getD ((((x2_10a :: x2_10t)).getD (x2_11).toNat 0)).toNat (0, nl0)).2) true x2_4 x2_5 y2_7_), (R_viewportlaw11holds x2_0 x2_1 x2_2 (((Args.G).getD ((((x2_10a :: x2_10t)).getD (x2_11).toNat 0)).toNat (0, nl0)).2) true x2_4 x2_5 y2_7_), []⟩)]) (L := lT [(40, ⟨⟨[1, 3, 4, 5, 6, 7, 8, 9, 10, 11, 12], [(0, 0, false), (1, 1, true), (2, 2, true), (3, 3, true), (4, 4, true)], 5, 0⟩, (X_viewportlaw11GramClosed_3 x2_0 x2_1 x2_2 x2_3 x2_4 x2_5 x2_6 x2_7 y2_5_ y2_7_ (x2_10a :: x2_10t) x2_11 (((Args.G).getD ((((x2_10a :: x2_10t)).getD (x2_11).toNat 0)).toNat (0, nl0)).2) ()).1, (X_viewportlaw11GramClosed_3 x2_0 x2_1 x2_2 x2_3 x2_4 x2_5 x2_6 x2_7 y2_5_ y2_7_ (x2_10a :: x2_10t) x2_11 (((Args.G).getD ((((x2_10a :: x2_10t)).getD (x2_11).toNat 0)).toNat (0, nl0)).2) ()).2⟩)]) (wk := ⟨[1, 3, 4, 5, 6, 7, 8, 9, 10], [(0, 0, false), (1, 1, true), (2, 2, true), (3, 3, true), (4, 4, true)], 5, 0⟩)
    (ps := [(Value.bool (decide (x2_11 < ((((x2_10a :: x2_10t)).length : Nat) : Int)))) = (Value.bool true),
    opIndexAddr P 32 (Value.slice (some ⟨4, 0, none⟩) ((x2_10a :: x2_10t)).length (Nat.add big 1)) (Value.int .i64 x2_11) Ax.h0 = some ((Value.pointer (some ⟨4, (x2_11).toNat, none⟩)), Ax.h0),
    (layT (iv (x2_10a :: x2_10t))).get (x2_11).toNat = some (Value.int .i64 (((x2_10a :: x2_10t)).getD (x2_11).toNat 0)),
    opIndexAddr P 22 (Value.slice (some ⟨0, 0, some 1⟩) (Args.G).length Args.cG) (Value.int .i64 (((x2_10a :: x2_10t)).getD (x2_11).toNat 0)) Ax.h0 = some ((Value.pointer (some ⟨0, (((((x2_10a :: x2_10t)).getD (x2_11).toNat 0)).toNat * 2), some 1⟩)), Ax.h0),
    opFieldAddr P 41 (Value.pointer (some ⟨0, (((((x2_10a :: x2_10t)).getD (x2_11).toNat 0)).toNat * 2), some 1⟩)) 1 Ax.h0 = some ((Value.pointer (some ⟨0, (Nat.add (((((x2_10a :: x2_10t)).getD (x2_11).toNat 0)).toNat * 2) 1), some 1⟩)), Ax.h0),
    loadG P 32 (Value.pointer (some ⟨0, (Nat.add (((((x2_10a :: x2_10t)).getD (x2_11).toNat 0)).toNat * 2) 1), some 1⟩)) Ax.h0 = some ((nlV (((Args.G).getD ((((x2_10a :: x2_10t)).getD (x2_11).toNat 0)).toNat (0, nl0)).2)), Ax.h0),
    (Value.bool x2_8) = (Value.bool false),
    Gv P (.func 29) (A_viewportlaw11holds x2_0 x2_1 x2_2 (((Args.G).getD ((((x2_10a :: x2_10t)).getD (x2_11).toNat 0)).toNat (0, nl0)).2) false x2_4 x2_3) (H_viewportlaw11holds x2_0 x2_1 x2_2 (((Args.G).getD ((((x2_10a :: x2_10t)).getD (x2_11).toNat 0)).toNat (0, nl0)).2) false x2_4 x2_3) (V_viewportlaw11holds x2_0 x2_1 x2_2 (((Args.G).getD ((((x2_10a :: x2_10t)).getD (x2_11).toNat 0)).toNat (0, nl0)).2) false x2_4 x2_3 y2_5_) (R_viewportlaw11holds x2_0 x2_1 x2_2 (((Args.G).getD ((((x2_10a :: x2_10t)).getD (x2_11).toNat 0)).toNat (0, nl0)).2) false x2_4 x2_3 y2_5_),
    FlatB (.cells (layT (rows rw_b x2_3)) 4),
    (Value.bool x2_9) = (Value.bool false),
    Gv P (.func 29) (A_viewportlaw11holds x2_0 x2_1 x2_2 (((Args.G).getD ((((x2_10a :: x2_10t)).getD (x2_11).toNat 0)).toNat (0, nl0)).2) true x2_4 x2_5) (H_viewportlaw11holds x2_0 x2_1 x2_2 (((Args.G).getD ((((x2_10a :: x2_10t)).getD (x2_11).toNat 0)).toNat (0, nl0)).2) true x2_4 x2_5) (V_viewportlaw11holds x2_0 x2_1 x2_2 (((Args.G).getD ((((x2_10a :: x2_10t)).getD (x2_11).toNat 0)).toNat (0, nl0)).2) true x2_4 x2_5 y2_7_) (R_viewportlaw11holds x2_0 x2_1 x2_2 (((Args.G).getD ((((x2_10a :: x2_10t)).getD (x2_11).toNat 0)).toNat (0, nl0)).2) true x2_4 x2_5 y2_7_),
    FlatB (.cells (layT (rows rw_b x2_5)) 4),
    CG P none (fnN P 4) 0 (codeOf P 4 [false, true, true, true, false, false, true, false, false, true, false, true, true, false, false, true, false, false, true, false, true, true, true, true, true]) (S_viewportlaw11GramClosed_3 x2_0 x2_1 x2_2 x2_3 x2_4 x2_5 x2_6 x2_7 y2_5_ y2_7_ (x2_10a :: x2_10t) x2_11 (((Args.G).getD ((((x2_10a :: x2_10t)).getD (x2_11).toNat 0)).toNat (0, nl0)).2) 0) (X_viewportlaw11GramClosed_3 x2_0 x2_1 x2_2 x2_3 x2_4 x2_5 x2_6 x2_7 y2_5_ y2_7_ (x2_10a :: x2_10t) x2_11 (((Args.G).getD ((((x2_10a :: x2_10t)).getD (x2_11).toNat 0)).toNat (0, nl0)).2) ()),
    FlatB (.cells (layT (rows rw_b x2_3)) 4),
    FlatB (.cells (layT (rows rw_b x2_5)) 4),
    FlatB (.cells (layT (rows rw_b x2_6)) 4),
    FlatB (.cells (layT (iv (x2_10a :: x2_10t))) 3),
    FlatB (.cells (layT (rows rw_b x2_3)) 4),
    FlatB (.cells (layT (rows rw_b x2_5)) 4),
    FlatB (.cells (layT (rows rw_b x2_6)) 4),
    FlatB (.cells (layT (iv (x2_10a :: x2_10t))) 3)]) (by kernel_rfl) ⟨(vbT hy2_1), (ixS1 (e := 3) (by kernel_rfl) (by kernel_rfl) hy2_2), (iv_ld _ _ (toNatLt hy2_2)), (ixW (e := 41) (by kernel_rfl) (by kernel_rfl) (hy2_3).1 (hy2_3).2), (by kernel_rfl), (ldWS rwf_iL (0, nl0) (i := ((((x2_10a :: x2_10t)).getD (x2_11).toNat 0)).toNat) (q := 1) (L := Args.G) (Nat.add (((((x2_10a :: x2_10t)).getD (x2_11).toNat 0)).toNat * 2) 1) rfl rfl (by kernel_rfl) (toNatLt hy2_3) (by decide) rfl), (vB (Bool.eq_false_iff.2 hy2_4)), (m_viewportlaw11holds_ok n x2_0 x2_1 x2_2 (((Args.G).getD ((((x2_10a :: x2_10t)).getD (x2_11).toNat 0)).toNat (0, nl0)).2) false x2_4 x2_3 y2_5_ hy2_5), (rows_flat rwf_b _ _), (vB (Bool.eq_false_iff.2 hy2_6)), (m_viewportlaw11holds_ok n x2_0 x2_1 x2_2 (((Args.G).getD ((((x2_10a :: x2_10t)).getD (x2_11).toNat 0)).toNat (0, nl0)).2) true x2_4 x2_5 y2_7_ hy2_7), (rows_flat rwf_b _ _), (m_viewportlaw11GramClosed_3_ok n x2_0 x2_1 x2_2 x2_3 x2_4 x2_5 x2_6 x2_7 y2_5_ y2_7_ (x2_10a :: x2_10t) x2_11 (((Args.G).getD ((((x2_10a :: x2_10t)).getD (x2_11).toNat 0)).toNat (0, nl0)).2) 0 () hy2_8), (rows_flat rwf_b _ _), (rows_flat rwf_b _ _), (rows_flat rwf_b _ _), (iv_flat _ _), (rows_flat rwf_b _ _), (rows_flat rwf_b _ _), (rows_flat rwf_b _ _), (iv_flat _ _), trivial⟩
set_option maxRecDepth 100000 in
theorem q_viewportlaw11GramClosed_2_5 (n : Nat) (x2_0 : Int) (x2_1 : Int) (x2_2 : Int) (x2_3 : List (Bool)) (x2_4 : Nat) (x2_5 : List (Bool)) (x2_6 : List (Bool)) (x2_7 : Int) (x2_8 : Bool) (x2_9 : Bool) (x2_10a : Int) (x2_10t : List (Int)) (x2_11 : Int) (hy2_1 : ¬ (x2_11 < ((((x2_10a :: x2_10t)).length : Nat) : Int))) : CG P none (fnN P 4) 0 (codeOf P 4 [false, false, true, false, true, true, false, false, true, false, false, true, false, true, true, true, true, true]) (S_viewportlaw11GramClosed_2 x2_0 x2_1 x2_2 x2_3 x2_4 x2_5 x2_6 x2_7 (x2_8, x2_9, (x2_10a :: x2_10t), x2_11)) (X_viewportlaw11GramClosed_2 x2_0 x2_1 x2_2 x2_3 x2_4 x2_5 x2_6 x2_7 (x2_8, x2_9)) :=
  runC_ok hm (A := aT [(5, .val (.bool false))]) (L := lT []) (wk := ⟨[1, 3, 4, 5, 6, 7, 8], [(0, 0, false), (1, 1, true), (2, 2, true), (3, 3, true)], 4, 0⟩)
    (ps := [(Value.bool (decide (x2_11 < ((((x2_10a :: x2_10t)).length : Nat) : Int)))) = (Value.bool false),
    FlatB (.cells (layT (rows rw_b x2_3)) 4),
    FlatB (.cells (layT (rows rw_b x2_5)) 4),
    FlatB (.cells (layT (rows rw_b x2_6)) 4)]) (by kernel_rfl) ⟨(vbF hy2_1), (rows_flat rwf_b _ _), (rows_flat rwf_b _ _), (rows_flat rwf_b _ _), trivial⟩
theorem m_viewportlaw11GramClosed_2_ok (n : Nat) (x2_0 : Int) (x2_1 : Int) (x2_2 : Int) (x2_3 : List (Bool)) (x2_4 : Nat) (x2_5 : List (Bool)) (x2_6 : List (Bool)) (x2_7 : Int) (st : Bool × Bool × List Int × Int) (r : Bool × Bool) (h : m_viewportlaw11GramClosed_2 n x2_0 x2_1 x2_2 x2_3 x2_4 x2_5 x2_6 x2_7 st = some r) : CG P none (fnN P 4) 0 (codeOf P 4 [false, true, false, true, true, false, false, true, false, false, true, false, true, true, true, true, true]) (S_viewportlaw11GramClosed_2 x2_0 x2_1 x2_2 x2_3 x2_4 x2_5 x2_6 x2_7 st) (X_viewportlaw11GramClosed_2 x2_0 x2_1 x2_2 x2_3 x2_4 x2_5 x2_6 x2_7 r) :=
  CG.iter (b := codeOf P 4 [false, false, true, false, true, true, false, false, true, false, false, true, false, true, true, true, true, true]) (by kernel_rfl) (body := B_viewportlaw11GramClosed_2 n x2_0 x2_1 x2_2 x2_3 x2_4 x2_5 x2_6 x2_7) (S := S_viewportlaw11GramClosed_2 x2_0 x2_1 x2_2 x2_3 x2_4 x2_5 x2_6 x2_7) (X := X_viewportlaw11GramClosed_2 x2_0 x2_1 x2_2 x2_3 x2_4 x2_5 x2_6 x2_7)
    (fun s s' h => by
    obtain ⟨x2_8, x2_9, x2_10, x2_11⟩ := s
    unfold B_viewportlaw11GramClosed_2 at h
    dsimp only at h
    cases x2_10 with
    | nil =>
      dsimp only at h
      by_cases hy2_1 : x2_11 < (0 : Int)
      · rw [if_pos hy2_1] at h
        cases h
      · rw [if_neg hy2_1] at h
        cases h
    | cons x2_10a x2_10t =>
      dsimp only at h
      by_cases hy2_1 : x2_11 < ((((x2_10a :: x2_10t)).length : Nat) : Int)
      · rw [if_pos hy2_1] at h
        by_cases hy2_2 : 0 ≤ x2_11 ∧ x2_11 < ((((x2_10a :: x2_10t)).length : Nat) : Int)
        · rw [if_pos hy2_2] at h
          by_cases hy2_3 : 0 ≤ (((x2_10a :: x2_10t)).getD (x2_11).toNat 0) ∧ (((x2_10a :: x2_10t)).getD (x2_11).toNat 0) < (((Args.G).length : Nat) : Int)
          · rw [if_pos hy2_3] at h
            by_cases hy2_4 : x2_8 = true
            · rw [if_pos hy2_4] at h
              by_cases hy2_5 : x2_9 = true
              · rw [if_pos hy2_5] at h
                obtain ⟨_, hy2_6, h⟩ := Option.bind_eq_some_iff.1 h
                obtain rfl := Sum.inl.inj (Option.some.inj h); exact q_viewportlaw11GramClosed_2_1 n x2_0 x2_1 x2_2 x2_3 x2_4 x2_5 x2_6 x2_7 x2_8 x2_9 x2_10a x2_10t x2_11 hy2_1 hy2_2 hy2_3 hy2_4 hy2_5 hy2_6
              · rw [if_neg hy2_5] at h
                obtain ⟨y2_6_, hy2_6, h⟩ := Option.bind_eq_some_iff.1 h
                obtain ⟨_, hy2_7, h⟩ := Option.bind_eq_some_iff.1 h
                obtain rfl := Sum.inl.inj (Option.some.inj h); exact q_viewportlaw11GramClosed_2_2 n x2_0 x2_1 x2_2 x2_3 x2_4 x2_5 x2_6 x2_7 x2_8 x2_9 x2_10a x2_10t x2_11 hy2_1 hy2_2 hy2_3 hy2_4 hy2_5 y2_6_ hy2_6 hy2_7
            · rw [if_neg hy2_4] at h
              obtain ⟨y2_5_, hy2_5, h⟩ := Option.bind_eq_some_iff.1 h
              by_cases hy2_6 : x2_9 = true
              · rw [if_pos hy2_6] at h
                obtain ⟨_, hy2_7, h⟩ := Option.bind_eq_some_iff.1 h
                obtain rfl := Sum.inl.inj (Option.some.inj h); exact q_viewportlaw11GramClosed_2_3 n x2_0 x2_1 x2_2 x2_3 x2_4 x2_5 x2_6 x2_7 x2_8 x2_9 x2_10a x2_10t x2_11 hy2_1 hy2_2 hy2_3 hy2_4 y2_5_ hy2_5 hy2_6 hy2_7
              · rw [if_neg hy2_6] at h
                obtain ⟨y2_7_, hy2_7, h⟩ := Option.bind_eq_some_iff.1 h
                obtain ⟨_, hy2_8, h⟩ := Option.bind_eq_some_iff.1 h
                obtain rfl := Sum.inl.inj (Option.some.inj h); exact q_viewportlaw11GramClosed_2_4 n x2_0 x2_1 x2_2 x2_3 x2_4 x2_5 x2_6 x2_7 x2_8 x2_9 x2_10a x2_10t x2_11 hy2_1 hy2_2 hy2_3 hy2_4 y2_5_ hy2_5 hy2_6 y2_7_ hy2_7 hy2_8
          · rw [if_neg hy2_3] at h; cases h
        · rw [if_neg hy2_2] at h; cases h
      · rw [if_neg hy2_1] at h
        cases h)
    (fun s r h => by
    obtain ⟨x2_8, x2_9, x2_10, x2_11⟩ := s
    unfold B_viewportlaw11GramClosed_2 at h
    dsimp only at h
    cases x2_10 with
    | nil =>
      dsimp only at h
      by_cases hy2_1 : x2_11 < (0 : Int)
      · rw [if_pos hy2_1] at h
        cases h
      · rw [if_neg hy2_1] at h
        obtain rfl := Sum.inr.inj (Option.some.inj h); exact q_viewportlaw11GramClosed_2_0 n x2_0 x2_1 x2_2 x2_3 x2_4 x2_5 x2_6 x2_7 x2_8 x2_9 x2_11 hy2_1
    | cons x2_10a x2_10t =>
      dsimp only at h
      by_cases hy2_1 : x2_11 < ((((x2_10a :: x2_10t)).length : Nat) : Int)
      · rw [if_pos hy2_1] at h
        by_cases hy2_2 : 0 ≤ x2_11 ∧ x2_11 < ((((x2_10a :: x2_10t)).length : Nat) : Int)
        · rw [if_pos hy2_2] at h
          by_cases hy2_3 : 0 ≤ (((x2_10a :: x2_10t)).getD (x2_11).toNat 0) ∧ (((x2_10a :: x2_10t)).getD (x2_11).toNat 0) < (((Args.G).length : Nat) : Int)
          · rw [if_pos hy2_3] at h
            by_cases hy2_4 : x2_8 = true
            · rw [if_pos hy2_4] at h
              by_cases hy2_5 : x2_9 = true
              · rw [if_pos hy2_5] at h
                obtain ⟨_, hy2_6, h⟩ := Option.bind_eq_some_iff.1 h
                cases h
              · rw [if_neg hy2_5] at h
                obtain ⟨y2_6_, hy2_6, h⟩ := Option.bind_eq_some_iff.1 h
                obtain ⟨_, hy2_7, h⟩ := Option.bind_eq_some_iff.1 h
                cases h
            · rw [if_neg hy2_4] at h
              obtain ⟨y2_5_, hy2_5, h⟩ := Option.bind_eq_some_iff.1 h
              by_cases hy2_6 : x2_9 = true
              · rw [if_pos hy2_6] at h
                obtain ⟨_, hy2_7, h⟩ := Option.bind_eq_some_iff.1 h
                cases h
              · rw [if_neg hy2_6] at h
                obtain ⟨y2_7_, hy2_7, h⟩ := Option.bind_eq_some_iff.1 h
                obtain ⟨_, hy2_8, h⟩ := Option.bind_eq_some_iff.1 h
                cases h
          · rw [if_neg hy2_3] at h; cases h
        · rw [if_neg hy2_2] at h; cases h
      · rw [if_neg hy2_1] at h
        obtain rfl := Sum.inr.inj (Option.some.inj h); exact q_viewportlaw11GramClosed_2_5 n x2_0 x2_1 x2_2 x2_3 x2_4 x2_5 x2_6 x2_7 x2_8 x2_9 x2_10a x2_10t x2_11 hy2_1)
    (fun r => by intro hx; cases hx) h
noncomputable def S_viewportlaw11GramClosed_4 (x4_0 : Int) (x4_1 : Int) (x4_2 : Int) (x4_3 : List (Bool)) (x4_4 : Nat) (x4_5 : List (Bool)) (x4_6 : Int) (x4_7 : Bool) (st : Int) : XSt := match st with
  | x4_8 => (sT 190 [(1, (Value.pointer (some ⟨0, 0, none⟩))), (4, (Value.slice (some ⟨1, 0, none⟩) x4_4 x4_4)), (5, (Value.slice (some ⟨2, 0, none⟩) x4_4 x4_4)), (13, (Value.int .i64 x4_6)), (14, (Value.bool x4_7)), (15, (Value.int .i64 x4_8))], [], ⟨sB [(0, (some (.cells (layT [(Value.int .i64 x4_0), (Value.int .i64 x4_1), (Value.int .i64 x4_2), (Value.slice (some ⟨0, 0, some 1⟩) (Args.G).length Args.cG)]) 24))), (1, (some (.cells (layT (rows rw_b x4_3)) 4))), (2, (some (.cells (layT (rows rw_b x4_5)) 4)))], 3, 0⟩)
noncomputable def X_viewportlaw11GramClosed_4 (x4_0 : Int) (x4_1 : Int) (x4_2 : Int) (x4_3 : List (Bool)) (x4_4 : Nat) (x4_5 : List (Bool)) (x4_6 : Int) (x4_7 : Bool) (r : (Unit) ⊕ (Unit)) : Ex × XSt := match r with
  | .inl _ => (.ret, (sT 190 [(2, (Value.bool true))], [], ⟨sB [], 0, 0⟩))
  | .inr _ => (.exit 6, (sT 190 [(13, (Value.int .i64 x4_6)), (14, (Value.bool x4_7))], [], ⟨sB [], 0, 0⟩))
def B_viewportlaw11GramClosed_4 (n : Nat) (x4_0 : Int) (x4_1 : Int) (x4_2 : Int) (x4_3 : List (Bool)) (x4_4 : Nat) (x4_5 : List (Bool)) (x4_6 : Int) (x4_7 : Bool) (st : Int) : Option ((Int) ⊕ ((Unit) ⊕ (Unit))) := match st with
  | x4_8 =>
    if x4_8 < x4_1 then
      if 0 ≤ x4_8 ∧ x4_8 < ((x4_4 : Nat) : Int) then
        if (x4_8).toNat < (x4_3).length then
          if ((x4_3).getD (x4_8).toNat (false)) = true then
            if (x4_8).toNat < (x4_5).length then
              if ((x4_5).getD (x4_8).toNat (false)) = true then
                some (.inl (w64 (x4_8 + (1 : Int))))
              else
                if x4_7 = true then
                  none
                else
                  if x4_6 = x4_8 then
                    some (.inr (.inl ()))
                  else
                    none
            else none
          else
            if x4_7 = true then
              none
            else
              if x4_6 = x4_8 then
                some (.inr (.inl ()))
              else
                none
        else none
      else none
    else
      some (.inr (.inr ()))
def m_viewportlaw11GramClosed_4 (n : Nat) (x4_0 : Int) (x4_1 : Int) (x4_2 : Int) (x4_3 : List (Bool)) (x4_4 : Nat) (x4_5 : List (Bool)) (x4_6 : Int) (x4_7 : Bool) (st : Int) : Option ((Unit) ⊕ (Unit)) := iterM (B_viewportlaw11GramClosed_4 n x4_0 x4_1 x4_2 x4_3 x4_4 x4_5 x4_6 x4_7) n st
set_option maxRecDepth 100000 in
theorem q_viewportlaw11GramClosed_4_0 (n : Nat) (x4_0 : Int) (x4_1 : Int) (x4_2 : Int) (x4_3 : List (Bool)) (x4_4 : Nat) (x4_5 : List (Bool)) (x4_6 : Int) (x4_7 : Bool) (x4_8 : Int) (hy4_1 : x4_8 < x4_1) (hy4_2 : 0 ≤ x4_8 ∧ x4_8 < ((x4_4 : Nat) : Int)) (hy4_3 : (x4_8).toNat < (x4_3).length) (hy4_4 : ((x4_3).getD (x4_8).toNat (false)) = true) (hy4_5 : (x4_8).toNat < (x4_5).length) (hy4_6 : ((x4_5).getD (x4_8).toNat (false)) = true) : CG P none (fnN P 4) 0 (codeOf P 4 [false, false, true, false, true, true, true, true, true, true, true]) (S_viewportlaw11GramClosed_4 x4_0 x4_1 x4_2 x4_3 x4_4 x4_5 x4_6 x4_7 x4_8) (.normal, S_viewportlaw11GramClosed_4 x4_0 x4_1 x4_2 x4_3 x4_4 x4_5 x4_6 x4_7 (w64 (x4_8 + (1 : Int)))) :=
  runC_ok hm (A := aT [(5, .val (.bool true)), (12, .pur (Value.pointer (some ⟨1, ((x4_8).toNat * 1), none⟩))), (13, .ld (Value.bool ((x4_3).getD (x4_8).toNat (false)))), (14, .val (.bool true)), (17, .pur (Value.pointer (some ⟨2, ((x4_8).toNat * 1), none⟩))), (18, .ld (Value.bool ((x4_5).getD (x4_8).toNat (false)))), (23, .val (.bool false))]) (L := lT []) (wk := ⟨[1, 4, 5, 13, 14, 15], [(0, 0, false), (1, 1, true), (2, 2, true)], 3, 0⟩)
    (ps := [(Value.bool (decide (x4_8 < x4_1))) = (Value.bool true),
    opIndexAddr P 35 (Value.slice (some ⟨1, 0, none⟩) x4_4 x4_4) (Value.int .i64 x4_8) Ax.h0 = some ((Value.pointer (some ⟨1, ((x4_8).toNat * 1), none⟩)), Ax.h0),
    (layT (rows rw_b x4_3)).get ((x4_8).toNat * 1) = some (Value.bool ((x4_3).getD (x4_8).toNat (false))),
    (Value.bool ((x4_3).getD (x4_8).toNat (false))) = (Value.bool true),
    opIndexAddr P 35 (Value.slice (some ⟨2, 0, none⟩) x4_4 x4_4) (Value.int .i64 x4_8) Ax.h0 = some ((Value.pointer (some ⟨2, ((x4_8).toNat * 1), none⟩)), Ax.h0),
    (layT (rows rw_b x4_5)).get ((x4_8).toNat * 1) = some (Value.bool ((x4_5).getD (x4_8).toNat (false))),
    (Value.bool (!((x4_5).getD (x4_8).toNat (false)))) = (Value.bool false),
    FlatB (.cells (layT (rows rw_b x4_3)) 4),
    FlatB (.cells (layT (rows rw_b x4_5)) 4)]) (by kernel_rfl) ⟨(vbT hy4_1), (ixS (e := 4) (by kernel_rfl) (by kernel_rfl) (hy4_2).1 (hy4_2).2), (rows_ld rwf_b (false) (i := (x4_8).toNat) (j := 0) ((x4_8).toNat * 1) rfl (hy4_3) (by decide) rfl), (vB hy4_4), (ixS (e := 4) (by kernel_rfl) (by kernel_rfl) (hy4_2).1 (hy4_2).2), (rows_ld rwf_b (false) (i := (x4_8).toNat) (j := 0) ((x4_8).toNat * 1) rfl (hy4_5) (by decide) rfl), (vBn hy4_6), (rows_flat rwf_b _ _), (rows_flat rwf_b _ _), trivial⟩
set_option maxRecDepth 100000 in
theorem q_viewportlaw11GramClosed_4_1 (n : Nat) (x4_0 : Int) (x4_1 : Int) (x4_2 : Int) (x4_3 : List (Bool)) (x4_4 : Nat) (x4_5 : List (Bool)) (x4_6 : Int) (x4_7 : Bool) (x4_8 : Int) (hy4_1 : x4_8 < x4_1) (hy4_2 : 0 ≤ x4_8 ∧ x4_8 < ((x4_4 : Nat) : Int)) (hy4_3 : (x4_8).toNat < (x4_3).length) (hy4_4 : ((x4_3).getD (x4_8).toNat (false)) = true) (hy4_5 : (x4_8).toNat < (x4_5).length) (hy4_6 : ¬ (((x4_5).getD (x4_8).toNat (false)) = true)) (hy4_7 : ¬ (x4_7 = true)) (hy4_8 : x4_6 = x4_8) : CG P none (fnN P 4) 0 (codeOf P 4 [false, false, true, false, true, true, true, true, true, true, true]) (S_viewportlaw11GramClosed_4 x4_0 x4_1 x4_2 x4_3 x4_4 x4_5 x4_6 x4_7 x4_8) (X_viewportlaw11GramClosed_4 x4_0 x4_1 x4_2 x4_3 x4_4 x4_5 x4_6 x4_7 (.inl ())) :=
  runC_ok hm (A := aT [(5, .val (.bool true)), (12, .pur (Value.pointer (some ⟨1, ((x4_8).toNat * 1), none⟩))), (13, .ld (Value.bool ((x4_3).getD (x4_8).toNat (false)))), (14, .val (.bool true)), (17, .pur (Value.pointer (some ⟨2, ((x4_8).toNat * 1), none⟩))), (18, .ld (Value.bool ((x4_5).getD (x4_8).toNat (false)))), (23, .val (.bool true)), (27, .val (.bool true)), (31, .val (.bool true))]) (L := lT []) (wk := ⟨[2], [], 0, 0⟩)
    (ps := [(Value.bool (decide (x4_8 < x4_1))) = (Value.bool true),
    opIndexAddr P 35 (Value.slice (some ⟨1, 0, none⟩) x4_4 x4_4) (Value.int .i64 x4_8) Ax.h0 = some ((Value.pointer (some ⟨1, ((x4_8).toNat * 1), none⟩)), Ax.h0),
    (layT (rows rw_b x4_3)).get ((x4_8).toNat * 1) = some (Value.bool ((x4_3).getD (x4_8).toNat (false))),
    (Value.bool ((x4_3).getD (x4_8).toNat (false))) = (Value.bool true),
    opIndexAddr P 35 (Value.slice (some ⟨2, 0, none⟩) x4_4 x4_4) (Value.int .i64 x4_8) Ax.h0 = some ((Value.pointer (some ⟨2, ((x4_8).toNat * 1), none⟩)), Ax.h0),
    (layT (rows rw_b x4_5)).get ((x4_8).toNat * 1) = some (Value.bool ((x4_5).getD (x4_8).toNat (false))),
    (Value.bool (!((x4_5).getD (x4_8).toNat (false)))) = (Value.bool true),
    (Value.bool (!x4_7)) = (Value.bool true),
    (Value.bool (x4_6 == x4_8)) = (Value.bool true)]) (by kernel_rfl) ⟨(vbT hy4_1), (ixS (e := 4) (by kernel_rfl) (by kernel_rfl) (hy4_2).1 (hy4_2).2), (rows_ld rwf_b (false) (i := (x4_8).toNat) (j := 0) ((x4_8).toNat * 1) rfl (hy4_3) (by decide) rfl), (vB hy4_4), (ixS (e := 4) (by kernel_rfl) (by kernel_rfl) (hy4_2).1 (hy4_2).2), (rows_ld rwf_b (false) (i := (x4_8).toNat) (j := 0) ((x4_8).toNat * 1) rfl (hy4_5) (by decide) rfl), (vBn (Bool.eq_false_iff.2 hy4_6)), (vBn (Bool.eq_false_iff.2 hy4_7)), (veT hy4_8), trivial⟩
set_option maxRecDepth 100000 in
theorem q_viewportlaw11GramClosed_4_2 (n : Nat) (x4_0 : Int) (x4_1 : Int) (x4_2 : Int) (x4_3 : List (Bool)) (x4_4 : Nat) (x4_5 : List (Bool)) (x4_6 : Int) (x4_7 : Bool) (x4_8 : Int) (hy4_1 : x4_8 < x4_1) (hy4_2 : 0 ≤ x4_8 ∧ x4_8 < ((x4_4 : Nat) : Int)) (hy4_3 : (x4_8).toNat < (x4_3).length) (hy4_4 : ¬ (((x4_3).getD (x4_8).toNat (false)) = true)) (hy4_5 : ¬ (x4_7 = true)) (hy4_6 : x4_6 = x4_8) : CG P none (fnN P 4) 0 (codeOf P 4 [false, false, true, false, true, true, true, true, true, true, true]) (S_viewportlaw11GramClosed_4 x4_0 x4_1 x4_2 x4_3 x4_4 x4_5 x4_6 x4_7 x4_8) (X_viewportlaw11GramClosed_4 x4_0 x4_1 x4_2 x4_3 x4_4 x4_5 x4_6 x4_7 (.inl ())) :=
  runC_ok hm (A := aT [(5, .val (.bool true)), (12, .pur (Value.pointer (some ⟨1, ((x4_8).toNat * 1), none⟩))), (13, .ld (Value.bool ((x4_3).getD (x4_8).toNat (false)))), (14, .val (.bool false)), (27, .val (.bool true)), (31, .val (.bool true))]) (L := lT []) (wk := ⟨[2], [], 0, 0⟩)
    (ps := [(Value.bool (decide (x4_8 < x4_1))) = (Value.bool true),
    opIndexAddr P 35 (Value.slice (some ⟨1, 0, none⟩) x4_4 x4_4) (Value.int .i64 x4_8) Ax.h0 = some ((Value.pointer (some ⟨1, ((x4_8).toNat * 1), none⟩)), Ax.h0),
    (layT (rows rw_b x4_3)).get ((x4_8).toNat * 1) = some (Value.bool ((x4_3).getD (x4_8).toNat (false))),
    (Value.bool ((x4_3).getD (x4_8).toNat (false))) = (Value.bool false),
    (Value.bool (!x4_7)) = (Value.bool true),
    (Value.bool (x4_6 == x4_8)) = (Value.bool true)]) (by kernel_rfl) ⟨(vbT hy4_1), (ixS (e := 4) (by kernel_rfl) (by kernel_rfl) (hy4_2).1 (hy4_2).2), (rows_ld rwf_b (false) (i := (x4_8).toNat) (j := 0) ((x4_8).toNat * 1) rfl (hy4_3) (by decide) rfl), (vB (Bool.eq_false_iff.2 hy4_4)), (vBn (Bool.eq_false_iff.2 hy4_5)), (veT hy4_6), trivial⟩
set_option maxRecDepth 100000 in
theorem q_viewportlaw11GramClosed_4_3 (n : Nat) (x4_0 : Int) (x4_1 : Int) (x4_2 : Int) (x4_3 : List (Bool)) (x4_4 : Nat) (x4_5 : List (Bool)) (x4_6 : Int) (x4_7 : Bool) (x4_8 : Int) (hy4_1 : ¬ (x4_8 < x4_1)) : CG P none (fnN P 4) 0 (codeOf P 4 [false, false, true, false, true, true, true, true, true, true, true]) (S_viewportlaw11GramClosed_4 x4_0 x4_1 x4_2 x4_3 x4_4 x4_5 x4_6 x4_7 x4_8) (X_viewportlaw11GramClosed_4 x4_0 x4_1 x4_2 x4_3 x4_4 x4_5 x4_6 x4_7 (.inr ())) :=
  runC_ok hm (A := aT [(5, .val (.bool false))]) (L := lT []) (wk := ⟨[13, 14], [], 0, 0⟩)
    (ps := [(Value.bool (decide (x4_8 < x4_1))) = (Value.bool false)]) (by kernel_rfl) ⟨(vbF hy4_1), trivial⟩
theorem m_viewportlaw11GramClosed_4_ok (n : Nat) (x4_0 : Int) (x4_1 : Int) (x4_2 : Int) (x4_3 : List (Bool)) (x4_4 : Nat) (x4_5 : List (Bool)) (x4_6 : Int) (x4_7 : Bool) (st : Int) (r : (Unit) ⊕ (Unit)) (h : m_viewportlaw11GramClosed_4 n x4_0 x4_1 x4_2 x4_3 x4_4 x4_5 x4_6 x4_7 st = some r) : CG P none (fnN P 4) 0 (codeOf P 4 [false, true, false, true, true, true, true, true, true, true]) (S_viewportlaw11GramClosed_4 x4_0 x4_1 x4_2 x4_3 x4_4 x4_5 x4_6 x4_7 st) (X_viewportlaw11GramClosed_4 x4_0 x4_1 x4_2 x4_3 x4_4 x4_5 x4_6 x4_7 r) :=
  CG.iter (b := codeOf P 4 [false, false, true, false, true, true, true, true, true, true, true]) (by kernel_rfl) (body := B_viewportlaw11GramClosed_4 n x4_0 x4_1 x4_2 x4_3 x4_4 x4_5 x4_6 x4_7) (S := S_viewportlaw11GramClosed_4 x4_0 x4_1 x4_2 x4_3 x4_4 x4_5 x4_6 x4_7) (X := X_viewportlaw11GramClosed_4 x4_0 x4_1 x4_2 x4_3 x4_4 x4_5 x4_6 x4_7)
    (fun x4_8 s' h => by
    unfold B_viewportlaw11GramClosed_4 at h
    dsimp only at h
    by_cases hy4_1 : x4_8 < x4_1
    · rw [if_pos hy4_1] at h
      by_cases hy4_2 : 0 ≤ x4_8 ∧ x4_8 < ((x4_4 : Nat) : Int)
      · rw [if_pos hy4_2] at h
        by_cases hy4_3 : (x4_8).toNat < (x4_3).length
        · rw [if_pos hy4_3] at h
          by_cases hy4_4 : ((x4_3).getD (x4_8).toNat (false)) = true
          · rw [if_pos hy4_4] at h
            by_cases hy4_5 : (x4_8).toNat < (x4_5).length
            · rw [if_pos hy4_5] at h
              by_cases hy4_6 : ((x4_5).getD (x4_8).toNat (false)) = true
              · rw [if_pos hy4_6] at h
                obtain rfl := Sum.inl.inj (Option.some.inj h); exact q_viewportlaw11GramClosed_4_0 n x4_0 x4_1 x4_2 x4_3 x4_4 x4_5 x4_6 x4_7 x4_8 hy4_1 hy4_2 hy4_3 hy4_4 hy4_5 hy4_6
              · rw [if_neg hy4_6] at h
                by_cases hy4_7 : x4_7 = true
                · rw [if_pos hy4_7] at h
                  cases h
                · rw [if_neg hy4_7] at h
                  by_cases hy4_8 : x4_6 = x4_8
                  · rw [if_pos hy4_8] at h
                    cases h
                  · rw [if_neg hy4_8] at h
                    cases h
            · rw [if_neg hy4_5] at h; cases h
          · rw [if_neg hy4_4] at h
            by_cases hy4_5 : x4_7 = true
            · rw [if_pos hy4_5] at h
              cases h
            · rw [if_neg hy4_5] at h
              by_cases hy4_6 : x4_6 = x4_8
              · rw [if_pos hy4_6] at h
                cases h
              · rw [if_neg hy4_6] at h
                cases h
        · rw [if_neg hy4_3] at h; cases h
      · rw [if_neg hy4_2] at h; cases h
    · rw [if_neg hy4_1] at h
      cases h)
    (fun x4_8 r h => by
    unfold B_viewportlaw11GramClosed_4 at h
    dsimp only at h
    by_cases hy4_1 : x4_8 < x4_1
    · rw [if_pos hy4_1] at h
      by_cases hy4_2 : 0 ≤ x4_8 ∧ x4_8 < ((x4_4 : Nat) : Int)
      · rw [if_pos hy4_2] at h
        by_cases hy4_3 : (x4_8).toNat < (x4_3).length
        · rw [if_pos hy4_3] at h
          by_cases hy4_4 : ((x4_3).getD (x4_8).toNat (false)) = true
          · rw [if_pos hy4_4] at h
            by_cases hy4_5 : (x4_8).toNat < (x4_5).length
            · rw [if_pos hy4_5] at h
              by_cases hy4_6 : ((x4_5).getD (x4_8).toNat (false)) = true
              · rw [if_pos hy4_6] at h
                cases h
              · rw [if_neg hy4_6] at h
                by_cases hy4_7 : x4_7 = true
                · rw [if_pos hy4_7] at h
                  cases h
                · rw [if_neg hy4_7] at h
                  by_cases hy4_8 : x4_6 = x4_8
                  · rw [if_pos hy4_8] at h
                    obtain rfl := Sum.inr.inj (Option.some.inj h); exact q_viewportlaw11GramClosed_4_1 n x4_0 x4_1 x4_2 x4_3 x4_4 x4_5 x4_6 x4_7 x4_8 hy4_1 hy4_2 hy4_3 hy4_4 hy4_5 hy4_6 hy4_7 hy4_8
                  · rw [if_neg hy4_8] at h
                    cases h
            · rw [if_neg hy4_5] at h; cases h
          · rw [if_neg hy4_4] at h
            by_cases hy4_5 : x4_7 = true
            · rw [if_pos hy4_5] at h
              cases h
            · rw [if_neg hy4_5] at h
              by_cases hy4_6 : x4_6 = x4_8
              · rw [if_pos hy4_6] at h
                obtain rfl := Sum.inr.inj (Option.some.inj h); exact q_viewportlaw11GramClosed_4_2 n x4_0 x4_1 x4_2 x4_3 x4_4 x4_5 x4_6 x4_7 x4_8 hy4_1 hy4_2 hy4_3 hy4_4 hy4_5 hy4_6
              · rw [if_neg hy4_6] at h
                cases h
        · rw [if_neg hy4_3] at h; cases h
      · rw [if_neg hy4_2] at h; cases h
    · rw [if_neg hy4_1] at h
      obtain rfl := Sum.inr.inj (Option.some.inj h); exact q_viewportlaw11GramClosed_4_3 n x4_0 x4_1 x4_2 x4_3 x4_4 x4_5 x4_6 x4_7 x4_8 hy4_1)
    (fun r => by intro hx; rcases r with _ | _ <;> cases hx) h
noncomputable def S_viewportlaw11GramClosed_1 (x1_0 : Int) (x1_1 : Int) (x1_2 : Int) (x1_3 : List (Bool)) (x1_4 : Nat) (x1_5 : List (Bool)) (x1_6 : List (Bool)) (st : Int) : XSt := match st with
  | x1_7 => (sT 190 [(1, (Value.pointer (some ⟨0, 0, none⟩))), (3, (Value.slice (some ⟨1, 0, none⟩) x1_4 x1_4)), (4, (Value.slice (some ⟨2, 0, none⟩) x1_4 x1_4)), (5, (Value.slice (some ⟨3, 0, none⟩) x1_4 x1_4)), (6, (Value.int .i64 x1_7))], [], ⟨sB [(0, (some (.cells (layT [(Value.int .i64 x1_0), (Value.int .i64 x1_1), (Value.int .i64 x1_2), (Value.slice (some ⟨0, 0, some 1⟩) (Args.G).length Args.cG)]) 24))), (1, (some (.cells (layT (rows rw_b x1_3)) 4))), (2, (some (.cells (layT (rows rw_b x1_5)) 4))), (3, (some (.cells (layT (rows rw_b x1_6)) 4)))], 4, 0⟩)
noncomputable def X_viewportlaw11GramClosed_1 (x1_0 : Int) (x1_1 : Int) (x1_2 : Int) (x1_3 : List (Bool)) (x1_4 : Nat) (x1_5 : List (Bool)) (x1_6 : List (Bool)) (r : Unit) : Ex × XSt := match r with
  | _ => (.exit 0, (sT 190 [(1, (Value.pointer (some ⟨0, 0, none⟩))), (4, (Value.slice (some ⟨1, 0, none⟩) x1_4 x1_4)), (5, (Value.slice (some ⟨2, 0, none⟩) x1_4 x1_4))], [], ⟨sB [(0, (some (.cells (layT [(Value.int .i64 x1_0), (Value.int .i64 x1_1), (Value.int .i64 x1_2), (Value.slice (some ⟨0, 0, some 1⟩) (Args.G).length Args.cG)]) 24))), (1, (some (.cells (layT (rows rw_b x1_5)) 4))), (2, (some (.cells (layT (rows rw_b x1_6)) 4)))], 3, 0⟩))
def B_viewportlaw11GramClosed_1 (n : Nat) (x1_0 : Int) (x1_1 : Int) (x1_2 : Int) (x1_3 : List (Bool)) (x1_4 : Nat) (x1_5 : List (Bool)) (x1_6 : List (Bool)) (st : Int) : Option ((Int) ⊕ (Unit)) := match st with
  | x1_7 =>
    if x1_7 < x1_1 then
      (m_gramOf n x1_0 x1_1 x1_2 x1_7).bind fun y1_2_ =>
      match y1_2_ with
      | [] =>
        (m_viewportlaw11GramClosed_2 n x1_0 x1_1 x1_2 x1_3 x1_4 x1_5 x1_6 x1_7 (false, false, ([] : List Int), 0)).bind fun t => match t with
        | (y1_3_0, y1_3_1) =>
          if 0 ≤ x1_7 ∧ x1_7 < ((x1_4 : Nat) : Int) then
            if (x1_7).toNat < (x1_3).length then
              if y1_3_0 = true then
                if ((x1_3).getD (x1_7).toNat (false)) = true then
                  if (x1_7).toNat < (x1_5).length then
                    if y1_3_1 = true then
                      if ((x1_5).getD (x1_7).toNat (false)) = true then
                        some (.inl (w64 (x1_7 + (1 : Int))))
                      else
                        none
                    else
                      if ((x1_5).getD (x1_7).toNat (false)) = true then
                        none
                      else
                        none
                  else none
                else
                  none
              else
                if ((x1_3).getD (x1_7).toNat (false)) = true then
                  none
                else
                  if (x1_7).toNat < (x1_5).length then
                    if y1_3_1 = true then
                      if ((x1_5).getD (x1_7).toNat (false)) = true then
                        some (.inl (w64 (x1_7 + (1 : Int))))
                      else
                        none
                    else
                      if ((x1_5).getD (x1_7).toNat (false)) = true then
                        none
                      else
                        some (.inl (w64 (x1_7 + (1 : Int))))
                  else none
            else none
          else none
      | y1_2_a :: y1_2_t =>
        (m_viewportlaw11GramClosed_2 n x1_0 x1_1 x1_2 x1_3 x1_4 x1_5 x1_6 x1_7 (false, false, (y1_2_a :: y1_2_t), 0)).bind fun t => match t with
        | (y1_3_0, y1_3_1) =>
          if 0 ≤ x1_7 ∧ x1_7 < ((x1_4 : Nat) : Int) then
            if (x1_7).toNat < (x1_3).length then
              if y1_3_0 = true then
                if ((x1_3).getD (x1_7).toNat (false)) = true then
                  if (x1_7).toNat < (x1_5).length then
                    if y1_3_1 = true then
                      if ((x1_5).getD (x1_7).toNat (false)) = true then
                        some (.inl (w64 (x1_7 + (1 : Int))))
                      else
                        none
                    else
                      if ((x1_5).getD (x1_7).toNat (false)) = true then
                        none
                      else
                        none
                  else none
                else
                  none
              else
                if ((x1_3).getD (x1_7).toNat (false)) = true then
                  none
                else
                  if (x1_7).toNat < (x1_5).length then
                    if y1_3_1 = true then
                      if ((x1_5).getD (x1_7).toNat (false)) = true then
                        some (.inl (w64 (x1_7 + (1 : Int))))
                      else
                        none
                    else
                      if ((x1_5).getD (x1_7).toNat (false)) = true then
                        none
                      else
                        some (.inl (w64 (x1_7 + (1 : Int))))
                  else none
            else none
          else none
    else
      some (.inr ())
def m_viewportlaw11GramClosed_1 (n : Nat) (x1_0 : Int) (x1_1 : Int) (x1_2 : Int) (x1_3 : List (Bool)) (x1_4 : Nat) (x1_5 : List (Bool)) (x1_6 : List (Bool)) (st : Int) : Option (Unit) := iterM (B_viewportlaw11GramClosed_1 n x1_0 x1_1 x1_2 x1_3 x1_4 x1_5 x1_6) n st
set_option maxRecDepth 100000 in
theorem q_viewportlaw11GramClosed_1_0 (n : Nat) (x1_0 : Int) (x1_1 : Int) (x1_2 : Int) (x1_3 : List (Bool)) (x1_4 : Nat) (x1_5 : List (Bool)) (x1_6 : List (Bool)) (x1_7 : Int) (hy1_1 : x1_7 < x1_1) (hy1_2 : m_gramOf n x1_0 x1_1 x1_2 x1_7 = some []) (y1_3_0 : Bool) (y1_3_1 : Bool) (hy1_3 : m_viewportlaw11GramClosed_2 n x1_0 x1_1 x1_2 x1_3 x1_4 x1_5 x1_6 x1_7 (false, false, ([] : List Int), 0) = some (y1_3_0, y1_3_1)) (hy1_4 : 0 ≤ x1_7 ∧ x1_7 < ((x1_4 : Nat) : Int)) (hy1_5 : (x1_7).toNat < (x1_3).length) (hy1_6 : y1_3_0 = true) (hy1_7 : ((x1_3).getD (x1_7).toNat (false)) = true) (hy1_8 : (x1_7).toNat < (x1_5).length) (hy1_9 : y1_3_1 = true) (hy1_10 : ((x1_5).getD (x1_7).toNat (false)) = true) : CG P none (fnN P 4) 0 (codeOf P 4 [false, false, true, false, true, true, true, true, true]) (S_viewportlaw11GramClosed_1 x1_0 x1_1 x1_2 x1_3 x1_4 x1_5 x1_6 x1_7) (.normal, S_viewportlaw11GramClosed_1 x1_0 x1_1 x1_2 x1_3 x1_4 x1_5 x1_6 (w64 (x1_7 + (1 : Int)))) :=
  runC_ok hm (A := aT [(5, .val (.bool true)), (15, .call ⟨0, [], (V_gramOf x1_0 x1_1 x1_2 x1_7 ([] : List Int)), (R_gramOf x1_0 x1_1 x1_2 x1_7 ([] : List Int)), []⟩), (26, .pur (Value.pointer (some ⟨1, ((x1_7).toNat * 1), none⟩))), (27, .ld (Value.bool ((x1_3).getD (x1_7).toNat (false)))), (28, .val (.bool false)), (33, .pur (Value.pointer (some ⟨2, ((x1_7).toNat * 1), none⟩))), (34, .ld (Value.bool ((x1_5).getD (x1_7).toNat (false)))), (35, .val (.bool false)), (40, .pur (Value.pointer (some ⟨1, ((x1_7).toNat * 1), none⟩))), (41, .ld (Value.bool ((x1_3).getD (x1_7).toNat (false)))), (42, .val (.bool true)), (45, .pur (Value.pointer (some ⟨2, ((x1_7).toNat * 1), none⟩))), (46, .ld (Value.bool ((x1_5).getD (x1_7).toNat (false)))), (47, .val (.bool false))]) (L := lT [(21, ⟨⟨[1, 3, 4, 5, 6, 7, 8, 9, 10], [(0, 0, false), (1, 1, true), (2, 2, true), (3, 3, true)], 5, 0⟩, (X_viewportlaw11GramClosed_2 x1_0 x1_1 x1_2 x1_3 x1_4 x1_5 x1_6 x1_7 (y1_3_0, y1_3_1)).1, (X_viewportlaw11GramClosed_2 x1_0 x1_1 x1_2 x1_3 x1_4 x1_5 x1_6 x1_7 (y1_3_0, y1_3_1)).2⟩)]) (wk := ⟨[1, 3, 4, 5, 6], [(0, 0, false), (1, 1, true), (2, 2, true), (3, 3, true)], 4, 0⟩)
    (ps := [(Value.bool (decide (x1_7 < x1_1))) = (Value.bool true),
    Gv P (.func 17) (A_gramOf x1_0 x1_1 x1_2 x1_7) (H_gramOf x1_0 x1_1 x1_2 x1_7) (V_gramOf x1_0 x1_1 x1_2 x1_7 ([] : List Int)) (R_gramOf x1_0 x1_1 x1_2 x1_7 ([] : List Int)),
    CG P none (fnN P 4) 0 (codeOf P 4 [false, true, false, true, true, false, false, true, false, false, true, false, true, true, true, true, true]) (S_viewportlaw11GramClosed_2 x1_0 x1_1 x1_2 x1_3 x1_4 x1_5 x1_6 x1_7 (false, false, ([] : List Int), 0)) (X_viewportlaw11GramClosed_2 x1_0 x1_1 x1_2 x1_3 x1_4 x1_5 x1_6 x1_7 (y1_3_0, y1_3_1)),
    FlatB (.cells (layT (rows rw_b x1_3)) 4),
    FlatB (.cells (layT (rows rw_b x1_5)) 4),
    FlatB (.cells (layT (rows rw_b x1_6)) 4),
    opIndexAddr P 35 (Value.slice (some ⟨1, 0, none⟩) x1_4 x1_4) (Value.int .i64 x1_7) Ax.h0 = some ((Value.pointer (some ⟨1, ((x1_7).toNat * 1), none⟩)), Ax.h0),
    (layT (rows rw_b x1_3)).get ((x1_7).toNat * 1) = some (Value.bool ((x1_3).getD (x1_7).toNat (false))),
    (Value.bool (!(y1_3_0 == ((x1_3).getD (x1_7).toNat (false))))) = (Value.bool false),
    opIndexAddr P 35 (Value.slice (some ⟨2, 0, none⟩) x1_4 x1_4) (Value.int .i64 x1_7) Ax.h0 = some ((Value.pointer (some ⟨2, ((x1_7).toNat * 1), none⟩)), Ax.h0),
    (layT (rows rw_b x1_5)).get ((x1_7).toNat * 1) = some (Value.bool ((x1_5).getD (x1_7).toNat (false))),
    (Value.bool (!(y1_3_1 == ((x1_5).getD (x1_7).toNat (false))))) = (Value.bool false),
    opIndexAddr P 35 (Value.slice (some ⟨1, 0, none⟩) x1_4 x1_4) (Value.int .i64 x1_7) Ax.h0 = some ((Value.pointer (some ⟨1, ((x1_7).toNat * 1), none⟩)), Ax.h0),
    (layT (rows rw_b x1_3)).get ((x1_7).toNat * 1) = some (Value.bool ((x1_3).getD (x1_7).toNat (false))),
    (Value.bool ((x1_3).getD (x1_7).toNat (false))) = (Value.bool true),
    opIndexAddr P 35 (Value.slice (some ⟨2, 0, none⟩) x1_4 x1_4) (Value.int .i64 x1_7) Ax.h0 = some ((Value.pointer (some ⟨2, ((x1_7).toNat * 1), none⟩)), Ax.h0),
    (layT (rows rw_b x1_5)).get ((x1_7).toNat * 1) = some (Value.bool ((x1_5).getD (x1_7).toNat (false))),
    (Value.bool (!((x1_5).getD (x1_7).toNat (false)))) = (Value.bool false),
    FlatB (.cells (layT (rows rw_b x1_3)) 4),
    FlatB (.cells (layT (rows rw_b x1_5)) 4),
    FlatB (.cells (layT (rows rw_b x1_6)) 4)]) (by kernel_rfl) ⟨(vbT hy1_1), (m_gramOf_ok n x1_0 x1_1 x1_2 x1_7 ([] : List Int) hy1_2), (m_viewportlaw11GramClosed_2_ok n x1_0 x1_1 x1_2 x1_3 x1_4 x1_5 x1_6 x1_7 (false, false, ([] : List Int), 0) (y1_3_0, y1_3_1) hy1_3), (rows_flat rwf_b _ _), (rows_flat rwf_b _ _), (rows_flat rwf_b _ _), (ixS (e := 4) (by kernel_rfl) (by kernel_rfl) (hy1_4).1 (hy1_4).2), (rows_ld rwf_b (false) (i := (x1_7).toNat) (j := 0) ((x1_7).toNat * 1) rfl (hy1_5) (by decide) rfl), (vNeB hy1_6 hy1_7), (ixS (e := 4) (by kernel_rfl) (by kernel_rfl) (hy1_4).1 (hy1_4).2), (rows_ld rwf_b (false) (i := (x1_7).toNat) (j := 0) ((x1_7).toNat * 1) rfl (hy1_8) (by decide) rfl), (vNeB hy1_9 hy1_10), (ixS (e := 4) (by kernel_rfl) (by kernel_rfl) (hy1_4).1 (hy1_4).2), (rows_ld rwf_b (false) (i := (x1_7).toNat) (j := 0) ((x1_7).toNat * 1) rfl (hy1_5) (by decide) rfl), (vB hy1_7), (ixS (e := 4) (by kernel_rfl) (by kernel_rfl) (hy1_4).1 (hy1_4).2), (rows_ld rwf_b (false) (i := (x1_7).toNat) (j := 0) ((x1_7).toNat * 1) rfl (hy1_8) (by decide) rfl), (vBn hy1_10), (rows_flat rwf_b _ _), (rows_flat rwf_b _ _), (rows_flat rwf_b _ _), trivial⟩
set_option maxRecDepth 100000 in
theorem q_viewportlaw11GramClosed_1_1 (n : Nat) (x1_0 : Int) (x1_1 : Int) (x1_2 : Int) (x1_3 : List (Bool)) (x1_4 : Nat) (x1_5 : List (Bool)) (x1_6 : List (Bool)) (x1_7 : Int) (hy1_1 : x1_7 < x1_1) (hy1_2 : m_gramOf n x1_0 x1_1 x1_2 x1_7 = some []) (y1_3_0 : Bool) (y1_3_1 : Bool) (hy1_3 : m_viewportlaw11GramClosed_2 n x1_0 x1_1 x1_2 x1_3 x1_4 x1_5 x1_6 x1_7 (false, false, ([] : List Int), 0) = some (y1_3_0, y1_3_1)) (hy1_4 : 0 ≤ x1_7 ∧ x1_7 < ((x1_4 : Nat) : Int)) (hy1_5 : (x1_7).toNat < (x1_3).length) (hy1_6 : ¬ (y1_3_0 = true)) (hy1_7 : ¬ (((x1_3).getD (x1_7).toNat (false)) = true)) (hy1_8 : (x1_7).toNat < (x1_5).length) (hy1_9 : y1_3_1 = true) (hy1_10 : ((x1_5).getD (x1_7).toNat (false)) = true) : CG P none (fnN P 4) 0 (codeOf P 4 [false, false, true, false, true, true, true, true, true]) (S_viewportlaw11GramClosed_1 x1_0 x1_1 x1_2 x1_3 x1_4 x1_5 x1_6 x1_7) (.normal, S_viewportlaw11GramClosed_1 x1_0 x1_1 x1_2 x1_3 x1_4 x1_5 x1_6 (w64 (x1_7 + (1 : Int)))) :=
  runC_ok hm (A := aT [(5, .val (.bool true)), (15, .call ⟨0, [], (V_gramOf x1_0 x1_1 x1_2 x1_7 ([] : List Int)), (R_gramOf x1_0 x1_1 x1_2 x1_7 ([] : List Int)), []⟩), (26, .pur (Value.pointer (some ⟨1, ((x1_7).toNat * 1), none⟩))), (27, .ld (Value.bool ((x1_3).getD (x1_7).toNat (false)))), (28, .val (.bool false)), (33, .pur (Value.pointer (some ⟨2, ((x1_7).toNat * 1), none⟩))), (34, .ld (Value.bool ((x1_5).getD (x1_7).toNat (false)))), (35, .val (.bool false)), (40, .pur (Value.pointer (some ⟨1, ((x1_7).toNat * 1), none⟩))), (41, .ld (Value.bool ((x1_3).getD (x1_7).toNat (false)))), (42, .val (.bool false))]) (L := lT [(21, ⟨⟨[1, 3, 4, 5, 6, 7, 8, 9, 10], [(0, 0, false), (1, 1, true), (2, 2, true), (3, 3, true)], 5, 0⟩, (X_viewportlaw11GramClosed_2 x1_0 x1_1 x1_2 x1_3 x1_4 x1_5 x1_6 x1_7 (y1_3_0, y1_3_1)).1, (X_viewportlaw11GramClosed_2 x1_0 x1_1 x1_2 x1_3 x1_4 x1_5 x1_6 x1_7 (y1_3_0, y1_3_1)).2⟩)]) (wk := ⟨[1, 3, 4, 5, 6], [(0, 0, false), (1, 1, true), (2, 2, true), (3, 3, true)], 4, 0⟩)
    (ps := [(Value.bool (decide (x1_7 < x1_1))) = (Value.bool true),
    Gv P (.func 17) (A_gramOf x1_0 x1_1 x1_2 x1_7) (H_gramOf x1_0 x1_1 x1_2 x1_7) (V_gramOf x1_0 x1_1 x1_2 x1_7 ([] : List Int)) (R_gramOf x1_0 x1_1 x1_2 x1_7 ([] : List Int)),
    CG P none (fnN P 4) 0 (codeOf P 4 [false, true, false, true, true, false, false, true, false, false, true, false, true, true, true, true, true]) (S_viewportlaw11GramClosed_2 x1_0 x1_1 x1_2 x1_3 x1_4 x1_5 x1_6 x1_7 (false, false, ([] : List Int), 0)) (X_viewportlaw11GramClosed_2 x1_0 x1_1 x1_2 x1_3 x1_4 x1_5 x1_6 x1_7 (y1_3_0, y1_3_1)),
    FlatB (.cells (layT (rows rw_b x1_3)) 4),
    FlatB (.cells (layT (rows rw_b x1_5)) 4),
    FlatB (.cells (layT (rows rw_b x1_6)) 4),
    opIndexAddr P 35 (Value.slice (some ⟨1, 0, none⟩) x1_4 x1_4) (Value.int .i64 x1_7) Ax.h0 = some ((Value.pointer (some ⟨1, ((x1_7).toNat * 1), none⟩)), Ax.h0),
    (layT (rows rw_b x1_3)).get ((x1_7).toNat * 1) = some (Value.bool ((x1_3).getD (x1_7).toNat (false))),
    (Value.bool (!(y1_3_0 == ((x1_3).getD (x1_7).toNat (false))))) = (Value.bool false),
    opIndexAddr P 35 (Value.slice (some ⟨2, 0, none⟩) x1_4 x1_4) (Value.int .i64 x1_7) Ax.h0 = some ((Value.pointer (some ⟨2, ((x1_7).toNat * 1), none⟩)), Ax.h0),
    (layT (rows rw_b x1_5)).get ((x1_7).toNat * 1) = some (Value.bool ((x1_5).getD (x1_7).toNat (false))),
    (Value.bool (!(y1_3_1 == ((x1_5).getD (x1_7).toNat (false))))) = (Value.bool false),
    opIndexAddr P 35 (Value.slice (some ⟨1, 0, none⟩) x1_4 x1_4) (Value.int .i64 x1_7) Ax.h0 = some ((Value.pointer (some ⟨1, ((x1_7).toNat * 1), none⟩)), Ax.h0),
    (layT (rows rw_b x1_3)).get ((x1_7).toNat * 1) = some (Value.bool ((x1_3).getD (x1_7).toNat (false))),
    (Value.bool ((x1_3).getD (x1_7).toNat (false))) = (Value.bool false),
    FlatB (.cells (layT (rows rw_b x1_3)) 4),
    FlatB (.cells (layT (rows rw_b x1_5)) 4),
    FlatB (.cells (layT (rows rw_b x1_6)) 4)]) (by kernel_rfl) ⟨(vbT hy1_1), (m_gramOf_ok n x1_0 x1_1 x1_2 x1_7 ([] : List Int) hy1_2), (m_viewportlaw11GramClosed_2_ok n x1_0 x1_1 x1_2 x1_3 x1_4 x1_5 x1_6 x1_7 (false, false, ([] : List Int), 0) (y1_3_0, y1_3_1) hy1_3), (rows_flat rwf_b _ _), (rows_flat rwf_b _ _), (rows_flat rwf_b _ _), (ixS (e := 4) (by kernel_rfl) (by kernel_rfl) (hy1_4).1 (hy1_4).2), (rows_ld rwf_b (false) (i := (x1_7).toNat) (j := 0) ((x1_7).toNat * 1) rfl (hy1_5) (by decide) rfl), (vNeB (Bool.eq_false_iff.2 hy1_6) (Bool.eq_false_iff.2 hy1_7)), (ixS (e := 4) (by kernel_rfl) (by kernel_rfl) (hy1_4).1 (hy1_4).2), (rows_ld rwf_b (false) (i := (x1_7).toNat) (j := 0) ((x1_7).toNat * 1) rfl (hy1_8) (by decide) rfl), (vNeB hy1_9 hy1_10), (ixS (e := 4) (by kernel_rfl) (by kernel_rfl) (hy1_4).1 (hy1_4).2), (rows_ld rwf_b (false) (i := (x1_7).toNat) (j := 0) ((x1_7).toNat * 1) rfl (hy1_5) (by decide) rfl), (vB (Bool.eq_false_iff.2 hy1_7)), (rows_flat rwf_b _ _), (rows_flat rwf_b _ _), (rows_flat rwf_b _ _), trivial⟩
set_option maxRecDepth 100000 in
theorem q_viewportlaw11GramClosed_1_2 (n : Nat) (x1_0 : Int) (x1_1 : Int) (x1_2 : Int) (x1_3 : List (Bool)) (x1_4 : Nat) (x1_5 : List (Bool)) (x1_6 : List (Bool)) (x1_7 : Int) (hy1_1 : x1_7 < x1_1) (hy1_2 : m_gramOf n x1_0 x1_1 x1_2 x1_7 = some []) (y1_3_0 : Bool) (y1_3_1 : Bool) (hy1_3 : m_viewportlaw11GramClosed_2 n x1_0 x1_1 x1_2 x1_3 x1_4 x1_5 x1_6 x1_7 (false, false, ([] : List Int), 0) = some (y1_3_0, y1_3_1)) (hy1_4 : 0 ≤ x1_7 ∧ x1_7 < ((x1_4 : Nat) : Int)) (hy1_5 : (x1_7).toNat < (x1_3).length) (hy1_6 : ¬ (y1_3_0 = true)) (hy1_7 : ¬ (((x1_3).getD (x1_7).toNat (false)) = true)) (hy1_8 : (x1_7).toNat < (x1_5).length) (hy1_9 : ¬ (y1_3_1 = true)) (hy1_10 : ¬ (((x1_5).getD (x1_7).toNat (false)) = true)) : CG P none (fnN P 4) 0 (codeOf P 4 [false, false, true, false, true, true, true, true, true]) (S_viewportlaw11GramClosed_1 x1_0 x1_1 x1_2 x1_3 x1_4 x1_5 x1_6 x1_7) (.normal, S_viewportlaw11GramClosed_1 x1_0 x1_1 x1_2 x1_3 x1_4 x1_5 x1_6 (w64 (x1_7 + (1 : Int)))) :=
  runC_ok hm (A := aT [(5, .val (.bool true)), (15, .call ⟨0, [], (V_gramOf x1_0 x1_1 x1_2 x1_7 ([] : List Int)), (R_gramOf x1_0 x1_1 x1_2 x1_7 ([] : List Int)), []⟩), (26, .pur (Value.pointer (some ⟨1, ((x1_7).toNat * 1), none⟩))), (27, .ld (Value.bool ((x1_3).getD (x1_7).toNat (false)))), (28, .val (.bool false)), (33, .pur (Value.pointer (some ⟨2, ((x1_7).toNat * 1), none⟩))), (34, .ld (Value.bool ((x1_5).getD (x1_7).toNat (false)))), (35, .val (.bool false)), (40, .pur (Value.pointer (some ⟨1, ((x1_7).toNat * 1), none⟩))), (41, .ld (Value.bool ((x1_3).getD (x1_7).toNat (false)))), (42, .val (.bool false))]) (L := lT [(21, ⟨⟨[1, 3, 4, 5, 6, 7, 8, 9, 10], [(0, 0, false), (1, 1, true), (2, 2, true), (3, 3, true)], 5, 0⟩, (X_viewportlaw11GramClosed_2 x1_0 x1_1 x1_2 x1_3 x1_4 x1_5 x1_6 x1_7 (y1_3_0, y1_3_1)).1, (X_viewportlaw11GramClosed_2 x1_0 x1_1 x1_2 x1_3 x1_4 x1_5 x1_6 x1_7 (y1_3_0, y1_3_1)).2⟩)]) (wk := ⟨[1, 3, 4, 5, 6], [(0, 0, false), (1, 1, true), (2, 2, true), (3, 3, true)], 4, 0⟩)
    (ps := [(Value.bool (decide (x1_7 < x1_1))) = (Value.bool true),
    Gv P (.func 17) (A_gramOf x1_0 x1_1 x1_2 x1_7) (H_gramOf x1_0 x1_1 x1_2 x1_7) (V_gramOf x1_0 x1_1 x1_2 x1_7 ([] : List Int)) (R_gramOf x1_0 x1_1 x1_2 x1_7 ([] : List Int)),
    CG P none (fnN P 4) 0 (codeOf P 4 [false, true, false, true, true, false, false, true, false, false, true, false, true, true, true, true, true]) (S_viewportlaw11GramClosed_2 x1_0 x1_1 x1_2 x1_3 x1_4 x1_5 x1_6 x1_7 (false, false, ([] : List Int), 0)) (X_viewportlaw11GramClosed_2 x1_0 x1_1 x1_2 x1_3 x1_4 x1_5 x1_6 x1_7 (y1_3_0, y1_3_1)),
    FlatB (.cells (layT (rows rw_b x1_3)) 4),
    FlatB (.cells (layT (rows rw_b x1_5)) 4),
    FlatB (.cells (layT (rows rw_b x1_6)) 4),
    opIndexAddr P 35 (Value.slice (some ⟨1, 0, none⟩) x1_4 x1_4) (Value.int .i64 x1_7) Ax.h0 = some ((Value.pointer (some ⟨1, ((x1_7).toNat * 1), none⟩)), Ax.h0),
    (layT (rows rw_b x1_3)).get ((x1_7).toNat * 1) = some (Value.bool ((x1_3).getD (x1_7).toNat (false))),
    (Value.bool (!(y1_3_0 == ((x1_3).getD (x1_7).toNat (false))))) = (Value.bool false),
    opIndexAddr P 35 (Value.slice (some ⟨2, 0, none⟩) x1_4 x1_4) (Value.int .i64 x1_7) Ax.h0 = some ((Value.pointer (some ⟨2, ((x1_7).toNat * 1), none⟩)), Ax.h0),
    (layT (rows rw_b x1_5)).get ((x1_7).toNat * 1) = some (Value.bool ((x1_5).getD (x1_7).toNat (false))),
    (Value.bool (!(y1_3_1 == ((x1_5).getD (x1_7).toNat (false))))) = (Value.bool false),
    opIndexAddr P 35 (Value.slice (some ⟨1, 0, none⟩) x1_4 x1_4) (Value.int .i64 x1_7) Ax.h0 = some ((Value.pointer (some ⟨1, ((x1_7).toNat * 1), none⟩)), Ax.h0),
    (layT (rows rw_b x1_3)).get ((x1_7).toNat * 1) = some (Value.bool ((x1_3).getD (x1_7).toNat (false))),
    (Value.bool ((x1_3).getD (x1_7).toNat (false))) = (Value.bool false),
    FlatB (.cells (layT (rows rw_b x1_3)) 4),
    FlatB (.cells (layT (rows rw_b x1_5)) 4),
    FlatB (.cells (layT (rows rw_b x1_6)) 4)]) (by kernel_rfl) ⟨(vbT hy1_1), (m_gramOf_ok n x1_0 x1_1 x1_2 x1_7 ([] : List Int) hy1_2), (m_viewportlaw11GramClosed_2_ok n x1_0 x1_1 x1_2 x1_3 x1_4 x1_5 x1_6 x1_7 (false, false, ([] : List Int), 0) (y1_3_0, y1_3_1) hy1_3), (rows_flat rwf_b _ _), (rows_flat rwf_b _ _), (rows_flat rwf_b _ _), (ixS (e := 4) (by kernel_rfl) (by kernel_rfl) (hy1_4).1 (hy1_4).2), (rows_ld rwf_b (false) (i := (x1_7).toNat) (j := 0) ((x1_7).toNat * 1) rfl (hy1_5) (by decide) rfl), (vNeB (Bool.eq_false_iff.2 hy1_6) (Bool.eq_false_iff.2 hy1_7)), (ixS (e := 4) (by kernel_rfl) (by kernel_rfl) (hy1_4).1 (hy1_4).2), (rows_ld rwf_b (false) (i := (x1_7).toNat) (j := 0) ((x1_7).toNat * 1) rfl (hy1_8) (by decide) rfl), (vNeB (Bool.eq_false_iff.2 hy1_9) (Bool.eq_false_iff.2 hy1_10)), (ixS (e := 4) (by kernel_rfl) (by kernel_rfl) (hy1_4).1 (hy1_4).2), (rows_ld rwf_b (false) (i := (x1_7).toNat) (j := 0) ((x1_7).toNat * 1) rfl (hy1_5) (by decide) rfl), (vB (Bool.eq_false_iff.2 hy1_7)), (rows_flat rwf_b _ _), (rows_flat rwf_b _ _), (rows_flat rwf_b _ _), trivial⟩
set_option maxRecDepth 100000 in
theorem q_viewportlaw11GramClosed_1_3 (n : Nat) (x1_0 : Int) (x1_1 : Int) (x1_2 : Int) (x1_3 : List (Bool)) (x1_4 : Nat) (x1_5 : List (Bool)) (x1_6 : List (Bool)) (x1_7 : Int) (hy1_1 : x1_7 < x1_1) (y1_2_a : Int) (y1_2_t : List (Int)) (hy1_2 : m_gramOf n x1_0 x1_1 x1_2 x1_7 = some (y1_2_a :: y1_2_t)) (y1_3_0 : Bool) (y1_3_1 : Bool) (hy1_3 : m_viewportlaw11GramClosed_2 n x1_0 x1_1 x1_2 x1_3 x1_4 x1_5 x1_6 x1_7 (false, false, (y1_2_a :: y1_2_t), 0) = some (y1_3_0, y1_3_1)) (hy1_4 : 0 ≤ x1_7 ∧ x1_7 < ((x1_4 : Nat) : Int)) (hy1_5 : (x1_7).toNat < (x1_3).length) (hy1_6 : y1_3_0 = true) (hy1_7 : ((x1_3).getD (x1_7).toNat (false)) = true) (hy1_8 : (x1_7).toNat < (x1_5).length) (hy1_9 : y1_3_1 = true) (hy1_10 : ((x1_5).getD (x1_7).toNat (false)) = true) : CG P none (fnN P 4) 0 (codeOf P 4 [false, false, true, false, true, true, true, true, true]) (S_viewportlaw11GramClosed_1 x1_0 x1_1 x1_2 x1_3 x1_4 x1_5 x1_6 x1_7) (.normal, S_viewportlaw11GramClosed_1 x1_0 x1_1 x1_2 x1_3 x1_4 x1_5 x1_6 (w64 (x1_7 + (1 : Int)))) :=
  runC_ok hm (A := aT [(5, .val (.bool true)), (15, .call ⟨0, [], (V_gramOf x1_0 x1_1 x1_2 x1_7 (y1_2_a :: y1_2_t)), (R_gramOf x1_0 x1_1 x1_2 x1_7 (y1_2_a :: y1_2_t)), [(4, 0, true)]⟩), (26, .pur (Value.pointer (some ⟨1, ((x1_7).toNat * 1), none⟩))), (27, .ld (Value.bool ((x1_3).getD (x1_7).toNat (false)))), (28, .val (.bool false)), (33, .pur (Value.pointer (some ⟨2, ((x1_7).toNat * 1), none⟩))), (34, .ld (Value.bool ((x1_5).getD (x1_7).toNat (false)))), (35, .val (.bool false)), (40, .pur (Value.pointer (some ⟨1, ((x1_7).toNat * 1), none⟩))), (41, .ld (Value.bool ((x1_3).getD (x1_7).toNat (false)))), (42, .val (.bool true)), (45, .pur (Value.pointer (some ⟨2, ((x1_7).toNat * 1), none⟩))), (46, .ld (Value.bool ((x1_5).getD (x1_7).toNat (false)))), (47, .val (.bool false))]) (L := lT [(21, ⟨⟨[1, 3, 4, 5, 6, 7, 8, 9, 10], [(0, 0, false), (1, 1, true), (2, 2, true), (3, 3, true), (4, 4, true)], 5, 0⟩, (X_viewportlaw11GramClosed_2 x1_0 x1_1 x1_2 x1_3 x1_4 x1_5 x1_6 x1_7 (y1_3_0, y1_3_1)).1, (X_viewportlaw11GramClosed_2 x1_0 x1_1 x1_2 x1_3 x1_4 x1_5 x1_6 x1_7 (y1_3_0, y1_3_1)).2⟩)]) (wk := ⟨[1, 3, 4, 5, 6], [(0, 0, false), (1, 1, true), (2, 2, true), (3, 3, true)], 4, 0⟩)
    (ps := [(Value.bool (decide (x1_7 < x1_1))) = (Value.bool true),
    Gv P (.func 17) (A_gramOf x1_0 x1_1 x1_2 x1_7) (H_gramOf x1_0 x1_1 x1_2 x1_7) (V_gramOf x1_0 x1_1 x1_2 x1_7 (y1_2_a :: y1_2_t)) (R_gramOf x1_0 x1_1 x1_2 x1_7 (y1_2_a :: y1_2_t)),
    FlatB (.cells (layT (iv (y1_2_a :: y1_2_t))) 3),
    CG P none (fnN P 4) 0 (codeOf P 4 [false, true, false, true, true, false, false, true, false, false, true, false, true, true, true, true, true]) (S_viewportlaw11GramClosed_2 x1_0 x1_1 x1_2 x1_3 x1_4 x1_5 x1_6 x1_7 (false, false, (y1_2_a :: y1_2_t), 0)) (X_viewportlaw11GramClosed_2 x1_0 x1_1 x1_2 x1_3 x1_4 x1_5 x1_6 x1_7 (y1_3_0, y1_3_1)),
    FlatB (.cells (layT (rows rw_b x1_3)) 4),
    FlatB (.cells (layT (rows rw_b x1_5)) 4),
    FlatB (.cells (layT (rows rw_b x1_6)) 4),
    FlatB (.cells (layT (iv (y1_2_a :: y1_2_t))) 3),
    opIndexAddr P 35 (Value.slice (some ⟨1, 0, none⟩) x1_4 x1_4) (Value.int .i64 x1_7) Ax.h0 = some ((Value.pointer (some ⟨1, ((x1_7).toNat * 1), none⟩)), Ax.h0),
    (layT (rows rw_b x1_3)).get ((x1_7).toNat * 1) = some (Value.bool ((x1_3).getD (x1_7).toNat (false))),
    (Value.bool (!(y1_3_0 == ((x1_3).getD (x1_7).toNat (false))))) = (Value.bool false),
    opIndexAddr P 35 (Value.slice (some ⟨2, 0, none⟩) x1_4 x1_4) (Value.int .i64 x1_7) Ax.h0 = some ((Value.pointer (some ⟨2, ((x1_7).toNat * 1), none⟩)), Ax.h0),
    (layT (rows rw_b x1_5)).get ((x1_7).toNat * 1) = some (Value.bool ((x1_5).getD (x1_7).toNat (false))),
    (Value.bool (!(y1_3_1 == ((x1_5).getD (x1_7).toNat (false))))) = (Value.bool false),
    opIndexAddr P 35 (Value.slice (some ⟨1, 0, none⟩) x1_4 x1_4) (Value.int .i64 x1_7) Ax.h0 = some ((Value.pointer (some ⟨1, ((x1_7).toNat * 1), none⟩)), Ax.h0),
    (layT (rows rw_b x1_3)).get ((x1_7).toNat * 1) = some (Value.bool ((x1_3).getD (x1_7).toNat (false))),
    (Value.bool ((x1_3).getD (x1_7).toNat (false))) = (Value.bool true),
    opIndexAddr P 35 (Value.slice (some ⟨2, 0, none⟩) x1_4 x1_4) (Value.int .i64 x1_7) Ax.h0 = some ((Value.pointer (some ⟨2, ((x1_7).toNat * 1), none⟩)), Ax.h0),
    (layT (rows rw_b x1_5)).get ((x1_7).toNat * 1) = some (Value.bool ((x1_5).getD (x1_7).toNat (false))),
    (Value.bool (!((x1_5).getD (x1_7).toNat (false)))) = (Value.bool false),
    FlatB (.cells (layT (rows rw_b x1_3)) 4),
    FlatB (.cells (layT (rows rw_b x1_5)) 4),
    FlatB (.cells (layT (rows rw_b x1_6)) 4)]) (by kernel_rfl) ⟨(vbT hy1_1), (m_gramOf_ok n x1_0 x1_1 x1_2 x1_7 (y1_2_a :: y1_2_t) hy1_2), (iv_flat _ _), (m_viewportlaw11GramClosed_2_ok n x1_0 x1_1 x1_2 x1_3 x1_4 x1_5 x1_6 x1_7 (false, false, (y1_2_a :: y1_2_t), 0) (y1_3_0, y1_3_1) hy1_3), (rows_flat rwf_b _ _), (rows_flat rwf_b _ _), (rows_flat rwf_b _ _), (iv_flat _ _), (ixS (e := 4) (by kernel_rfl) (by kernel_rfl) (hy1_4).1 (hy1_4).2), (rows_ld rwf_b (false) (i := (x1_7).toNat) (j := 0) ((x1_7).toNat * 1) rfl (hy1_5) (by decide) rfl), (vNeB hy1_6 hy1_7), (ixS (e := 4) (by kernel_rfl) (by kernel_rfl) (hy1_4).1 (hy1_4).2), (rows_ld rwf_b (false) (i := (x1_7).toNat) (j := 0) ((x1_7).toNat * 1) rfl (hy1_8) (by decide) rfl), (vNeB hy1_9 hy1_10), (ixS (e := 4) (by kernel_rfl) (by kernel_rfl) (hy1_4).1 (hy1_4).2), (rows_ld rwf_b (false) (i := (x1_7).toNat) (j := 0) ((x1_7).toNat * 1) rfl (hy1_5) (by decide) rfl), (vB hy1_7), (ixS (e := 4) (by kernel_rfl) (by kernel_rfl) (hy1_4).1 (hy1_4).2), (rows_ld rwf_b (false) (i := (x1_7).toNat) (j := 0) ((x1_7).toNat * 1) rfl (hy1_8) (by decide) rfl), (vBn hy1_10), (rows_flat rwf_b _ _), (rows_flat rwf_b _ _), (rows_flat rwf_b _ _), trivial⟩
set_option maxRecDepth 100000 in
theorem q_viewportlaw11GramClosed_1_4 (n : Nat) (x1_0 : Int) (x1_1 : Int) (x1_2 : Int) (x1_3 : List (Bool)) (x1_4 : Nat) (x1_5 : List (Bool)) (x1_6 : List (Bool)) (x1_7 : Int) (hy1_1 : x1_7 < x1_1) (y1_2_a : Int) (y1_2_t : List (Int)) (hy1_2 : m_gramOf n x1_0 x1_1 x1_2 x1_7 = some (y1_2_a :: y1_2_t)) (y1_3_0 : Bool) (y1_3_1 : Bool) (hy1_3 : m_viewportlaw11GramClosed_2 n x1_0 x1_1 x1_2 x1_3 x1_4 x1_5 x1_6 x1_7 (false, false, (y1_2_a :: y1_2_t), 0) = some (y1_3_0, y1_3_1)) (hy1_4 : 0 ≤ x1_7 ∧ x1_7 < ((x1_4 : Nat) : Int)) (hy1_5 : (x1_7).toNat < (x1_3).length) (hy1_6 : ¬ (y1_3_0 = true)) (hy1_7 : ¬ (((x1_3).getD (x1_7).toNat (false)) = true)) (hy1_8 : (x1_7).toNat < (x1_5).length) (hy1_9 : y1_3_1 = true) (hy1_10 : ((x1_5).getD (x1_7).toNat (false)) = true) : CG P none (fnN P 4) 0 (codeOf P 4 [false, false, true, false, true, true, true, true, true]) (S_viewportlaw11GramClosed_1 x1_0 x1_1 x1_2 x1_3 x1_4 x1_5 x1_6 x1_7) (.normal, S_viewportlaw11GramClosed_1 x1_0 x1_1 x1_2 x1_3 x1_4 x1_5 x1_6 (w64 (x1_7 + (1 : Int)))) :=
  runC_ok hm (A := aT [(5, .val (.bool true)), (15, .call ⟨0, [], (V_gramOf x1_0 x1_1 x1_2 x1_7 (y1_2_a :: y1_2_t)), (R_gramOf x1_0 x1_1 x1_2 x1_7 (y1_2_a :: y1_2_t)), [(4, 0, true)]⟩), (26, .pur (Value.pointer (some ⟨1, ((x1_7).toNat * 1), none⟩))), (27, .ld (Value.bool ((x1_3).getD (x1_7).toNat (false)))), (28, .val (.bool false)), (33, .pur (Value.pointer (some ⟨2, ((x1_7).toNat * 1), none⟩))), (34, .ld (Value.bool ((x1_5).getD (x1_7).toNat (false)))), (35, .val (.bool false)), (40, .pur (Value.pointer (some ⟨1, ((x1_7).toNat * 1), none⟩))), (41, .ld (Value.bool ((x1_3).getD (x1_7).toNat (false)))), (42, .val (.bool false))]) (L := lT [(21, ⟨⟨[1, 3, 4, 5, 6, 7, 8, 9, 10], [(0, 0, false), (1, 1, true), (2, 2, true), (3, 3, true), (4, 4, true)], 5, 0⟩, (X_viewportlaw11GramClosed_2 x1_0 x1_1 x1_2 x1_3 x1_4 x1_5 x1_6 x1_7 (y1_3_0, y1_3_1)).1, (X_viewportlaw11GramClosed_2 x1_0 x1_1 x1_2 x1_3 x1_4 x1_5 x1_6 x1_7 (y1_3_0, y1_3_1)).2⟩)]) (wk := ⟨[1, 3, 4, 5, 6], [(0, 0, false), (1, 1, true), (2, 2, true), (3, 3, true)], 4, 0⟩)
    (ps := [(Value.bool (decide (x1_7 < x1_1))) = (Value.bool true),
    Gv P (.func 17) (A_gramOf x1_0 x1_1 x1_2 x1_7) (H_gramOf x1_0 x1_1 x1_2 x1_7) (V_gramOf x1_0 x1_1 x1_2 x1_7 (y1_2_a :: y1_2_t)) (R_gramOf x1_0 x1_1 x1_2 x1_7 (y1_2_a :: y1_2_t)),
    FlatB (.cells (layT (iv (y1_2_a :: y1_2_t))) 3),
    CG P none (fnN P 4) 0 (codeOf P 4 [false, true, false, true, true, false, false, true, false, false, true, false, true, true, true, true, true]) (S_viewportlaw11GramClosed_2 x1_0 x1_1 x1_2 x1_3 x1_4 x1_5 x1_6 x1_7 (false, false, (y1_2_a :: y1_2_t), 0)) (X_viewportlaw11GramClosed_2 x1_0 x1_1 x1_2 x1_3 x1_4 x1_5 x1_6 x1_7 (y1_3_0, y1_3_1)),
    FlatB (.cells (layT (rows rw_b x1_3)) 4),
    FlatB (.cells (layT (rows rw_b x1_5)) 4),
    FlatB (.cells (layT (rows rw_b x1_6)) 4),
    FlatB (.cells (layT (iv (y1_2_a :: y1_2_t))) 3),
    opIndexAddr P 35 (Value.slice (some ⟨1, 0, none⟩) x1_4 x1_4) (Value.int .i64 x1_7) Ax.h0 = some ((Value.pointer (some ⟨1, ((x1_7).toNat * 1), none⟩)), Ax.h0),
    (layT (rows rw_b x1_3)).get ((x1_7).toNat * 1) = some (Value.bool ((x1_3).getD (x1_7).toNat (false))),
    (Value.bool (!(y1_3_0 == ((x1_3).getD (x1_7).toNat (false))))) = (Value.bool false),
    opIndexAddr P 35 (Value.slice (some ⟨2, 0, none⟩) x1_4 x1_4) (Value.int .i64 x1_7) Ax.h0 = some ((Value.pointer (some ⟨2, ((x1_7).toNat * 1), none⟩)), Ax.h0),
    (layT (rows rw_b x1_5)).get ((x1_7).toNat * 1) = some (Value.bool ((x1_5).getD (x1_7).toNat (false))),
    (Value.bool (!(y1_3_1 == ((x1_5).getD (x1_7).toNat (false))))) = (Value.bool false),
    opIndexAddr P 35 (Value.slice (some ⟨1, 0, none⟩) x1_4 x1_4) (Value.int .i64 x1_7) Ax.h0 = some ((Value.pointer (some ⟨1, ((x1_7).toNat * 1), none⟩)), Ax.h0),
    (layT (rows rw_b x1_3)).get ((x1_7).toNat * 1) = some (Value.bool ((x1_3).getD (x1_7).toNat (false))),
    (Value.bool ((x1_3).getD (x1_7).toNat (false))) = (Value.bool false),
    FlatB (.cells (layT (rows rw_b x1_3)) 4),
    FlatB (.cells (layT (rows rw_b x1_5)) 4),
    FlatB (.cells (layT (rows rw_b x1_6)) 4)]) (by kernel_rfl) ⟨(vbT hy1_1), (m_gramOf_ok n x1_0 x1_1 x1_2 x1_7 (y1_2_a :: y1_2_t) hy1_2), (iv_flat _ _), (m_viewportlaw11GramClosed_2_ok n x1_0 x1_1 x1_2 x1_3 x1_4 x1_5 x1_6 x1_7 (false, false, (y1_2_a :: y1_2_t), 0) (y1_3_0, y1_3_1) hy1_3), (rows_flat rwf_b _ _), (rows_flat rwf_b _ _), (rows_flat rwf_b _ _), (iv_flat _ _), (ixS (e := 4) (by kernel_rfl) (by kernel_rfl) (hy1_4).1 (hy1_4).2), (rows_ld rwf_b (false) (i := (x1_7).toNat) (j := 0) ((x1_7).toNat * 1) rfl (hy1_5) (by decide) rfl), (vNeB (Bool.eq_false_iff.2 hy1_6) (Bool.eq_false_iff.2 hy1_7)), (ixS (e := 4) (by kernel_rfl) (by kernel_rfl) (hy1_4).1 (hy1_4).2), (rows_ld rwf_b (false) (i := (x1_7).toNat) (j := 0) ((x1_7).toNat * 1) rfl (hy1_8) (by decide) rfl), (vNeB hy1_9 hy1_10), (ixS (e := 4) (by kernel_rfl) (by kernel_rfl) (hy1_4).1 (hy1_4).2), (rows_ld rwf_b (false) (i := (x1_7).toNat) (j := 0) ((x1_7).toNat * 1) rfl (hy1_5) (by decide) rfl), (vB (Bool.eq_false_iff.2 hy1_7)), (rows_flat rwf_b _ _), (rows_flat rwf_b _ _), (rows_flat rwf_b _ _), trivial⟩
set_option maxRecDepth 100000 in
theorem q_viewportlaw11GramClosed_1_5 (n : Nat) (x1_0 : Int) (x1_1 : Int) (x1_2 : Int) (x1_3 : List (Bool)) (x1_4 : Nat) (x1_5 : List (Bool)) (x1_6 : List (Bool)) (x1_7 : Int) (hy1_1 : x1_7 < x1_1) (y1_2_a : Int) (y1_2_t : List (Int)) (hy1_2 : m_gramOf n x1_0 x1_1 x1_2 x1_7 = some (y1_2_a :: y1_2_t)) (y1_3_0 : Bool) (y1_3_1 : Bool) (hy1_3 : m_viewportlaw11GramClosed_2 n x1_0 x1_1 x1_2 x1_3 x1_4 x1_5 x1_6 x1_7 (false, false, (y1_2_a :: y1_2_t), 0) = some (y1_3_0, y1_3_1)) (hy1_4 : 0 ≤ x1_7 ∧ x1_7 < ((x1_4 : Nat) : Int)) (hy1_5 : (x1_7).toNat < (x1_3).length) (hy1_6 : ¬ (y1_3_0 = true)) (hy1_7 : ¬ (((x1_3).getD (x1_7).toNat (false)) = true)) (hy1_8 : (x1_7).toNat < (x1_5).length) (hy1_9 : ¬ (y1_3_1 = true)) (hy1_10 : ¬ (((x1_5).getD (x1_7).toNat (false)) = true)) : CG P none (fnN P 4) 0 (codeOf P 4 [false, false, true, false, true, true, true, true, true]) (S_viewportlaw11GramClosed_1 x1_0 x1_1 x1_2 x1_3 x1_4 x1_5 x1_6 x1_7) (.normal, S_viewportlaw11GramClosed_1 x1_0 x1_1 x1_2 x1_3 x1_4 x1_5 x1_6 (w64 (x1_7 + (1 : Int)))) :=
  runC_ok hm (A := aT [(5, .val (.bool true)), (15, .call ⟨0, [], (V_gramOf x1_0 x1_1 x1_2 x1_7 (y1_2_a :: y1_2_t)), (R_gramOf x1_0 x1_1 x1_2 x1_7 (y1_2_a :: y1_2_t)), [(4, 0, true)]⟩), (26, .pur (Value.pointer (some ⟨1, ((x1_7).toNat * 1), none⟩))), (27, .ld (Value.bool ((x1_3).getD (x1_7).toNat (false)))), (28, .val (.bool false)), (33, .pur (Value.pointer (some ⟨2, ((x1_7).toNat * 1), none⟩))), (34, .ld (Value.bool ((x1_5).getD (x1_7).toNat (false)))), (35, .val (.bool false)), (40, .pur (Value.pointer (some ⟨1, ((x1_7).toNat * 1), none⟩))), (41, .ld (Value.bool ((x1_3).getD (x1_7).toNat (false)))), (42, .val (.bool false))]) (L := lT [(21, ⟨⟨[1, 3, 4, 5, 6, 7, 8, 9, 10], [(0, 0, false), (1, 1, true), (2, 2, true), (3, 3, true), (4, 4, true)], 5, 0⟩, (X_viewportlaw11GramClosed_2 x1_0 x1_1 x1_2 x1_3 x1_4 x1_5 x1_6 x1_7 (y1_3_0, y1_3_1)).1, (X_viewportlaw11GramClosed_2 x1_0 x1_1 x1_2 x1_3 x1_4 x1_5 x1_6 x1_7 (y1_3_0, y1_3_1)).2⟩)]) (wk := ⟨[1, 3, 4, 5, 6], [(0, 0, false), (1, 1, true), (2, 2, true), (3, 3, true)], 4, 0⟩)
    (ps := [(Value.bool (decide (x1_7 < x1_1))) = (Value.bool true),
    Gv P (.func 17) (A_gramOf x1_0 x1_1 x1_2 x1_7) (H_gramOf x1_0 x1_1 x1_2 x1_7) (V_gramOf x1_0 x1_1 x1_2 x1_7 (y1_2_a :: y1_2_t)) (R_gramOf x1_0 x1_1 x1_2 x1_7 (y1_2_a :: y1_2_t)),
    FlatB (.cells (layT (iv (y1_2_a :: y1_2_t))) 3),
    CG P none (fnN P 4) 0 (codeOf P 4 [false, true, false, true, true, false, false, true, false, false, true, false, true, true, true, true, true]) (S_viewportlaw11GramClosed_2 x1_0 x1_1 x1_2 x1_3 x1_4 x1_5 x1_6 x1_7 (false, false, (y1_2_a :: y1_2_t), 0)) (X_viewportlaw11GramClosed_2 x1_0 x1_1 x1_2 x1_3 x1_4 x1_5 x1_6 x1_7 (y1_3_0, y1_3_1)),
    FlatB (.cells (layT (rows rw_b x1_3)) 4),
    FlatB (.cells (layT (rows rw_b x1_5)) 4),
    FlatB (.cells (layT (rows rw_b x1_6)) 4),
    FlatB (.cells (layT (iv (y1_2_a :: y1_2_t))) 3),
    opIndexAddr P 35 (Value.slice (some ⟨1, 0, none⟩) x1_4 x1_4) (Value.int .i64 x1_7) Ax.h0 = some ((Value.pointer (some ⟨1, ((x1_7).toNat * 1), none⟩)), Ax.h0),
    (layT (rows rw_b x1_3)).get ((x1_7).toNat * 1) = some (Value.bool ((x1_3).getD (x1_7).toNat (false))),
    (Value.bool (!(y1_3_0 == ((x1_3).getD (x1_7).toNat (false))))) = (Value.bool false),
    opIndexAddr P 35 (Value.slice (some ⟨2, 0, none⟩) x1_4 x1_4) (Value.int .i64 x1_7) Ax.h0 = some ((Value.pointer (some ⟨2, ((x1_7).toNat * 1), none⟩)), Ax.h0),
    (layT (rows rw_b x1_5)).get ((x1_7).toNat * 1) = some (Value.bool ((x1_5).getD (x1_7).toNat (false))),
    (Value.bool (!(y1_3_1 == ((x1_5).getD (x1_7).toNat (false))))) = (Value.bool false),
    opIndexAddr P 35 (Value.slice (some ⟨1, 0, none⟩) x1_4 x1_4) (Value.int .i64 x1_7) Ax.h0 = some ((Value.pointer (some ⟨1, ((x1_7).toNat * 1), none⟩)), Ax.h0),
    (layT (rows rw_b x1_3)).get ((x1_7).toNat * 1) = some (Value.bool ((x1_3).getD (x1_7).toNat (false))),
    (Value.bool ((x1_3).getD (x1_7).toNat (false))) = (Value.bool false),
    FlatB (.cells (layT (rows rw_b x1_3)) 4),
    FlatB (.cells (layT (rows rw_b x1_5)) 4),
    FlatB (.cells (layT (rows rw_b x1_6)) 4)]) (by kernel_rfl) ⟨(vbT hy1_1), (m_gramOf_ok n x1_0 x1_1 x1_2 x1_7 (y1_2_a :: y1_2_t) hy1_2), (iv_flat _ _), (m_viewportlaw11GramClosed_2_ok n x1_0 x1_1 x1_2 x1_3 x1_4 x1_5 x1_6 x1_7 (false, false, (y1_2_a :: y1_2_t), 0) (y1_3_0, y1_3_1) hy1_3), (rows_flat rwf_b _ _), (rows_flat rwf_b _ _), (rows_flat rwf_b _ _), (iv_flat _ _), (ixS (e := 4) (by kernel_rfl) (by kernel_rfl) (hy1_4).1 (hy1_4).2), (rows_ld rwf_b (false) (i := (x1_7).toNat) (j := 0) ((x1_7).toNat * 1) rfl (hy1_5) (by decide) rfl), (vNeB (Bool.eq_false_iff.2 hy1_6) (Bool.eq_false_iff.2 hy1_7)), (ixS (e := 4) (by kernel_rfl) (by kernel_rfl) (hy1_4).1 (hy1_4).2), (rows_ld rwf_b (false) (i := (x1_7).toNat) (j := 0) ((x1_7).toNat * 1) rfl (hy1_8) (by decide) rfl), (vNeB (Bool.eq_false_iff.2 hy1_9) (Bool.eq_false_iff.2 hy1_10)), (ixS (e := 4) (by kernel_rfl) (by kernel_rfl) (hy1_4).1 (hy1_4).2), (rows_ld rwf_b (false) (i := (x1_7).toNat) (j := 0) ((x1_7).toNat * 1) rfl (hy1_5) (by decide) rfl), (vB (Bool.eq_false_iff.2 hy1_7)), (rows_flat rwf_b _ _), (rows_flat rwf_b _ _), (rows_flat rwf_b _ _), trivial⟩
set_option maxRecDepth 100000 in
theorem q_viewportlaw11GramClosed_1_6 (n : Nat) (x1_0 : Int) (x1_1 : Int) (x1_2 : Int) (x1_3 : List (Bool)) (x1_4 : Nat) (x1_5 : List (Bool)) (x1_6 : List (Bool)) (x1_7 : Int) (hy1_1 : ¬ (x1_7 < x1_1)) : CG P none (fnN P 4) 0 (codeOf P 4 [false, false, true, false, true, true, true, true, true]) (S_viewportlaw11GramClosed_1 x1_0 x1_1 x1_2 x1_3 x1_4 x1_5 x1_6 x1_7) (X_viewportlaw11GramClosed_1 x1_0 x1_1 x1_2 x1_3 x1_4 x1_5 x1_6 ()) :=
  runC_ok hm (A := aT [(5, .val (.bool false))]) (L := lT []) (wk := ⟨[1, 4, 5], [(0, 0, false), (1, 2, true), (2, 3, true)], 3, 0⟩)
    (ps := [(Value.bool (decide (x1_7 < x1_1))) = (Value.bool false),
    FlatB (.cells (layT (rows rw_b x1_5)) 4),
    FlatB (.cells (layT (rows rw_b x1_6)) 4)]) (by kernel_rfl) ⟨(vbF hy1_1), (rows_flat rwf_b _ _), (rows_flat rwf_b _ _), trivial⟩
theorem m_viewportlaw11GramClosed_1_ok (n : Nat) (x1_0 : Int) (x1_1 : Int) (x1_2 : Int) (x1_3 : List (Bool)) (x1_4 : Nat) (x1_5 : List (Bool)) (x1_6 : List (Bool)) (st : Int) (r : Unit) (h : m_viewportlaw11GramClosed_1 n x1_0 x1_1 x1_2 x1_3 x1_4 x1_5 x1_6 st = some r) : CG P none (fnN P 4) 0 (codeOf P 4 [false, true, false, true, true, true, true, true]) (S_viewportlaw11GramClosed_1 x1_0 x1_1 x1_2 x1_3 x1_4 x1_5 x1_6 st) (X_viewportlaw11GramClosed_1 x1_0 x1_1 x1_2 x1_3 x1_4 x1_5 x1_6 r) :=
  CG.iter (b := codeOf P 4 [false, false, true, false, true, true, true, true, true]) (by kernel_rfl) (body := B_viewportlaw11GramClosed_1 n x1_0 x1_1 x1_2 x1_3 x1_4 x1_5 x1_6) (S := S_viewportlaw11GramClosed_1 x1_0 x1_1 x1_2 x1_3 x1_4 x1_5 x1_6) (X := X_viewportlaw11GramClosed_1 x1_0 x1_1 x1_2 x1_3 x1_4 x1_5 x1_6)
    (fun x1_7 s' h => by
    unfold B_viewportlaw11GramClosed_1 at h
    dsimp only at h
    by_cases hy1_1 : x1_7 < x1_1
    · rw [if_pos hy1_1] at h
      obtain ⟨y1_2_, hy1_2, h⟩ := Option.bind_eq_some_iff.1 h
      cases y1_2_ with
      | nil =>
        dsimp only at h
        obtain ⟨⟨y1_3_0, y1_3_1⟩, hy1_3, h⟩ := Option.bind_eq_some_iff.1 h
        dsimp only at h
        by_cases hy1_4 : 0 ≤ x1_7 ∧ x1_7 < ((x1_4 : Nat) : Int)
        · rw [if_pos hy1_4] at h
          by_cases hy1_5 : (x1_7).toNat < (x1_3).length
          · rw [if_pos hy1_5] at h
            by_cases hy1_6 : y1_3_0 = true
            · rw [if_pos hy1_6] at h
              by_cases hy1_7 : ((x1_3).getD (x1_7).toNat (false)) = true
              · rw [if_pos hy1_7] at h
                by_cases hy1_8 : (x1_7).toNat < (x1_5).length
                · rw [if_pos hy1_8] at h
                  by_cases hy1_9 : y1_3_1 = true
                  · rw [if_pos hy1_9] at h
                    by_cases hy1_10 : ((x1_5).getD (x1_7).toNat (false)) = true
                    · rw [if_pos hy1_10] at h
                      obtain rfl := Sum.inl.inj (Option.some.inj h); exact q_viewportlaw11GramClosed_1_0 n x1_0 x1_1 x1_2 x1_3 x1_4 x1_5 x1_6 x1_7 hy1_1 hy1_2 y1_3_0 y1_3_1 hy1_3 hy1_4 hy1_5 hy1_6 hy1_7 hy1_8 hy1_9 hy1_10
                    · rw [if_neg hy1_10] at h
                      cases h
                  · rw [if_neg hy1_9] at h
                    by_cases hy1_10 : ((x1_5).getD (x1_7).toNat (false)) = true
                    · rw [if_pos hy1_10] at h
                      cases h
                    · rw [if_neg hy1_10] at h
                      cases h
                · rw [if_neg hy1_8] at h; cases h
              · rw [if_neg hy1_7] at h
                cases h
            · rw [if_neg hy1_6] at h
              by_cases hy1_7 : ((x1_3).getD (x1_7).toNat (false)) = true
              · rw [if_pos hy1_7] at h
                cases h
              · rw [if_neg hy1_7] at h
                by_cases hy1_8 : (x1_7).toNat < (x1_5).length
                · rw [if_pos hy1_8] at h
                  by_cases hy1_9 : y1_3_1 = true
                  · rw [if_pos hy1_9] at h
                    by_cases hy1_10 : ((x1_5).getD (x1_7).toNat (false)) = true
                    · rw [if_pos hy1_10] at h
                      obtain rfl := Sum.inl.inj (Option.some.inj h); exact q_viewportlaw11GramClosed_1_1 n x1_0 x1_1 x1_2 x1_3 x1_4 x1_5 x1_6 x1_7 hy1_1 hy1_2 y1_3_0 y1_3_1 hy1_3 hy1_4 hy1_5 hy1_6 hy1_7 hy1_8 hy1_9 hy1_10
                    · rw [if_neg hy1_10] at h
                      cases h
                  · rw [if_neg hy1_9] at h
                    by_cases hy1_10 : ((x1_5).getD (x1_7).toNat (false)) = true
                    · rw [if_pos hy1_10] at h
                      cases h
                    · rw [if_neg hy1_10] at h
                      obtain rfl := Sum.inl.inj (Option.some.inj h); exact q_viewportlaw11GramClosed_1_2 n x1_0 x1_1 x1_2 x1_3 x1_4 x1_5 x1_6 x1_7 hy1_1 hy1_2 y1_3_0 y1_3_1 hy1_3 hy1_4 hy1_5 hy1_6 hy1_7 hy1_8 hy1_9 hy1_10
                · rw [if_neg hy1_8] at h; cases h
          · rw [if_neg hy1_5] at h; cases h
        · rw [if_neg hy1_4] at h; cases h
      | cons y1_2_a y1_2_t =>
        dsimp only at h
        obtain ⟨⟨y1_3_0, y1_3_1⟩, hy1_3, h⟩ := Option.bind_eq_some_iff.1 h
        dsimp only at h
        by_cases hy1_4 : 0 ≤ x1_7 ∧ x1_7 < ((x1_4 : Nat) : Int)
        · rw [if_pos hy1_4] at h
          by_cases hy1_5 : (x1_7).toNat < (x1_3).length
          · rw [if_pos hy1_5] at h
            by_cases hy1_6 : y1_3_0 = true
            · rw [if_pos hy1_6] at h
              by_cases hy1_7 : ((x1_3).getD (x1_7).toNat (false)) = true
              · rw [if_pos hy1_7] at h
                by_cases hy1_8 : (x1_7).toNat < (x1_5).length
                · rw [if_pos hy1_8] at h
                  by_cases hy1_9 : y1_3_1 = true
                  · rw [if_pos hy1_9] at h
                    by_cases hy1_10 : ((x1_5).getD (x1_7).toNat (false)) = true
                    · rw [if_pos hy1_10] at h
                      obtain rfl := Sum.inl.inj (Option.some.inj h); exact q_viewportlaw11GramClosed_1_3 n x1_0 x1_1 x1_2 x1_3 x1_4 x1_5 x1_6 x1_7 hy1_1 y1_2_a y1_2_t hy1_2 y1_3_0 y1_3_1 hy1_3 hy1_4 hy1_5 hy1_6 hy1_7 hy1_8 hy1_9 hy1_10
                    · rw [if_neg hy1_10] at h
                      cases h
                  · rw [if_neg hy1_9] at h
                    by_cases hy1_10 : ((x1_5).getD (x1_7).toNat (false)) = true
                    · rw [if_pos hy1_10] at h
                      cases h
                    · rw [if_neg hy1_10] at h
                      cases h
                · rw [if_neg hy1_8] at h; cases h
              · rw [if_neg hy1_7] at h
                cases h
            · rw [if_neg hy1_6] at h
              by_cases hy1_7 : ((x1_3).getD (x1_7).toNat (false)) = true
              · rw [if_pos hy1_7] at h
                cases h
              · rw [if_neg hy1_7] at h
                by_cases hy1_8 : (x1_7).toNat < (x1_5).length
                · rw [if_pos hy1_8] at h
                  by_cases hy1_9 : y1_3_1 = true
                  · rw [if_pos hy1_9] at h
                    by_cases hy1_10 : ((x1_5).getD (x1_7).toNat (false)) = true
                    · rw [if_pos hy1_10] at h
                      obtain rfl := Sum.inl.inj (Option.some.inj h); exact q_viewportlaw11GramClosed_1_4 n x1_0 x1_1 x1_2 x1_3 x1_4 x1_5 x1_6 x1_7 hy1_1 y1_2_a y1_2_t hy1_2 y1_3_0 y1_3_1 hy1_3 hy1_4 hy1_5 hy1_6 hy1_7 hy1_8 hy1_9 hy1_10
                    · rw [if_neg hy1_10] at h
                      cases h
                  · rw [if_neg hy1_9] at h
                    by_cases hy1_10 : ((x1_5).getD (x1_7).toNat (false)) = true
                    · rw [if_pos hy1_10] at h
                      cases h
                    · rw [if_neg hy1_10] at h
                      obtain rfl := Sum.inl.inj (Option.some.inj h); exact q_viewportlaw11GramClosed_1_5 n x1_0 x1_1 x1_2 x1_3 x1_4 x1_5 x1_6 x1_7 hy1_1 y1_2_a y1_2_t hy1_2 y1_3_0 y1_3_1 hy1_3 hy1_4 hy1_5 hy1_6 hy1_7 hy1_8 hy1_9 hy1_10
                · rw [if_neg hy1_8] at h; cases h
          · rw [if_neg hy1_5] at h; cases h
        · rw [if_neg hy1_4] at h; cases h
    · rw [if_neg hy1_1] at h
      cases h)
    (fun x1_7 r h => by
    unfold B_viewportlaw11GramClosed_1 at h
    dsimp only at h
    by_cases hy1_1 : x1_7 < x1_1
    · rw [if_pos hy1_1] at h
      obtain ⟨y1_2_, hy1_2, h⟩ := Option.bind_eq_some_iff.1 h
      cases y1_2_ with
      | nil =>
        dsimp only at h
        obtain ⟨⟨y1_3_0, y1_3_1⟩, hy1_3, h⟩ := Option.bind_eq_some_iff.1 h
        dsimp only at h
        by_cases hy1_4 : 0 ≤ x1_7 ∧ x1_7 < ((x1_4 : Nat) : Int)
        · rw [if_pos hy1_4] at h
          by_cases hy1_5 : (x1_7).toNat < (x1_3).length
          · rw [if_pos hy1_5] at h
            by_cases hy1_6 : y1_3_0 = true
            · rw [if_pos hy1_6] at h
              by_cases hy1_7 : ((x1_3).getD (x1_7).toNat (false)) = true
              · rw [if_pos hy1_7] at h
                by_cases hy1_8 : (x1_7).toNat < (x1_5).length
                · rw [if_pos hy1_8] at h
                  by_cases hy1_9 : y1_3_1 = true
                  · rw [if_pos hy1_9] at h
                    by_cases hy1_10 : ((x1_5).getD (x1_7).toNat (false)) = true
                    · rw [if_pos hy1_10] at h
                      cases h
                    · rw [if_neg hy1_10] at h
                      cases h
                  · rw [if_neg hy1_9] at h
                    by_cases hy1_10 : ((x1_5).getD (x1_7).toNat (false)) = true
                    · rw [if_pos hy1_10] at h
                      cases h
                    · rw [if_neg hy1_10] at h
                      cases h
                · rw [if_neg hy1_8] at h; cases h
              · rw [if_neg hy1_7] at h
                cases h
            · rw [if_neg hy1_6] at h
              by_cases hy1_7 : ((x1_3).getD (x1_7).toNat (false)) = true
              · rw [if_pos hy1_7] at h
                cases h
              · rw [if_neg hy1_7] at h
                by_cases hy1_8 : (x1_7).toNat < (x1_5).length
                · rw [if_pos hy1_8] at h
                  by_cases hy1_9 : y1_3_1 = true
                  · rw [if_pos hy1_9] at h
                    by_cases hy1_10 : ((x1_5).getD (x1_7).toNat (false)) = true
                    · rw [if_pos hy1_10] at h
                      cases h
                    · rw [if_neg hy1_10] at h
                      cases h
                  · rw [if_neg hy1_9] at h
                    by_cases hy1_10 : ((x1_5).getD (x1_7).toNat (false)) = true
                    · rw [if_pos hy1_10] at h
                      cases h
                    · rw [if_neg hy1_10] at h
                      cases h
                · rw [if_neg hy1_8] at h; cases h
          · rw [if_neg hy1_5] at h; cases h
        · rw [if_neg hy1_4] at h; cases h
      | cons y1_2_a y1_2_t =>
        dsimp only at h
        obtain ⟨⟨y1_3_0, y1_3_1⟩, hy1_3, h⟩ := Option.bind_eq_some_iff.1 h
        dsimp only at h
        by_cases hy1_4 : 0 ≤ x1_7 ∧ x1_7 < ((x1_4 : Nat) : Int)
        · rw [if_pos hy1_4] at h
          by_cases hy1_5 : (x1_7).toNat < (x1_3).length
          · rw [if_pos hy1_5] at h
            by_cases hy1_6 : y1_3_0 = true
            · rw [if_pos hy1_6] at h
              by_cases hy1_7 : ((x1_3).getD (x1_7).toNat (false)) = true
              · rw [if_pos hy1_7] at h
                by_cases hy1_8 : (x1_7).toNat < (x1_5).length
                · rw [if_pos hy1_8] at h
                  by_cases hy1_9 : y1_3_1 = true
                  · rw [if_pos hy1_9] at h
                    by_cases hy1_10 : ((x1_5).getD (x1_7).toNat (false)) = true
                    · rw [if_pos hy1_10] at h
                      cases h
                    · rw [if_neg hy1_10] at h
                      cases h
                  · rw [if_neg hy1_9] at h
                    by_cases hy1_10 : ((x1_5).getD (x1_7).toNat (false)) = true
                    · rw [if_pos hy1_10] at h
                      cases h
                    · rw [if_neg hy1_10] at h
                      cases h
                · rw [if_neg hy1_8] at h; cases h
              · rw [if_neg hy1_7] at h
                cases h
            · rw [if_neg hy1_6] at h
              by_cases hy1_7 : ((x1_3).getD (x1_7).toNat (false)) = true
              · rw [if_pos hy1_7] at h
                cases h
              · rw [if_neg hy1_7] at h
                by_cases hy1_8 : (x1_7).toNat < (x1_5).length
                · rw [if_pos hy1_8] at h
                  by_cases hy1_9 : y1_3_1 = true
                  · rw [if_pos hy1_9] at h
                    by_cases hy1_10 : ((x1_5).getD (x1_7).toNat (false)) = true
                    · rw [if_pos hy1_10] at h
                      cases h
                    · rw [if_neg hy1_10] at h
                      cases h
                  · rw [if_neg hy1_9] at h
                    by_cases hy1_10 : ((x1_5).getD (x1_7).toNat (false)) = true
                    · rw [if_pos hy1_10] at h
                      cases h
                    · rw [if_neg hy1_10] at h
                      cases h
                · rw [if_neg hy1_8] at h; cases h
          · rw [if_neg hy1_5] at h; cases h
        · rw [if_neg hy1_4] at h; cases h
    · rw [if_neg hy1_1] at h
      obtain rfl := Sum.inr.inj (Option.some.inj h); exact q_viewportlaw11GramClosed_1_6 n x1_0 x1_1 x1_2 x1_3 x1_4 x1_5 x1_6 x1_7 hy1_1)
    (fun r => by intro hx; cases hx) h
noncomputable def A_viewportlaw11GramClosed (gT : Int) (gN : Int) (gK : Int) : List Value := [(Value.agg #[(Value.int .i64 gT), (Value.int .i64 gN), (Value.int .i64 gK), (Value.slice (some ⟨0, 0, some 1⟩) (Args.G).length Args.cG)])]
noncomputable def H_viewportlaw11GramClosed (gT : Int) (gN : Int) (gK : Int) : AH := ⟨sB [], 0, 0⟩
noncomputable def V_viewportlaw11GramClosed (gT : Int) (gN : Int) (gK : Int) (r : Unit) : Value := match r with
  | _ => (Value.bool true)
noncomputable def R_viewportlaw11GramClosed (gT : Int) (gN : Int) (gK : Int) (r : Unit) : AH := match r with
  | _ => ⟨sB [], 0, 0⟩
def m_viewportlaw11GramClosed (n : Nat) (gT : Int) (gN : Int) (gK : Int) : Option (Unit) :=
  (m_viewportlaw11lives n).bind fun _ =>
  (m_viewportkitLightGrammar n gT gN gK).bind fun c2_ =>
  if c2_ = true then
    (m_gramCheck n gT gN gK).bind fun c4_ =>
    if c4_ = (0 : Int) then
      (m_gramNullable n gT gN gK).bind fun c6_ =>
      (m_gramProductive n gT gN gK).bind fun c7_ =>
      (m_gramReachable n gT gN gK).bind fun c8_ =>
      if (((gN).toNat : Nat) : Int) = gN then
        if 0 ≤ (0 : Int) ∧ (0 : Int) < (((gN).toNat : Nat) : Int) then
          if ((0 : Int)).toNat < (c8_).length then
            if ((c8_).getD ((0 : Int)).toNat (false)) = true then
              (m_viewportlaw11GramClosed_1 n gT gN gK c6_ ((gN).toNat) c7_ c8_ 0).bind fun _ =>
              (m_gramReduced n gT gN gK).bind fun t => match t with
              | (c14_0, c14_1) =>
                match m_viewportlaw11GramClosed_4 n gT gN gK c7_ ((gN).toNat) c8_ c14_0 c14_1 0 with
                | none => none
                | some (.inl _) =>
                  some ()
                | some (.inr _) =>
                  if c14_1 = true then
                    if c14_0 = (0 : Int) then
                      some ()
                    else
                      none
                  else
                    none
            else
              none
          else none
        else none
      else
        none
    else
      some ()
  else
    some ()
set_option maxRecDepth 100000 in
theorem p_viewportlaw11GramClosed_0 (n : Nat) (gT : Int) (gN : Int) (gK : Int) (hc1 : m_viewportlaw11lives n = some ()) (c2_ : Bool) (hc2 : m_viewportkitLightGrammar n gT gN gK = some c2_) (hc3 : c2_ = true) (c4_ : Int) (hc4 : m_gramCheck n gT gN gK = some c4_) (hc5 : c4_ = (0 : Int)) (c6_ : List (Bool)) (hc6 : m_gramNullable n gT gN gK = some c6_) (c7_ : List (Bool)) (hc7 : m_gramProductive n gT gN gK = some c7_) (c8_ : List (Bool)) (hc8 : m_gramReachable n gT gN gK = some c8_) (hc9 : (((gN).toNat : Nat) : Int) = gN) (hc10 : 0 ≤ (0 : Int) ∧ (0 : Int) < (((gN).toNat : Nat) : Int)) (hc11 : ((0 : Int)).toNat < (c8_).length) (hc12 : ((c8_).getD ((0 : Int)).toNat (false)) = true) (hc13 : m_viewportlaw11GramClosed_1 n gT gN gK c6_ ((gN).toNat) c7_ c8_ 0 = some ()) (c14_0 : Int) (c14_1 : Bool) (hc14 : m_gramReduced n gT gN gK = some (c14_0, c14_1)) (hc15 : m_viewportlaw11GramClosed_4 n gT gN gK c7_ ((gN).toNat) c8_ c14_0 c14_1 0 = some (.inl ())) : Gv P (.func 4) (A_viewportlaw11GramClosed gT gN gK) (H_viewportlaw11GramClosed gT gN gK) (V_viewportlaw11GramClosed gT gN gK ()) (R_viewportlaw11GramClosed gT gN gK ()) :=
  runF_ok hm (A := aT [(5, .call ⟨0, [], (Value.bool true), Ax.h0, []⟩), (11, .call ⟨0, [], (V_viewportkitLightGrammar gT gN gK c2_), (R_viewportkitLightGrammar gT gN gK c2_), []⟩), (12, .val (.bool false)), (15, .call ⟨0, [], (V_gramCheck gT gN gK c4_), (R_gramCheck gT gN gK c4_), []⟩), (16, .val (.bool false)), (21, .call ⟨0, [], (V_gramNullable gT gN gK c6_), (R_gramNullable gT gN gK c6_), [(1, 0, true)]⟩), (23, .call ⟨0, [], (V_gramProductive gT gN gK c7_), (R_gramProductive gT gN gK c7_), [(2, 0, true)]⟩), (25, .call ⟨0, [], (V_gramReachable gT gN gK c8_), (R_gramReachable gT gN gK c8_), [(3, 0, true)]⟩), (35, .val (.bool false)), (41, .val (.bool false)), (48, .val (.bool false)), (52, .pur (Value.pointer (some ⟨3, (((0 : Int)).toNat * 1), none⟩))), (53, .ld (Value.bool ((c8_).getD ((0 : Int)).toNat (false)))), (54, .val (.bool false)), (64, .call ⟨0, [], (V_gramReduced gT gN gK (c14_0, c14_1)), (R_gramReduced gT gN gK (c14_0, c14_1)), []⟩)]) (L := lT [(61, ⟨⟨[1, 3, 4, 5, 6], [(0, 0, false), (1, 1, true), (2, 2, true), (3, 3, true)], 4, 0⟩, (X_viewportlaw11GramClosed_1 gT gN gK c6_ ((gN).toNat) c7_ c8_ ()).1, (X_viewportlaw11GramClosed_1 gT gN gK c6_ ((gN).toNat) c7_ c8_ ()).2⟩), (74, ⟨⟨[1, 4, 5, 13, 14, 15], [(0, 0, false), (1, 1, true), (2, 2, true)], 3, 0⟩, (X_viewportlaw11GramClosed_4 gT gN gK c7_ ((gN).toNat) c8_ c14_0 c14_1 (.inl ())).1, (X_viewportlaw11GramClosed_4 gT gN gK c7_ ((gN).toNat) c8_ c14_0 c14_1 (.inl ())).2⟩)]) (wk := ⟨[2], [], 0, 0⟩)
    (ps := [Gv P (.func 8) [] Ax.h0 (Value.bool true) Ax.h0,
    Gv P (.func 9) (A_viewportkitLightGrammar gT gN gK) (H_viewportkitLightGrammar gT gN gK) (V_viewportkitLightGrammar gT gN gK c2_) (R_viewportkitLightGrammar gT gN gK c2_),
    (Value.bool (!c2_)) = (Value.bool false),
    Gv P (.func 14) (A_gramCheck gT gN gK) (H_gramCheck gT gN gK) (V_gramCheck gT gN gK c4_) (R_gramCheck gT gN gK c4_),
    (Value.bool (c4_ != (0 : Int))) = (Value.bool false),
    Gv P (.func 20) (A_gramNullable gT gN gK) (H_gramNullable gT gN gK) (V_gramNullable gT gN gK c6_) (R_gramNullable gT gN gK c6_),
    FlatB (.cells (layT (rows rw_b c6_)) 4),
    Gv P (.func 22) (A_gramProductive gT gN gK) (H_gramProductive gT gN gK) (V_gramProductive gT gN gK c7_) (R_gramProductive gT gN gK c7_),
    FlatB (.cells (layT (rows rw_b c7_)) 4),
    Gv P (.func 24) (A_gramReachable gT gN gK) (H_gramReachable gT gN gK) (V_gramReachable gT gN gK c8_) (R_gramReachable gT gN gK c8_),
    FlatB (.cells (layT (rows rw_b c8_)) 4),
    (Value.bool ((((gN).toNat : Nat) : Int) != gN)) = (Value.bool false),
    (Value.bool ((((gN).toNat : Nat) : Int) != gN)) = (Value.bool false),
    (Value.bool ((((gN).toNat : Nat) : Int) != gN)) = (Value.bool false),
    opIndexAddr P 35 (Value.slice (some ⟨3, 0, none⟩) (gN).toNat (gN).toNat) (Value.int .i64 (0 : Int)) Ax.h0 = some ((Value.pointer (some ⟨3, (((0 : Int)).toNat * 1), none⟩)), Ax.h0),
    (layT (rows rw_b c8_)).get (((0 : Int)).toNat * 1) = some (Value.bool ((c8_).getD ((0 : Int)).toNat (false))),
    (Value.bool (!((c8_).getD ((0 : Int)).toNat (false)))) = (Value.bool false),
    CG P none (fnN P 4) 0 (codeOf P 4 [false, true, false, true, true, true, true, true]) (S_viewportlaw11GramClosed_1 gT gN gK c6_ ((gN).toNat) c7_ c8_ 0) (X_viewportlaw11GramClosed_1 gT gN gK c6_ ((gN).toNat) c7_ c8_ ()),
    FlatB (.cells (layT (rows rw_b c6_)) 4),
    FlatB (.cells (layT (rows rw_b c7_)) 4),
    FlatB (.cells (layT (rows rw_b c8_)) 4),
    Gv P (.func 10) (A_gramReduced gT gN gK) (H_gramReduced gT gN gK) (V_gramReduced gT gN gK (c14_0, c14_1)) (R_gramReduced gT gN gK (c14_0, c14_1)),
    CG P none (fnN P 4) 0 (codeOf P 4 [false, true, false, true, true, true, true, true, true, true]) (S_viewportlaw11GramClosed_4 gT gN gK c7_ ((gN).toNat) c8_ c14_0 c14_1 0) (X_viewportlaw11GramClosed_4 gT gN gK c7_ ((gN).toNat) c8_ c14_0 c14_1 (.inl ())),
    FlatB (.cells (layT (rows rw_b c7_)) 4),
    FlatB (.cells (layT (rows rw_b c8_)) 4)]) (by kernel_rfl) ⟨(m_viewportlaw11lives_ok n () hc1), (m_viewportkitLightGrammar_ok n gT gN gK c2_ hc2), (vBn hc3), (m_gramCheck_ok n gT gN gK c4_ hc4), (vnF hc5), (m_gramNullable_ok n gT gN gK c6_ hc6), (rows_flat rwf_b _ _), (m_gramProductive_ok n gT gN gK c7_ hc7), (rows_flat rwf_b _ _), (m_gramReachable_ok n gT gN gK c8_ hc8), (rows_flat rwf_b _ _), (vnF hc9), (vnF hc9), (vnF hc9), (ixS (e := 4) (by kernel_rfl) (by kernel_rfl) (hc10).1 (hc10).2), (rows_ld rwf_b (false) (i := ((0 : Int)).toNat) (j := 0) (((0 : Int)).toNat * 1) rfl (hc11) (by decide) rfl), (vBn hc12), (m_viewportlaw11GramClosed_1_ok n gT gN gK c6_ ((gN).toNat) c7_ c8_ 0 () hc13), (rows_flat rwf_b _ _), (rows_flat rwf_b _ _), (rows_flat rwf_b _ _), (m_gramReduced_ok n gT gN gK (c14_0, c14_1) hc14), (m_viewportlaw11GramClosed_4_ok n gT gN gK c7_ ((gN).toNat) c8_ c14_0 c14_1 0 (.inl ()) hc15), (rows_flat rwf_b _ _), (rows_flat rwf_b _ _), trivial⟩
set_option maxRecDepth 100000 in
theorem p_viewportlaw11GramClosed_1 (n : Nat) (gT : Int) (gN : Int) (gK : Int) (hc1 : m_viewportlaw11lives n = some ()) (c2_ : Bool) (hc2 : m_viewportkitLightGrammar n gT gN gK = some c2_) (hc3 : c2_ = true) (c4_ : Int) (hc4 : m_gramCheck n gT gN gK = some c4_) (hc5 : c4_ = (0 : Int)) (c6_ : List (Bool)) (hc6 : m_gramNullable n gT gN gK = some c6_) (c7_ : List (Bool)) (hc7 : m_gramProductive n gT gN gK = some c7_) (c8_ : List (Bool)) (hc8 : m_gramReachable n gT gN gK = some c8_) (hc9 : (((gN).toNat : Nat) : Int) = gN) (hc10 : 0 ≤ (0 : Int) ∧ (0 : Int) < (((gN).toNat : Nat) : Int)) (hc11 : ((0 : Int)).toNat < (c8_).length) (hc12 : ((c8_).getD ((0 : Int)).toNat (false)) = true) (hc13 : m_viewportlaw11GramClosed_1 n gT gN gK c6_ ((gN).toNat) c7_ c8_ 0 = some ()) (c14_0 : Int) (c14_1 : Bool) (hc14 : m_gramReduced n gT gN gK = some (c14_0, c14_1)) (hc15 : m_viewportlaw11GramClosed_4 n gT gN gK c7_ ((gN).toNat) c8_ c14_0 c14_1 0 = some (.inr ())) (hc16 : c14_1 = true) (hc17 : c14_0 = (0 : Int)) : Gv P (.func 4) (A_viewportlaw11GramClosed gT gN gK) (H_viewportlaw11GramClosed gT gN gK) (V_viewportlaw11GramClosed gT gN gK ()) (R_viewportlaw11GramClosed gT gN gK ()) :=
  runF_ok hm (A := aT [(5, .call ⟨0, [], (Value.bool true), Ax.h0, []⟩), (11, .call ⟨0, [], (V_viewportkitLightGrammar gT gN gK c2_), (R_viewportkitLightGrammar gT gN gK c2_), []⟩), (12, .val (.bool false)), (15, .call ⟨0, [], (V_gramCheck gT gN gK c4_), (R_gramCheck gT gN gK c4_), []⟩), (16, .val (.bool false)), (21, .call ⟨0, [], (V_gramNullable gT gN gK c6_), (R_gramNullable gT gN gK c6_), [(1, 0, true)]⟩), (23, .call ⟨0, [], (V_gramProductive gT gN gK c7_), (R_gramProductive gT gN gK c7_), [(2, 0, true)]⟩), (25, .call ⟨0, [], (V_gramReachable gT gN gK c8_), (R_gramReachable gT gN gK c8_), [(3, 0, true)]⟩), (35, .val (.bool false)), (41, .val (.bool false)), (48, .val (.bool false)), (52, .pur (Value.pointer (some ⟨3, (((0 : Int)).toNat * 1), none⟩))), (53, .ld (Value.bool ((c8_).getD ((0 : Int)).toNat (false)))), (54, .val (.bool false)), (64, .call ⟨0, [], (V_gramReduced gT gN gK (c14_0, c14_1)), (R_gramReduced gT gN gK (c14_0, c14_1)), []⟩), (77, .val (.bool true)), (79, .val (.bool true))]) (L := lT [(61, ⟨⟨[1, 3, 4, 5, 6], [(0, 0, false), (1, 1, true), (2, 2, true), (3, 3, true)], 4, 0⟩, (X_viewportlaw11GramClosed_1 gT gN gK c6_ ((gN).toNat) c7_ c8_ ()).1, (X_viewportlaw11GramClosed_1 gT gN gK c6_ ((gN).toNat) c7_ c8_ ()).2⟩), (74, ⟨⟨[1, 4, 5, 13, 14, 15], [(0, 0, false), (1, 1, true), (2, 2, true)], 3, 0⟩, (X_viewportlaw11GramClosed_4 gT gN gK c7_ ((gN).toNat) c8_ c14_0 c14_1 (.inr ())).1, (X_viewportlaw11GramClosed_4 gT gN gK c7_ ((gN).toNat) c8_ c14_0 c14_1 (.inr ())).2⟩)]) (wk := ⟨[2], [], 0, 0⟩)
    (ps := [Gv P (.func 8) [] Ax.h0 (Value.bool true) Ax.h0,
    Gv P (.func 9) (A_viewportkitLightGrammar gT gN gK) (H_viewportkitLightGrammar gT gN gK) (V_viewportkitLightGrammar gT gN gK c2_) (R_viewportkitLightGrammar gT gN gK c2_),
    (Value.bool (!c2_)) = (Value.bool false),
    Gv P (.func 14) (A_gramCheck gT gN gK) (H_gramCheck gT gN gK) (V_gramCheck gT gN gK c4_) (R_gramCheck gT gN gK c4_),
    (Value.bool (c4_ != (0 : Int))) = (Value.bool false),
    Gv P (.func 20) (A_gramNullable gT gN gK) (H_gramNullable gT gN gK) (V_gramNullable gT gN gK c6_) (R_gramNullable gT gN gK c6_),
    FlatB (.cells (layT (rows rw_b c6_)) 4),
    Gv P (.func 22) (A_gramProductive gT gN gK) (H_gramProductive gT gN gK) (V_gramProductive gT gN gK c7_) (R_gramProductive gT gN gK c7_),
    FlatB (.cells (layT (rows rw_b c7_)) 4),
    Gv P (.func 24) (A_gramReachable gT gN gK) (H_gramReachable gT gN gK) (V_gramReachable gT gN gK c8_) (R_gramReachable gT gN gK c8_),
    FlatB (.cells (layT (rows rw_b c8_)) 4),
    (Value.bool ((((gN).toNat : Nat) : Int) != gN)) = (Value.bool false),
    (Value.bool ((((gN).toNat : Nat) : Int) != gN)) = (Value.bool false),
    (Value.bool ((((gN).toNat : Nat) : Int) != gN)) = (Value.bool false),
    opIndexAddr P 35 (Value.slice (some ⟨3, 0, none⟩) (gN).toNat (gN).toNat) (Value.int .i64 (0 : Int)) Ax.h0 = some ((Value.pointer (some ⟨3, (((0 : Int)).toNat * 1), none⟩)), Ax.h0),
    (layT (rows rw_b c8_)).get (((0 : Int)).toNat * 1) = some (Value.bool ((c8_).getD ((0 : Int)).toNat (false))),
    (Value.bool (!((c8_).getD ((0 : Int)).toNat (false)))) = (Value.bool false),
    CG P none (fnN P 4) 0 (codeOf P 4 [false, true, false, true, true, true, true, true]) (S_viewportlaw11GramClosed_1 gT gN gK c6_ ((gN).toNat) c7_ c8_ 0) (X_viewportlaw11GramClosed_1 gT gN gK c6_ ((gN).toNat) c7_ c8_ ()),
    FlatB (.cells (layT (rows rw_b c6_)) 4),
    FlatB (.cells (layT (rows rw_b c7_)) 4),
    FlatB (.cells (layT (rows rw_b c8_)) 4),
    Gv P (.func 10) (A_gramReduced gT gN gK) (H_gramReduced gT gN gK) (V_gramReduced gT gN gK (c14_0, c14_1)) (R_gramReduced gT gN gK (c14_0, c14_1)),
    CG P none (fnN P 4) 0 (codeOf P 4 [false, true, false, true, true, true, true, true, true, true]) (S_viewportlaw11GramClosed_4 gT gN gK c7_ ((gN).toNat) c8_ c14_0 c14_1 0) (X_viewportlaw11GramClosed_4 gT gN gK c7_ ((gN).toNat) c8_ c14_0 c14_1 (.inr ())),
    FlatB (.cells (layT (rows rw_b c7_)) 4),
    FlatB (.cells (layT (rows rw_b c8_)) 4),
    (Value.bool c14_1) = (Value.bool true),
    (Value.bool (c14_0 == (0 : Int))) = (Value.bool true)]) (by kernel_rfl) ⟨(m_viewportlaw11lives_ok n () hc1), (m_viewportkitLightGrammar_ok n gT gN gK c2_ hc2), (vBn hc3), (m_gramCheck_ok n gT gN gK c4_ hc4), (vnF hc5), (m_gramNullable_ok n gT gN gK c6_ hc6), (rows_flat rwf_b _ _), (m_gramProductive_ok n gT gN gK c7_ hc7), (rows_flat rwf_b _ _), (m_gramReachable_ok n gT gN gK c8_ hc8), (rows_flat rwf_b _ _), (vnF hc9), (vnF hc9), (vnF hc9), (ixS (e := 4) (by kernel_rfl) (by kernel_rfl) (hc10).1 (hc10).2), (rows_ld rwf_b (false) (i := ((0 : Int)).toNat) (j := 0) (((0 : Int)).toNat * 1) rfl (hc11) (by decide) rfl), (vBn hc12), (m_viewportlaw11GramClosed_1_ok n gT gN gK c6_ ((gN).toNat) c7_ c8_ 0 () hc13), (rows_flat rwf_b _ _), (rows_flat rwf_b _ _), (rows_flat rwf_b _ _), (m_gramReduced_ok n gT gN gK (c14_0, c14_1) hc14), (m_viewportlaw11GramClosed_4_ok n gT gN gK c7_ ((gN).toNat) c8_ c14_0 c14_1 0 (.inr ()) hc15), (rows_flat rwf_b _ _), (rows_flat rwf_b _ _), (vB hc16), (veT hc17), trivial⟩
set_option maxRecDepth 100000 in
theorem p_viewportlaw11GramClosed_2 (n : Nat) (gT : Int) (gN : Int) (gK : Int) (hc1 : m_viewportlaw11lives n = some ()) (c2_ : Bool) (hc2 : m_viewportkitLightGrammar n gT gN gK = some c2_) (hc3 : c2_ = true) (c4_ : Int) (hc4 : m_gramCheck n gT gN gK = some c4_) (hc5 : ¬ (c4_ = (0 : Int))) : Gv P (.func 4) (A_viewportlaw11GramClosed gT gN gK) (H_viewportlaw11GramClosed gT gN gK) (V_viewportlaw11GramClosed gT gN gK ()) (R_viewportlaw11GramClosed gT gN gK ()) :=
  runF_ok hm (A := aT [(5, .call ⟨0, [], (Value.bool true), Ax.h0, []⟩), (11, .call ⟨0, [], (V_viewportkitLightGrammar gT gN gK c2_), (R_viewportkitLightGrammar gT gN gK c2_), []⟩), (12, .val (.bool false)), (15, .call ⟨0, [], (V_gramCheck gT gN gK c4_), (R_gramCheck gT gN gK c4_), []⟩), (16, .val (.bool true))]) (L := lT []) (wk := ⟨[2], [], 0, 0⟩)
    (ps := [Gv P (.func 8) [] Ax.h0 (Value.bool true) Ax.h0,
    Gv P (.func 9) (A_viewportkitLightGrammar gT gN gK) (H_viewportkitLightGrammar gT gN gK) (V_viewportkitLightGrammar gT gN gK c2_) (R_viewportkitLightGrammar gT gN gK c2_),
    (Value.bool (!c2_)) = (Value.bool false),
    Gv P (.func 14) (A_gramCheck gT gN gK) (H_gramCheck gT gN gK) (V_gramCheck gT gN gK c4_) (R_gramCheck gT gN gK c4_),
    (Value.bool (c4_ != (0 : Int))) = (Value.bool true)]) (by kernel_rfl) ⟨(m_viewportlaw11lives_ok n () hc1), (m_viewportkitLightGrammar_ok n gT gN gK c2_ hc2), (vBn hc3), (m_gramCheck_ok n gT gN gK c4_ hc4), (vnT hc5), trivial⟩
set_option maxRecDepth 100000 in
theorem p_viewportlaw11GramClosed_3 (n : Nat) (gT : Int) (gN : Int) (gK : Int) (hc1 : m_viewportlaw11lives n = some ()) (c2_ : Bool) (hc2 : m_viewportkitLightGrammar n gT gN gK = some c2_) (hc3 : ¬ (c2_ = true)) : Gv P (.func 4) (A_viewportlaw11GramClosed gT gN gK) (H_viewportlaw11GramClosed gT gN gK) (V_viewportlaw11GramClosed gT gN gK ()) (R_viewportlaw11GramClosed gT gN gK ()) :=
  runF_ok hm (A := aT [(5, .call ⟨0, [], (Value.bool true), Ax.h0, []⟩), (11, .call ⟨0, [], (V_viewportkitLightGrammar gT gN gK c2_), (R_viewportkitLightGrammar gT gN gK c2_), []⟩), (12, .val (.bool true))]) (L := lT []) (wk := ⟨[2], [], 0, 0⟩)
    (ps := [Gv P (.func 8) [] Ax.h0 (Value.bool true) Ax.h0,
    Gv P (.func 9) (A_viewportkitLightGrammar gT gN gK) (H_viewportkitLightGrammar gT gN gK) (V_viewportkitLightGrammar gT gN gK c2_) (R_viewportkitLightGrammar gT gN gK c2_),
    (Value.bool (!c2_)) = (Value.bool true)]) (by kernel_rfl) ⟨(m_viewportlaw11lives_ok n () hc1), (m_viewportkitLightGrammar_ok n gT gN gK c2_ hc2), (vBn (Bool.eq_false_iff.2 hc3)), trivial⟩
theorem m_viewportlaw11GramClosed_ok (n : Nat) (gT : Int) (gN : Int) (gK : Int) (r : Unit) (h : m_viewportlaw11GramClosed n gT gN gK = some r) : Gv P (.func 4) (A_viewportlaw11GramClosed gT gN gK) (H_viewportlaw11GramClosed gT gN gK) (V_viewportlaw11GramClosed gT gN gK r) (R_viewportlaw11GramClosed gT gN gK r) := by
  unfold m_viewportlaw11GramClosed at h
  obtain ⟨_, hc1, h⟩ := Option.bind_eq_some_iff.1 h
  obtain ⟨c2_, hc2, h⟩ := Option.bind_eq_some_iff.1 h
  by_cases hc3 : c2_ = true
  · rw [if_pos hc3] at h
    obtain ⟨c4_, hc4, h⟩ := Option.bind_eq_some_iff.1 h
    by_cases hc5 : c4_ = (0 : Int)
    · rw [if_pos hc5] at h
      obtain ⟨c6_, hc6, h⟩ := Option.bind_eq_some_iff.1 h
      obtain ⟨c7_, hc7, h⟩ := Option.bind_eq_some_iff.1 h
      obtain ⟨c8_, hc8, h⟩ := Option.bind_eq_some_iff.1 h
      by_cases hc9 : (((gN).toNat : Nat) : Int) = gN
      · rw [if_pos hc9] at h
        by_cases hc10 : 0 ≤ (0 : Int) ∧ (0 : Int) < (((gN).toNat : Nat) : Int)
        · rw [if_pos hc10] at h
          by_cases hc11 : ((0 : Int)).toNat < (c8_).length
          · rw [if_pos hc11] at h
            by_cases hc12 : ((c8_).getD ((0 : Int)).toNat (false)) = true
            · rw [if_pos hc12] at h
              obtain ⟨_, hc13, h⟩ := Option.bind_eq_some_iff.1 h
              obtain ⟨⟨c14_0, c14_1⟩, hc14, h⟩ := Option.bind_eq_some_iff.1 h
              dsimp only at h
              rcases hc15 : m_viewportlaw11GramClosed_4 n gT gN gK c7_ ((gN).toNat) c8_ c14_0 c14_1 0 with _ | (⟨⟩ | ⟨⟩)
              · rw [hc15] at h; cases h
              · rw [hc15] at h
                dsimp only at h
                obtain rfl := Option.some.inj h; exact p_viewportlaw11GramClosed_0 n gT gN gK hc1 c2_ hc2 hc3 c4_ hc4 hc5 c6_ hc6 c7_ hc7 c8_ hc8 hc9 hc10 hc11 hc12 hc13 c14_0 c14_1 hc14 hc15
              · rw [hc15] at h
                dsimp only at h
                by_cases hc16 : c14_1 = true
                · rw [if_pos hc16] at h
                  by_cases hc17 : c14_0 = (0 : Int)
                  · rw [if_pos hc17] at h
                    obtain rfl := Option.some.inj h; exact p_viewportlaw11GramClosed_1 n gT gN gK hc1 c2_ hc2 hc3 c4_ hc4 hc5 c6_ hc6 c7_ hc7 c8_ hc8 hc9 hc10 hc11 hc12 hc13 c14_0 c14_1 hc14 hc15 hc16 hc17
                  · rw [if_neg hc17] at h
                    cases h
                · rw [if_neg hc16] at h
                  cases h
            · rw [if_neg hc12] at h
              cases h
          · rw [if_neg hc11] at h; cases h
        · rw [if_neg hc10] at h; cases h
      · rw [if_neg hc9] at h
        cases h
    · rw [if_neg hc5] at h
      obtain rfl := Option.some.inj h; exact p_viewportlaw11GramClosed_2 n gT gN gK hc1 c2_ hc2 hc3 c4_ hc4 hc5
  · rw [if_neg hc3] at h
    obtain rfl := Option.some.inj h; exact p_viewportlaw11GramClosed_3 n gT gN gK hc1 c2_ hc2 hc3

end Go.Proofs.Ytpbhdiapgeiopaa.gramw
