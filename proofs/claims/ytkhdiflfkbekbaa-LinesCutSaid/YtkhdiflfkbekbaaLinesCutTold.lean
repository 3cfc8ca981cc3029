/-
  What viewportlaw09.LinesCut, and the functions that it calls, do, told by pure functions. No condition.
-/
import Derived.Test.YtkhdiflfkbekbaaSxG
import Derived.Test.YtkhdiflfkbekbaaTabs0
import Derived.Test.YtkhdiflfkbekbaaProg
import Derived.KernelRfl
set_option linter.unusedSimpArgs false
set_option linter.unusedVariables false
set_option linter.unusedSectionVars false
set_option linter.unnecessarySimpa false
namespace Go.Proofs.Ytkhdiflfkbekbaa.linesCut
open Go Go.Proofs.Ytkhdiflfkbekbaa Ax
noncomputable abbrev P : Program := Try.prog
theorem hm : P.follows .mixedOrders = true := by kernel_rfl
noncomputable def S13_1 (x1_0 : ByteArray) (x1_1 : Int) (x1_3 : Int) (st : List Int × Int) : XSt := match st with
  | (x1_2, x1_4) => (sT 25 [(0, (Value.string x1_0)), (1, (Value.int .i64 x1_1)), (5, (slN x1_2 0)), (8, (Value.int .i64 x1_3)), (9, (Value.int .i64 x1_4))], [], ⟨sB [(0, (nblk x1_2 3))], 1, 0⟩)
noncomputable def X13_1 (x1_0 : ByteArray) (x1_1 : Int) (x1_3 : Int) (r : List Int) : Ex × XSt := match r with
  | z1_0 => (.exit 0, (sT 25 [(5, (slN z1_0 0))], [], ⟨sB [(0, (nblk z1_0 3))], 1, 0⟩))
def B13_1 (n : Nat) (x1_0 : ByteArray) (x1_1 : Int) (x1_3 : Int) (st : List Int × Int) : Option ((List Int × Int) ⊕ (List Int)) := match st with
  | (x1_2, x1_4) =>
    match x1_2 with
    | [] =>
      if x1_4 < x1_3 then
        if 0 ≤ x1_4 ∧ x1_4 < (((x1_0).size : Nat) : Int) then
          if (byteAt x1_0 (x1_4).toNat) = (10 : Int) then
            some (.inl ([(w64 ((w64 (x1_1 + x1_4)) + (1 : Int)))], (w64 (x1_4 + (1 : Int)))))
          else
            some (.inl (([] : List Int), (w64 (x1_4 + (1 : Int)))))
        else none
      else
        some (.inr ([] : List Int))
    | x1_2a :: x1_2t =>
      if x1_4 < x1_3 then
        if 0 ≤ x1_4 ∧ x1_4 < (((x1_0).size : Nat) : Int) then
          if (byteAt x1_0 (x1_4).toNat) = (10 : Int) then
            if (((x1_2a :: x1_2t)).length + 1) * 8 ≤ 140737488355328 then
              some (.inl (((x1_2a :: x1_2t) ++ [(w64 ((w64 (x1_1 + x1_4)) + (1 : Int)))]), (w64 (x1_4 + (1 : Int)))))
            else none
          else
            some (.inl ((x1_2a :: x1_2t), (w64 (x1_4 + (1 : Int)))))
        else none
      else
        some (.inr (x1_2a :: x1_2t))
def m13_1 (n : Nat) (x1_0 : ByteArray) (x1_1 : Int) (x1_3 : Int) (st : List Int × Int) : Option (List Int) := iterM (B13_1 n x1_0 x1_1 x1_3) n st
set_option maxRecDepth 100000 in
theorem q13_1_0 (n : Nat) (x1_0 : ByteArray) (x1_1 : Int) (x1_3 : Int) (x1_4 : Int) (hy1_1 : x1_4 < x1_3) (hy1_2 : 0 ≤ x1_4 ∧ x1_4 < (((x1_0).size : Nat) : Int)) (hy1_3 : (byteAt x1_0 (x1_4).toNat) = (10 : Int)) : CG P none (fnN P 13) 0 (codeOf P 13 [false, false, true, false, true, true]) (S13_1 x1_0 x1_1 x1_3 (([] : List Int), x1_4)) (.normal, S13_1 x1_0 x1_1 x1_3 ([(w64 ((w64 (x1_1 + x1_4)) + (1 : Int)))], (w64 (x1_4 + (1 : Int))))) :=
  runC_ok hm (A := aT [(1, .val (.bool true)), (12, .pur (Value.int .u8 (byteAt x1_0 (x1_4).toNat))), (13, .val (.bool true))]) (L := lT []) (wk := ⟨[0, 1, 5, 8, 9], [(0, 2, false)], 1, 0⟩)
    (ps := [(Value.bool (decide (x1_4 < x1_3))) = (Value.bool true),
    opIndex P 9 (Value.string x1_0) (Value.int .i64 x1_4) Ax.h0 = some ((Value.int .u8 (byteAt x1_0 (x1_4).toNat)), Ax.h0),
    (Value.bool ((byteAt x1_0 (x1_4).toNat) == (10 : Int))) = (Value.bool true)]) (by kernel_rfl) ⟨(vbT hy1_1), (ixStr (by kernel_rfl) hy1_2), (veT hy1_3), trivial⟩
set_option maxRecDepth 100000 in
theorem q13_1_1 (n : Nat) (x1_0 : ByteArray) (x1_1 : Int) (x1_3 : Int) (x1_4 : Int) (hy1_1 : x1_4 < x1_3) (hy1_2 : 0 ≤ x1_4 ∧ x1_4 < (((x1_0).size : Nat) : Int)) (hy1_3 : ¬ ((byteAt x1_0 (x1_4).toNat) = (10 : Int))) : CG P none (fnN P 13) 0 (codeOf P 13 [false, false, true, false, true, true]) (S13_1 x1_0 x1_1 x1_3 (([] : List Int), x1_4)) (.normal, S13_1 x1_0 x1_1 x1_3 (([] : List Int), (w64 (x1_4 + (1 : Int))))) :=
  runC_ok hm (A := aT [(1, .val (.bool true)), (12, .pur (Value.int .u8 (byteAt x1_0 (x1_4).toNat))), (13, .val (.bool false))]) (L := lT []) (wk := ⟨[0, 1, 5, 8, 9], [], 1, 0⟩)
    (ps := [(Value.bool (decide (x1_4 < x1_3))) = (Value.bool true),
    opIndex P 9 (Value.string x1_0) (Value.int .i64 x1_4) Ax.h0 = some ((Value.int .u8 (byteAt x1_0 (x1_4).toNat)), Ax.h0),
    (Value.bool ((byteAt x1_0 (x1_4).toNat) == (10 : Int))) = (Value.bool false)]) (by kernel_rfl) ⟨(vbT hy1_1), (ixStr (by kernel_rfl) hy1_2), (veF hy1_3), trivial⟩
set_option maxRecDepth 100000 in
theorem q13_1_2 (n : Nat) (x1_0 : ByteArray) (x1_1 : Int) (x1_3 : Int) (x1_4 : Int) (hy1_1 : ¬ (x1_4 < x1_3)) : CG P none (fnN P 13) 0 (codeOf P 13 [false, false, true, false, true, true]) (S13_1 x1_0 x1_1 x1_3 (([] : List Int), x1_4)) (X13_1 x1_0 x1_1 x1_3 ([] : List Int)) :=
  runC_ok hm (A := aT [(1, .val (.bool false))]) (L := lT []) (wk := ⟨[5], [], 1, 0⟩)
    (ps := [(Value.bool (decide (x1_4 < x1_3))) = (Value.bool false)]) (by kernel_rfl) ⟨(vbF hy1_1), trivial⟩
set_option maxRecDepth 100000 in
theorem q13_1_3 (n : Nat) (x1_0 : ByteArray) (x1_1 : Int) (x1_2a : Int) (x1_2t : List Int) (x1_3 : Int) (x1_4 : Int) (hy1_1 : x1_4 < x1_3) (hy1_2 : 0 ≤ x1_4 ∧ x1_4 < (((x1_0).size : Nat) : Int)) (hy1_3 : (byteAt x1_0 (x1_4).toNat) = (10 : Int)) (hy1_4 : (((x1_2a :: x1_2t)).length + 1) * 8 ≤ 140737488355328) : CG P none (fnN P 13) 0 (codeOf P 13 [false, false, true, false, true, true]) (S13_1 x1_0 x1_1 x1_3 ((x1_2a :: x1_2t), x1_4)) (.normal, S13_1 x1_0 x1_1 x1_3 (((x1_2a :: x1_2t) ++ [(w64 ((w64 (x1_1 + x1_4)) + (1 : Int)))]), (w64 (x1_4 + (1 : Int))))) :=
  runC_ok hm (A := aT [(1, .val (.bool true)), (12, .pur (Value.int .u8 (byteAt x1_0 (x1_4).toNat))), (13, .val (.bool true)), (21, .app ⟨none, iv (x1_2a :: x1_2t), iv ((x1_2a :: x1_2t) ++ [(w64 ((w64 (x1_1 + x1_4)) + (1 : Int)))]), (((x1_2a :: x1_2t) ++ [(w64 ((w64 (x1_1 + x1_4)) + (1 : Int)))])).length, false⟩)]) (L := lT []) (wk := ⟨[0, 1, 5, 8, 9], [(0, 2, true)], 1, 0⟩)
    (ps := [(Value.bool (decide (x1_4 < x1_3))) = (Value.bool true),
    opIndex P 9 (Value.string x1_0) (Value.int .i64 x1_4) Ax.h0 = some ((Value.int .u8 (byteAt x1_0 (x1_4).toNat)), Ax.h0),
    (Value.bool ((byteAt x1_0 (x1_4).toNat) == (10 : Int))) = (Value.bool true),
    0 < 1,
    rdT (layT (iv (x1_2a :: x1_2t))) (Nat.mul ((x1_2a :: x1_2t)).length 1) 0 = some (iv (x1_2a :: x1_2t)),
    fits (Nat.add ((x1_2a :: x1_2t)).length 1) 8 = true,
    allCells [(Value.int .i64 (w64 ((w64 (x1_1 + x1_4)) + (1 : Int))))] = true,
    allCells (iv (x1_2a :: x1_2t)) = true,
    iv (x1_2a :: x1_2t) ++ [(Value.int .i64 (w64 ((w64 (x1_1 + x1_4)) + (1 : Int))))] = iv ((x1_2a :: x1_2t) ++ [(w64 ((w64 (x1_1 + x1_4)) + (1 : Int)))]),
    Nat.add ((x1_2a :: x1_2t)).length 1 = (((x1_2a :: x1_2t) ++ [(w64 ((w64 (x1_1 + x1_4)) + (1 : Int)))])).length,
    FlatB (.cells (layT (iv ((x1_2a :: x1_2t) ++ [(w64 ((w64 (x1_1 + x1_4)) + (1 : Int)))]))) 3)]) (by kernel_rfl) ⟨(vbT hy1_1), (ixStr (by kernel_rfl) hy1_2), (veT hy1_3), ((by decide)), (iv_rd _), (fits_ok hy1_4 (by have := hy1_4; show (_ : Nat) + _ ≤ _; omega)), (rfl), (iv_cells _), (by simp [iv]), (by simp), (iv_flat _ _), trivial⟩
set_option maxRecDepth 100000 in
theorem q13_1_4 (n : Nat) (x1_0 : ByteArray) (x1_1 : Int) (x1_2a : Int) (x1_2t : List Int) (x1_3 : Int) (x1_4 : Int) (hy1_1 : x1_4 < x1_3) (hy1_2 : 0 ≤ x1_4 ∧ x1_4 < (((x1_0).size : Nat) : Int)) (hy1_3 : ¬ ((byteAt x1_0 (x1_4).toNat) = (10 : Int))) : CG P none (fnN P 13) 0 (codeOf P 13 [false, false, true, false, true, true]) (S13_1 x1_0 x1_1 x1_3 ((x1_2a :: x1_2t), x1_4)) (.normal, S13_1 x1_0 x1_1 x1_3 ((x1_2a :: x1_2t), (w64 (x1_4 + (1 : Int))))) :=
  runC_ok hm (A := aT [(1, .val (.bool true)), (12, .pur (Value.int .u8 (byteAt x1_0 (x1_4).toNat))), (13, .val (.bool false))]) (L := lT []) (wk := ⟨[0, 1, 5, 8, 9], [(0, 0, true)], 1, 0⟩)
    (ps := [(Value.bool (decide (x1_4 < x1_3))) = (Value.bool true),
    opIndex P 9 (Value.string x1_0) (Value.int .i64 x1_4) Ax.h0 = some ((Value.int .u8 (byteAt x1_0 (x1_4).toNat)), Ax.h0),
    (Value.bool ((byteAt x1_0 (x1_4).toNat) == (10 : Int))) = (Value.bool false),
    FlatB (.cells (layT (iv (x1_2a :: x1_2t))) 3)]) (by kernel_rfl) ⟨(vbT hy1_1), (ixStr (by kernel_rfl) hy1_2), (veF hy1_3), (iv_flat _ _), trivial⟩
set_option maxRecDepth 100000 in
theorem q13_1_5 (n : Nat) (x1_0 : ByteArray) (x1_1 : Int) (x1_2a : Int) (x1_2t : List Int) (x1_3 : Int) (x1_4 : Int) (hy1_1 : ¬ (x1_4 < x1_3)) : CG P none (fnN P 13) 0 (codeOf P 13 [false, false, true, false, true, true]) (S13_1 x1_0 x1_1 x1_3 ((x1_2a :: x1_2t), x1_4)) (X13_1 x1_0 x1_1 x1_3 (x1_2a :: x1_2t)) :=
  runC_ok hm (A := aT [(1, .val (.bool false))]) (L := lT []) (wk := ⟨[5], [(0, 0, true)], 1, 0⟩)
    (ps := [(Value.bool (decide (x1_4 < x1_3))) = (Value.bool false),
    FlatB (.cells (layT (iv (x1_2a :: x1_2t))) 3)]) (by kernel_rfl) ⟨(vbF hy1_1), (iv_flat _ _), trivial⟩
theorem m13_1_ok (n : Nat) (x1_0 : ByteArray) (x1_1 : Int) (x1_3 : Int) (st : List Int × Int) (r : List Int) (h : m13_1 n x1_0 x1_1 x1_3 st = some r) : CG P none (fnN P 13) 0 (codeOf P 13 [false, true, false, true, true]) (S13_1 x1_0 x1_1 x1_3 st) (X13_1 x1_0 x1_1 x1_3 r) :=
  CG.iter (b := codeOf P 13 [false, false, true, false, true, true]) (by kernel_rfl) (body := B13_1 n x1_0 x1_1 x1_3) (S := S13_1 x1_0 x1_1 x1_3) (X := X13_1 x1_0 x1_1 x1_3)
    (fun s s' h => by
    obtain ⟨x1_2, x1_4⟩ := s
    unfold B13_1 at h
    dsimp only at h
    cases x1_2 with
    | nil =>
      dsimp only at h
      by_cases hy1_1 : x1_4 < x1_3
      · rw [if_pos hy1_1] at h
        by_cases hy1_2 : 0 ≤ x1_4 ∧ x1_4 < (((x1_0).size : Nat) : Int)
        · rw [if_pos hy1_2] at h
          by_cases hy1_3 : (byteAt x1_0 (x1_4).toNat) = (10 : Int)
          · rw [if_pos hy1_3] at h
            obtain rfl := Sum.inl.inj (Option.some.inj h); exact q13_1_0 n x1_0 x1_1 x1_3 x1_4 hy1_1 hy1_2 hy1_3
          · rw [if_neg hy1_3] at h
            obtain rfl := Sum.inl.inj (Option.some.inj h); exact q13_1_1 n x1_0 x1_1 x1_3 x1_4 hy1_1 hy1_2 hy1_3
        · rw [if_neg hy1_2] at h; cases h
      · rw [if_neg hy1_1] at h
        cases h
    | cons x1_2a x1_2t =>
      dsimp only at h
      by_cases hy1_1 : x1_4 < x1_3
      · rw [if_pos hy1_1] at h
        by_cases hy1_2 : 0 ≤ x1_4 ∧ x1_4 < (((x1_0).size : Nat) : Int)
        · rw [if_pos hy1_2] at h
          by_cases hy1_3 : (byteAt x1_0 (x1_4).toNat) = (10 : Int)
          · rw [if_pos hy1_3] at h
            by_cases hy1_4 : (((x1_2a :: x1_2t)).length + 1) * 8 ≤ 140737488355328
            · rw [if_pos hy1_4] at h
              obtain rfl := Sum.inl.inj (Option.some.inj h); exact q13_1_3 n x1_0 x1_1 x1_2a x1_2t x1_3 x1_4 hy1_1 hy1_2 hy1_3 hy1_4
            · rw [if_neg hy1_4] at h; cases h
          · rw [if_neg hy1_3] at h
            obtain rfl := Sum.inl.inj (Option.some.inj h); exact q13_1_4 n x1_0 x1_1 x1_2a x1_2t x1_3 x1_4 hy1_1 hy1_2 hy1_3
        · rw [if_neg hy1_2] at h; cases h
      · rw [if_neg hy1_1] at h
        cases h)
    (fun s r h => by
    obtain ⟨x1_2, x1_4⟩ := s
    unfold B13_1 at h
    dsimp only at h
    cases x1_2 with
    | nil =>
      dsimp only at h
      by_cases hy1_1 : x1_4 < x1_3
      · rw [if_pos hy1_1] at h
        by_cases hy1_2 : 0 ≤ x1_4 ∧ x1_4 < (((x1_0).size : Nat) : Int)
        · rw [if_pos hy1_2] at h
          by_cases hy1_3 : (byteAt x1_0 (x1_4).toNat) = (10 : Int)
          · rw [if_pos hy1_3] at h
            cases h
          · rw [if_neg hy1_3] at h
            cases h
        · rw [if_neg hy1_2] at h; cases h
      · rw [if_neg hy1_1] at h
        obtain rfl := Sum.inr.inj (Option.some.inj h); exact q13_1_2 n x1_0 x1_1 x1_3 x1_4 hy1_1
    | cons x1_2a x1_2t =>
      dsimp only at h
      by_cases hy1_1 : x1_4 < x1_3
      · rw [if_pos hy1_1] at h
        by_cases hy1_2 : 0 ≤ x1_4 ∧ x1_4 < (((x1_0).size : Nat) : Int)
        · rw [if_pos hy1_2] at h
          by_cases hy1_3 : (byteAt x1_0 (x1_4).toNat) = (10 : Int)
          · rw [if_pos hy1_3] at h
            by_cases hy1_4 : (((x1_2a :: x1_2t)).length + 1) * 8 ≤ 140737488355328
            · rw [if_pos hy1_4] at h
              cases h
            · rw [if_neg hy1_4] at h; cases h
          · rw [if_neg hy1_3] at h
            cases h
        · rw [if_neg hy1_2] at h; cases h
      · rw [if_neg hy1_1] at h
        obtain rfl := Sum.inr.inj (Option.some.inj h); exact q13_1_5 n x1_0 x1_1 x1_2a x1_2t x1_3 x1_4 hy1_1)
    (fun r => by intro hx; cases hx) h
noncomputable def A13 (a0 : ByteArray) (a1 : Int) : List Value := [(Value.string a0), (Value.int .i64 a1)]
noncomputable def H13 (a0 : ByteArray) (a1 : Int) : AH := ⟨sB [], 0, 0⟩
noncomputable def V13 (a0 : ByteArray) (a1 : Int) (r : List Int) : Value := match r with
  | o0 => (slN o0 0)
noncomputable def R13 (a0 : ByteArray) (a1 : Int) (r : List Int) : AH := match r with
  | o0 => ⟨sB [(0, (nblk o0 3))], 1, 0⟩
def m13 (n : Nat) (a0 : ByteArray) (a1 : Int) : Option (List Int) :=
  (m13_1 n a0 a1 (((a0).size : Nat) : Int) (([] : List Int), 0)).bind fun c1_ =>
  match c1_ with
  | [] =>
    some ([] : List Int)
  | c1_a :: c1_t =>
    some (c1_a :: c1_t)
set_option maxRecDepth 100000 in
theorem p13_0 (n : Nat) (a0 : ByteArray) (a1 : Int) (hc1 : m13_1 n a0 a1 (((a0).size : Nat) : Int) (([] : List Int), 0) = some []) : Gv P (.func 13) (A13 a0 a1) (H13 a0 a1) (V13 a0 a1 ([] : List Int)) (R13 a0 a1 ([] : List Int)) :=
  runF_ok hm (A := aT []) (L := lT [(10, ⟨⟨[0, 1, 5, 8, 9], [], 1, 0⟩, (X13_1 a0 a1 (((a0).size : Nat) : Int) ([] : List Int)).1, (X13_1 a0 a1 (((a0).size : Nat) : Int) ([] : List Int)).2⟩)]) (wk := ⟨[4], [], 1, 0⟩)
    (ps := [CG P none (fnN P 13) 0 (codeOf P 13 [false, true, false, true, true]) (S13_1 a0 a1 (((a0).size : Nat) : Int) (([] : List Int), 0)) (X13_1 a0 a1 (((a0).size : Nat) : Int) ([] : List Int))]) (by kernel_rfl) ⟨(m13_1_ok n a0 a1 (((a0).size : Nat) : Int) (([] : List Int), 0) ([] : List Int) hc1), trivial⟩
set_option maxRecDepth 100000 in
theorem p13_1 (n : Nat) (a0 : ByteArray) (a1 : Int) (c1_a : Int) (c1_t : List Int) (hc1 : m13_1 n a0 a1 (((a0).size : Nat) : Int) (([] : List Int), 0) = some (c1_a :: c1_t)) : Gv P (.func 13) (A13 a0 a1) (H13 a0 a1) (V13 a0 a1 (c1_a :: c1_t)) (R13 a0 a1 (c1_a :: c1_t)) :=
  runF_ok hm (A := aT []) (L := lT [(10, ⟨⟨[0, 1, 5, 8, 9], [], 1, 0⟩, (X13_1 a0 a1 (((a0).size : Nat) : Int) (c1_a :: c1_t)).1, (X13_1 a0 a1 (((a0).size : Nat) : Int) (c1_a :: c1_t)).2⟩)]) (wk := ⟨[4], [(0, 0, true)], 1, 0⟩)
    (ps := [CG P none (fnN P 13) 0 (codeOf P 13 [false, true, false, true, true]) (S13_1 a0 a1 (((a0).size : Nat) : Int) (([] : List Int), 0)) (X13_1 a0 a1 (((a0).size : Nat) : Int) (c1_a :: c1_t)),
    FlatB (.cells (layT (iv (c1_a :: c1_t))) 3)]) (by kernel_rfl) ⟨(m13_1_ok n a0 a1 (((a0).size : Nat) : Int) (([] : List Int), 0) (c1_a :: c1_t) hc1), (iv_flat _ _), trivial⟩
theorem m13_ok (n : Nat) (a0 : ByteArray) (a1 : Int) (r : List Int) (h : m13 n a0 a1 = some r) : Gv P (.func 13) (A13 a0 a1) (H13 a0 a1) (V13 a0 a1 r) (R13 a0 a1 r) := by
  unfold m13 at h
  obtain ⟨c1_, hc1, h⟩ := Option.bind_eq_some_iff.1 h
  cases c1_ with
  | nil =>
    dsimp only at h
    obtain rfl := Option.some.inj h; exact p13_0 n a0 a1 hc1
  | cons c1_a c1_t =>
    dsimp only at h
    obtain rfl := Option.some.inj h; exact p13_1 n a0 a1 c1_a c1_t hc1

noncomputable def A14 (L : List Int) (cap : Nat) (sz : Int) : List Value := [(Value.pointer (some ⟨0, 0, none⟩))]
noncomputable def H14 (L : List Int) (cap : Nat) (sz : Int) : AH := ⟨sB [(0, (some (.cells (layT [(Value.pointer (some ⟨0, 0, none⟩)), (Value.slice (some ⟨1, 0, none⟩) (L).length cap), (Value.int .i64 sz)]) 41))), (1, (some (.cells (layT (iv L)) 3)))], 2, 2⟩
noncomputable def V14 (L : List Int) (cap : Nat) (sz : Int) (r : Unit) : Value := match r with
  | _ => (Value.bool true)
noncomputable def R14 (L : List Int) (cap : Nat) (sz : Int) (r : Unit) : AH := match r with
  | _ => ⟨sB [], 2, 2⟩
def m14 (n : Nat) (L : List Int) (cap : Nat) (sz : Int) : Option (Unit) :=
  some ()
set_option maxRecDepth 100000 in
theorem p14_0 (n : Nat) (L : List Int) (cap : Nat) (sz : Int) : Gv P (.func 14) (A14 L cap sz) (H14 L cap sz) (V14 L cap sz ()) (R14 L cap sz ()) :=
  runF_ok hm (A := aT []) (L := lT []) (wk := ⟨[2], [], 2, 2⟩)
    (ps := []) (by kernel_rfl) trivial
theorem m14_ok (n : Nat) (L : List Int) (cap : Nat) (sz : Int) (r : Unit) (h : m14 n L cap sz = some r) : Gv P (.func 14) (A14 L cap sz) (H14 L cap sz) (V14 L cap sz r) (R14 L cap sz r) := by
  unfold m14 at h
  obtain rfl := Option.some.inj h; exact p14_0 n L cap sz

noncomputable def A9 (L : List Int) (cap : Nat) (sz : Int) : List Value := [(Value.pointer (some ⟨0, 0, none⟩))]
noncomputable def H9 (L : List Int) (cap : Nat) (sz : Int) : AH := ⟨sB [(0, (some (.cells (layT [(Value.pointer (some ⟨0, 0, none⟩)), (Value.slice (some ⟨1, 0, none⟩) (L).length cap), (Value.int .i64 sz)]) 41))), (1, (some (.cells (layT (iv L)) 3)))], 2, 2⟩
noncomputable def V9 (L : List Int) (cap : Nat) (sz : Int) (r : Unit) : Value := match r with
  | _ => (Value.int .i64 (((L).length : Nat) : Int))
noncomputable def R9 (L : List Int) (cap : Nat) (sz : Int) (r : Unit) : AH := match r with
  | _ => ⟨sB [], 2, 2⟩
def m9 (n : Nat) (L : List Int) (cap : Nat) (sz : Int) : Option (Unit) :=
  (m14 n L cap sz).bind fun _ =>
  some ()
set_option maxRecDepth 100000 in
theorem p9_0 (n : Nat) (L : List Int) (cap : Nat) (sz : Int) (hc1 : m14 n L cap sz = some ()) : Gv P (.func 9) (A9 L cap sz) (H9 L cap sz) (V9 L cap sz ()) (R9 L cap sz ()) :=
  runF_ok hm (A := aT [(5, .call ⟨2, [(0, 0, false), (1, 1, true)], (V14 L cap sz ()), (R14 L cap sz ()), []⟩)]) (L := lT []) (wk := ⟨[2], [], 2, 2⟩)
    (ps := [Gv P (.func 14) (A14 L cap sz) (H14 L cap sz) (V14 L cap sz ()) (R14 L cap sz ()),
    FlatB (.cells (layT (iv L)) 3)]) (by kernel_rfl) ⟨(m14_ok n L cap sz () hc1), (iv_flat _ _), trivial⟩
theorem m9_ok (n : Nat) (L : List Int) (cap : Nat) (sz : Int) (r : Unit) (h : m9 n L cap sz = some r) : Gv P (.func 9) (A9 L cap sz) (H9 L cap sz) (V9 L cap sz r) (R9 L cap sz r) := by
  unfold m9 at h
  obtain ⟨_, hc1, h⟩ := Option.bind_eq_some_iff.1 h
  obtain rfl := Option.some.inj h; exact p9_0 n L cap sz hc1

noncomputable def A6 (L : List Int) (cap : Nat) (sz : Int) : List Value := [(Value.pointer (some ⟨0, 0, none⟩))]
noncomputable def H6 (L : List Int) (cap : Nat) (sz : Int) : AH := ⟨sB [(0, (some (.cells (layT [(Value.pointer (some ⟨0, 0, none⟩)), (Value.slice (some ⟨1, 0, none⟩) (L).length cap), (Value.int .i64 sz)]) 41))), (1, (some (.cells (layT (iv L)) 3)))], 2, 2⟩
noncomputable def V6 (L : List Int) (cap : Nat) (sz : Int) (r : Unit) : Value := match r with
  | _ => (Value.int .i64 sz)
noncomputable def R6 (L : List Int) (cap : Nat) (sz : Int) (r : Unit) : AH := match r with
  | _ => ⟨sB [], 2, 2⟩
def m6 (n : Nat) (L : List Int) (cap : Nat) (sz : Int) : Option (Unit) :=
  (m14 n L cap sz).bind fun _ =>
  some ()
set_option maxRecDepth 100000 in
theorem p6_0 (n : Nat) (L : List Int) (cap : Nat) (sz : Int) (hc1 : m14 n L cap sz = some ()) : Gv P (.func 6) (A6 L cap sz) (H6 L cap sz) (V6 L cap sz ()) (R6 L cap sz ()) :=
  runF_ok hm (A := aT [(5, .call ⟨2, [(0, 0, false), (1, 1, true)], (V14 L cap sz ()), (R14 L cap sz ()), []⟩)]) (L := lT []) (wk := ⟨[2], [], 2, 2⟩)
    (ps := [Gv P (.func 14) (A14 L cap sz) (H14 L cap sz) (V14 L cap sz ()) (R14 L cap sz ()),
    FlatB (.cells (layT (iv L)) 3)]) (by kernel_rfl) ⟨(m14_ok n L cap sz () hc1), (iv_flat _ _), trivial⟩
theorem m6_ok (n : Nat) (L : List Int) (cap : Nat) (sz : Int) (r : Unit) (h : m6 n L cap sz = some r) : Gv P (.func 6) (A6 L cap sz) (H6 L cap sz) (V6 L cap sz r) (R6 L cap sz r) := by
  unfold m6 at h
  obtain ⟨_, hc1, h⟩ := Option.bind_eq_some_iff.1 h
  obtain rfl := Option.some.inj h; exact p6_0 n L cap sz hc1

noncomputable def A8 (L : List Int) (cap : Nat) (sz : Int) (line : Int) : List Value := [(Value.pointer (some ⟨0, 0, none⟩)), (Value.int .i64 line)]
noncomputable def H8 (L : List Int) (cap : Nat) (sz : Int) (line : Int) : AH := ⟨sB [(0, (some (.cells (layT [(Value.pointer (some ⟨0, 0, none⟩)), (Value.slice (some ⟨1, 0, none⟩) (L).length cap), (Value.int .i64 sz)]) 41))), (1, (some (.cells (layT (iv L)) 3)))], 2, 2⟩
noncomputable def V8 (L : List Int) (cap : Nat) (sz : Int) (line : Int) (r : Int × Bool) : Value := match r with
  | (o0, o1) => (Value.tuple #[(Value.int .i64 o0), (Value.bool o1)])
noncomputable def R8 (L : List Int) (cap : Nat) (sz : Int) (line : Int) (r : Int × Bool) : AH := match r with
  | (o0, o1) => ⟨sB [], 2, 2⟩
def m8 (n : Nat) (L : List Int) (cap : Nat) (sz : Int) (line : Int) : Option (Int × Bool) :=
  (m14 n L cap sz).bind fun _ =>
  if line < (0 : Int) then
    some (0, false)
  else
    if line ≥ (((L).length : Nat) : Int) then
      some (0, false)
    else
      if 0 ≤ line ∧ line < (((L).length : Nat) : Int) then
        some (((L).getD (line).toNat 0), true)
      else none
set_option maxRecDepth 100000 in
theorem p8_0 (n : Nat) (L : List Int) (cap : Nat) (sz : Int) (line : Int) (hc1 : m14 n L cap sz = some ()) (hc2 : line < (0 : Int)) : Gv P (.func 8) (A8 L cap sz line) (H8 L cap sz line) (V8 L cap sz line (0, false)) (R8 L cap sz line (0, false)) :=
  runF_ok hm (A := aT [(6, .call ⟨2, [(0, 0, false), (1, 1, true)], (V14 L cap sz ()), (R14 L cap sz ()), []⟩), (10, .val (.bool true))]) (L := lT []) (wk := ⟨[4, 5], [], 2, 2⟩)
    (ps := [Gv P (.func 14) (A14 L cap sz) (H14 L cap sz) (V14 L cap sz ()) (R14 L cap sz ()),
    FlatB (.cells (layT (iv L)) 3),
    (Value.bool (decide (line < (0 : Int)))) = (Value.bool true)]) (by kernel_rfl) ⟨(m14_ok n L cap sz () hc1), (iv_flat _ _), (vbT hc2), trivial⟩
set_option maxRecDepth 100000 in
theorem p8_1 (n : Nat) (L : List Int) (cap : Nat) (sz : Int) (line : Int) (hc1 : m14 n L cap sz = some ()) (hc2 : ¬ (line < (0 : Int))) (hc3 : line ≥ (((L).length : Nat) : Int)) : Gv P (.func 8) (A8 L cap sz line) (H8 L cap sz line) (V8 L cap sz line (0, false)) (R8 L cap sz line (0, false)) :=
  runF_ok hm (A := aT [(6, .call ⟨2, [(0, 0, false), (1, 1, true)], (V14 L cap sz ()), (R14 L cap sz ()), []⟩), (10, .val (.bool false)), (19, .val (.bool true))]) (L := lT []) (wk := ⟨[4, 5], [], 2, 2⟩)
    (ps := [Gv P (.func 14) (A14 L cap sz) (H14 L cap sz) (V14 L cap sz ()) (R14 L cap sz ()),
    FlatB (.cells (layT (iv L)) 3),
    (Value.bool (decide (line < (0 : Int)))) = (Value.bool false),
    (Value.bool (decide (line ≥ (((L).length : Nat) : Int)))) = (Value.bool true)]) (by kernel_rfl) ⟨(m14_ok n L cap sz () hc1), (iv_flat _ _), (vbF hc2), (vbT hc3), trivial⟩
set_option maxRecDepth 100000 in
theorem p8_2 (n : Nat) (L : List Int) (cap : Nat) (sz : Int) (line : Int) (hc1 : m14 n L cap sz = some ()) (hc2 : ¬ (line < (0 : Int))) (hc3 : ¬ (line ≥ (((L).length : Nat) : Int))) (hc4 : 0 ≤ line ∧ line < (((L).length : Nat) : Int)) : Gv P (.func 8) (A8 L cap sz line) (H8 L cap sz line) (V8 L cap sz line (((L).getD (line).toNat 0), true)) (R8 L cap sz line (((L).getD (line).toNat 0), true)) :=
  runF_ok hm (A := aT [(6, .call ⟨2, [(0, 0, false), (1, 1, true)], (V14 L cap sz ()), (R14 L cap sz ()), []⟩), (10, .val (.bool false)), (19, .val (.bool false)), (28, .pur (Value.pointer (some ⟨1, (line).toNat, none⟩))), (29, .ld (Value.int .i64 ((L).getD (line).toNat 0)))]) (L := lT []) (wk := ⟨[4, 5], [], 2, 2⟩)
    (ps := [Gv P (.func 14) (A14 L cap sz) (H14 L cap sz) (V14 L cap sz ()) (R14 L cap sz ()),
    FlatB (.cells (layT (iv L)) 3),
    (Value.bool (decide (line < (0 : Int)))) = (Value.bool false),
    (Value.bool (decide (line ≥ (((L).length : Nat) : Int)))) = (Value.bool false),
    opIndexAddr P 28 (Value.slice (some ⟨1, 0, none⟩) (L).length cap) (Value.int .i64 line) Ax.h0 = some ((Value.pointer (some ⟨1, (line).toNat, none⟩)), Ax.h0),
    (layT (iv L)).get (line).toNat = some (Value.int .i64 ((L).getD (line).toNat 0))]) (by kernel_rfl) ⟨(m14_ok n L cap sz () hc1), (iv_flat _ _), (vbF hc2), (vbF hc3), (ixS1 (e := 3) (by kernel_rfl) (by kernel_rfl) hc4), (iv_ld _ _ (toNatLt hc4)), trivial⟩
theorem m8_ok (n : Nat) (L : List Int) (cap : Nat) (sz : Int) (line : Int) (r : Int × Bool) (h : m8 n L cap sz line = some r) : Gv P (.func 8) (A8 L cap sz line) (H8 L cap sz line) (V8 L cap sz line r) (R8 L cap sz line r) := by
  unfold m8 at h
  obtain ⟨_, hc1, h⟩ := Option.bind_eq_some_iff.1 h
  by_cases hc2 : line < (0 : Int)
  · rw [if_pos hc2] at h
    obtain rfl := Option.some.inj h; exact p8_0 n L cap sz line hc1 hc2
  · rw [if_neg hc2] at h
    by_cases hc3 : line ≥ (((L).length : Nat) : Int)
    · rw [if_pos hc3] at h
      obtain rfl := Option.some.inj h; exact p8_1 n L cap sz line hc1 hc2 hc3
    · rw [if_neg hc3] at h
      by_cases hc4 : 0 ≤ line ∧ line < (((L).length : Nat) : Int)
      · rw [if_pos hc4] at h
        obtain rfl := Option.some.inj h; exact p8_2 n L cap sz line hc1 hc2 hc3 hc4
      · rw [if_neg hc4] at h; cases h

noncomputable def A15 (L : List Int) (cap : Nat) : List Value := [(Value.slice (some ⟨0, 0, none⟩) (L).length cap)]
noncomputable def H15 (L : List Int) (cap : Nat) : AH := ⟨sB [(0, (some (.cells (layT (iv L)) 3)))], 1, 1⟩
noncomputable def V15 (L : List Int) (cap : Nat) (r : List Int × Nat) : Value := match r with
  | (o0, o1) => (Value.slice (some ⟨1, 0, none⟩) (o0).length o1)
noncomputable def R15 (L : List Int) (cap : Nat) (r : List Int × Nat) : AH := match r with
  | (o0, o1) => ⟨sB [(1, (some (.cells (layT (iv o0)) 3)))], 2, 1⟩
def m15 (n : Nat) (L : List Int) (cap : Nat) : Option (List Int × Nat) :=
  if 0 < (L).length then
    if (0 + (L).length) * 8 ≤ 140737488355328 then
      if 0 < 0 + (L).length then
        some ((([] : List Int) ++ L), (Nat.add big 1))
      else none
    else none
  else none
set_option maxRecDepth 100000 in
theorem p15_0 (n : Nat) (L : List Int) (cap : Nat) (hc1 : 0 < (L).length) (hc2 : (0 + (L).length) * 8 ≤ 140737488355328) (hc3 : 0 < 0 + (L).length) : Gv P (.func 15) (A15 L cap) (H15 L cap) (V15 L cap ((([] : List Int) ++ L), (Nat.add big 1))) (R15 L cap ((([] : List Int) ++ L), (Nat.add big 1))) :=
  runF_ok hm (A := aT [(10, .app ⟨some ((L).length, iv L), ([] : List Value), iv (([] : List Int) ++ L), ((([] : List Int) ++ L)).length, true⟩)]) (L := lT []) (wk := ⟨[2], [(1, 2, true)], 2, 1⟩)
    (ps := [(L).length = (L).length,
    rdT (layT (iv L)) (Nat.mul (L).length 1) 0 = some (iv L),
    0 < (L).length,
    0 < big,
    0 < Nat.add 0 (L).length,
    rdT (layT ([] : List Value)) (Nat.mul 0 1) 0 = some (([] : List Value)),
    fits (Nat.add 0 (L).length) 8 = true,
    ([] : List Value) ++ (iv L) = iv (([] : List Int) ++ L),
    Nat.add 0 (L).length = ((([] : List Int) ++ L)).length,
    FlatB (.cells (layT (iv (([] : List Int) ++ L))) 3)]) (by kernel_rfl) ⟨(rfl), (iv_rd _), (hc1), ((by decide)), (hc3), (rfl), (fits_ok hc2 (by have := hc2; show (_ : Nat) + _ ≤ _; omega)), (by simp [iv]), (by simp <;> omega), (iv_flat _ _), trivial⟩
theorem m15_ok (n : Nat) (L : List Int) (cap : Nat) (r : List Int × Nat) (h : m15 n L cap = some r) : Gv P (.func 15) (A15 L cap) (H15 L cap) (V15 L cap r) (R15 L cap r) := by
  unfold m15 at h
  by_cases hc1 : 0 < (L).length
  · rw [if_pos hc1] at h
    by_cases hc2 : (0 + (L).length) * 8 ≤ 140737488355328
    · rw [if_pos hc2] at h
      by_cases hc3 : 0 < 0 + (L).length
      · rw [if_pos hc3] at h
        obtain rfl := Option.some.inj h; exact p15_0 n L cap hc1 hc2 hc3
      · rw [if_neg hc3] at h; cases h
    · rw [if_neg hc2] at h; cases h
  · rw [if_neg hc1] at h; cases h

noncomputable def A7 (L : List Int) (cap : Nat) (sz : Int) : List Value := [(Value.pointer (some ⟨0, 0, none⟩))]
noncomputable def H7 (L : List Int) (cap : Nat) (sz : Int) : AH := ⟨sB [(0, (some (.cells (layT [(Value.pointer (some ⟨0, 0, none⟩)), (Value.slice (some ⟨1, 0, none⟩) (L).length cap), (Value.int .i64 sz)]) 41))), (1, (some (.cells (layT (iv L)) 3)))], 2, 2⟩
noncomputable def V7 (L : List Int) (cap : Nat) (sz : Int) (r : List Int × Nat) : Value := match r with
  | (o0, o1) => (Value.slice (some ⟨2, 0, none⟩) (o0).length o1)
noncomputable def R7 (L : List Int) (cap : Nat) (sz : Int) (r : List Int × Nat) : AH := match r with
  | (o0, o1) => ⟨sB [(2, (some (.cells (layT (iv o0)) 3)))], 3, 2⟩
def m7 (n : Nat) (L : List Int) (cap : Nat) (sz : Int) : Option (List Int × Nat) :=
  (m14 n L cap sz).bind fun _ =>
  (m15 n L cap).bind fun t => match t with
  | (c2_0, c2_1) =>
    some (c2_0, c2_1)
set_option maxRecDepth 100000 in
theorem p7_0 (n : Nat) (L : List Int) (cap : Nat) (sz : Int) (hc1 : m14 n L cap sz = some ()) (c2_0 : List Int) (c2_1 : Nat) (hc2 : m15 n L cap = some (c2_0, c2_1)) : Gv P (.func 7) (A7 L cap sz) (H7 L cap sz) (V7 L cap sz (c2_0, c2_1)) (R7 L cap sz (c2_0, c2_1)) :=
  runF_ok hm (A := aT [(5, .call ⟨2, [(0, 0, false), (1, 1, true)], (V14 L cap sz ()), (R14 L cap sz ()), []⟩), (13, .call ⟨1, [(0, 1, true)], (V15 L cap (c2_0, c2_1)), (R15 L cap (c2_0, c2_1)), [(2, 1, true)]⟩)]) (L := lT []) (wk := ⟨[2], [(2, 2, true)], 3, 2⟩)
    (ps := [Gv P (.func 14) (A14 L cap sz) (H14 L cap sz) (V14 L cap sz ()) (R14 L cap sz ()),
    FlatB (.cells (layT (iv L)) 3),
    Gv P (.func 15) (A15 L cap) (H15 L cap) (V15 L cap (c2_0, c2_1)) (R15 L cap (c2_0, c2_1)),
    FlatB (.cells (layT (iv L)) 3),
    FlatB (.cells (layT (iv c2_0)) 3),
    FlatB (.cells (layT (iv c2_0)) 3)]) (by kernel_rfl) ⟨(m14_ok n L cap sz () hc1), (iv_flat _ _), (m15_ok n L cap (c2_0, c2_1) hc2), (iv_flat _ _), (iv_flat _ _), (iv_flat _ _), trivial⟩
theorem m7_ok (n : Nat) (L : List Int) (cap : Nat) (sz : Int) (r : List Int × Nat) (h : m7 n L cap sz = some r) : Gv P (.func 7) (A7 L cap sz) (H7 L cap sz) (V7 L cap sz r) (R7 L cap sz r) := by
  unfold m7 at h
  obtain ⟨_, hc1, h⟩ := Option.bind_eq_some_iff.1 h
  obtain ⟨⟨c2_0, c2_1⟩, hc2, h⟩ := Option.bind_eq_some_iff.1 h
  dsimp only at h
  obtain rfl := Option.some.inj h; exact p7_0 n L cap sz hc1 c2_0 c2_1 hc2

noncomputable def A5 (s : ByteArray) : List Value := [(Value.string s)]
noncomputable def H5 (s : ByteArray) : AH := ⟨sB [], 0, 0⟩
noncomputable def V5 (s : ByteArray) (r : List Int × Nat) : Value := match r with
  | (o0, o1) => (Value.tuple #[(Value.pointer (some ⟨0, 0, none⟩)), (Value.int .i64 (0 : Int))])
noncomputable def R5 (s : ByteArray) (r : List Int × Nat) : AH := match r with
  | (o0, o1) => ⟨sB [(0, (some (.cells (layT [(Value.pointer (some ⟨0, 0, none⟩)), (Value.slice (some ⟨1, 0, none⟩) (o0).length o1), (Value.int .i64 (((s).size : Nat) : Int))]) 41))), (1, (some (.cells (layT (iv o0)) 3)))], 2, 0⟩
def m5 (n : Nat) (s : ByteArray) : Option (List Int × Nat) :=
  if (((s).size : Nat) : Int) > (65536 : Int) then
    none
  else
    (m13 n s 0).bind fun c2_ =>
    match c2_ with
    | [] =>
      some ([(0 : Int)], 1)
    | c2_a :: c2_t =>
      if (1 + ((c2_a :: c2_t)).length) * 8 ≤ 140737488355328 then
        if 1 < 1 + ((c2_a :: c2_t)).length then
          some (([(0 : Int)] ++ (c2_a :: c2_t)), (Nat.add big 1))
        else none
      else none
set_option maxRecDepth 100000 in
theorem p5_0 (n : Nat) (s : ByteArray) (hc1 : ¬ ((((s).size : Nat) : Int) > (65536 : Int))) (hc2 : m13 n s 0 = some []) : Gv P (.func 5) (A5 s) (H5 s) (V5 s ([(0 : Int)], 1)) (R5 s ([(0 : Int)], 1)) :=
  runF_ok hm (A := aT [(7, .val (.bool false)), (12, .call ⟨0, [], (V13 s 0 ([] : List Int)), (R13 s 0 ([] : List Int)), []⟩)]) (L := lT []) (wk := ⟨[2, 3], [(0, 2, false), (1, 0, false)], 2, 0⟩)
    (ps := [(Value.bool (decide ((((s).size : Nat) : Int) > (65536 : Int)))) = (Value.bool false),
    Gv P (.func 13) (A13 s 0) (H13 s 0) (V13 s 0 ([] : List Int)) (R13 s 0 ([] : List Int))]) (by kernel_rfl) ⟨(vbF hc1), (m13_ok n s 0 ([] : List Int) hc2), trivial⟩
set_option maxRecDepth 100000 in
theorem p5_1 (n : Nat) (s : ByteArray) (hc1 : ¬ ((((s).size : Nat) : Int) > (65536 : Int))) (c2_a : Int) (c2_t : List Int) (hc2 : m13 n s 0 = some (c2_a :: c2_t)) (hc3 : (1 + ((c2_a :: c2_t)).length) * 8 ≤ 140737488355328) (hc4 : 1 < 1 + ((c2_a :: c2_t)).length) : Gv P (.func 5) (A5 s) (H5 s) (V5 s (([(0 : Int)] ++ (c2_a :: c2_t)), (Nat.add big 1))) (R5 s (([(0 : Int)] ++ (c2_a :: c2_t)), (Nat.add big 1))) :=
  runF_ok hm (A := aT [(7, .val (.bool false)), (12, .call ⟨0, [], (V13 s 0 (c2_a :: c2_t)), (R13 s 0 (c2_a :: c2_t)), [(1, 0, true)]⟩), (13, .app ⟨some (((c2_a :: c2_t)).length, iv (c2_a :: c2_t)), [(Value.int .i64 (0 : Int))], iv ([(0 : Int)] ++ (c2_a :: c2_t)), (([(0 : Int)] ++ (c2_a :: c2_t))).length, true⟩)]) (L := lT []) (wk := ⟨[2, 3], [(0, 3, false), (1, 2, true)], 2, 0⟩)
    (ps := [(Value.bool (decide ((((s).size : Nat) : Int) > (65536 : Int)))) = (Value.bool false),
    Gv P (.func 13) (A13 s 0) (H13 s 0) (V13 s 0 (c2_a :: c2_t)) (R13 s 0 (c2_a :: c2_t)),
    FlatB (.cells (layT (iv (c2_a :: c2_t))) 3),
    ((c2_a :: c2_t)).length = ((c2_a :: c2_t)).length,
    rdT (layT (iv (c2_a :: c2_t))) (Nat.mul ((c2_a :: c2_t)).length 1) 0 = some (iv (c2_a :: c2_t)),
    0 < ((c2_a :: c2_t)).length,
    1 < big,
    1 < Nat.add 1 ((c2_a :: c2_t)).length,
    rdT (layT [(Value.int .i64 (0 : Int))]) (Nat.mul 1 1) 0 = some ([(Value.int .i64 (0 : Int))]),
    fits (Nat.add 1 ((c2_a :: c2_t)).length) 8 = true,
    [(Value.int .i64 (0 : Int))] ++ (iv (c2_a :: c2_t)) = iv ([(0 : Int)] ++ (c2_a :: c2_t)),
    Nat.add 1 ((c2_a :: c2_t)).length = (([(0 : Int)] ++ (c2_a :: c2_t))).length,
    FlatB (.cells (layT (iv ([(0 : Int)] ++ (c2_a :: c2_t)))) 3)]) (by kernel_rfl) ⟨(vbF hc1), (m13_ok n s 0 (c2_a :: c2_t) hc2), (iv_flat _ _), (rfl), (iv_rd _), ((Nat.succ_pos _)), ((by decide)), (hc4), (rfl), (fits_ok hc3 (by have := hc3; show (_ : Nat) + _ ≤ _; omega)), (by simp [iv]), (by simp <;> omega), (iv_flat _ _), trivial⟩
theorem m5_ok (n : Nat) (s : ByteArray) (r : List Int × Nat) (h : m5 n s = some r) : Gv P (.func 5) (A5 s) (H5 s) (V5 s r) (R5 s r) := by
  unfold m5 at h
  by_cases hc1 : (((s).size : Nat) : Int) > (65536 : Int)
  · rw [if_pos hc1] at h
    cases h
  · rw [if_neg hc1] at h
    obtain ⟨c2_, hc2, h⟩ := Option.bind_eq_some_iff.1 h
    cases c2_ with
    | nil =>
      dsimp only at h
      obtain rfl := Option.some.inj h; exact p5_0 n s hc1 hc2
    | cons c2_a c2_t =>
      dsimp only at h
      by_cases hc3 : (1 + ((c2_a :: c2_t)).length) * 8 ≤ 140737488355328
      · rw [if_pos hc3] at h
        by_cases hc4 : 1 < 1 + ((c2_a :: c2_t)).length
        · rw [if_pos hc4] at h
          obtain rfl := Option.some.inj h; exact p5_1 n s hc1 c2_a c2_t hc2 hc3 hc4
        · rw [if_neg hc4] at h; cases h
      · rw [if_neg hc3] at h; cases h

def m4 (n : Nat) : Option Unit := some ()
set_option maxRecDepth 1000000 in
theorem m4_run : Ax.isTrue (Ax.callP P (.func 4) [] Ax.h0) = true := by kernel_rfl
theorem m4_ok (n : Nat) (r : Unit) (h : m4 n = some r) : Gv P (.func 4) [] Ax.h0 (Value.bool true) Ax.h0 := Gv.ofTrue hm m4_run

noncomputable def S3_2 (x2_0 : ByteArray) (x2_1 : List Int) (x2_2 : Nat) (x2_3 : Int) (x2_4 : List Int) (x2_5 : Nat) (x2_6 : ByteArray) (x2_7 : Int) (x2_8 : ByteArray) (st : Int) : XSt := match st with
  | x2_9 => (sT 127 [(0, (Value.string x2_0)), (3, (Value.pointer (some ⟨0, 0, none⟩))), (5, (Value.slice (some ⟨2, 0, none⟩) (x2_4).length x2_5)), (6, (Value.string x2_6)), (7, (Value.int .i64 x2_7)), (11, (Value.string x2_8)), (12, (Value.int .i64 x2_9))], [], ⟨sB [(0, (some (.cells (layT [(Value.pointer (some ⟨0, 0, none⟩)), (Value.slice (some ⟨1, 0, none⟩) (x2_1).length x2_2), (Value.int .i64 x2_3)]) 41))), (1, (some (.cells (layT (iv x2_1)) 3))), (2, (some (.cells (layT (iv x2_4)) 3)))], 3, 0⟩)
noncomputable def X3_2 (x2_0 : ByteArray) (x2_1 : List Int) (x2_2 : Nat) (x2_3 : Int) (x2_4 : List Int) (x2_5 : Nat) (x2_6 : ByteArray) (x2_7 : Int) (x2_8 : ByteArray) (r : Unit) : Ex × XSt := match r with
  | _ => (.exit 2, (sT 127 [(0, (Value.string x2_0)), (3, (Value.pointer (some ⟨0, 0, none⟩))), (5, (Value.slice (some ⟨2, 0, none⟩) (x2_4).length x2_5)), (6, (Value.string x2_6)), (7, (Value.int .i64 x2_7)), (11, (Value.string x2_8))], [], ⟨sB [(0, (some (.cells (layT [(Value.pointer (some ⟨0, 0, none⟩)), (Value.slice (some ⟨1, 0, none⟩) (x2_1).length x2_2), (Value.int .i64 x2_3)]) 41))), (1, (some (.cells (layT (iv x2_1)) 3))), (2, (some (.cells (layT (iv x2_4)) 3)))], 3, 0⟩))
def B3_2 (n : Nat) (x2_0 : ByteArray) (x2_1 : List Int) (x2_2 : Nat) (x2_3 : Int) (x2_4 : List Int) (x2_5 : Nat) (x2_6 : ByteArray) (x2_7 : Int) (x2_8 : ByteArray) (st : Int) : Option ((Int) ⊕ (Unit)) := match st with
  | x2_9 =>
    if x2_9 < (((x2_8).size : Nat) : Int) then
      if 0 ≤ x2_9 ∧ x2_9 < (((x2_8).size : Nat) : Int) then
        if (byteAt x2_8 (x2_9).toNat) = (10 : Int) then
          if (w64 (x2_7 + (1 : Int))) < (((x2_4).length : Nat) : Int) then
            if x2_9 = (w64 ((((x2_8).size : Nat) : Int) - (1 : Int))) then
              some (.inl (w64 (x2_9 + (1 : Int))))
            else
              none
          else
            none
        else
          if (w64 (x2_7 + (1 : Int))) < (((x2_4).length : Nat) : Int) then
            if x2_9 = (w64 ((((x2_8).size : Nat) : Int) - (1 : Int))) then
              none
            else
              some (.inl (w64 (x2_9 + (1 : Int))))
          else
            some (.inl (w64 (x2_9 + (1 : Int))))
      else none
    else
      some (.inr ())
def m3_2 (n : Nat) (x2_0 : ByteArray) (x2_1 : List Int) (x2_2 : Nat) (x2_3 : Int) (x2_4 : List Int) (x2_5 : Nat) (x2_6 : ByteArray) (x2_7 : Int) (x2_8 : ByteArray) (st : Int) : Option (Unit) := iterM (B3_2 n x2_0 x2_1 x2_2 x2_3 x2_4 x2_5 x2_6 x2_7 x2_8) n st
set_option maxRecDepth 100000 in
theorem q3_2_0 (n : Nat) (x2_0 : ByteArray) (x2_1 : List Int) (x2_2 : Nat) (x2_3 : Int) (x2_4 : List Int) (x2_5 : Nat) (x2_6 : ByteArray) (x2_7 : Int) (x2_8 : ByteArray) (x2_9 : Int) (hy2_1 : x2_9 < (((x2_8).size : Nat) : Int)) (hy2_2 : 0 ≤ x2_9 ∧ x2_9 < (((x2_8).size : Nat) : Int)) (hy2_3 : (byteAt x2_8 (x2_9).toNat) = (10 : Int)) (hy2_4 : (w64 (x2_7 + (1 : Int))) < (((x2_4).length : Nat) : Int)) (hy2_5 : x2_9 = (w64 ((((x2_8).size : Nat) : Int) - (1 : Int)))) : CG P none (fnN P 3) 0 (codeOf P 3 [false, false, true, false, true, true, true, true, true, false, false, true, false, false, true, false, true, true, true, true, true, true, true]) (S3_2 x2_0 x2_1 x2_2 x2_3 x2_4 x2_5 x2_6 x2_7 x2_8 x2_9) (.normal, S3_2 x2_0 x2_1 x2_2 x2_3 x2_4 x2_5 x2_6 x2_7 x2_8 (w64 (x2_9 + (1 : Int)))) :=
  runC_ok hm (A := aT [(5, .val (.bool true)), (12, .pur (Value.int .u8 (byteAt x2_8 (x2_9).toNat))), (13, .val (.bool true)), (18, .val (.bool true)), (24, .val (.bool true))]) (L := lT []) (wk := ⟨[0, 3, 5, 6, 7, 11, 12], [(0, 0, false), (1, 1, true), (2, 2, true)], 3, 0⟩)
    (ps := [(Value.bool (decide (x2_9 < (((x2_8).size : Nat) : Int)))) = (Value.bool true),
    opIndex P 9 (Value.string x2_8) (Value.int .i64 x2_9) Ax.h0 = some ((Value.int .u8 (byteAt x2_8 (x2_9).toNat)), Ax.h0),
    (Value.bool ((byteAt x2_8 (x2_9).toNat) == (10 : Int))) = (Value.bool true),
    (Value.bool (decide ((w64 (x2_7 + (1 : Int))) < (((x2_4).length : Nat) : Int)))) = (Value.bool true),
    (Value.bool (x2_9 == (w64 ((((x2_8).size : Nat) : Int) - (1 : Int))))) = (Value.bool true),
    FlatB (.cells (layT (iv x2_1)) 3),
    FlatB (.cells (layT (iv x2_4)) 3)]) (by kernel_rfl) ⟨(vbT hy2_1), (ixStr (by kernel_rfl) hy2_2), (veT hy2_3), (vbT hy2_4), (veT hy2_5), (iv_flat _ _), (iv_flat _ _), trivial⟩
set_option maxRecDepth 100000 in
theorem q3_2_1 (n : Nat) (x2_0 : ByteArray) (x2_1 : List Int) (x2_2 : Nat) (x2_3 : Int) (x2_4 : List Int) (x2_5 : Nat) (x2_6 : ByteArray) (x2_7 : Int) (x2_8 : ByteArray) (x2_9 : Int) (hy2_1 : x2_9 < (((x2_8).size : Nat) : Int)) (hy2_2 : 0 ≤ x2_9 ∧ x2_9 < (((x2_8).size : Nat) : Int)) (hy2_3 : ¬ ((byteAt x2_8 (x2_9).toNat) = (10 : Int))) (hy2_4 : (w64 (x2_7 + (1 : Int))) < (((x2_4).length : Nat) : Int)) (hy2_5 : ¬ (x2_9 = (w64 ((((x2_8).size : Nat) : Int) - (1 : Int))))) : CG P none (fnN P 3) 0 (codeOf P 3 [false, false, true, false, true, true, true, true, true, false, false, true, false, false, true, false, true, true, true, true, true, true, true]) (S3_2 x2_0 x2_1 x2_2 x2_3 x2_4 x2_5 x2_6 x2_7 x2_8 x2_9) (.normal, S3_2 x2_0 x2_1 x2_2 x2_3 x2_4 x2_5 x2_6 x2_7 x2_8 (w64 (x2_9 + (1 : Int)))) :=
  runC_ok hm (A := aT [(5, .val (.bool true)), (12, .pur (Value.int .u8 (byteAt x2_8 (x2_9).toNat))), (13, .val (.bool false)), (18, .val (.bool true)), (24, .val (.bool false))]) (L := lT []) (wk := ⟨[0, 3, 5, 6, 7, 11, 12], [(0, 0, false), (1, 1, true), (2, 2, true)], 3, 0⟩)
    (ps := [(Value.bool (decide (x2_9 < (((x2_8).size : Nat) : Int)))) = (Value.bool true),
    opIndex P 9 (Value.string x2_8) (Value.int .i64 x2_9) Ax.h0 = some ((Value.int .u8 (byteAt x2_8 (x2_9).toNat)), Ax.h0),
    (Value.bool ((byteAt x2_8 (x2_9).toNat) == (10 : Int))) = (Value.bool false),
    (Value.bool (decide ((w64 (x2_7 + (1 : Int))) < (((x2_4).length : Nat) : Int)))) = (Value.bool true),
    (Value.bool (x2_9 == (w64 ((((x2_8).size : Nat) : Int) - (1 : Int))))) = (Value.bool false),
    FlatB (.cells (layT (iv x2_1)) 3),
    FlatB (.cells (layT (iv x2_4)) 3)]) (by kernel_rfl) ⟨(vbT hy2_1), (ixStr (by kernel_rfl) hy2_2), (veF hy2_3), (vbT hy2_4), (veF hy2_5), (iv_flat _ _), (iv_flat _ _), trivial⟩
set_option maxRecDepth 100000 in
theorem q3_2_2 (n : Nat) (x2_0 : ByteArray) (x2_1 : List Int) (x2_2 : Nat) (x2_3 : Int) (x2_4 : List Int) (x2_5 : Nat) (x2_6 : ByteArray) (x2_7 : Int) (x2_8 : ByteArray) (x2_9 : Int) (hy2_1 : x2_9 < (((x2_8).size : Nat) : Int)) (hy2_2 : 0 ≤ x2_9 ∧ x2_9 < (((x2_8).size : Nat) : Int)) (hy2_3 : ¬ ((byteAt x2_8 (x2_9).toNat) = (10 : Int))) (hy2_4 : ¬ ((w64 (x2_7 + (1 : Int))) < (((x2_4).length : Nat) : Int))) : CG P none (fnN P 3) 0 (codeOf P 3 [false, false, true, false, true, true, true, true, true, false, false, true, false, false, true, false, true, true, true, true, true, true, true]) (S3_2 x2_0 x2_1 x2_2 x2_3 x2_4 x2_5 x2_6 x2_7 x2_8 x2_9) (.normal, S3_2 x2_0 x2_1 x2_2 x2_3 x2_4 x2_5 x2_6 x2_7 x2_8 (w64 (x2_9 + (1 : Int)))) :=
  runC_ok hm (A := aT [(5, .val (.bool true)), (12, .pur (Value.int .u8 (byteAt x2_8 (x2_9).toNat))), (13, .val (.bool false)), (18, .val (.bool false))]) (L := lT []) (wk := ⟨[0, 3, 5, 6, 7, 11, 12], [(0, 0, false), (1, 1, true), (2, 2, true)], 3, 0⟩)
    (ps := [(Value.bool (decide (x2_9 < (((x2_8).size : Nat) : Int)))) = (Value.bool true),
    opIndex P 9 (Value.string x2_8) (Value.int .i64 x2_9) Ax.h0 = some ((Value.int .u8 (byteAt x2_8 (x2_9).toNat)), Ax.h0),
    (Value.bool ((byteAt x2_8 (x2_9).toNat) == (10 : Int))) = (Value.bool false),
    (Value.bool (decide ((w64 (x2_7 + (1 : Int))) < (((x2_4).length : Nat) : Int)))) = (Value.bool false),
    FlatB (.cells (layT (iv x2_1)) 3),
    FlatB (.cells (layT (iv x2_4)) 3)]) (by kernel_rfl) ⟨(vbT hy2_1), (ixStr (by kernel_rfl) hy2_2), (veF hy2_3), (vbF hy2_4), (iv_flat _ _), (iv_flat _ _), trivial⟩
set_option maxRecDepth 100000 in
theorem q3_2_3 (n : Nat) (x2_0 : ByteArray) (x2_1 : List Int) (x2_2 : Nat) (x2_3 : Int) (x2_4 : List Int) (x2_5 : Nat) (x2_6 : ByteArray) (x2_7 : Int) (x2_8 : ByteArray) (x2_9 : Int) (hy2_1 : ¬ (x2_9 < (((x2_8).size : Nat) : Int))) : CG P none (fnN P 3) 0 (codeOf P 3 [false, false, true, false, true, true, true, true, true, false, false, true, false, false, true, false, true, true, true, true, true, true, true]) (S3_2 x2_0 x2_1 x2_2 x2_3 x2_4 x2_5 x2_6 x2_7 x2_8 x2_9) (X3_2 x2_0 x2_1 x2_2 x2_3 x2_4 x2_5 x2_6 x2_7 x2_8 ()) :=
  runC_ok hm (A := aT [(5, .val (.bool false))]) (L := lT []) (wk := ⟨[0, 3, 5, 6, 7, 11], [(0, 0, false), (1, 1, true), (2, 2, true)], 3, 0⟩)
    (ps := [(Value.bool (decide (x2_9 < (((x2_8).size : Nat) : Int)))) = (Value.bool false),
    FlatB (.cells (layT (iv x2_1)) 3),
    FlatB (.cells (layT (iv x2_4)) 3)]) (by kernel_rfl) ⟨(vbF hy2_1), (iv_flat _ _), (iv_flat _ _), trivial⟩
theorem m3_2_ok (n : Nat) (x2_0 : ByteArray) (x2_1 : List Int) (x2_2 : Nat) (x2_3 : Int) (x2_4 : List Int) (x2_5 : Nat) (x2_6 : ByteArray) (x2_7 : Int) (x2_8 : ByteArray) (st : Int) (r : Unit) (h : m3_2 n x2_0 x2_1 x2_2 x2_3 x2_4 x2_5 x2_6 x2_7 x2_8 st = some r) : CG P none (fnN P 3) 0 (codeOf P 3 [false, true, false, true, true, true, true, true, false, false, true, false, false, true, false, true, true, true, true, true, true, true]) (S3_2 x2_0 x2_1 x2_2 x2_3 x2_4 x2_5 x2_6 x2_7 x2_8 st) (X3_2 x2_0 x2_1 x2_2 x2_3 x2_4 x2_5 x2_6 x2_7 x2_8 r) :=
  CG.iter (b := codeOf P 3 [false, false, true, false, true, true, true, true, true, false, false, true, false, false, true, false, true, true, true, true, true, true, true]) (by kernel_rfl) (body := B3_2 n x2_0 x2_1 x2_2 x2_3 x2_4 x2_5 x2_6 x2_7 x2_8) (S := S3_2 x2_0 x2_1 x2_2 x2_3 x2_4 x2_5 x2_6 x2_7 x2_8) (X := X3_2 x2_0 x2_1 x2_2 x2_3 x2_4 x2_5 x2_6 x2_7 x2_8)
    (fun x2_9 s' h => by
    unfold B3_2 at h
    dsimp only at h
    by_cases hy2_1 : x2_9 < (((x2_8).size : Nat) : Int)
    · rw [if_pos hy2_1] at h
      by_cases hy2_2 : 0 ≤ x2_9 ∧ x2_9 < (((x2_8).size : Nat) : Int)
      · rw [if_pos hy2_2] at h
        by_cases hy2_3 : (byteAt x2_8 (x2_9).toNat) = (10 : Int)
        · rw [if_pos hy2_3] at h
          by_cases hy2_4 : (w64 (x2_7 + (1 : Int))) < (((x2_4).length : Nat) : Int)
          · rw [if_pos hy2_4] at h
            by_cases hy2_5 : x2_9 = (w64 ((((x2_8).size : Nat) : Int) - (1 : Int)))
            · rw [if_pos hy2_5] at h
              obtain rfl := Sum.inl.inj (Option.some.inj h); exact q3_2_0 n x2_0 x2_1 x2_2 x2_3 x2_4 x2_5 x2_6 x2_7 x2_8 x2_9 hy2_1 hy2_2 hy2_3 hy2_4 hy2_5
            · rw [if_neg hy2_5] at h
              cases h
          · rw [if_neg hy2_4] at h
            cases h
        · rw [if_neg hy2_3] at h
          by_cases hy2_4 : (w64 (x2_7 + (1 : Int))) < (((x2_4).length : Nat) : Int)
          · rw [if_pos hy2_4] at h
            by_cases hy2_5 : x2_9 = (w64 ((((x2_8).size : Nat) : Int) - (1 : Int)))
            · rw [if_pos hy2_5] at h
              cases h
            · rw [if_neg hy2_5] at h
              obtain rfl := Sum.inl.inj (Option.some.inj h); exact q3_2_1 n x2_0 x2_1 x2_2 x2_3 x2_4 x2_5 x2_6 x2_7 x2_8 x2_9 hy2_1 hy2_2 hy2_3 hy2_4 hy2_5
          · rw [if_neg hy2_4] at h
            obtain rfl := Sum.inl.inj (Option.some.inj h); exact q3_2_2 n x2_0 x2_1 x2_2 x2_3 x2_4 x2_5 x2_6 x2_7 x2_8 x2_9 hy2_1 hy2_2 hy2_3 hy2_4
      · rw [if_neg hy2_2] at h; cases h
    · rw [if_neg hy2_1] at h
      cases h)
    (fun x2_9 r h => by
    unfold B3_2 at h
    dsimp only at h
    by_cases hy2_1 : x2_9 < (((x2_8).size : Nat) : Int)
    · rw [if_pos hy2_1] at h
      by_cases hy2_2 : 0 ≤ x2_9 ∧ x2_9 < (((x2_8).size : Nat) : Int)
      · rw [if_pos hy2_2] at h
        by_cases hy2_3 : (byteAt x2_8 (x2_9).toNat) = (10 : Int)
        · rw [if_pos hy2_3] at h
          by_cases hy2_4 : (w64 (x2_7 + (1 : Int))) < (((x2_4).length : Nat) : Int)
          · rw [if_pos hy2_4] at h
            by_cases hy2_5 : x2_9 = (w64 ((((x2_8).size : Nat) : Int) - (1 : Int)))
            · rw [if_pos hy2_5] at h
              cases h
            · rw [if_neg hy2_5] at h
              cases h
          · rw [if_neg hy2_4] at h
            cases h
        · rw [if_neg hy2_3] at h
          by_cases hy2_4 : (w64 (x2_7 + (1 : Int))) < (((x2_4).length : Nat) : Int)
          · rw [if_pos hy2_4] at h
            by_cases hy2_5 : x2_9 = (w64 ((((x2_8).size : Nat) : Int) - (1 : Int)))
            · rw [if_pos hy2_5] at h
              cases h
            · rw [if_neg hy2_5] at h
              cases h
          · rw [if_neg hy2_4] at h
            cases h
      · rw [if_neg hy2_2] at h; cases h
    · rw [if_neg hy2_1] at h
      obtain rfl := Sum.inr.inj (Option.some.inj h); exact q3_2_3 n x2_0 x2_1 x2_2 x2_3 x2_4 x2_5 x2_6 x2_7 x2_8 x2_9 hy2_1)
    (fun r => by intro hx; cases hx) h
noncomputable def S3_1 (x1_0 : ByteArray) (x1_1 : List Int) (x1_2 : Nat) (x1_3 : Int) (x1_4 : List Int) (x1_5 : Nat) (st : ByteArray × Int) : XSt := match st with
  | (x1_6, x1_7) => (sT 127 [(0, (Value.string x1_0)), (3, (Value.pointer (some ⟨0, 0, none⟩))), (5, (Value.slice (some ⟨2, 0, none⟩) (x1_4).length x1_5)), (6, (Value.string x1_6)), (7, (Value.int .i64 x1_7))], [], ⟨sB [(0, (some (.cells (layT [(Value.pointer (some ⟨0, 0, none⟩)), (Value.slice (some ⟨1, 0, none⟩) (x1_1).length x1_2), (Value.int .i64 x1_3)]) 41))), (1, (some (.cells (layT (iv x1_1)) 3))), (2, (some (.cells (layT (iv x1_4)) 3)))], 3, 0⟩)
noncomputable def X3_1 (x1_0 : ByteArray) (x1_1 : List Int) (x1_2 : Nat) (x1_3 : Int) (x1_4 : List Int) (x1_5 : Nat) (r : ByteArray) : Ex × XSt := match r with
  | z1_0 => (.exit 0, (sT 127 [(0, (Value.string x1_0)), (3, (Value.pointer (some ⟨0, 0, none⟩))), (5, (Value.slice (some ⟨2, 0, none⟩) (x1_4).length x1_5)), (6, (Value.string z1_0))], [], ⟨sB [(0, (some (.cells (layT [(Value.pointer (some ⟨0, 0, none⟩)), (Value.slice (some ⟨1, 0, none⟩) (x1_1).length x1_2), (Value.int .i64 x1_3)]) 41))), (1, (some (.cells (layT (iv x1_1)) 3))), (2, (some (.cells (layT (iv x1_4)) 3)))], 3, 0⟩))
def B3_1 (n : Nat) (x1_0 : ByteArray) (x1_1 : List Int) (x1_2 : Nat) (x1_3 : Int) (x1_4 : List Int) (x1_5 : Nat) (st : ByteArray × Int) : Option ((ByteArray × Int) ⊕ (ByteArray)) := match st with
  | (x1_6, x1_7) =>
    if x1_7 < (((x1_4).length : Nat) : Int) then
      if (w64 (x1_7 + (1 : Int))) < (((x1_4).length : Nat) : Int) then
        if 0 ≤ (w64 (x1_7 + (1 : Int))) ∧ (w64 (x1_7 + (1 : Int))) < (((x1_4).length : Nat) : Int) then
          (m8 n x1_1 x1_2 x1_3 x1_7).bind fun t => match t with
          | (y1_4_0, y1_4_1) =>
            if y1_4_1 = true then
              if 0 ≤ x1_7 ∧ x1_7 < (((x1_4).length : Nat) : Int) then
                if y1_4_0 = ((x1_4).getD (x1_7).toNat 0) then
                  if y1_4_0 < (0 : Int) then
                    none
                  else
                    if y1_4_0 > ((x1_4).getD ((w64 (x1_7 + (1 : Int)))).toNat 0) then
                      none
                    else
                      if ((x1_4).getD ((w64 (x1_7 + (1 : Int)))).toNat 0) > (((x1_0).size : Nat) : Int) then
                        none
                      else
                        if 0 ≤ y1_4_0 ∧ y1_4_0 ≤ ((x1_4).getD ((w64 (x1_7 + (1 : Int)))).toNat 0) ∧ ((x1_4).getD ((w64 (x1_7 + (1 : Int)))).toNat 0) ≤ (((x1_0).size : Nat) : Int) then
                          (m3_2 n x1_0 x1_1 x1_2 x1_3 x1_4 x1_5 x1_6 x1_7 (ByteArray.extract x1_0 (y1_4_0).toNat (((x1_4).getD ((w64 (x1_7 + (1 : Int)))).toNat 0)).toNat) 0).bind fun _ =>
                          if (x1_6).size + ((ByteArray.extract x1_0 (y1_4_0).toNat (((x1_4).getD ((w64 (x1_7 + (1 : Int)))).toNat 0)).toNat)).size < 9223372036854775808 then
                            some (.inl ((x1_6 ++ (ByteArray.extract x1_0 (y1_4_0).toNat (((x1_4).getD ((w64 (x1_7 + (1 : Int)))).toNat 0)).toNat)), (w64 (x1_7 + (1 : Int)))))
                          else none
                        else none
                else
                  none
              else none
            else
              none
        else none
      else
        (m8 n x1_1 x1_2 x1_3 x1_7).bind fun t => match t with
        | (y1_3_0, y1_3_1) =>
          if y1_3_1 = true then
            if 0 ≤ x1_7 ∧ x1_7 < (((x1_4).length : Nat) : Int) then
              if y1_3_0 = ((x1_4).getD (x1_7).toNat 0) then
                if y1_3_0 < (0 : Int) then
                  none
                else
                  if y1_3_0 > (((x1_0).size : Nat) : Int) then
                    none
                  else
                    if (((x1_0).size : Nat) : Int) > (((x1_0).size : Nat) : Int) then
                      none
                    else
                      if 0 ≤ y1_3_0 ∧ y1_3_0 ≤ (((x1_0).size : Nat) : Int) ∧ (((x1_0).size : Nat) : Int) ≤ (((x1_0).size : Nat) : Int) then
                        (m3_2 n x1_0 x1_1 x1_2 x1_3 x1_4 x1_5 x1_6 x1_7 (ByteArray.extract x1_0 (y1_3_0).toNat ((((x1_0).size : Nat) : Int)).toNat) 0).bind fun _ =>
                        if (x1_6).size + ((ByteArray.extract x1_0 (y1_3_0).toNat ((((x1_0).size : Nat) : Int)).toNat)).size < 9223372036854775808 then
                          some (.inl ((x1_6 ++ (ByteArray.extract x1_0 (y1_3_0).toNat ((((x1_0).size : Nat) : Int)).toNat)), (w64 (x1_7 + (1 : Int)))))
                        else none
                      else none
              else
                none
            else none
          else
            none
    else
      some (.inr x1_6)
def m3_1 (n : Nat) (x1_0 : ByteArray) (x1_1 : List Int) (x1_2 : Nat) (x1_3 : Int) (x1_4 : List Int) (x1_5 : Nat) (st : ByteArray × Int) : Option (ByteArray) := iterM (B3_1 n x1_0 x1_1 x1_2 x1_3 x1_4 x1_5) n st
set_option maxRecDepth 100000 in
theorem q3_1_0 (n : Nat) (x1_0 : ByteArray) (x1_1 : List Int) (x1_2 : Nat) (x1_3 : Int) (x1_4 : List Int) (x1_5 : Nat) (x1_6 : ByteArray) (x1_7 : Int) (hy1_1 : x1_7 < (((x1_4).length : Nat) : Int)) (hy1_2 : (w64 (x1_7 + (1 : Int))) < (((x1_4).length : Nat) : Int)) (hy1_3 : 0 ≤ (w64 (x1_7 + (1 : Int))) ∧ (w64 (x1_7 + (1 : Int))) < (((x1_4).length : Nat) : Int)) (y1_4_0 : Int) (y1_4_1 : Bool) (hy1_4 : m8 n x1_1 x1_2 x1_3 x1_7 = some (y1_4_0, y1_4_1)) (hy1_5 : y1_4_1 = true) (hy1_6 : 0 ≤ x1_7 ∧ x1_7 < (((x1_4).length : Nat) : Int)) (hy1_7 : y1_4_0 = ((x1_4).getD (x1_7).toNat 0)) (hy1_8 : ¬ (y1_4_0 < (0 : Int))) (hy1_9 : ¬ (y1_4_0 > ((x1_4).getD ((w64 (x1_7 + (1 : Int)))).toNat 0))) (hy1_10 : ¬ (((x1_4).getD ((w64 (x1_7 + (1 : Int)))).toNat 0) > (((x1_0).size : Nat) : Int))) (hy1_11 : 0 ≤ y1_4_0 ∧ y1_4_0 ≤ ((x1_4).getD ((w64 (x1_7 + (1 : Int)))).toNat 0) ∧ ((x1_4).getD ((w64 (x1_7 + (1 : Int)))).toNat 0) ≤ (((x1_0).size : Nat) : Int)) (hy1_12 : m3_2 n x1_0 x1_1 x1_2 x1_3 x1_4 x1_5 x1_6 x1_7 (ByteArray.extract x1_0 (y1_4_0).toNat (((x1_4).getD ((w64 (x1_7 + (1 : Int)))).toNat 0)).toNat) 0 = some ()) (hy1_13 : (x1_6).size + ((ByteArray.extract x1_0 (y1_4_0).toNat (((x1_4).getD ((w64 (x1_7 + (1 : Int)))).toNat 0)).toNat)).size < 9223372036854775808) : CG P none (fnN P 3) 0 (codeOf P 3 [false, false, true, false, true, true, true, true, true, true, true]) (S3_1 x1_0 x1_1 x1_2 x1_3 x1_4 x1_5 (x1_6, x1_7)) (.normal, S3_1 x1_0 x1_1 x1_2 x1_3 x1_4 x1_5 ((x1_6 ++ (ByteArray.extract x1_0 (y1_4_0).toNat (((x1_4).getD ((w64 (x1_7 + (1 : Int)))).toNat 0)).toNat)), (w64 (x1_7 + (1 : Int))))) :=
  runC_ok hm (A := aT [(5, .val (.bool true)), (19, .val (.bool true)), (24, .pur (Value.pointer (some ⟨2, ((w64 (x1_7 + (1 : Int)))).toNat, none⟩))), (25, .ld (Value.int .i64 ((x1_4).getD ((w64 (x1_7 + (1 : Int)))).toNat 0))), (30, .call ⟨2, [(0, 0, false), (1, 1, true)], (V8 x1_1 x1_2 x1_3 x1_7 (y1_4_0, y1_4_1)), (R8 x1_1 x1_2 x1_3 x1_7 (y1_4_0, y1_4_1)), []⟩), (39, .val (.bool false)), (44, .pur (Value.pointer (some ⟨2, (x1_7).toNat, none⟩))), (45, .ld (Value.int .i64 ((x1_4).getD (x1_7).toNat 0))), (46, .val (.bool false)), (50, .val (.bool false)), (55, .val (.bool false)), (61, .val (.bool false)), (68, .pur (Value.string (ByteArray.extract x1_0 (y1_4_0).toNat (((x1_4).getD ((w64 (x1_7 + (1 : Int)))).toNat 0)).toNat))), (77, .pur (Value.string (x1_6 ++ (ByteArray.extract x1_0 (y1_4_0).toNat (((x1_4).getD ((w64 (x1_7 + (1 : Int)))).toNat 0)).toNat))))]) (L := lT [(74, ⟨⟨[0, 3, 5, 6, 7, 11, 12], [(0, 0, false), (1, 1, true), (2, 2, true)], 3, 0⟩, (X3_2 x1_0 x1_1 x1_2 x1_3 x1_4 x1_5 x1_6 x1_7 (ByteArray.extract x1_0 (y1_4_0).toNat (((x1_4).getD ((w64 (x1_7 + (1 : Int)))).toNat 0)).toNat) ()).1, (X3_2 x1_0 x1_1 x1_2 x1_3 x1_4 x1_5 x1_6 x1_7 (ByteArray.extract x1_0 (y1_4_0).toNat (((x1_4).getD ((w64 (x1_7 + (1 : Int)))).toNat 0)).toNat) ()).2⟩)]) (wk := ⟨[0, 3, 5, 6, 7], [(0, 0, false), (1, 1, true), (2, 2, true)], 3, 0⟩)
    (ps := [(Value.bool (decide (x1_7 < (((x1_4).length : Nat) : Int)))) = (Value.bool true),
    (Value.bool (decide ((w64 (x1_7 + (1 : Int))) < (((x1_4).length : Nat) : Int)))) = (Value.bool true),
    opIndexAddr P 28 (Value.slice (some ⟨2, 0, none⟩) (x1_4).length x1_5) (Value.int .i64 (w64 (x1_7 + (1 : Int)))) Ax.h0 = some ((Value.pointer (some ⟨2, ((w64 (x1_7 + (1 : Int)))).toNat, none⟩)), Ax.h0),
    (layT (iv x1_4)).get ((w64 (x1_7 + (1 : Int)))).toNat = some (Value.int .i64 ((x1_4).getD ((w64 (x1_7 + (1 : Int)))).toNat 0)),
    Gv P (.func 8) (A8 x1_1 x1_2 x1_3 x1_7) (H8 x1_1 x1_2 x1_3 x1_7) (V8 x1_1 x1_2 x1_3 x1_7 (y1_4_0, y1_4_1)) (R8 x1_1 x1_2 x1_3 x1_7 (y1_4_0, y1_4_1)),
    FlatB (.cells (layT (iv x1_1)) 3),
    (Value.bool (!y1_4_1)) = (Value.bool false),
    opIndexAddr P 28 (Value.slice (some ⟨2, 0, none⟩) (x1_4).length x1_5) (Value.int .i64 x1_7) Ax.h0 = some ((Value.pointer (some ⟨2, (x1_7).toNat, none⟩)), Ax.h0),
    (layT (iv x1_4)).get (x1_7).toNat = some (Value.int .i64 ((x1_4).getD (x1_7).toNat 0)),
    (Value.bool (y1_4_0 != ((x1_4).getD (x1_7).toNat 0))) = (Value.bool false),
    (Value.bool (decide (y1_4_0 < (0 : Int)))) = (Value.bool false),
    (Value.bool (decide (y1_4_0 > ((x1_4).getD ((w64 (x1_7 + (1 : Int)))).toNat 0)))) = (Value.bool false),
    (Value.bool (decide (((x1_4).getD ((w64 (x1_7 + (1 : Int)))).toNat 0) > (((x1_0).size : Nat) : Int)))) = (Value.bool false),
    opSlice P 9 (Value.string x1_0) (some (Value.int .i64 y1_4_0)) (some (Value.int .i64 ((x1_4).getD ((w64 (x1_7 + (1 : Int)))).toNat 0))) none Ax.h0 = some ((Value.string (ByteArray.extract x1_0 (y1_4_0).toNat (((x1_4).getD ((w64 (x1_7 + (1 : Int)))).toNat 0)).toNat)), Ax.h0),
    CG P none (fnN P 3) 0 (codeOf P 3 [false, true, false, true, true, true, true, true, false, false, true, false, false, true, false, true, true, true, true, true, true, true]) (S3_2 x1_0 x1_1 x1_2 x1_3 x1_4 x1_5 x1_6 x1_7 (ByteArray.extract x1_0 (y1_4_0).toNat (((x1_4).getD ((w64 (x1_7 + (1 : Int)))).toNat 0)).toNat) 0) (X3_2 x1_0 x1_1 x1_2 x1_3 x1_4 x1_5 x1_6 x1_7 (ByteArray.extract x1_0 (y1_4_0).toNat (((x1_4).getD ((w64 (x1_7 + (1 : Int)))).toNat 0)).toNat) ()),
    FlatB (.cells (layT (iv x1_1)) 3),
    FlatB (.cells (layT (iv x1_4)) 3),
    opBin P .add 9 (.tmp 114) (.tmp 115) (Value.string x1_6) (Value.string (ByteArray.extract x1_0 (y1_4_0).toNat (((x1_4).getD ((w64 (x1_7 + (1 : Int)))).toNat 0)).toNat)) Ax.h0 = some ((Value.string (x1_6 ++ (ByteArray.extract x1_0 (y1_4_0).toNat (((x1_4).getD ((w64 (x1_7 + (1 : Int)))).toNat 0)).toNat))), Ax.h0),
    FlatB (.cells (layT (iv x1_1)) 3),
    FlatB (.cells (layT (iv x1_4)) 3)]) (by kernel_rfl) ⟨(vbT hy1_1), (vbT hy1_2), (ixS1 (e := 3) (by kernel_rfl) (by kernel_rfl) hy1_3), (iv_ld _ _ (toNatLt hy1_3)), (m8_ok n x1_1 x1_2 x1_3 x1_7 (y1_4_0, y1_4_1) hy1_4), (iv_flat _ _), (vBn hy1_5), (ixS1 (e := 3) (by kernel_rfl) (by kernel_rfl) hy1_6), (iv_ld _ _ (toNatLt hy1_6)), (vnF hy1_7), (vbF hy1_8), (vbF hy1_9), (vbF hy1_10), (slStr (by kernel_rfl) hy1_11), (m3_2_ok n x1_0 x1_1 x1_2 x1_3 x1_4 x1_5 x1_6 x1_7 (ByteArray.extract x1_0 (y1_4_0).toNat (((x1_4).getD ((w64 (x1_7 + (1 : Int)))).toNat 0)).toNat) 0 () hy1_12), (iv_flat _ _), (iv_flat _ _), (catStr hy1_13), (iv_flat _ _), (iv_flat _ _), trivial⟩
set_option maxRecDepth 100000 in
theorem q3_1_1 (n : Nat) (x1_0 : ByteArray) (x1_1 : List Int) (x1_2 : Nat) (x1_3 : Int) (x1_4 : List Int) (x1_5 : Nat) (x1_6 : ByteArray) (x1_7 : Int) (hy1_1 : x1_7 < (((x1_4).length : Nat) : Int)) (hy1_2 : ¬ ((w64 (x1_7 + (1 : Int))) < (((x1_4).length : Nat) : Int))) (y1_3_0 : Int) (y1_3_1 : Bool) (hy1_3 : m8 n x1_1 x1_2 x1_3 x1_7 = some (y1_3_0, y1_3_1)) (hy1_4 : y1_3_1 = true) (hy1_5 : 0 ≤ x1_7 ∧ x1_7 < (((x1_4).length : Nat) : Int)) (hy1_6 : y1_3_0 = ((x1_4).getD (x1_7).toNat 0)) (hy1_7 : ¬ (y1_3_0 < (0 : Int))) (hy1_8 : ¬ (y1_3_0 > (((x1_0).size : Nat) : Int))) (hy1_9 : ¬ ((((x1_0).size : Nat) : Int) > (((x1_0).size : Nat) : Int))) (hy1_10 : 0 ≤ y1_3_0 ∧ y1_3_0 ≤ (((x1_0).size : Nat) : Int) ∧ (((x1_0).size : Nat) : Int) ≤ (((x1_0).size : Nat) : Int)) (hy1_11 : m3_2 n x1_0 x1_1 x1_2 x1_3 x1_4 x1_5 x1_6 x1_7 (ByteArray.extract x1_0 (y1_3_0).toNat ((((x1_0).size : Nat) : Int)).toNat) 0 = some ()) (hy1_12 : (x1_6).size + ((ByteArray.extract x1_0 (y1_3_0).toNat ((((x1_0).size : Nat) : Int)).toNat)).size < 9223372036854775808) : CG P none (fnN P 3) 0 (codeOf P 3 [false, false, true, false, true, true, true, true, true, true, true]) (S3_1 x1_0 x1_1 x1_2 x1_3 x1_4 x1_5 (x1_6, x1_7)) (.normal, S3_1 x1_0 x1_1 x1_2 x1_3 x1_4 x1_5 ((x1_6 ++ (ByteArray.extract x1_0 (y1_3_0).toNat ((((x1_0).size : Nat) : Int)).toNat)), (w64 (x1_7 + (1 : Int))))) :=
  runC_ok hm (A := aT [(5, .val (.bool true)), (19, .val (.bool false)), (24, .call ⟨2, [(0, 0, false), (1, 1, true)], (V8 x1_1 x1_2 x1_3 x1_7 (y1_3_0, y1_3_1)), (R8 x1_1 x1_2 x1_3 x1_7 (y1_3_0, y1_3_1)), []⟩), (33, .val (.bool false)), (38, .pur (Value.pointer (some ⟨2, (x1_7).toNat, none⟩))), (39, .ld (Value.int .i64 ((x1_4).getD (x1_7).toNat 0))), (40, .val (.bool false)), (44, .val (.bool false)), (49, .val (.bool false)), (55, .val (.bool false)), (62, .pur (Value.string (ByteArray.extract x1_0 (y1_3_0).toNat ((((x1_0).size : Nat) : Int)).toNat))), (71, .pur (Value.string (x1_6 ++ (ByteArray.extract x1_0 (y1_3_0).toNat ((((x1_0).size : Nat) : Int)).toNat))))]) (L := lT [(68, ⟨⟨[0, 3, 5, 6, 7, 11, 12], [(0, 0, false), (1, 1, true), (2, 2, true)], 3, 0⟩, (X3_2 x1_0 x1_1 x1_2 x1_3 x1_4 x1_5 x1_6 x1_7 (ByteArray.extract x1_0 (y1_3_0).toNat ((((x1_0).size : Nat) : Int)).toNat) ()).1, (X3_2 x1_0 x1_1 x1_2 x1_3 x1_4 x1_5 x1_6 x1_7 (ByteArray.extract x1_0 (y1_3_0).toNat ((((x1_0).size : Nat) : Int)).toNat) ()).2⟩)]) (wk := ⟨[0, 3, 5, 6, 7], [(0, 0, false), (1, 1, true), (2, 2, true)], 3, 0⟩)
    (ps := [(Value.bool (decide (x1_7 < (((x1_4).length : Nat) : Int)))) = (Value.bool true),
    (Value.bool (decide ((w64 (x1_7 + (1 : Int))) < (((x1_4).length : Nat) : Int)))) = (Value.bool false),
    Gv P (.func 8) (A8 x1_1 x1_2 x1_3 x1_7) (H8 x1_1 x1_2 x1_3 x1_7) (V8 x1_1 x1_2 x1_3 x1_7 (y1_3_0, y1_3_1)) (R8 x1_1 x1_2 x1_3 x1_7 (y1_3_0, y1_3_1)),
    FlatB (.cells (layT (iv x1_1)) 3),
    (Value.bool (!y1_3_1)) = (Value.bool false),
    opIndexAddr P 28 (Value.slice (some ⟨2, 0, none⟩) (x1_4).length x1_5) (Value.int .i64 x1_7) Ax.h0 = some ((Value.pointer (some ⟨2, (x1_7).toNat, none⟩)), Ax.h0),
    (layT (iv x1_4)).get (x1_7).toNat = some (Value.int .i64 ((x1_4).getD (x1_7).toNat 0)),
    (Value.bool (y1_3_0 != ((x1_4).getD (x1_7).toNat 0))) = (Value.bool false),
    (Value.bool (decide (y1_3_0 < (0 : Int)))) = (Value.bool false),
    (Value.bool (decide (y1_3_0 > (((x1_0).size : Nat) : Int)))) = (Value.bool false),
    (Value.bool (decide ((((x1_0).size : Nat) : Int) > (((x1_0).size : Nat) : Int)))) = (Value.bool false),
    opSlice P 9 (Value.string x1_0) (some (Value.int .i64 y1_3_0)) (some (Value.int .i64 (((x1_0).size : Nat) : Int))) none Ax.h0 = some ((Value.string (ByteArray.extract x1_0 (y1_3_0).toNat ((((x1_0).size : Nat) : Int)).toNat)), Ax.h0),
    CG P none (fnN P 3) 0 (codeOf P 3 [false, true, false, true, true, true, true, true, false, false, true, false, false, true, false, true, true, true, true, true, true, true]) (S3_2 x1_0 x1_1 x1_2 x1_3 x1_4 x1_5 x1_6 x1_7 (ByteArray.extract x1_0 (y1_3_0).toNat ((((x1_0).size : Nat) : Int)).toNat) 0) (X3_2 x1_0 x1_1 x1_2 x1_3 x1_4 x1_5 x1_6 x1_7 (ByteArray.extract x1_0 (y1_3_0).toNat ((((x1_0).size : Nat) : Int)).toNat) ()),
    FlatB (.cells (layT (iv x1_1)) 3),
    FlatB (.cells (layT (iv x1_4)) 3),
    opBin P .add 9 (.tmp 114) (.tmp 115) (Value.string x1_6) (Value.string (ByteArray.extract x1_0 (y1_3_0).toNat ((((x1_0).size : Nat) : Int)).toNat)) Ax.h0 = some ((Value.string (x1_6 ++ (ByteArray.extract x1_0 (y1_3_0).toNat ((((x1_0).size : Nat) : Int)).toNat))), Ax.h0),
    FlatB (.cells (layT (iv x1_1)) 3),
    FlatB (.cells (layT (iv x1_4)) 3)]) (by kernel_rfl) ⟨(vbT hy1_1), (vbF hy1_2), (m8_ok n x1_1 x1_2 x1_3 x1_7 (y1_3_0, y1_3_1) hy1_3), (iv_flat _ _), (vBn hy1_4), (ixS1 (e := 3) (by kernel_rfl) (by kernel_rfl) hy1_5), (iv_ld _ _ (toNatLt hy1_5)), (vnF hy1_6), (vbF hy1_7), (vbF hy1_8), (vbF hy1_9), (slStr (by kernel_rfl) hy1_10), (m3_2_ok n x1_0 x1_1 x1_2 x1_3 x1_4 x1_5 x1_6 x1_7 (ByteArray.extract x1_0 (y1_3_0).toNat ((((x1_0).size : Nat) : Int)).toNat) 0 () hy1_11), (iv_flat _ _), (iv_flat _ _), (catStr hy1_12), (iv_flat _ _), (iv_flat _ _), trivial⟩
set_option maxRecDepth 100000 in
theorem q3_1_2 (n : Nat) (x1_0 : ByteArray) (x1_1 : List Int) (x1_2 : Nat) (x1_3 : Int) (x1_4 : List Int) (x1_5 : Nat) (x1_6 : ByteArray) (x1_7 : Int) (hy1_1 : ¬ (x1_7 < (((x1_4).length : Nat) : Int))) : CG P none (fnN P 3) 0 (codeOf P 3 [false, false, true, false, true, true, true, true, true, true, true]) (S3_1 x1_0 x1_1 x1_2 x1_3 x1_4 x1_5 (x1_6, x1_7)) (X3_1 x1_0 x1_1 x1_2 x1_3 x1_4 x1_5 x1_6) :=
  runC_ok hm (A := aT [(5, .val (.bool false))]) (L := lT []) (wk := ⟨[0, 3, 5, 6], [(0, 0, false), (1, 1, true), (2, 2, true)], 3, 0⟩)
    (ps := [(Value.bool (decide (x1_7 < (((x1_4).length : Nat) : Int)))) = (Value.bool false),
    FlatB (.cells (layT (iv x1_1)) 3),
    FlatB (.cells (layT (iv x1_4)) 3)]) (by kernel_rfl) ⟨(vbF hy1_1), (iv_flat _ _), (iv_flat _ _), trivial⟩
theorem m3_1_ok (n : Nat) (x1_0 : ByteArray) (x1_1 : List Int) (x1_2 : Nat) (x1_3 : Int) (x1_4 : List Int) (x1_5 : Nat) (st : ByteArray × Int) (r : ByteArray) (h : m3_1 n x1_0 x1_1 x1_2 x1_3 x1_4 x1_5 st = some r) : CG P none (fnN P 3) 0 (codeOf P 3 [false, true, false, true, true, true, true, true, true, true]) (S3_1 x1_0 x1_1 x1_2 x1_3 x1_4 x1_5 st) (X3_1 x1_0 x1_1 x1_2 x1_3 x1_4 x1_5 r) :=
  CG.iter (b := codeOf P 3 [false, false, true, false, true, true, true, true, true, true, true]) (by kernel_rfl) (body := B3_1 n x1_0 x1_1 x1_2 x1_3 x1_4 x1_5) (S := S3_1 x1_0 x1_1 x1_2 x1_3 x1_4 x1_5) (X := X3_1 x1_0 x1_1 x1_2 x1_3 x1_4 x1_5)
    (fun s s' h => by
    obtain ⟨x1_6, x1_7⟩ := s
    unfold B3_1 at h
    dsimp only at h
    by_cases hy1_1 : x1_7 < (((x1_4).length : Nat) : Int)
    · rw [if_pos hy1_1] at h
      by_cases hy1_2 : (w64 (x1_7 + (1 : Int))) < (((x1_4).length : Nat) : Int)
      · rw [if_pos hy1_2] at h
        by_cases hy1_3 : 0 ≤ (w64 (x1_7 + (1 : Int))) ∧ (w64 (x1_7 + (1 : Int))) < (((x1_4).length : Nat) : Int)
        · rw [if_pos hy1_3] at h
          obtain ⟨⟨y1_4_0, y1_4_1⟩, hy1_4, h⟩ := Option.bind_eq_some_iff.1 h
          dsimp only at h
          by_cases hy1_5 : y1_4_1 = true
          · rw [if_pos hy1_5] at h
            by_cases hy1_6 : 0 ≤ x1_7 ∧ x1_7 < (((x1_4).length : Nat) : Int)
            · rw [if_pos hy1_6] at h
              by_cases hy1_7 : y1_4_0 = ((x1_4).getD (x1_7).toNat 0)
              · rw [if_pos hy1_7] at h
                by_cases hy1_8 : y1_4_0 < (0 : Int)
                · rw [if_pos hy1_8] at h
                  cases h
                · rw [if_neg hy1_8] at h
                  by_cases hy1_9 : y1_4_0 > ((x1_4).getD ((w64 (x1_7 + (1 : Int)))).toNat 0)
                  · rw [if_pos hy1_9] at h
                    cases h
                  · rw [if_neg hy1_9] at h
                    by_cases hy1_10 : ((x1_4).getD ((w64 (x1_7 + (1 : Int)))).toNat 0) > (((x1_0).size : Nat) : Int)
                    · rw [if_pos hy1_10] at h
                      cases h
                    · rw [if_neg hy1_10] at h
                      by_cases hy1_11 : 0 ≤ y1_4_0 ∧ y1_4_0 ≤ ((x1_4).getD ((w64 (x1_7 + (1 : Int)))).toNat 0) ∧ ((x1_4).getD ((w64 (x1_7 + (1 : Int)))).toNat 0) ≤ (((x1_0).size : Nat) : Int)
                      · rw [if_pos hy1_11] at h
                        obtain ⟨_, hy1_12, h⟩ := Option.bind_eq_some_iff.1 h
                        by_cases hy1_13 : (x1_6).size + ((ByteArray.extract x1_0 (y1_4_0).toNat (((x1_4).getD ((w64 (x1_7 + (1 : Int)))).toNat 0)).toNat)).size < 9223372036854775808
                        · rw [if_pos hy1_13] at h
                          obtain rfl := Sum.inl.inj (Option.some.inj h); exact q3_1_0 n x1_0 x1_1 x1_2 x1_3 x1_4 x1_5 x1_6 x1_7 hy1_1 hy1_2 hy1_3 y1_4_0 y1_4_1 hy1_4 hy1_5 hy1_6 hy1_7 hy1_8 hy1_9 hy1_10 hy1_11 hy1_12 hy1_13
                        · rw [if_neg hy1_13] at h; cases h
                      · rw [if_neg hy1_11] at h; cases h
              · rw [if_neg hy1_7] at h
                cases h
            · rw [if_neg hy1_6] at h; cases h
          · rw [if_neg hy1_5] at h
            cases h
        · rw [if_neg hy1_3] at h; cases h
      · rw [if_neg hy1_2] at h
        obtain ⟨⟨y1_3_0, y1_3_1⟩, hy1_3, h⟩ := Option.bind_eq_some_iff.1 h
        dsimp only at h
        by_cases hy1_4 : y1_3_1 = true
        · rw [if_pos hy1_4] at h
          by_cases hy1_5 : 0 ≤ x1_7 ∧ x1_7 < (((x1_4).length : Nat) : Int)
          · rw [if_pos hy1_5] at h
            by_cases hy1_6 : y1_3_0 = ((x1_4).getD (x1_7).toNat 0)
            · rw [if_pos hy1_6] at h
              by_cases hy1_7 : y1_3_0 < (0 : Int)
              · rw [if_pos hy1_7] at h
                cases h
              · rw [if_neg hy1_7] at h
                by_cases hy1_8 : y1_3_0 > (((x1_0).size : Nat) : Int)
                · rw [if_pos hy1_8] at h
                  cases h
                · rw [if_neg hy1_8] at h
                  by_cases hy1_9 : (((x1_0).size : Nat) : Int) > (((x1_0).size : Nat) : Int)
                  · rw [if_pos hy1_9] at h
                    cases h
                  · rw [if_neg hy1_9] at h
                    by_cases hy1_10 : 0 ≤ y1_3_0 ∧ y1_3_0 ≤ (((x1_0).size : Nat) : Int) ∧ (((x1_0).size : Nat) : Int) ≤ (((x1_0).size : Nat) : Int)
                    · rw [if_pos hy1_10] at h
                      obtain ⟨_, hy1_11, h⟩ := Option.bind_eq_some_iff.1 h
                      by_cases hy1_12 : (x1_6).size + ((ByteArray.extract x1_0 (y1_3_0).toNat ((((x1_0).size : Nat) : Int)).toNat)).size < 9223372036854775808
                      · rw [if_pos hy1_12] at h
                        obtain rfl := Sum.inl.inj (Option.some.inj h); exact q3_1_1 n x1_0 x1_1 x1_2 x1_3 x1_4 x1_5 x1_6 x1_7 hy1_1 hy1_2 y1_3_0 y1_3_1 hy1_3 hy1_4 hy1_5 hy1_6 hy1_7 hy1_8 hy1_9 hy1_10 hy1_11 hy1_12
                      · rw [if_neg hy1_12] at h; cases h
                    · rw [if_neg hy1_10] at h; cases h
            · rw [if_neg hy1_6] at h
              cases h
          · rw [if_neg hy1_5] at h; cases h
        · rw [if_neg hy1_4] at h
          cases h
    · rw [if_neg hy1_1] at h
      cases h)
    (fun s r h => by
    obtain ⟨x1_6, x1_7⟩ := s
    unfold B3_1 at h
    dsimp only at h
    by_cases hy1_1 : x1_7 < (((x1_4).length : Nat) : Int)
    · rw [if_pos hy1_1] at h
      by_cases hy1_2 : (w64 (x1_7 + (1 : Int))) < (((x1_4).length : Nat) : Int)
      · rw [if_pos hy1_2] at h
        by_cases hy1_3 : 0 ≤ (w64 (x1_7 + (1 : Int))) ∧ (w64 (x1_7 + (1 : Int))) < (((x1_4).length : Nat) : Int)
        · rw [if_pos hy1_3] at h
          obtain ⟨⟨y1_4_0, y1_4_1⟩, hy1_4, h⟩ := Option.bind_eq_some_iff.1 h
          dsimp only at h
          by_cases hy1_5 : y1_4_1 = true
          · rw [if_pos hy1_5] at h
            by_cases hy1_6 : 0 ≤ x1_7 ∧ x1_7 < (((x1_4).length : Nat) : Int)
            · rw [if_pos hy1_6] at h
              by_cases hy1_7 : y1_4_0 = ((x1_4).getD (x1_7).toNat 0)
              · rw [if_pos hy1_7] at h
                by_cases hy1_8 : y1_4_0 < (0 : Int)
                · rw [if_pos hy1_8] at h
                  cases h
                · rw [if_neg hy1_8] at h
                  by_cases hy1_9 : y1_4_0 > ((x1_4).getD ((w64 (x1_7 + (1 : Int)))).toNat 0)
                  · rw [if_pos hy1_9] at h
                    cases h
                  · rw [if_neg hy1_9] at h
                    by_cases hy1_10 : ((x1_4).getD ((w64 (x1_7 + (1 : Int)))).toNat 0) > (((x1_0).size : Nat) : Int)
                    · rw [if_pos hy1_10] at h
                      cases h
                    · rw [if_neg hy1_10] at h
                      by_cases hy1_11 : 0 ≤ y1_4_0 ∧ y1_4_0 ≤ ((x1_4).getD ((w64 (x1_7 + (1 : Int)))).toNat 0) ∧ ((x1_4).getD ((w64 (x1_7 + (1 : Int)))).toNat 0) ≤ (((x1_0).size : Nat) : Int)
                      · rw [if_pos hy1_11] at h
                        obtain ⟨_, hy1_12, h⟩ := Option.bind_eq_some_iff.1 h
                        by_cases hy1_13 : (x1_6).size + ((ByteArray.extract x1_0 (y1_4_0).toNat (((x1_4).getD ((w64 (x1_7 + (1 : Int)))).toNat 0)).toNat)).size < 9223372036854775808
                        · rw [if_pos hy1_13] at h
                          cases h
                        · rw [if_neg hy1_13] at h; cases h
                      · rw [if_neg hy1_11] at h; cases h
              · rw [if_neg hy1_7] at h
                cases h
            · rw [if_neg hy1_6] at h; cases h
          · rw [if_neg hy1_5] at h
            cases h
        · rw [if_neg hy1_3] at h; cases h
      · rw [if_neg hy1_2] at h
        obtain ⟨⟨y1_3_0, y1_3_1⟩, hy1_3, h⟩ := Option.bind_eq_some_iff.1 h
        dsimp only at h
        by_cases hy1_4 : y1_3_1 = true
        · rw [if_pos hy1_4] at h
          by_cases hy1_5 : 0 ≤ x1_7 ∧ x1_7 < (((x1_4).length : Nat) : Int)
          · rw [if_pos hy1_5] at h
            by_cases hy1_6 : y1_3_0 = ((x1_4).getD (x1_7).toNat 0)
            · rw [if_pos hy1_6] at h
              by_cases hy1_7 : y1_3_0 < (0 : Int)
              · rw [if_pos hy1_7] at h
                cases h
              · rw [if_neg hy1_7] at h
                by_cases hy1_8 : y1_3_0 > (((x1_0).size : Nat) : Int)
                · rw [if_pos hy1_8] at h
                  cases h
                · rw [if_neg hy1_8] at h
                  by_cases hy1_9 : (((x1_0).size : Nat) : Int) > (((x1_0).size : Nat) : Int)
                  · rw [if_pos hy1_9] at h
                    cases h
                  · rw [if_neg hy1_9] at h
                    by_cases hy1_10 : 0 ≤ y1_3_0 ∧ y1_3_0 ≤ (((x1_0).size : Nat) : Int) ∧ (((x1_0).size : Nat) : Int) ≤ (((x1_0).size : Nat) : Int)
                    · rw [if_pos hy1_10] at h
                      obtain ⟨_, hy1_11, h⟩ := Option.bind_eq_some_iff.1 h
                      by_cases hy1_12 : (x1_6).size + ((ByteArray.extract x1_0 (y1_3_0).toNat ((((x1_0).size : Nat) : Int)).toNat)).size < 9223372036854775808
                      · rw [if_pos hy1_12] at h
                        cases h
                      · rw [if_neg hy1_12] at h; cases h
                    · rw [if_neg hy1_10] at h; cases h
            · rw [if_neg hy1_6] at h
              cases h
          · rw [if_neg hy1_5] at h; cases h
        · rw [if_neg hy1_4] at h
          cases h
    · rw [if_neg hy1_1] at h
      obtain rfl := Sum.inr.inj (Option.some.inj h); exact q3_1_2 n x1_0 x1_1 x1_2 x1_3 x1_4 x1_5 x1_6 x1_7 hy1_1)
    (fun r => by intro hx; cases hx) h
noncomputable def A3 (s : ByteArray) : List Value := [(Value.string s)]
noncomputable def H3 (s : ByteArray) : AH := ⟨sB [], 0, 0⟩
noncomputable def V3 (s : ByteArray) (r : Unit) : Value := match r with
  | _ => (Value.bool true)
noncomputable def R3 (s : ByteArray) (r : Unit) : AH := match r with
  | _ => ⟨sB [], 0, 0⟩
def m3 (n : Nat) (s : ByteArray) : Option (Unit) :=
  (m4 n).bind fun _ =>
  if (((s).size : Nat) : Int) > (200 : Int) then
    some ()
  else
    (m5 n s).bind fun t => match t with
    | (c3_0, c3_1) =>
      (m6 n c3_0 c3_1 (((s).size : Nat) : Int)).bind fun _ =>
      (m7 n c3_0 c3_1 (((s).size : Nat) : Int)).bind fun t => match t with
      | (c5_0, c5_1) =>
        (m3_1 n s c3_0 c3_1 (((s).size : Nat) : Int) c5_0 c5_1 ((ByteArray.mk #[]), 0)).bind fun c6_ =>
        if c6_ = s then
          (m9 n c3_0 c3_1 (((s).size : Nat) : Int)).bind fun _ =>
          if (((c3_0).length : Nat) : Int) = (((c5_0).length : Nat) : Int) then
            some ()
          else
            none
        else none
set_option maxRecDepth 100000 in
theorem p3_0 (n : Nat) (s : ByteArray) (hc1 : m4 n = some ()) (hc2 : (((s).size : Nat) : Int) > (200 : Int)) : Gv P (.func 3) (A3 s) (H3 s) (V3 s ()) (R3 s ()) :=
  runF_ok hm (A := aT [(4, .call ⟨0, [], (Value.bool true), Ax.h0, []⟩), (11, .val (.bool true))]) (L := lT []) (wk := ⟨[2], [], 0, 0⟩)
    (ps := [Gv P (.func 4) [] Ax.h0 (Value.bool true) Ax.h0,
    (Value.bool (decide ((((s).size : Nat) : Int) > (200 : Int)))) = (Value.bool true)]) (by kernel_rfl) ⟨(m4_ok n () hc1), (vbT hc2), trivial⟩
set_option maxRecDepth 100000 in
theorem p3_1 (n : Nat) (s : ByteArray) (hc1 : m4 n = some ()) (hc2 : ¬ ((((s).size : Nat) : Int) > (200 : Int))) (c3_0 : List Int) (c3_1 : Nat) (hc3 : m5 n s = some (c3_0, c3_1)) (hc4 : m6 n c3_0 c3_1 (((s).size : Nat) : Int) = some ()) (c5_0 : List Int) (c5_1 : Nat) (hc5 : m7 n c3_0 c3_1 (((s).size : Nat) : Int) = some (c5_0, c5_1)) (c6_ : ByteArray) (hc6 : m3_1 n s c3_0 c3_1 (((s).size : Nat) : Int) c5_0 c5_1 ((ByteArray.mk #[]), 0) = some c6_) (hc7 : c6_ = s) (hc8 : m9 n c3_0 c3_1 (((s).size : Nat) : Int) = some ()) (hc9 : (((c3_0).length : Nat) : Int) = (((c5_0).length : Nat) : Int)) : Gv P (.func 3) (A3 s) (H3 s) (V3 s ()) (R3 s ()) :=
  runF_ok hm (A := aT [(4, .call ⟨0, [], (Value.bool true), Ax.h0, []⟩), (11, .val (.bool false)), (15, .call ⟨0, [], (V5 s (c3_0, c3_1)), (R5 s (c3_0, c3_1)), [(0, 0, false), (1, 1, true)]⟩), (31, .call ⟨2, [(0, 0, false), (1, 1, true)], (V6 c3_0 c3_1 (((s).size : Nat) : Int) ()), (R6 c3_0 c3_1 (((s).size : Nat) : Int) ()), []⟩), (34, .val (.bool false)), (39, .call ⟨2, [(0, 0, false), (1, 1, true)], (V7 c3_0 c3_1 (((s).size : Nat) : Int) (c5_0, c5_1)), (R7 c3_0 c3_1 (((s).size : Nat) : Int) (c5_0, c5_1)), [(2, 2, true)]⟩), (51, .val (.bool true)), (54, .call ⟨2, [(0, 0, false), (1, 1, true)], (V9 c3_0 c3_1 (((s).size : Nat) : Int) ()), (R9 c3_0 c3_1 (((s).size : Nat) : Int) ()), []⟩), (57, .val (.bool true))]) (L := lT [(47, ⟨⟨[0, 3, 5, 6, 7], [(0, 0, false), (1, 1, true), (2, 2, true)], 3, 0⟩, (X3_1 s c3_0 c3_1 (((s).size : Nat) : Int) c5_0 c5_1 c6_).1, (X3_1 s c3_0 c3_1 (((s).size : Nat) : Int) c5_0 c5_1 c6_).2⟩)]) (wk := ⟨[2], [], 0, 0⟩)
    (ps := [Gv P (.func 4) [] Ax.h0 (Value.bool true) Ax.h0,
    (Value.bool (decide ((((s).size : Nat) : Int) > (200 : Int)))) = (Value.bool false),
    Gv P (.func 5) (A5 s) (H5 s) (V5 s (c3_0, c3_1)) (R5 s (c3_0, c3_1)),
    FlatB (.cells (layT (iv c3_0)) 3),
    Gv P (.func 6) (A6 c3_0 c3_1 (((s).size : Nat) : Int)) (H6 c3_0 c3_1 (((s).size : Nat) : Int)) (V6 c3_0 c3_1 (((s).size : Nat) : Int) ()) (R6 c3_0 c3_1 (((s).size : Nat) : Int) ()),
    FlatB (.cells (layT (iv c3_0)) 3),
    (Value.bool ((((s).size : Nat) : Int) != (((s).size : Nat) : Int))) = (Value.bool false),
    Gv P (.func 7) (A7 c3_0 c3_1 (((s).size : Nat) : Int)) (H7 c3_0 c3_1 (((s).size : Nat) : Int)) (V7 c3_0 c3_1 (((s).size : Nat) : Int) (c5_0, c5_1)) (R7 c3_0 c3_1 (((s).size : Nat) : Int) (c5_0, c5_1)),
    FlatB (.cells (layT (iv c3_0)) 3),
    FlatB (.cells (layT (iv c5_0)) 3),
    CG P none (fnN P 3) 0 (codeOf P 3 [false, true, false, true, true, true, true, true, true, true]) (S3_1 s c3_0 c3_1 (((s).size : Nat) : Int) c5_0 c5_1 ((ByteArray.mk #[]), 0)) (X3_1 s c3_0 c3_1 (((s).size : Nat) : Int) c5_0 c5_1 c6_),
    FlatB (.cells (layT (iv c3_0)) 3),
    FlatB (.cells (layT (iv c5_0)) 3),
    (Value.bool ((c6_).toList == (s).toList)) = (Value.bool true),
    Gv P (.func 9) (A9 c3_0 c3_1 (((s).size : Nat) : Int)) (H9 c3_0 c3_1 (((s).size : Nat) : Int)) (V9 c3_0 c3_1 (((s).size : Nat) : Int) ()) (R9 c3_0 c3_1 (((s).size : Nat) : Int) ()),
    FlatB (.cells (layT (iv c3_0)) 3),
    (Value.bool ((((c3_0).length : Nat) : Int) == (((c5_0).length : Nat) : Int))) = (Value.bool true)]) (by kernel_rfl) ⟨(m4_ok n () hc1), (vbF hc2), (m5_ok n s (c3_0, c3_1) hc3), (iv_flat _ _), (m6_ok n c3_0 c3_1 (((s).size : Nat) : Int) () hc4), (iv_flat _ _), (vnF rfl), (m7_ok n c3_0 c3_1 (((s).size : Nat) : Int) (c5_0, c5_1) hc5), (iv_flat _ _), (iv_flat _ _), (m3_1_ok n s c3_0 c3_1 (((s).size : Nat) : Int) c5_0 c5_1 ((ByteArray.mk #[]), 0) c6_ hc6), (iv_flat _ _), (iv_flat _ _), (veS hc7), (m9_ok n c3_0 c3_1 (((s).size : Nat) : Int) () hc8), (iv_flat _ _), (veT hc9), trivial⟩
theorem m3_ok (n : Nat) (s : ByteArray) (r : Unit) (h : m3 n s = some r) : Gv P (.func 3) (A3 s) (H3 s) (V3 s r) (R3 s r) := by
  unfold m3 at h
  obtain ⟨_, hc1, h⟩ := Option.bind_eq_some_iff.1 h
  by_cases hc2 : (((s).size : Nat) : Int) > (200 : Int)
  · rw [if_pos hc2] at h
    obtain rfl := Option.some.inj h; exact p3_0 n s hc1 hc2
  · rw [if_neg hc2] at h
    obtain ⟨⟨c3_0, c3_1⟩, hc3, h⟩ := Option.bind_eq_some_iff.1 h
    dsimp only at h
    obtain ⟨_, hc4, h⟩ := Option.bind_eq_some_iff.1 h
    obtain ⟨⟨c5_0, c5_1⟩, hc5, h⟩ := Option.bind_eq_some_iff.1 h
    dsimp only at h
    obtain ⟨c6_, hc6, h⟩ := Option.bind_eq_some_iff.1 h
    by_cases hc7 : c6_ = s
    · rw [if_pos hc7] at h
      obtain ⟨_, hc8, h⟩ := Option.bind_eq_some_iff.1 h
      by_cases hc9 : (((c3_0).length : Nat) : Int) = (((c5_0).length : Nat) : Int)
      · rw [if_pos hc9] at h
        obtain rfl := Option.some.inj h; exact p3_1 n s hc1 hc2 c3_0 c3_1 hc3 hc4 c5_0 c5_1 hc5 c6_ hc6 hc7 hc8 hc9
      · rw [if_neg hc9] at h
        cases h
    · rw [if_neg hc7] at h; cases h

end Go.Proofs.Ytkhdiflfkbekbaa.linesCut
