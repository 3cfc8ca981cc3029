/-
  What viewportlaw09.LinesBack, and the functions that it calls, do, told by pure functions. No condition.
-/
import Derived.Test.YthomkiindjhdmaaSxG
import Derived.Test.YthomkiindjhdmaaTabs0
import Derived.Test.YthomkiindjhdmaaProg
import Derived.KernelRfl
set_option linter.unusedSimpArgs false
set_option linter.unusedVariables false
set_option linter.unusedSectionVars false
set_option linter.unnecessarySimpa false
namespace Go.Proofs.Ythomkiindjhdmaa.linesBack
open Go Go.Proofs.Ythomkiindjhdmaa Ax
noncomputable abbrev P : Program := Try.prog
theorem hm : P.follows .mixedOrders = true := by kernel_rfl
noncomputable def A142 (a0 : Int) : List Value := [(Value.int .i64 a0)]
noncomputable def H142 (a0 : Int) : AH := ⟨sB [], 0, 0⟩
noncomputable def V142 (a0 : Int) (r : Unit) : Value := match r with
  | _ => (Value.bool false)
noncomputable def R142 (a0 : Int) (r : Unit) : AH := match r with
  | _ => ⟨sB [], 0, 0⟩
def m142 (n : Nat) (a0 : Int) : Option (Unit) :=
  some ()
set_option maxRecDepth 100000 in
theorem p142_0 (n : Nat) (a0 : Int) : Gv P (.func 142) (A142 a0) (H142 a0) (V142 a0 ()) (R142 a0 ()) :=
  runF_ok hm (A := aT [(5, .val (.bool false))]) (L := lT []) (wk := ⟨[2], [], 0, 0⟩)
    (ps := [(Value.bool (a0 != a0)) = (Value.bool false)]) (by kernel_rfl) ⟨(vnF rfl), trivial⟩
theorem m142_ok (n : Nat) (a0 : Int) (r : Unit) (h : m142 n a0 = some r) : Gv P (.func 142) (A142 a0) (H142 a0) (V142 a0 r) (R142 a0 r) := by
  unfold m142 at h
  obtain rfl := Option.some.inj h; exact p142_0 n a0

noncomputable def A179 (a0 : Int) : List Value := [(Value.int .i64 a0)]
noncomputable def H179 (a0 : Int) : AH := ⟨sB [], 0, 0⟩
noncomputable def V179 (a0 : Int) (r : Unit) : Value := match r with
  | _ => (Value.bool false)
noncomputable def R179 (a0 : Int) (r : Unit) : AH := match r with
  | _ => ⟨sB [], 0, 0⟩
def m179 (n : Nat) (a0 : Int) : Option (Unit) :=
  some ()
set_option maxRecDepth 100000 in
theorem p179_0 (n : Nat) (a0 : Int) : Gv P (.func 179) (A179 a0) (H179 a0) (V179 a0 ()) (R179 a0 ()) :=
  runF_ok hm (A := aT [(5, .val (.bool false))]) (L := lT []) (wk := ⟨[2], [], 0, 0⟩)
    (ps := [(Value.bool (a0 != a0)) = (Value.bool false)]) (by kernel_rfl) ⟨(vnF rfl), trivial⟩
theorem m179_ok (n : Nat) (a0 : Int) (r : Unit) (h : m179 n a0 = some r) : Gv P (.func 179) (A179 a0) (H179 a0) (V179 a0 r) (R179 a0 r) := by
  unfold m179 at h
  obtain rfl := Option.some.inj h; exact p179_0 n a0

noncomputable def A141 (a0 : Int) (a1 : Int) : List Value := [(Value.int .i64 a0), (Value.int .i64 a1)]
noncomputable def H141 (a0 : Int) (a1 : Int) : AH := ⟨sB [], 0, 0⟩
noncomputable def V141 (a0 : Int) (a1 : Int) (r : Bool) : Value := match r with
  | o0 => (Value.bool o0)
noncomputable def R141 (a0 : Int) (a1 : Int) (r : Bool) : AH := match r with
  | o0 => ⟨sB [], 0, 0⟩
def m141 (n : Nat) (a0 : Int) (a1 : Int) : Option (Bool) :=
  (m179 n a0).bind fun _ =>
  if a0 < a1 then
    some true
  else
    some false
set_option maxRecDepth 100000 in
theorem p141_0 (n : Nat) (a0 : Int) (a1 : Int) (hc1 : m179 n a0 = some ()) (hc2 : a0 < a1) : Gv P (.func 141) (A141 a0 a1) (H141 a0 a1) (V141 a0 a1 true) (R141 a0 a1 true) :=
  runF_ok hm (A := aT [(4, .call ⟨0, [], (V179 a0 ()), (R179 a0 ()), []⟩), (13, .val (.bool true))]) (L := lT []) (wk := ⟨[4], [], 0, 0⟩)
    (ps := [Gv P (.func 179) (A179 a0) (H179 a0) (V179 a0 ()) (R179 a0 ()),
    (Value.bool (decide (a0 < a1))) = (Value.bool true)]) (by kernel_rfl) ⟨(m179_ok n a0 () hc1), (vbT hc2), trivial⟩
set_option maxRecDepth 100000 in
theorem p141_1 (n : Nat) (a0 : Int) (a1 : Int) (hc1 : m179 n a0 = some ()) (hc2 : ¬ (a0 < a1)) : Gv P (.func 141) (A141 a0 a1) (H141 a0 a1) (V141 a0 a1 false) (R141 a0 a1 false) :=
  runF_ok hm (A := aT [(4, .call ⟨0, [], (V179 a0 ()), (R179 a0 ()), []⟩), (13, .val (.bool false))]) (L := lT []) (wk := ⟨[4], [], 0, 0⟩)
    (ps := [Gv P (.func 179) (A179 a0) (H179 a0) (V179 a0 ()) (R179 a0 ()),
    (Value.bool (decide (a0 < a1))) = (Value.bool false)]) (by kernel_rfl) ⟨(m179_ok n a0 () hc1), (vbF hc2), trivial⟩
theorem m141_ok (n : Nat) (a0 : Int) (a1 : Int) (r : Bool) (h : m141 n a0 a1 = some r) : Gv P (.func 141) (A141 a0 a1) (H141 a0 a1) (V141 a0 a1 r) (R141 a0 a1 r) := by
  unfold m141 at h
  obtain ⟨_, hc1, h⟩ := Option.bind_eq_some_iff.1 h
  by_cases hc2 : a0 < a1
  · rw [if_pos hc2] at h
    obtain rfl := Option.some.inj h; exact p141_0 n a0 a1 hc1 hc2
  · rw [if_neg hc2] at h
    obtain rfl := Option.some.inj h; exact p141_1 n a0 a1 hc1 hc2

noncomputable def S56_1 (x1_0 : ByteArray) (x1_1 : Int) (x1_3 : Int) (st : List Int × Int) : XSt := match st with
  | (x1_2, x1_4) => (sT 25 [(0, (Value.string x1_0)), (1, (Value.int .i64 x1_1)), (5, (slN x1_2 0)), (8, (Value.int .i64 x1_3)), (9, (Value.int .i64 x1_4))], [], ⟨sB [(0, (nblk x1_2 3))], 1, 0⟩)
noncomputable def X56_1 (x1_0 : ByteArray) (x1_1 : Int) (x1_3 : Int) (r : List Int) : Ex × XSt := match r with
  | z1_0 => (.exit 0, (sT 25 [(5, (slN z1_0 0))], [], ⟨sB [(0, (nblk z1_0 3))], 1, 0⟩))
def B56_1 (n : Nat) (x1_0 : ByteArray) (x1_1 : Int) (x1_3 : Int) (st : List Int × Int) : Option ((List Int × Int) ⊕ (List Int)) := match st with
  | (x1_2, x1_4) =>
    match x1_2 with
    | [] =>
      if x1_4 < x1_3 then
        if 0 ≤ x1_4 ∧ x1_4 < (((x1_0).size : Nat) : Int) then
          if (byteAt x1_0 (x1_4).toNat) = (10 : Int) then
            some (.inl ([(w64 ((w64 (x1_1 + x1_4)) + (1 : Int)))], (w64 (x1_4 + (1 : Int)))))
          else
            some (.inl (([] : List Int), (w64 (x1_4 + (1 : Int)))))
        else none
      else
        some (.inr ([] : List Int))
    | x1_2a :: x1_2t =>
      if x1_4 < x1_3 then
        if 0 ≤ x1_4 ∧ x1_4 < (((x1_0).size : Nat) : Int) then
          if (byteAt x1_0 (x1_4).toNat) = (10 : Int) then
            if (((x1_2a :: x1_2t)).length + 1) * 8 ≤ 140737488355328 then
              some (.inl (((x1_2a :: x1_2t) ++ [(w64 ((w64 (x1_1 + x1_4)) + (1 : Int)))]), (w64 (x1_4 + (1 : Int)))))
            else none
          else
            some (.inl ((x1_2a :: x1_2t), (w64 (x1_4 + (1 : Int)))))
        else none
      else
        some (.inr (x1_2a :: x1_2t))
def m56_1 (n : Nat) (x1_0 : ByteArray) (x1_1 : Int) (x1_3 : Int) (st : List Int × Int) : Option (List Int) := iterM (B56_1 n x1_0 x1_1 x1_3) n st
set_option maxRecDepth 100000 in
theorem q56_1_0 (n : Nat) (x1_0 : ByteArray) (x1_1 : Int) (x1_3 : Int) (x1_4 : Int) (hy1_1 : x1_4 < x1_3) (hy1_2 : 0 ≤ x1_4 ∧ x1_4 < (((x1_0).size : Nat) : Int)) (hy1_3 : (byteAt x1_0 (x1_4).toNat) = (10 : Int)) : CG P none (fnN P 56) 0 (codeOf P 56 [false, false, true, false, true, true]) (S56_1 x1_0 x1_1 x1_3 (([] : List Int), x1_4)) (.normal, S56_1 x1_0 x1_1 x1_3 ([(w64 ((w64 (x1_1 + x1_4)) + (1 : Int)))], (w64 (x1_4 + (1 : Int))))) :=
  runC_ok hm (A := aT [(1, .val (.bool true)), (12, .pur (Value.int .u8 (byteAt x1_0 (x1_4).toNat))), (13, .val (.bool true))]) (L := lT []) (wk := ⟨[0, 1, 5, 8, 9], [(0, 2, false)], 1, 0⟩)
    (ps := [(Value.bool (decide (x1_4 < x1_3))) = (Value.bool true),
    opIndex P 9 (Value.string x1_0) (Value.int .i64 x1_4) Ax.h0 = some ((Value.int .u8 (byteAt x1_0 (x1_4).toNat)), Ax.h0),
    (Value.bool ((byteAt x1_0 (x1_4).toNat) == (10 : Int))) = (Value.bool true)]) (by kernel_rfl) ⟨(vbT hy1_1), (ixStr (by kernel_rfl) hy1_2), (veT hy1_3), trivial⟩
set_option maxRecDepth 100000 in
theorem q56_1_1 (n : Nat) (x1_0 : ByteArray) (x1_1 : Int) (x1_3 : Int) (x1_4 : Int) (hy1_1 : x1_4 < x1_3) (hy1_2 : 0 ≤ x1_4 ∧ x1_4 < (((x1_0).size : Nat) : Int)) (hy1_3 : ¬ ((byteAt x1_0 (x1_4).toNat) = (10 : Int))) : CG P none (fnN P 56) 0 (codeOf P 56 [false, false, true, false, true, true]) (S56_1 x1_0 x1_1 x1_3 (([] : List Int), x1_4)) (.normal, S56_1 x1_0 x1_1 x1_3 (([] : List Int), (w64 (x1_4 + (1 : Int))))) :=
  runC_ok hm (A := aT [(1, .val (.bool true)), (12, .pur (Value.int .u8 (byteAt x1_0 (x1_4).toNat))), (13, .val (.bool false))]) (L := lT []) (wk := ⟨[0, 1, 5, 8, 9], [], 1, 0⟩)
    (ps := [(Value.bool (decide (x1_4 < x1_3))) = (Value.bool true),
    opIndex P 9 (Value.string x1_0) (Value.int .i64 x1_4) Ax.h0 = some ((Value.int .u8 (byteAt x1_0 (x1_4).toNat)), Ax.h0),
    (Value.bool ((byteAt x1_0 (x1_4).toNat) == (10 : Int))) = (Value.bool false)]) (by kernel_rfl) ⟨(vbT hy1_1), (ixStr (by kernel_rfl) hy1_2), (veF hy1_3), trivial⟩
set_option maxRecDepth 100000 in
theorem q56_1_2 (n : Nat) (x1_0 : ByteArray) (x1_1 : Int) (x1_3 : Int) (x1_4 : Int) (hy1_1 : ¬ (x1_4 < x1_3)) : CG P none (fnN P 56) 0 (codeOf P 56 [false, false, true, false, true, true]) (S56_1 x1_0 x1_1 x1_3 (([] : List Int), x1_4)) (X56_1 x1_0 x1_1 x1_3 ([] : List Int)) :=
  runC_ok hm (A := aT [(1, .val (.bool false))]) (L := lT []) (wk := ⟨[5], [], 1, 0⟩)
    (ps := [(Value.bool (decide (x1_4 < x1_3))) = (Value.bool false)]) (by kernel_rfl) ⟨(vbF hy1_1), trivial⟩
set_option maxRecDepth 100000 in
theorem q56_1_3 (n : Nat) (x1_0 : ByteArray) (x1_1 : Int) (x1_2a : Int) (x1_2t : List Int) (x1_3 : Int) (x1_4 : Int) (hy1_1 : x1_4 < x1_3) (hy1_2 : 0 ≤ x1_4 ∧ x1_4 < (((x1_0).size : Nat) : Int)) (hy1_3 : (byteAt x1_0 (x1_4).toNat) = (10 : Int)) (hy1_4 : (((x1_2a :: x1_2t)).length + 1) * 8 ≤ 140737488355328) : CG P none (fnN P 56) 0 (codeOf P 56 [false, false, true, false, true, true]) (S56_1 x1_0 x1_1 x1_3 ((x1_2a :: x1_2t), x1_4)) (.normal, S56_1 x1_0 x1_1 x1_3 (((x1_2a :: x1_2t) ++ [(w64 ((w64 (x1_1 + x1_4)) + (1 : Int)))]), (w64 (x1_4 + (1 : Int))))) :=
  runC_ok hm (A := aT [(1, .val (.bool true)), (12, .pur (Value.int .u8 (byteAt x1_0 (x1_4).toNat))), (13, .val (.bool true)), (21, .app ⟨none, iv (x1_2a :: x1_2t), iv ((x1_2a :: x1_2t) ++ [(w64 ((w64 (x1_1 + x1_4)) + (1 : Int)))]), (((x1_2a :: x1_2t) ++ [(w64 ((w64 (x1_1 + x1_4)) + (1 : Int)))])).length, false⟩)]) (L := lT []) (wk := ⟨[0, 1, 5, 8, 9], [(0, 2, true)], 1, 0⟩)
    (ps := [(Value.bool (decide (x1_4 < x1_3))) = (Value.bool true),
    opIndex P 9 (Value.string x1_0) (Value.int .i64 x1_4) Ax.h0 = some ((Value.int .u8 (byteAt x1_0 (x1_4).toNat)), Ax.h0),
    (Value.bool ((byteAt x1_0 (x1_4).toNat) == (10 : Int))) = (Value.bool true),
    0 < 1,
    rdT (layT (iv (x1_2a :: x1_2t))) (Nat.mul ((x1_2a :: x1_2t)).length 1) 0 = some (iv (x1_2a :: x1_2t)),
    fits (Nat.add ((x1_2a :: x1_2t)).length 1) 8 = true,
    allCells [(Value.int .i64 (w64 ((w64 (x1_1 + x1_4)) + (1 : Int))))] = true,
    allCells (iv (x1_2a :: x1_2t)) = true,
    iv (x1_2a :: x1_2t) ++ [(Value.int .i64 (w64 ((w64 (x1_1 + x1_4)) + (1 : Int))))] = iv ((x1_2a :: x1_2t) ++ [(w64 ((w64 (x1_1 + x1_4)) + (1 : Int)))]),
    Nat.add ((x1_2a :: x1_2t)).length 1 = (((x1_2a :: x1_2t) ++ [(w64 ((w64 (x1_1 + x1_4)) + (1 : Int)))])).length,
    FlatB (.cells (layT (iv ((x1_2a :: x1_2t) ++ [(w64 ((w64 (x1_1 + x1_4)) + (1 : Int)))]))) 3)]) (by kernel_rfl) ⟨(vbT hy1_1), (ixStr (by kernel_rfl) hy1_2), (veT hy1_3), ((by decide)), (iv_rd _), (fits_ok hy1_4 (by have := hy1_4; show (_ : Nat) + _ ≤ _; omega)), (rfl), (iv_cells _), (by simp [iv]), (by simp), (iv_flat _ _), trivial⟩
set_option maxRecDepth 100000 in
theorem q56_1_4 (n : Nat) (x1_0 : ByteArray) (x1_1 : Int) (x1_2a : Int) (x1_2t : List Int) (x1_3 : Int) (x1_4 : Int) (hy1_1 : x1_4 < x1_3) (hy1_2 : 0 ≤ x1_4 ∧ x1_4 < (((x1_0).size : Nat) : Int)) (hy1_3 : ¬ ((byteAt x1_0 (x1_4).toNat) = (10 : Int))) : CG P none (fnN P 56) 0 (codeOf P 56 [false, false, true, false, true, true]) (S56_1 x1_0 x1_1 x1_3 ((x1_2a :: x1_2t), x1_4)) (.normal, S56_1 x1_0 x1_1 x1_3 ((x1_2a :: x1_2t), (w64 (x1_4 + (1 : Int))))) :=
  runC_ok hm (A := aT [(1, .val (.bool true)), (12, .pur (Value.int .u8 (byteAt x1_0 (x1_4).toNat))), (13, .val (.bool false))]) (L := lT []) (wk := ⟨[0, 1, 5, 8, 9], [(0, 0, true)], 1, 0⟩)
    (ps := [(Value.bool (decide (x1_4 < x1_3))) = (Value.bool true),
    opIndex P 9 (Value.string x1_0) (Value.int .i64 x1_4) Ax.h0 = some ((Value.int .u8 (byteAt x1_0 (x1_4).toNat)), Ax.h0),
    (Value.bool ((byteAt x1_0 (x1_4).toNat) == (10 : Int))) = (Value.bool false),
    FlatB (.cells (layT (iv (x1_2a :: x1_2t))) 3)]) (by kernel_rfl) ⟨(vbT hy1_1), (ixStr (by kernel_rfl) hy1_2), (veF hy1_3), (iv_flat _ _), trivial⟩
set_option maxRecDepth 100000 in
theorem q56_1_5 (n : Nat) (x1_0 : ByteArray) (x1_1 : Int) (x1_2a : Int) (x1_2t : List Int) (x1_3 : Int) (x1_4 : Int) (hy1_1 : ¬ (x1_4 < x1_3)) : CG P none (fnN P 56) 0 (codeOf P 56 [false, false, true, false, true, true]) (S56_1 x1_0 x1_1 x1_3 ((x1_2a :: x1_2t), x1_4)) (X56_1 x1_0 x1_1 x1_3 (x1_2a :: x1_2t)) :=
  runC_ok hm (A := aT [(1, .val (.bool false))]) (L := lT []) (wk := ⟨[5], [(0, 0, true)], 1, 0⟩)
    (ps := [(Value.bool (decide (x1_4 < x1_3))) = (Value.bool false),
    FlatB (.cells (layT (iv (x1_2a :: x1_2t))) 3)]) (by kernel_rfl) ⟨(vbF hy1_1), (iv_flat _ _), trivial⟩
theorem m56_1_ok (n : Nat) (x1_0 : ByteArray) (x1_1 : Int) (x1_3 : Int) (st : List Int × Int) (r : List Int) (h : m56_1 n x1_0 x1_1 x1_3 st = some r) : CG P none (fnN P 56) 0 (codeOf P 56 [false, true, false, true, true]) (S56_1 x1_0 x1_1 x1_3 st) (X56_1 x1_0 x1_1 x1_3 r) :=
  CG.iter (b := codeOf P 56 [false, false, true, false, true, true]) (by kernel_rfl) (body := B56_1 n x1_0 x1_1 x1_3) (S := S56_1 x1_0 x1_1 x1_3) (X := X56_1 x1_0 x1_1 x1_3)
    (fun s s' h => by
    obtain ⟨x1_2, x1_4⟩ := s
    unfold B56_1 at h
    dsimp only at h
    cases x1_2 with
    | nil =>
      dsimp only at h
      by_cases hy1_1 : x1_4 < x1_3
      · rw [if_pos hy1_1] at h
        by_cases hy1_2 : 0 ≤ x1_4 ∧ x1_4 < (((x1_0).size : Nat) : Int)
        · rw [if_pos hy1_2] at h
          by_cases hy1_3 : (byteAt x1_0 (x1_4).toNat) = (10 : Int)
          · rw [if_pos hy1_3] at h
            obtain rfl := Sum.inl.inj (Option.some.inj h); exact q56_1_0 n x1_0 x1_1 x1_3 x1_4 hy1_1 hy1_2 hy1_3
          · rw [if_neg hy1_3] at h
            obtain rfl := Sum.inl.inj (Option.some.inj h); exact q56_1_1 n x1_0 x1_1 x1_3 x1_4 hy1_1 hy1_2 hy1_3
        · rw [if_neg hy1_2] at h; cases h
      · rw [if_neg hy1_1] at h
        cases h
    | cons x1_2a x1_2t =>
      dsimp only at h
      by_cases hy1_1 : x1_4 < x1_3
      · rw [if_pos hy1_1] at h
        by_cases hy1_2 : 0 ≤ x1_4 ∧ x1_4 < (((x1_0).size : Nat) : Int)
        · rw [if_pos hy1_2] at h
          by_cases hy1_3 : (byteAt x1_0 (x1_4).toNat) = (10 : Int)
          · rw [if_pos hy1_3] at h
            by_cases hy1_4 : (((x1_2a :: x1_2t)).length + 1) * 8 ≤ 140737488355328
            · rw [if_pos hy1_4] at h
              obtain rfl := Sum.inl.inj (Option.some.inj h); exact q56_1_3 n x1_0 x1_1 x1_2a x1_2t x1_3 x1_4 hy1_1 hy1_2 hy1_3 hy1_4
            · rw [if_neg hy1_4] at h; cases h
          · rw [if_neg hy1_3] at h
            obtain rfl := Sum.inl.inj (Option.some.inj h); exact q56_1_4 n x1_0 x1_1 x1_2a x1_2t x1_3 x1_4 hy1_1 hy1_2 hy1_3
        · rw [if_neg hy1_2] at h; cases h
      · rw [if_neg hy1_1] at h
        cases h)
    (fun s r h => by
    obtain ⟨x1_2, x1_4⟩ := s
    unfold B56_1 at h
    dsimp only at h
    cases x1_2 with
    | nil =>
      dsimp only at h
      by_cases hy1_1 : x1_4 < x1_3
      · rw [if_pos hy1_1] at h
        by_cases hy1_2 : 0 ≤ x1_4 ∧ x1_4 < (((x1_0).size : Nat) : Int)
        · rw [if_pos hy1_2] at h
          by_cases hy1_3 : (byteAt x1_0 (x1_4).toNat) = (10 : Int)
          · rw [if_pos hy1_3] at h
            cases h
          · rw [if_neg hy1_3] at h
            cases h
        · rw [if_neg hy1_2] at h; cases h
      · rw [if_neg hy1_1] at h
        obtain rfl := Sum.inr.inj (Option.some.inj h); exact q56_1_2 n x1_0 x1_1 x1_3 x1_4 hy1_1
    | cons x1_2a x1_2t =>
      dsimp only at h
      by_cases hy1_1 : x1_4 < x1_3
      · rw [if_pos hy1_1] at h
        by_cases hy1_2 : 0 ≤ x1_4 ∧ x1_4 < (((x1_0).size : Nat) : Int)
        · rw [if_pos hy1_2] at h
          by_cases hy1_3 : (byteAt x1_0 (x1_4).toNat) = (10 : Int)
          · rw [if_pos hy1_3] at h
            by_cases hy1_4 : (((x1_2a :: x1_2t)).length + 1) * 8 ≤ 140737488355328
            · rw [if_pos hy1_4] at h
              cases h
            · rw [if_neg hy1_4] at h; cases h
          · rw [if_neg hy1_3] at h
            cases h
        · rw [if_neg hy1_2] at h; cases h
      · rw [if_neg hy1_1] at h
        obtain rfl := Sum.inr.inj (Option.some.inj h); exact q56_1_5 n x1_0 x1_1 x1_2a x1_2t x1_3 x1_4 hy1_1)
    (fun r => by intro hx; cases hx) h
noncomputable def A56 (a0 : ByteArray) (a1 : Int) : List Value := [(Value.string a0), (Value.int .i64 a1)]
noncomputable def H56 (a0 : ByteArray) (a1 : Int) : AH := ⟨sB [], 0, 0⟩
noncomputable def V56 (a0 : ByteArray) (a1 : Int) (r : List Int) : Value := match r with
  | o0 => (slN o0 0)
noncomputable def R56 (a0 : ByteArray) (a1 : Int) (r : List Int) : AH := match r with
  | o0 => ⟨sB [(0, (nblk o0 3))], 1, 0⟩
def m56 (n : Nat) (a0 : ByteArray) (a1 : Int) : Option (List Int) :=
  (m56_1 n a0 a1 (((a0).size : Nat) : Int) (([] : List Int), 0)).bind fun c1_ =>
  match c1_ with
  | [] =>
    some ([] : List Int)
  | c1_a :: c1_t =>
    some (c1_a :: c1_t)
set_option maxRecDepth 100000 in
theorem p56_0 (n : Nat) (a0 : ByteArray) (a1 : Int) (hc1 : m56_1 n a0 a1 (((a0).size : Nat) : Int) (([] : List Int), 0) = some []) : Gv P (.func 56) (A56 a0 a1) (H56 a0 a1) (V56 a0 a1 ([] : List Int)) (R56 a0 a1 ([] : List Int)) :=
  runF_ok hm (A := aT []) (L := lT [(10, ⟨⟨[0, 1, 5, 8, 9], [], 1, 0⟩, (X56_1 a0 a1 (((a0).size : Nat) : Int) ([] : List Int)).1, (X56_1 a0 a1 (((a0).size : Nat) : Int) ([] : List Int)).2⟩)]) (wk := ⟨[4], [], 1, 0⟩)
    (ps := [CG P none (fnN P 56) 0 (codeOf P 56 [false, true, false, true, true]) (S56_1 a0 a1 (((a0).size : Nat) : Int) (([] : List Int), 0)) (X56_1 a0 a1 (((a0).size : Nat) : Int) ([] : List Int))]) (by kernel_rfl) ⟨(m56_1_ok n a0 a1 (((a0).size : Nat) : Int) (([] : List Int), 0) ([] : List Int) hc1), trivial⟩
set_option maxRecDepth 100000 in
theorem p56_1 (n : Nat) (a0 : ByteArray) (a1 : Int) (c1_a : Int) (c1_t : List Int) (hc1 : m56_1 n a0 a1 (((a0).size : Nat) : Int) (([] : List Int), 0) = some (c1_a :: c1_t)) : Gv P (.func 56) (A56 a0 a1) (H56 a0 a1) (V56 a0 a1 (c1_a :: c1_t)) (R56 a0 a1 (c1_a :: c1_t)) :=
  runF_ok hm (A := aT []) (L := lT [(10, ⟨⟨[0, 1, 5, 8, 9], [], 1, 0⟩, (X56_1 a0 a1 (((a0).size : Nat) : Int) (c1_a :: c1_t)).1, (X56_1 a0 a1 (((a0).size : Nat) : Int) (c1_a :: c1_t)).2⟩)]) (wk := ⟨[4], [(0, 0, true)], 1, 0⟩)
    (ps := [CG P none (fnN P 56) 0 (codeOf P 56 [false, true, false, true, true]) (S56_1 a0 a1 (((a0).size : Nat) : Int) (([] : List Int), 0)) (X56_1 a0 a1 (((a0).size : Nat) : Int) (c1_a :: c1_t)),
    FlatB (.cells (layT (iv (c1_a :: c1_t))) 3)]) (by kernel_rfl) ⟨(m56_1_ok n a0 a1 (((a0).size : Nat) : Int) (([] : List Int), 0) (c1_a :: c1_t) hc1), (iv_flat _ _), trivial⟩
theorem m56_ok (n : Nat) (a0 : ByteArray) (a1 : Int) (r : List Int) (h : m56 n a0 a1 = some r) : Gv P (.func 56) (A56 a0 a1) (H56 a0 a1) (V56 a0 a1 r) (R56 a0 a1 r) := by
  unfold m56 at h
  obtain ⟨c1_, hc1, h⟩ := Option.bind_eq_some_iff.1 h
  cases c1_ with
  | nil =>
    dsimp only at h
    obtain rfl := Option.some.inj h; exact p56_0 n a0 a1 hc1
  | cons c1_a c1_t =>
    dsimp only at h
    obtain rfl := Option.some.inj h; exact p56_1 n a0 a1 c1_a c1_t hc1

noncomputable def A57 (L : List Int) (cap : Nat) (sz : Int) : List Value := [(Value.pointer (some ⟨0, 0, none⟩))]
noncomputable def H57 (L : List Int) (cap : Nat) (sz : Int) : AH := ⟨sB [(0, (some (.cells (layT [(Value.pointer (some ⟨0, 0, none⟩)), (Value.slice (some ⟨1, 0, none⟩) (L).length cap), (Value.int .i64 sz)]) 103))), (1, (some (.cells (layT (iv L)) 3)))], 2, 2⟩
noncomputable def V57 (L : List Int) (cap : Nat) (sz : Int) (r : Unit) : Value := match r with
  | _ => (Value.bool true)
noncomputable def R57 (L : List Int) (cap : Nat) (sz : Int) (r : Unit) : AH := match r with
  | _ => ⟨sB [], 2, 2⟩
def m57 (n : Nat) (L : List Int) (cap : Nat) (sz : Int) : Option (Unit) :=
  some ()
set_option maxRecDepth 100000 in
theorem p57_0 (n : Nat) (L : List Int) (cap : Nat) (sz : Int) : Gv P (.func 57) (A57 L cap sz) (H57 L cap sz) (V57 L cap sz ()) (R57 L cap sz ()) :=
  runF_ok hm (A := aT []) (L := lT []) (wk := ⟨[2], [], 2, 2⟩)
    (ps := []) (by kernel_rfl) trivial
theorem m57_ok (n : Nat) (L : List Int) (cap : Nat) (sz : Int) (r : Unit) (h : m57 n L cap sz = some r) : Gv P (.func 57) (A57 L cap sz) (H57 L cap sz) (V57 L cap sz r) (R57 L cap sz r) := by
  unfold m57 at h
  obtain rfl := Option.some.inj h; exact p57_0 n L cap sz

noncomputable def A15 (L : List Int) (cap : Nat) (sz : Int) : List Value := [(Value.pointer (some ⟨0, 0, none⟩))]
noncomputable def H15 (L : List Int) (cap : Nat) (sz : Int) : AH := ⟨sB [(0, (some (.cells (layT [(Value.pointer (some ⟨0, 0, none⟩)), (Value.slice (some ⟨1, 0, none⟩) (L).length cap), (Value.int .i64 sz)]) 103))), (1, (some (.cells (layT (iv L)) 3)))], 2, 2⟩
noncomputable def V15 (L : List Int) (cap : Nat) (sz : Int) (r : Unit) : Value := match r with
  | _ => (Value.int .i64 (((L).length : Nat) : Int))
noncomputable def R15 (L : List Int) (cap : Nat) (sz : Int) (r : Unit) : AH := match r with
  | _ => ⟨sB [], 2, 2⟩
def m15 (n : Nat) (L : List Int) (cap : Nat) (sz : Int) : Option (Unit) :=
  (m57 n L cap sz).bind fun _ =>
  some ()
set_option maxRecDepth 100000 in
theorem p15_0 (n : Nat) (L : List Int) (cap : Nat) (sz : Int) (hc1 : m57 n L cap sz = some ()) : Gv P (.func 15) (A15 L cap sz) (H15 L cap sz) (V15 L cap sz ()) (R15 L cap sz ()) :=
  runF_ok hm (A := aT [(5, .call ⟨2, [(0, 0, false), (1, 1, true)], (V57 L cap sz ()), (R57 L cap sz ()), []⟩)]) (L := lT []) (wk := ⟨[2], [], 2, 2⟩)
    (ps := [Gv P (.func 57) (A57 L cap sz) (H57 L cap sz) (V57 L cap sz ()) (R57 L cap sz ()),
    FlatB (.cells (layT (iv L)) 3)]) (by kernel_rfl) ⟨(m57_ok n L cap sz () hc1), (iv_flat _ _), trivial⟩
theorem m15_ok (n : Nat) (L : List Int) (cap : Nat) (sz : Int) (r : Unit) (h : m15 n L cap sz = some r) : Gv P (.func 15) (A15 L cap sz) (H15 L cap sz) (V15 L cap sz r) (R15 L cap sz r) := by
  unfold m15 at h
  obtain ⟨_, hc1, h⟩ := Option.bind_eq_some_iff.1 h
  obtain rfl := Option.some.inj h; exact p15_0 n L cap sz hc1

noncomputable def A13 (L : List Int) (cap : Nat) (sz : Int) (line : Int) : List Value := [(Value.pointer (some ⟨0, 0, none⟩)), (Value.int .i64 line)]
noncomputable def H13 (L : List Int) (cap : Nat) (sz : Int) (line : Int) : AH := ⟨sB [(0, (some (.cells (layT [(Value.pointer (some ⟨0, 0, none⟩)), (Value.slice (some ⟨1, 0, none⟩) (L).length cap), (Value.int .i64 sz)]) 103))), (1, (some (.cells (layT (iv L)) 3)))], 2, 2⟩
noncomputable def V13 (L : List Int) (cap : Nat) (sz : Int) (line : Int) (r : Int × Bool) : Value := match r with
  | (o0, o1) => (Value.tuple #[(Value.int .i64 o0), (Value.bool o1)])
noncomputable def R13 (L : List Int) (cap : Nat) (sz : Int) (line : Int) (r : Int × Bool) : AH := match r with
  | (o0, o1) => ⟨sB [], 2, 2⟩
def m13 (n : Nat) (L : List Int) (cap : Nat) (sz : Int) (line : Int) : Option (Int × Bool) :=
  (m57 n L cap sz).bind fun _ =>
  if line < (0 : Int) then
    some (0, false)
  else
    if line ≥ (((L).length : Nat) : Int) then
      some (0, false)
    else
      if 0 ≤ line ∧ line < (((L).length : Nat) : Int) then
        some (((L).getD (line).toNat 0), true)
      else none
set_option maxRecDepth 100000 in
theorem p13_0 (n : Nat) (L : List Int) (cap : Nat) (sz : Int) (line : Int) (hc1 : m57 n L cap sz = some ()) (hc2 : line < (0 : Int)) : Gv P (.func 13) (A13 L cap sz line) (H13 L cap sz line) (V13 L cap sz line (0, false)) (R13 L cap sz line (0, false)) :=
  runF_ok hm (A := aT [(6, .call ⟨2, [(0, 0, false), (1, 1, true)], (V57 L cap sz ()), (R57 L cap sz ()), []⟩), (10, .val (.bool true))]) (L := lT []) (wk := ⟨[4, 5], [], 2, 2⟩)
    (ps := [Gv P (.func 57) (A57 L cap sz) (H57 L cap sz) (V57 L cap sz ()) (R57 L cap sz ()),
    FlatB (.cells (layT (iv L)) 3),
    (Value.bool (decide (line < (0 : Int)))) = (Value.bool true)]) (by kernel_rfl) ⟨(m57_ok n L cap sz () hc1), (iv_flat _ _), (vbT hc2), trivial⟩
set_option maxRecDepth 100000 in
theorem p13_1 (n : Nat) (L : List Int) (cap : Nat) (sz : Int) (line : Int) (hc1 : m57 n L cap sz = some ()) (hc2 : ¬ (line < (0 : Int))) (hc3 : line ≥ (((L).length : Nat) : Int)) : Gv P (.func 13) (A13 L cap sz line) (H13 L cap sz line) (V13 L cap sz line (0, false)) (R13 L cap sz line (0, false)) :=
  runF_ok hm (A := aT [(6, .call ⟨2, [(0, 0, false), (1, 1, true)], (V57 L cap sz ()), (R57 L cap sz ()), []⟩), (10, .val (.bool false)), (19, .val (.bool true))]) (L := lT []) (wk := ⟨[4, 5], [], 2, 2⟩)
    (ps := [Gv P (.func 57) (A57 L cap sz) (H57 L cap sz) (V57 L cap sz ()) (R57 L cap sz ()),
    FlatB (.cells (layT (iv L)) 3),
    (Value.bool (decide (line < (0 : Int)))) = (Value.bool false),
    (Value.bool (decide (line ≥ (((L).length : Nat) : Int)))) = (Value.bool true)]) (by kernel_rfl) ⟨(m57_ok n L cap sz () hc1), (iv_flat _ _), (vbF hc2), (vbT hc3), trivial⟩
set_option maxRecDepth 100000 in
theorem p13_2 (n : Nat) (L : List Int) (cap : Nat) (sz : Int) (line : Int) (hc1 : m57 n L cap sz = some ()) (hc2 : ¬ (line < (0 : Int))) (hc3 : ¬ (line ≥ (((L).length : Nat) : Int))) (hc4 : 0 ≤ line ∧ line < (((L).length : Nat) : Int)) : Gv P (.func 13) (A13 L cap sz line) (H13 L cap sz line) (V13 L cap sz line (((L).getD (line).toNat 0), true)) (R13 L cap sz line (((L).getD (line).toNat 0), true)) :=
  runF_ok hm (A := aT [(6, .call ⟨2, [(0, 0, false), (1, 1, true)], (V57 L cap sz ()), (R57 L cap sz ()), []⟩), (10, .val (.bool false)), (19, .val (.bool false)), (28, .pur (Value.pointer (some ⟨1, (line).toNat, none⟩))), (29, .ld (Value.int .i64 ((L).getD (line).toNat 0)))]) (L := lT []) (wk := ⟨[4, 5], [], 2, 2⟩)
    (ps := [Gv P (.func 57) (A57 L cap sz) (H57 L cap sz) (V57 L cap sz ()) (R57 L cap sz ()),
    FlatB (.cells (layT (iv L)) 3),
    (Value.bool (decide (line < (0 : Int)))) = (Value.bool false),
    (Value.bool (decide (line ≥ (((L).length : Nat) : Int)))) = (Value.bool false),
    opIndexAddr P 34 (Value.slice (some ⟨1, 0, none⟩) (L).length cap) (Value.int .i64 line) Ax.h0 = some ((Value.pointer (some ⟨1, (line).toNat, none⟩)), Ax.h0),
    (layT (iv L)).get (line).toNat = some (Value.int .i64 ((L).getD (line).toNat 0))]) (by kernel_rfl) ⟨(m57_ok n L cap sz () hc1), (iv_flat _ _), (vbF hc2), (vbF hc3), (ixS1 (e := 3) (by kernel_rfl) (by kernel_rfl) hc4), (iv_ld _ _ (toNatLt hc4)), trivial⟩
theorem m13_ok (n : Nat) (L : List Int) (cap : Nat) (sz : Int) (line : Int) (r : Int × Bool) (h : m13 n L cap sz line = some r) : Gv P (.func 13) (A13 L cap sz line) (H13 L cap sz line) (V13 L cap sz line r) (R13 L cap sz line r) := by
  unfold m13 at h
  obtain ⟨_, hc1, h⟩ := Option.bind_eq_some_iff.1 h
  by_cases hc2 : line < (0 : Int)
  · rw [if_pos hc2] at h
    obtain rfl := Option.some.inj h; exact p13_0 n L cap sz line hc1 hc2
  · rw [if_neg hc2] at h
    by_cases hc3 : line ≥ (((L).length : Nat) : Int)
    · rw [if_pos hc3] at h
      obtain rfl := Option.some.inj h; exact p13_1 n L cap sz line hc1 hc2 hc3
    · rw [if_neg hc3] at h
      by_cases hc4 : 0 ≤ line ∧ line < (((L).length : Nat) : Int)
      · rw [if_pos hc4] at h
        obtain rfl := Option.some.inj h; exact p13_2 n L cap sz line hc1 hc2 hc3 hc4
      · rw [if_neg hc4] at h; cases h

noncomputable def S101_1 (x1_0 : List Int) (x1_1 : Nat) (x1_2 : Int) (x1_3 : Int) (st : Int × Int) : XSt := match st with
  | (x1_4, x1_5) => (sT 54 [(0, (Value.slice (some ⟨0, 0, none⟩) (x1_0).length x1_1)), (1, (Value.int .i64 x1_2)), (6, (Value.int .i64 x1_3)), (7, (Value.int .i64 x1_4)), (8, (Value.int .i64 x1_5))], [], ⟨sB [(0, (some (.cells (layT (iv x1_0)) 3)))], 1, 1⟩)
noncomputable def X101_1 (x1_0 : List Int) (x1_1 : Nat) (x1_2 : Int) (x1_3 : Int) (r : Int) : Ex × XSt := match r with
  | z1_0 => (.exit 0, (sT 54 [(0, (Value.slice (some ⟨0, 0, none⟩) (x1_0).length x1_1)), (1, (Value.int .i64 x1_2)), (6, (Value.int .i64 x1_3)), (7, (Value.int .i64 z1_0))], [], ⟨sB [(0, (some (.cells (layT (iv x1_0)) 3)))], 1, 1⟩))
def B101_1 (n : Nat) (x1_0 : List Int) (x1_1 : Nat) (x1_2 : Int) (x1_3 : Int) (st : Int × Int) : Option ((Int × Int) ⊕ (Int)) := match st with
  | (x1_4, x1_5) =>
    if x1_4 < x1_5 then
      if 0 ≤ (IntKind.i64.wrap (Int.fdiv (IntKind.u64.wrap (w64 (x1_4 + x1_5))) 2)) ∧ (IntKind.i64.wrap (Int.fdiv (IntKind.u64.wrap (w64 (x1_4 + x1_5))) 2)) < (((x1_0).length : Nat) : Int) then
        (m141 n ((x1_0).getD ((IntKind.i64.wrap (Int.fdiv (IntKind.u64.wrap (w64 (x1_4 + x1_5))) 2))).toNat 0) x1_2).bind fun y1_3_ =>
        if y1_3_ = true then
          some (.inl ((w64 ((IntKind.i64.wrap (Int.fdiv (IntKind.u64.wrap (w64 (x1_4 + x1_5))) 2)) + (1 : Int))), x1_5))
        else
          some (.inl (x1_4, (IntKind.i64.wrap (Int.fdiv (IntKind.u64.wrap (w64 (x1_4 + x1_5))) 2))))
      else none
    else
      some (.inr x1_4)
def m101_1 (n : Nat) (x1_0 : List Int) (x1_1 : Nat) (x1_2 : Int) (x1_3 : Int) (st : Int × Int) : Option (Int) := iterM (B101_1 n x1_0 x1_1 x1_2 x1_3) n st
set_option maxRecDepth 100000 in
theorem q101_1_0 (n : Nat) (x1_0 : List Int) (x1_1 : Nat) (x1_2 : Int) (x1_3 : Int) (x1_4 : Int) (x1_5 : Int) (hy1_1 : x1_4 < x1_5) (hy1_2 : 0 ≤ (IntKind.i64.wrap (Int.fdiv (IntKind.u64.wrap (w64 (x1_4 + x1_5))) 2)) ∧ (IntKind.i64.wrap (Int.fdiv (IntKind.u64.wrap (w64 (x1_4 + x1_5))) 2)) < (((x1_0).length : Nat) : Int)) (y1_3_ : Bool) (hy1_3 : m141 n ((x1_0).getD ((IntKind.i64.wrap (Int.fdiv (IntKind.u64.wrap (w64 (x1_4 + x1_5))) 2))).toNat 0) x1_2 = some y1_3_) (hy1_4 : y1_3_ = true) : CG P none (fnN P 101) 1 (codeOf P 101 [false, false, false, true, true, true]) (S101_1 x1_0 x1_1 x1_2 x1_3 (x1_4, x1_5)) (.normal, S101_1 x1_0 x1_1 x1_2 x1_3 ((w64 ((IntKind.i64.wrap (Int.fdiv (IntKind.u64.wrap (w64 (x1_4 + x1_5))) 2)) + (1 : Int))), x1_5)) :=
  runC_ok hm (A := aT [(4, .val (.bool true)), (18, .pur (Value.pointer (some ⟨0, ((IntKind.i64.wrap (Int.fdiv (IntKind.u64.wrap (w64 (x1_4 + x1_5))) 2))).toNat, none⟩))), (19, .ld (Value.int .i64 ((x1_0).getD ((IntKind.i64.wrap (Int.fdiv (IntKind.u64.wrap (w64 (x1_4 + x1_5))) 2))).toNat 0))), (21, .call ⟨0, [], (V141 ((x1_0).getD ((IntKind.i64.wrap (Int.fdiv (IntKind.u64.wrap (w64 (x1_4 + x1_5))) 2))).toNat 0) x1_2 y1_3_), (R141 ((x1_0).getD ((IntKind.i64.wrap (Int.fdiv (IntKind.u64.wrap (w64 (x1_4 + x1_5))) 2))).toNat 0) x1_2 y1_3_), []⟩), (22, .val (.bool true))]) (L := lT []) (wk := ⟨[0, 1, 6, 7, 8], [(0, 0, true)], 1, 1⟩)
    (ps := [(Value.bool (decide (x1_4 < x1_5))) = (Value.bool true),
    opIndexAddr P 34 (Value.slice (some ⟨0, 0, none⟩) (x1_0).length x1_1) (Value.int .i64 (IntKind.i64.wrap (Int.fdiv (IntKind.u64.wrap (w64 (x1_4 + x1_5))) 2))) Ax.h0 = some ((Value.pointer (some ⟨0, ((IntKind.i64.wrap (Int.fdiv (IntKind.u64.wrap (w64 (x1_4 + x1_5))) 2))).toNat, none⟩)), Ax.h0),
    (layT (iv x1_0)).get ((IntKind.i64.wrap (Int.fdiv (IntKind.u64.wrap (w64 (x1_4 + x1_5))) 2))).toNat = some (Value.int .i64 ((x1_0).getD ((IntKind.i64.wrap (Int.fdiv (IntKind.u64.wrap (w64 (x1_4 + x1_5))) 2))).toNat 0)),
    Gv P (.func 141) (A141 ((x1_0).getD ((IntKind.i64.wrap (Int.fdiv (IntKind.u64.wrap (w64 (x1_4 + x1_5))) 2))).toNat 0) x1_2) (H141 ((x1_0).getD ((IntKind.i64.wrap (Int.fdiv (IntKind.u64.wrap (w64 (x1_4 + x1_5))) 2))).toNat 0) x1_2) (V141 ((x1_0).getD ((IntKind.i64.wrap (Int.fdiv (IntKind.u64.wrap (w64 (x1_4 + x1_5))) 2))).toNat 0) x1_2 y1_3_) (R141 ((x1_0).getD ((IntKind.i64.wrap (Int.fdiv (IntKind.u64.wrap (w64 (x1_4 + x1_5))) 2))).toNat 0) x1_2 y1_3_),
    (Value.bool y1_3_) = (Value.bool true),
    FlatB (.cells (layT (iv x1_0)) 3)]) (by kernel_rfl) ⟨(vbT hy1_1), (ixS1 (e := 3) (by kernel_rfl) (by kernel_rfl) hy1_2), (iv_ld _ _ (toNatLt hy1_2)), (m141_ok n ((x1_0).getD ((IntKind.i64.wrap (Int.fdiv (IntKind.u64.wrap (w64 (x1_4 + x1_5))) 2))).toNat 0) x1_2 y1_3_ hy1_3), (vB hy1_4), (iv_flat _ _), trivial⟩
set_option maxRecDepth 100000 in
theorem q101_1_1 (n : Nat) (x1_0 : List Int) (x1_1 : Nat) (x1_2 : Int) (x1_3 : Int) (x1_4 : Int) (x1_5 : Int) (hy1_1 : x1_4 < x1_5) (hy1_2 : 0 ≤ (IntKind.i64.wrap (Int.fdiv (IntKind.u64.wrap (w64 (x1_4 + x1_5))) 2)) ∧ (IntKind.i64.wrap (Int.fdiv (IntKind.u64.wrap (w64 (x1_4 + x1_5))) 2)) < (((x1_0).length : Nat) : Int)) (y1_3_ : Bool) (hy1_3 : m141 n ((x1_0).getD ((IntKind.i64.wrap (Int.fdiv (IntKind.u64.wrap (w64 (x1_4 + x1_5))) 2))).toNat 0) x1_2 = some y1_3_) (hy1_4 : ¬ (y1_3_ = true)) : CG P none (fnN P 101) 1 (codeOf P 101 [false, false, false, true, true, true]) (S101_1 x1_0 x1_1 x1_2 x1_3 (x1_4, x1_5)) (.normal, S101_1 x1_0 x1_1 x1_2 x1_3 (x1_4, (IntKind.i64.wrap (Int.fdiv (IntKind.u64.wrap (w64 (x1_4 + x1_5))) 2)))) :=
  runC_ok hm (A := aT [(4, .val (.bool true)), (18, .pur (Value.pointer (some ⟨0, ((IntKind.i64.wrap (Int.fdiv (IntKind.u64.wrap (w64 (x1_4 + x1_5))) 2))).toNat, none⟩))), (19, .ld (Value.int .i64 ((x1_0).getD ((IntKind.i64.wrap (Int.fdiv (IntKind.u64.wrap (w64 (x1_4 + x1_5))) 2))).toNat 0))), (21, .call ⟨0, [], (V141 ((x1_0).getD ((IntKind.i64.wrap (Int.fdiv (IntKind.u64.wrap (w64 (x1_4 + x1_5))) 2))).toNat 0) x1_2 y1_3_), (R141 ((x1_0).getD ((IntKind.i64.wrap (Int.fdiv (IntKind.u64.wrap (w64 (x1_4 + x1_5))) 2))).toNat 0) x1_2 y1_3_), []⟩), (22, .val (.bool false))]) (L := lT []) (wk := ⟨[0, 1, 6, 7, 8], [(0, 0, true)], 1, 1⟩)
    (ps := [(Value.bool (decide (x1_4 < x1_5))) = (Value.bool true),
    opIndexAddr P 34 (Value.slice (some ⟨0, 0, none⟩) (x1_0).length x1_1) (Value.int .i64 (IntKind.i64.wrap (Int.fdiv (IntKind.u64.wrap (w64 (x1_4 + x1_5))) 2))) Ax.h0 = some ((Value.pointer (some ⟨0, ((IntKind.i64.wrap (Int.fdiv (IntKind.u64.wrap (w64 (x1_4 + x1_5))) 2))).toNat, none⟩)), Ax.h0),
    (layT (iv x1_0)).get ((IntKind.i64.wrap (Int.fdiv (IntKind.u64.wrap (w64 (x1_4 + x1_5))) 2))).toNat = some (Value.int .i64 ((x1_0).getD ((IntKind.i64.wrap (Int.fdiv (IntKind.u64.wrap (w64 (x1_4 + x1_5))) 2))).toNat 0)),
    Gv P (.func 141) (A141 ((x1_0).getD ((IntKind.i64.wrap (Int.fdiv (IntKind.u64.wrap (w64 (x1_4 + x1_5))) 2))).toNat 0) x1_2) (H141 ((x1_0).getD ((IntKind.i64.wrap (Int.fdiv (IntKind.u64.wrap (w64 (x1_4 + x1_5))) 2))).toNat 0) x1_2) (V141 ((x1_0).getD ((IntKind.i64.wrap (Int.fdiv (IntKind.u64.wrap (w64 (x1_4 + x1_5))) 2))).toNat 0) x1_2 y1_3_) (R141 ((x1_0).getD ((IntKind.i64.wrap (Int.fdiv (IntKind.u64.wrap (w64 (x1_4 + x1_5))) 2))).toNat 0) x1_2 y1_3_),
    (Value.bool y1_3_) = (Value.bool false),
    FlatB (.cells (layT (iv x1_0)) 3)]) (by kernel_rfl) ⟨(vbT hy1_1), (ixS1 (e := 3) (by kernel_rfl) (by kernel_rfl) hy1_2), (iv_ld _ _ (toNatLt hy1_2)), (m141_ok n ((x1_0).getD ((IntKind.i64.wrap (Int.fdiv (IntKind.u64.wrap (w64 (x1_4 + x1_5))) 2))).toNat 0) x1_2 y1_3_ hy1_3), (vB (Bool.eq_false_iff.2 hy1_4)), (iv_flat _ _), trivial⟩
set_option maxRecDepth 100000 in
theorem q101_1_2 (n : Nat) (x1_0 : List Int) (x1_1 : Nat) (x1_2 : Int) (x1_3 : Int) (x1_4 : Int) (x1_5 : Int) (hy1_1 : ¬ (x1_4 < x1_5)) : CG P none (fnN P 101) 1 (codeOf P 101 [false, false, false, true, true, true]) (S101_1 x1_0 x1_1 x1_2 x1_3 (x1_4, x1_5)) (X101_1 x1_0 x1_1 x1_2 x1_3 x1_4) :=
  runC_ok hm (A := aT [(4, .val (.bool false))]) (L := lT []) (wk := ⟨[0, 1, 6, 7], [(0, 0, true)], 1, 1⟩)
    (ps := [(Value.bool (decide (x1_4 < x1_5))) = (Value.bool false),
    FlatB (.cells (layT (iv x1_0)) 3)]) (by kernel_rfl) ⟨(vbF hy1_1), (iv_flat _ _), trivial⟩
theorem m101_1_ok (n : Nat) (x1_0 : List Int) (x1_1 : Nat) (x1_2 : Int) (x1_3 : Int) (st : Int × Int) (r : Int) (h : m101_1 n x1_0 x1_1 x1_2 x1_3 st = some r) : CG P none (fnN P 101) 1 (codeOf P 101 [false, false, true, true, true]) (S101_1 x1_0 x1_1 x1_2 x1_3 st) (X101_1 x1_0 x1_1 x1_2 x1_3 r) :=
  CG.iter (b := codeOf P 101 [false, false, false, true, true, true]) (by kernel_rfl) (body := B101_1 n x1_0 x1_1 x1_2 x1_3) (S := S101_1 x1_0 x1_1 x1_2 x1_3) (X := X101_1 x1_0 x1_1 x1_2 x1_3)
    (fun s s' h => by
    obtain ⟨x1_4, x1_5⟩ := s
    unfold B101_1 at h
    dsimp only at h
    by_cases hy1_1 : x1_4 < x1_5
    · rw [if_pos hy1_1] at h
      by_cases hy1_2 : 0 ≤ (IntKind.i64.wrap (Int.fdiv (IntKind.u64.wrap (w64 (x1_4 + x1_5))) 2)) ∧ (IntKind.i64.wrap (Int.fdiv (IntKind.u64.wrap (w64 (x1_4 + x1_5))) 2)) < (((x1_0).length : Nat) : Int)
      · rw [if_pos hy1_2] at h
        obtain ⟨y1_3_, hy1_3, h⟩ := Option.bind_eq_some_iff.1 h
        by_cases hy1_4 : y1_3_ = true
        · rw [if_pos hy1_4] at h
          obtain rfl := Sum.inl.inj (Option.some.inj h); exact q101_1_0 n x1_0 x1_1 x1_2 x1_3 x1_4 x1_5 hy1_1 hy1_2 y1_3_ hy1_3 hy1_4
        · rw [if_neg hy1_4] at h
          obtain rfl := Sum.inl.inj (Option.some.inj h); exact q101_1_1 n x1_0 x1_1 x1_2 x1_3 x1_4 x1_5 hy1_1 hy1_2 y1_3_ hy1_3 hy1_4
      · rw [if_neg hy1_2] at h; cases h
    · rw [if_neg hy1_1] at h
      cases h)
    (fun s r h => by
    obtain ⟨x1_4, x1_5⟩ := s
    unfold B101_1 at h
    dsimp only at h
    by_cases hy1_1 : x1_4 < x1_5
    · rw [if_pos hy1_1] at h
      by_cases hy1_2 : 0 ≤ (IntKind.i64.wrap (Int.fdiv (IntKind.u64.wrap (w64 (x1_4 + x1_5))) 2)) ∧ (IntKind.i64.wrap (Int.fdiv (IntKind.u64.wrap (w64 (x1_4 + x1_5))) 2)) < (((x1_0).length : Nat) : Int)
      · rw [if_pos hy1_2] at h
        obtain ⟨y1_3_, hy1_3, h⟩ := Option.bind_eq_some_iff.1 h
        by_cases hy1_4 : y1_3_ = true
        · rw [if_pos hy1_4] at h
          cases h
        · rw [if_neg hy1_4] at h
          cases h
      · rw [if_neg hy1_2] at h; cases h
    · rw [if_neg hy1_1] at h
      obtain rfl := Sum.inr.inj (Option.some.inj h); exact q101_1_2 n x1_0 x1_1 x1_2 x1_3 x1_4 x1_5 hy1_1)
    (fun r => by intro hx; cases hx) h
noncomputable def A101 (L : List Int) (cap : Nat) (x : Int) : List Value := [(Value.slice (some ⟨0, 0, none⟩) (L).length cap), (Value.int .i64 x)]
noncomputable def H101 (L : List Int) (cap : Nat) (x : Int) : AH := ⟨sB [(0, (some (.cells (layT (iv L)) 3)))], 1, 1⟩
noncomputable def V101 (L : List Int) (cap : Nat) (x : Int) (r : Int × Bool) : Value := match r with
  | (o0, o1) => (Value.tuple #[(Value.int .i64 o0), (Value.bool o1)])
noncomputable def R101 (L : List Int) (cap : Nat) (x : Int) (r : Int × Bool) : AH := match r with
  | (o0, o1) => ⟨sB [], 1, 1⟩
def m101 (n : Nat) (L : List Int) (cap : Nat) (x : Int) : Option (Int × Bool) :=
  (m101_1 n L cap x (((L).length : Nat) : Int) (0, (((L).length : Nat) : Int))).bind fun c1_ =>
  if c1_ < (((L).length : Nat) : Int) then
    if 0 ≤ c1_ ∧ c1_ < (((L).length : Nat) : Int) then
      if ((L).getD (c1_).toNat 0) = x then
        some (c1_, true)
      else
        (m142 n ((L).getD (c1_).toNat 0)).bind fun _ =>
        some (c1_, false)
    else none
  else
    some (c1_, false)
set_option maxRecDepth 100000 in
theorem p101_0 (n : Nat) (L : List Int) (cap : Nat) (x : Int) (c1_ : Int) (hc1 : m101_1 n L cap x (((L).length : Nat) : Int) (0, (((L).length : Nat) : Int)) = some c1_) (hc2 : c1_ < (((L).length : Nat) : Int)) (hc3 : 0 ≤ c1_ ∧ c1_ < (((L).length : Nat) : Int)) (hc4 : ((L).getD (c1_).toNat 0) = x) : Gv P (.func 101) (A101 L cap x) (H101 L cap x) (V101 L cap x (c1_, true)) (R101 L cap x (c1_, true)) :=
  runF_ok hm (A := aT [(18, .val (.bool true)), (22, .pur (Value.pointer (some ⟨0, (c1_).toNat, none⟩))), (23, .ld (Value.int .i64 ((L).getD (c1_).toNat 0))), (25, .val (.bool true))]) (L := lT [(13, ⟨⟨[0, 1, 6, 7, 8], [(0, 0, true)], 1, 1⟩, (X101_1 L cap x (((L).length : Nat) : Int) c1_).1, (X101_1 L cap x (((L).length : Nat) : Int) c1_).2⟩)]) (wk := ⟨[4, 5], [], 1, 1⟩)
    (ps := [CG P none (fnN P 101) 1 (codeOf P 101 [false, false, true, true, true]) (S101_1 L cap x (((L).length : Nat) : Int) (0, (((L).length : Nat) : Int))) (X101_1 L cap x (((L).length : Nat) : Int) c1_),
    FlatB (.cells (layT (iv L)) 3),
    (Value.bool (decide (c1_ < (((L).length : Nat) : Int)))) = (Value.bool true),
    opIndexAddr P 34 (Value.slice (some ⟨0, 0, none⟩) (L).length cap) (Value.int .i64 c1_) Ax.h0 = some ((Value.pointer (some ⟨0, (c1_).toNat, none⟩)), Ax.h0),
    (layT (iv L)).get (c1_).toNat = some (Value.int .i64 ((L).getD (c1_).toNat 0)),
    (Value.bool (((L).getD (c1_).toNat 0) == x)) = (Value.bool true)]) (by kernel_rfl) ⟨(m101_1_ok n L cap x (((L).length : Nat) : Int) (0, (((L).length : Nat) : Int)) c1_ hc1), (iv_flat _ _), (vbT hc2), (ixS1 (e := 3) (by kernel_rfl) (by kernel_rfl) hc3), (iv_ld _ _ (toNatLt hc3)), (veT hc4), trivial⟩
set_option maxRecDepth 100000 in
theorem p101_1 (n : Nat) (L : List Int) (cap : Nat) (x : Int) (c1_ : Int) (hc1 : m101_1 n L cap x (((L).length : Nat) : Int) (0, (((L).length : Nat) : Int)) = some c1_) (hc2 : c1_ < (((L).length : Nat) : Int)) (hc3 : 0 ≤ c1_ ∧ c1_ < (((L).length : Nat) : Int)) (hc4 : ¬ (((L).getD (c1_).toNat 0) = x)) (hc5 : m142 n ((L).getD (c1_).toNat 0) = some ()) : Gv P (.func 101) (A101 L cap x) (H101 L cap x) (V101 L cap x (c1_, false)) (R101 L cap x (c1_, false)) :=
  runF_ok hm (A := aT [(18, .val (.bool true)), (22, .pur (Value.pointer (some ⟨0, (c1_).toNat, none⟩))), (23, .ld (Value.int .i64 ((L).getD (c1_).toNat 0))), (25, .val (.bool false)), (29, .pur (Value.pointer (some ⟨0, (c1_).toNat, none⟩))), (30, .ld (Value.int .i64 ((L).getD (c1_).toNat 0))), (31, .call ⟨0, [], (V142 ((L).getD (c1_).toNat 0) ()), (R142 ((L).getD (c1_).toNat 0) ()), []⟩)]) (L := lT [(13, ⟨⟨[0, 1, 6, 7, 8], [(0, 0, true)], 1, 1⟩, (X101_1 L cap x (((L).length : Nat) : Int) c1_).1, (X101_1 L cap x (((L).length : Nat) : Int) c1_).2⟩)]) (wk := ⟨[4, 5], [], 1, 1⟩)
    (ps := [CG P none (fnN P 101) 1 (codeOf P 101 [false, false, true, true, true]) (S101_1 L cap x (((L).length : Nat) : Int) (0, (((L).length : Nat) : Int))) (X101_1 L cap x (((L).length : Nat) : Int) c1_),
    FlatB (.cells (layT (iv L)) 3),
    (Value.bool (decide (c1_ < (((L).length : Nat) : Int)))) = (Value.bool true),
    opIndexAddr P 34 (Value.slice (some ⟨0, 0, none⟩) (L).length cap) (Value.int .i64 c1_) Ax.h0 = some ((Value.pointer (some ⟨0, (c1_).toNat, none⟩)), Ax.h0),
    (layT (iv L)).get (c1_).toNat = some (Value.int .i64 ((L).getD (c1_).toNat 0)),
    (Value.bool (((L).getD (c1_).toNat 0) == x)) = (Value.bool false),
    opIndexAddr P 34 (Value.slice (some ⟨0, 0, none⟩) (L).length cap) (Value.int .i64 c1_) Ax.h0 = some ((Value.pointer (some ⟨0, (c1_).toNat, none⟩)), Ax.h0),
    (layT (iv L)).get (c1_).toNat = some (Value.int .i64 ((L).getD (c1_).toNat 0)),
    Gv P (.func 142) (A142 ((L).getD (c1_).toNat 0)) (H142 ((L).getD (c1_).toNat 0)) (V142 ((L).getD (c1_).toNat 0) ()) (R142 ((L).getD (c1_).toNat 0) ())]) (by kernel_rfl) ⟨(m101_1_ok n L cap x (((L).length : Nat) : Int) (0, (((L).length : Nat) : Int)) c1_ hc1), (iv_flat _ _), (vbT hc2), (ixS1 (e := 3) (by kernel_rfl) (by kernel_rfl) hc3), (iv_ld _ _ (toNatLt hc3)), (veF hc4), (ixS1 (e := 3) (by kernel_rfl) (by kernel_rfl) hc3), (iv_ld _ _ (toNatLt hc3)), (m142_ok n ((L).getD (c1_).toNat 0) () hc5), trivial⟩
set_option maxRecDepth 100000 in
theorem p101_2 (n : Nat) (L : List Int) (cap : Nat) (x : Int) (c1_ : Int) (hc1 : m101_1 n L cap x (((L).length : Nat) : Int) (0, (((L).length : Nat) : Int)) = some c1_) (hc2 : ¬ (c1_ < (((L).length : Nat) : Int))) : Gv P (.func 101) (A101 L cap x) (H101 L cap x) (V101 L cap x (c1_, false)) (R101 L cap x (c1_, false)) :=
  runF_ok hm (A := aT [(18, .val (.bool false))]) (L := lT [(13, ⟨⟨[0, 1, 6, 7, 8], [(0, 0, true)], 1, 1⟩, (X101_1 L cap x (((L).length : Nat) : Int) c1_).1, (X101_1 L cap x (((L).length : Nat) : Int) c1_).2⟩)]) (wk := ⟨[4, 5], [], 1, 1⟩)
    (ps := [CG P none (fnN P 101) 1 (codeOf P 101 [false, false, true, true, true]) (S101_1 L cap x (((L).length : Nat) : Int) (0, (((L).length : Nat) : Int))) (X101_1 L cap x (((L).length : Nat) : Int) c1_),
    FlatB (.cells (layT (iv L)) 3),
    (Value.bool (decide (c1_ < (((L).length : Nat) : Int)))) = (Value.bool false)]) (by kernel_rfl) ⟨(m101_1_ok n L cap x (((L).length : Nat) : Int) (0, (((L).length : Nat) : Int)) c1_ hc1), (iv_flat _ _), (vbF hc2), trivial⟩
theorem m101_ok (n : Nat) (L : List Int) (cap : Nat) (x : Int) (r : Int × Bool) (h : m101 n L cap x = some r) : Gv P (.func 101) (A101 L cap x) (H101 L cap x) (V101 L cap x r) (R101 L cap x r) := by
  unfold m101 at h
  obtain ⟨c1_, hc1, h⟩ := Option.bind_eq_some_iff.1 h
  by_cases hc2 : c1_ < (((L).length : Nat) : Int)
  · rw [if_pos hc2] at h
    by_cases hc3 : 0 ≤ c1_ ∧ c1_ < (((L).length : Nat) : Int)
    · rw [if_pos hc3] at h
      by_cases hc4 : ((L).getD (c1_).toNat 0) = x
      · rw [if_pos hc4] at h
        obtain rfl := Option.some.inj h; exact p101_0 n L cap x c1_ hc1 hc2 hc3 hc4
      · rw [if_neg hc4] at h
        obtain ⟨_, hc5, h⟩ := Option.bind_eq_some_iff.1 h
        obtain rfl := Option.some.inj h; exact p101_1 n L cap x c1_ hc1 hc2 hc3 hc4 hc5
    · rw [if_neg hc3] at h; cases h
  · rw [if_neg hc2] at h
    obtain rfl := Option.some.inj h; exact p101_2 n L cap x c1_ hc1 hc2

noncomputable def A58 (L : List Int) (cap : Nat) (sz : Int) (at_ : Int) : List Value := [(Value.pointer (some ⟨0, 0, none⟩)), (Value.int .i64 at_)]
noncomputable def H58 (L : List Int) (cap : Nat) (sz : Int) (at_ : Int) : AH := ⟨sB [(0, (some (.cells (layT [(Value.pointer (some ⟨0, 0, none⟩)), (Value.slice (some ⟨1, 0, none⟩) (L).length cap), (Value.int .i64 sz)]) 103))), (1, (some (.cells (layT (iv L)) 3)))], 2, 2⟩
noncomputable def V58 (L : List Int) (cap : Nat) (sz : Int) (at_ : Int) (r : Int) : Value := match r with
  | o0 => (Value.int .i64 o0)
noncomputable def R58 (L : List Int) (cap : Nat) (sz : Int) (at_ : Int) (r : Int) : AH := match r with
  | o0 => ⟨sB [], 2, 2⟩
def m58 (n : Nat) (L : List Int) (cap : Nat) (sz : Int) (at_ : Int) : Option (Int) :=
  (m101 n L cap at_).bind fun t => match t with
  | (c1_0, c1_1) =>
    if c1_1 = true then
      some (w64 (c1_0 + (1 : Int)))
    else
      some c1_0
set_option maxRecDepth 100000 in
theorem p58_0 (n : Nat) (L : List Int) (cap : Nat) (sz : Int) (at_ : Int) (c1_0 : Int) (c1_1 : Bool) (hc1 : m101 n L cap at_ = some (c1_0, c1_1)) (hc2 : c1_1 = true) : Gv P (.func 58) (A58 L cap sz at_) (H58 L cap sz at_) (V58 L cap sz at_ (w64 (c1_0 + (1 : Int)))) (R58 L cap sz at_ (w64 (c1_0 + (1 : Int)))) :=
  runF_ok hm (A := aT [(8, .call ⟨1, [(0, 1, true)], (V101 L cap at_ (c1_0, c1_1)), (R101 L cap at_ (c1_0, c1_1)), []⟩), (17, .val (.bool true))]) (L := lT []) (wk := ⟨[4], [], 2, 2⟩)
    (ps := [Gv P (.func 101) (A101 L cap at_) (H101 L cap at_) (V101 L cap at_ (c1_0, c1_1)) (R101 L cap at_ (c1_0, c1_1)),
    FlatB (.cells (layT (iv L)) 3),
    (Value.bool c1_1) = (Value.bool true)]) (by kernel_rfl) ⟨(m101_ok n L cap at_ (c1_0, c1_1) hc1), (iv_flat _ _), (vB hc2), trivial⟩
set_option maxRecDepth 100000 in
theorem p58_1 (n : Nat) (L : List Int) (cap : Nat) (sz : Int) (at_ : Int) (c1_0 : Int) (c1_1 : Bool) (hc1 : m101 n L cap at_ = some (c1_0, c1_1)) (hc2 : ¬ (c1_1 = true)) : Gv P (.func 58) (A58 L cap sz at_) (H58 L cap sz at_) (V58 L cap sz at_ c1_0) (R58 L cap sz at_ c1_0) :=
  runF_ok hm (A := aT [(8, .call ⟨1, [(0, 1, true)], (V101 L cap at_ (c1_0, c1_1)), (R101 L cap at_ (c1_0, c1_1)), []⟩), (17, .val (.bool false))]) (L := lT []) (wk := ⟨[4], [], 2, 2⟩)
    (ps := [Gv P (.func 101) (A101 L cap at_) (H101 L cap at_) (V101 L cap at_ (c1_0, c1_1)) (R101 L cap at_ (c1_0, c1_1)),
    FlatB (.cells (layT (iv L)) 3),
    (Value.bool c1_1) = (Value.bool false)]) (by kernel_rfl) ⟨(m101_ok n L cap at_ (c1_0, c1_1) hc1), (iv_flat _ _), (vB (Bool.eq_false_iff.2 hc2)), trivial⟩
theorem m58_ok (n : Nat) (L : List Int) (cap : Nat) (sz : Int) (at_ : Int) (r : Int) (h : m58 n L cap sz at_ = some r) : Gv P (.func 58) (A58 L cap sz at_) (H58 L cap sz at_) (V58 L cap sz at_ r) (R58 L cap sz at_ r) := by
  unfold m58 at h
  obtain ⟨⟨c1_0, c1_1⟩, hc1, h⟩ := Option.bind_eq_some_iff.1 h
  dsimp only at h
  by_cases hc2 : c1_1 = true
  · rw [if_pos hc2] at h
    obtain rfl := Option.some.inj h; exact p58_0 n L cap sz at_ c1_0 c1_1 hc1 hc2
  · rw [if_neg hc2] at h
    obtain rfl := Option.some.inj h; exact p58_1 n L cap sz at_ c1_0 c1_1 hc1 hc2

noncomputable def A12 (L : List Int) (cap : Nat) (sz : Int) (at_ : Int) : List Value := [(Value.pointer (some ⟨0, 0, none⟩)), (Value.int .i64 at_)]
noncomputable def H12 (L : List Int) (cap : Nat) (sz : Int) (at_ : Int) : AH := ⟨sB [(0, (some (.cells (layT [(Value.pointer (some ⟨0, 0, none⟩)), (Value.slice (some ⟨1, 0, none⟩) (L).length cap), (Value.int .i64 sz)]) 103))), (1, (some (.cells (layT (iv L)) 3)))], 2, 2⟩
noncomputable def V12 (L : List Int) (cap : Nat) (sz : Int) (at_ : Int) (r : Int × Int × Bool) : Value := match r with
  | (o0, o1, o2) => (Value.tuple #[(Value.int .i64 o0), (Value.int .i64 o1), (Value.bool o2)])
noncomputable def R12 (L : List Int) (cap : Nat) (sz : Int) (at_ : Int) (r : Int × Int × Bool) : AH := match r with
  | (o0, o1, o2) => ⟨sB [], 2, 2⟩
def m12 (n : Nat) (L : List Int) (cap : Nat) (sz : Int) (at_ : Int) : Option (Int × Int × Bool) :=
  (m57 n L cap sz).bind fun _ =>
  if at_ < (0 : Int) then
    some (0, 0, false)
  else
    if at_ > sz then
      some (0, 0, false)
    else
      (m58 n L cap sz at_).bind fun c4_ =>
      if 0 ≤ (w64 (c4_ - (1 : Int))) ∧ (w64 (c4_ - (1 : Int))) < (((L).length : Nat) : Int) then
        some ((w64 (c4_ - (1 : Int))), (w64 (at_ - ((L).getD ((w64 (c4_ - (1 : Int)))).toNat 0))), true)
      else none
set_option maxRecDepth 100000 in
theorem p12_0 (n : Nat) (L : List Int) (cap : Nat) (sz : Int) (at_ : Int) (hc1 : m57 n L cap sz = some ()) (hc2 : at_ < (0 : Int)) : Gv P (.func 12) (A12 L cap sz at_) (H12 L cap sz at_) (V12 L cap sz at_ (0, 0, false)) (R12 L cap sz at_ (0, 0, false)) :=
  runF_ok hm (A := aT [(7, .call ⟨2, [(0, 0, false), (1, 1, true)], (V57 L cap sz ()), (R57 L cap sz ()), []⟩), (11, .val (.bool true))]) (L := lT []) (wk := ⟨[4, 5, 6], [], 2, 2⟩)
    (ps := [Gv P (.func 57) (A57 L cap sz) (H57 L cap sz) (V57 L cap sz ()) (R57 L cap sz ()),
    FlatB (.cells (layT (iv L)) 3),
    (Value.bool (decide (at_ < (0 : Int)))) = (Value.bool true)]) (by kernel_rfl) ⟨(m57_ok n L cap sz () hc1), (iv_flat _ _), (vbT hc2), trivial⟩
set_option maxRecDepth 100000 in
theorem p12_1 (n : Nat) (L : List Int) (cap : Nat) (sz : Int) (at_ : Int) (hc1 : m57 n L cap sz = some ()) (hc2 : ¬ (at_ < (0 : Int))) (hc3 : at_ > sz) : Gv P (.func 12) (A12 L cap sz at_) (H12 L cap sz at_) (V12 L cap sz at_ (0, 0, false)) (R12 L cap sz at_ (0, 0, false)) :=
  runF_ok hm (A := aT [(7, .call ⟨2, [(0, 0, false), (1, 1, true)], (V57 L cap sz ()), (R57 L cap sz ()), []⟩), (11, .val (.bool false)), (19, .val (.bool true))]) (L := lT []) (wk := ⟨[4, 5, 6], [], 2, 2⟩)
    (ps := [Gv P (.func 57) (A57 L cap sz) (H57 L cap sz) (V57 L cap sz ()) (R57 L cap sz ()),
    FlatB (.cells (layT (iv L)) 3),
    (Value.bool (decide (at_ < (0 : Int)))) = (Value.bool false),
    (Value.bool (decide (at_ > sz))) = (Value.bool true)]) (by kernel_rfl) ⟨(m57_ok n L cap sz () hc1), (iv_flat _ _), (vbF hc2), (vbT hc3), trivial⟩
set_option maxRecDepth 100000 in
theorem p12_2 (n : Nat) (L : List Int) (cap : Nat) (sz : Int) (at_ : Int) (hc1 : m57 n L cap sz = some ()) (hc2 : ¬ (at_ < (0 : Int))) (hc3 : ¬ (at_ > sz)) (c4_ : Int) (hc4 : m58 n L cap sz at_ = some c4_) (hc5 : 0 ≤ (w64 (c4_ - (1 : Int))) ∧ (w64 (c4_ - (1 : Int))) < (((L).length : Nat) : Int)) : Gv P (.func 12) (A12 L cap sz at_) (H12 L cap sz at_) (V12 L cap sz at_ ((w64 (c4_ - (1 : Int))), (w64 (at_ - ((L).getD ((w64 (c4_ - (1 : Int)))).toNat 0))), true)) (R12 L cap sz at_ ((w64 (c4_ - (1 : Int))), (w64 (at_ - ((L).getD ((w64 (c4_ - (1 : Int)))).toNat 0))), true)) :=
  runF_ok hm (A := aT [(7, .call ⟨2, [(0, 0, false), (1, 1, true)], (V57 L cap sz ()), (R57 L cap sz ()), []⟩), (11, .val (.bool false)), (19, .val (.bool false)), (25, .call ⟨2, [(0, 0, false), (1, 1, true)], (V58 L cap sz at_ c4_), (R58 L cap sz at_ c4_), []⟩), (36, .pur (Value.pointer (some ⟨1, ((w64 (c4_ - (1 : Int)))).toNat, none⟩))), (37, .ld (Value.int .i64 ((L).getD ((w64 (c4_ - (1 : Int)))).toNat 0)))]) (L := lT []) (wk := ⟨[4, 5, 6], [], 2, 2⟩)
    (ps := [Gv P (.func 57) (A57 L cap sz) (H57 L cap sz) (V57 L cap sz ()) (R57 L cap sz ()),
    FlatB (.cells (layT (iv L)) 3),
    (Value.bool (decide (at_ < (0 : Int)))) = (Value.bool false),
    (Value.bool (decide (at_ > sz))) = (Value.bool false),
    Gv P (.func 58) (A58 L cap sz at_) (H58 L cap sz at_) (V58 L cap sz at_ c4_) (R58 L cap sz at_ c4_),
    FlatB (.cells (layT (iv L)) 3),
    opIndexAddr P 34 (Value.slice (some ⟨1, 0, none⟩) (L).length cap) (Value.int .i64 (w64 (c4_ - (1 : Int)))) Ax.h0 = some ((Value.pointer (some ⟨1, ((w64 (c4_ - (1 : Int)))).toNat, none⟩)), Ax.h0),
    (layT (iv L)).get ((w64 (c4_ - (1 : Int)))).toNat = some (Value.int .i64 ((L).getD ((w64 (c4_ - (1 : Int)))).toNat 0))]) (by kernel_rfl) ⟨(m57_ok n L cap sz () hc1), (iv_flat _ _), (vbF hc2), (vbF hc3), (m58_ok n L cap sz at_ c4_ hc4), (iv_flat _ _), (ixS1 (e := 3) (by kernel_rfl) (by kernel_rfl) hc5), (iv_ld _ _ (toNatLt hc5)), trivial⟩
theorem m12_ok (n : Nat) (L : List Int) (cap : Nat) (sz : Int) (at_ : Int) (r : Int × Int × Bool) (h : m12 n L cap sz at_ = some r) : Gv P (.func 12) (A12 L cap sz at_) (H12 L cap sz at_) (V12 L cap sz at_ r) (R12 L cap sz at_ r) := by
  unfold m12 at h
  obtain ⟨_, hc1, h⟩ := Option.bind_eq_some_iff.1 h
  by_cases hc2 : at_ < (0 : Int)
  · rw [if_pos hc2] at h
    obtain rfl := Option.some.inj h; exact p12_0 n L cap sz at_ hc1 hc2
  · rw [if_neg hc2] at h
    by_cases hc3 : at_ > sz
    · rw [if_pos hc3] at h
      obtain rfl := Option.some.inj h; exact p12_1 n L cap sz at_ hc1 hc2 hc3
    · rw [if_neg hc3] at h
      obtain ⟨c4_, hc4, h⟩ := Option.bind_eq_some_iff.1 h
      by_cases hc5 : 0 ≤ (w64 (c4_ - (1 : Int))) ∧ (w64 (c4_ - (1 : Int))) < (((L).length : Nat) : Int)
      · rw [if_pos hc5] at h
        obtain rfl := Option.some.inj h; exact p12_2 n L cap sz at_ hc1 hc2 hc3 c4_ hc4 hc5
      · rw [if_neg hc5] at h; cases h

noncomputable def A14 (L : List Int) (cap : Nat) (sz : Int) (line : Int) (col : Int) : List Value := [(Value.pointer (some ⟨0, 0, none⟩)), (Value.int .i64 line), (Value.int .i64 col)]
noncomputable def H14 (L : List Int) (cap : Nat) (sz : Int) (line : Int) (col : Int) : AH := ⟨sB [(0, (some (.cells (layT [(Value.pointer (some ⟨0, 0, none⟩)), (Value.slice (some ⟨1, 0, none⟩) (L).length cap), (Value.int .i64 sz)]) 103))), (1, (some (.cells (layT (iv L)) 3)))], 2, 2⟩
noncomputable def V14 (L : List Int) (cap : Nat) (sz : Int) (line : Int) (col : Int) (r : Int × Bool) : Value := match r with
  | (o0, o1) => (Value.tuple #[(Value.int .i64 o0), (Value.bool o1)])
noncomputable def R14 (L : List Int) (cap : Nat) (sz : Int) (line : Int) (col : Int) (r : Int × Bool) : AH := match r with
  | (o0, o1) => ⟨sB [], 2, 2⟩
def m14 (n : Nat) (L : List Int) (cap : Nat) (sz : Int) (line : Int) (col : Int) : Option (Int × Bool) :=
  (m13 n L cap sz line).bind fun t => match t with
  | (c1_0, c1_1) =>
    if c1_1 = true then
      if col < (0 : Int) then
        some (0, false)
      else
        if col > (w64 (sz - c1_0)) then
          some (0, false)
        else
          (m13 n L cap sz (w64 (line + (1 : Int)))).bind fun t => match t with
          | (c5_0, c5_1) =>
            if c5_1 = true then
              if (w64 (c1_0 + col)) ≥ c5_0 then
                some (0, false)
              else
                some ((w64 (c1_0 + col)), true)
            else
              some ((w64 (c1_0 + col)), true)
    else
      some (0, false)
set_option maxRecDepth 100000 in
theorem p14_0 (n : Nat) (L : List Int) (cap : Nat) (sz : Int) (line : Int) (col : Int) (c1_0 : Int) (c1_1 : Bool) (hc1 : m13 n L cap sz line = some (c1_0, c1_1)) (hc2 : c1_1 = true) (hc3 : col < (0 : Int)) : Gv P (.func 14) (A14 L cap sz line col) (H14 L cap sz line col) (V14 L cap sz line col (0, false)) (R14 L cap sz line col (0, false)) :=
  runF_ok hm (A := aT [(6, .call ⟨2, [(0, 0, false), (1, 1, true)], (V13 L cap sz line (c1_0, c1_1)), (R13 L cap sz line (c1_0, c1_1)), []⟩), (15, .val (.bool false)), (18, .val (.bool true))]) (L := lT []) (wk := ⟨[6, 7], [], 2, 2⟩)
    (ps := [Gv P (.func 13) (A13 L cap sz line) (H13 L cap sz line) (V13 L cap sz line (c1_0, c1_1)) (R13 L cap sz line (c1_0, c1_1)),
    FlatB (.cells (layT (iv L)) 3),
    (Value.bool (!c1_1)) = (Value.bool false),
    (Value.bool (decide (col < (0 : Int)))) = (Value.bool true)]) (by kernel_rfl) ⟨(m13_ok n L cap sz line (c1_0, c1_1) hc1), (iv_flat _ _), (vBn hc2), (vbT hc3), trivial⟩
set_option maxRecDepth 100000 in
theorem p14_1 (n : Nat) (L : List Int) (cap : Nat) (sz : Int) (line : Int) (col : Int) (c1_0 : Int) (c1_1 : Bool) (hc1 : m13 n L cap sz line = some (c1_0, c1_1)) (hc2 : c1_1 = true) (hc3 : ¬ (col < (0 : Int))) (hc4 : col > (w64 (sz - c1_0))) : Gv P (.func 14) (A14 L cap sz line col) (H14 L cap sz line col) (V14 L cap sz line col (0, false)) (R14 L cap sz line col (0, false)) :=
  runF_ok hm (A := aT [(6, .call ⟨2, [(0, 0, false), (1, 1, true)], (V13 L cap sz line (c1_0, c1_1)), (R13 L cap sz line (c1_0, c1_1)), []⟩), (15, .val (.bool false)), (18, .val (.bool false)), (28, .val (.bool true))]) (L := lT []) (wk := ⟨[6, 7], [], 2, 2⟩)
    (ps := [Gv P (.func 13) (A13 L cap sz line) (H13 L cap sz line) (V13 L cap sz line (c1_0, c1_1)) (R13 L cap sz line (c1_0, c1_1)),
    FlatB (.cells (layT (iv L)) 3),
    (Value.bool (!c1_1)) = (Value.bool false),
    (Value.bool (decide (col < (0 : Int)))) = (Value.bool false),
    (Value.bool (decide (col > (w64 (sz - c1_0))))) = (Value.bool true)]) (by kernel_rfl) ⟨(m13_ok n L cap sz line (c1_0, c1_1) hc1), (iv_flat _ _), (vBn hc2), (vbF hc3), (vbT hc4), trivial⟩
set_option maxRecDepth 100000 in
theorem p14_2 (n : Nat) (L : List Int) (cap : Nat) (sz : Int) (line : Int) (col : Int) (c1_0 : Int) (c1_1 : Bool) (hc1 : m13 n L cap sz line = some (c1_0, c1_1)) (hc2 : c1_1 = true) (hc3 : ¬ (col < (0 : Int))) (hc4 : ¬ (col > (w64 (sz - c1_0)))) (c5_0 : Int) (c5_1 : Bool) (hc5 : m13 n L cap sz (w64 (line + (1 : Int))) = some (c5_0, c5_1)) (hc6 : c5_1 = true) (hc7 : (w64 (c1_0 + col)) ≥ c5_0) : Gv P (.func 14) (A14 L cap sz line col) (H14 L cap sz line col) (V14 L cap sz line col (0, false)) (R14 L cap sz line col (0, false)) :=
  runF_ok hm (A := aT [(6, .call ⟨2, [(0, 0, false), (1, 1, true)], (V13 L cap sz line (c1_0, c1_1)), (R13 L cap sz line (c1_0, c1_1)), []⟩), (15, .val (.bool false)), (18, .val (.bool false)), (28, .val (.bool false)), (36, .call ⟨2, [(0, 0, false), (1, 1, true)], (V13 L cap sz (w64 (line + (1 : Int))) (c5_0, c5_1)), (R13 L cap sz (w64 (line + (1 : Int))) (c5_0, c5_1)), []⟩), (44, .val (.bool true)), (49, .val (.bool true))]) (L := lT []) (wk := ⟨[6, 7], [], 2, 2⟩)
    (ps := [Gv P (.func 13) (A13 L cap sz line) (H13 L cap sz line) (V13 L cap sz line (c1_0, c1_1)) (R13 L cap sz line (c1_0, c1_1)),
    FlatB (.cells (layT (iv L)) 3),
    (Value.bool (!c1_1)) = (Value.bool false),
    (Value.bool (decide (col < (0 : Int)))) = (Value.bool false),
    (Value.bool (decide (col > (w64 (sz - c1_0))))) = (Value.bool false),
    Gv P (.func 13) (A13 L cap sz (w64 (line + (1 : Int)))) (H13 L cap sz (w64 (line + (1 : Int)))) (V13 L cap sz (w64 (line + (1 : Int))) (c5_0, c5_1)) (R13 L cap sz (w64 (line + (1 : Int))) (c5_0, c5_1)),
    FlatB (.cells (layT (iv L)) 3),
    (Value.bool c5_1) = (Value.bool true),
    (Value.bool (decide ((w64 (c1_0 + col)) ≥ c5_0))) = (Value.bool true)]) (by kernel_rfl) ⟨(m13_ok n L cap sz line (c1_0, c1_1) hc1), (iv_flat _ _), (vBn hc2), (vbF hc3), (vbF hc4), (m13_ok n L cap sz (w64 (line + (1 : Int))) (c5_0, c5_1) hc5), (iv_flat _ _), (vB hc6), (vbT hc7), trivial⟩
set_option maxRecDepth 100000 in
theorem p14_3 (n : Nat) (L : List Int) (cap : Nat) (sz : Int) (line : Int) (col : Int) (c1_0 : Int) (c1_1 : Bool) (hc1 : m13 n L cap sz line = some (c1_0, c1_1)) (hc2 : c1_1 = true) (hc3 : ¬ (col < (0 : Int))) (hc4 : ¬ (col > (w64 (sz - c1_0)))) (c5_0 : Int) (c5_1 : Bool) (hc5 : m13 n L cap sz (w64 (line + (1 : Int))) = some (c5_0, c5_1)) (hc6 : c5_1 = true) (hc7 : ¬ ((w64 (c1_0 + col)) ≥ c5_0)) : Gv P (.func 14) (A14 L cap sz line col) (H14 L cap sz line col) (V14 L cap sz line col ((w64 (c1_0 + col)), true)) (R14 L cap sz line col ((w64 (c1_0 + col)), true)) :=
  runF_ok hm (A := aT [(6, .call ⟨2, [(0, 0, false), (1, 1, true)], (V13 L cap sz line (c1_0, c1_1)), (R13 L cap sz line (c1_0, c1_1)), []⟩), (15, .val (.bool false)), (18, .val (.bool false)), (28, .val (.bool false)), (36, .call ⟨2, [(0, 0, false), (1, 1, true)], (V13 L cap sz (w64 (line + (1 : Int))) (c5_0, c5_1)), (R13 L cap sz (w64 (line + (1 : Int))) (c5_0, c5_1)), []⟩), (44, .val (.bool true)), (49, .val (.bool false))]) (L := lT []) (wk := ⟨[6, 7], [], 2, 2⟩)
    (ps := [Gv P (.func 13) (A13 L cap sz line) (H13 L cap sz line) (V13 L cap sz line (c1_0, c1_1)) (R13 L cap sz line (c1_0, c1_1)),
    FlatB (.cells (layT (iv L)) 3),
    (Value.bool (!c1_1)) = (Value.bool false),
    (Value.bool (decide (col < (0 : Int)))) = (Value.bool false),
    (Value.bool (decide (col > (w64 (sz - c1_0))))) = (Value.bool false),
    Gv P (.func 13) (A13 L cap sz (w64 (line + (1 : Int)))) (H13 L cap sz (w64 (line + (1 : Int)))) (V13 L cap sz (w64 (line + (1 : Int))) (c5_0, c5_1)) (R13 L cap sz (w64 (line + (1 : Int))) (c5_0, c5_1)),
    FlatB (.cells (layT (iv L)) 3),
    (Value.bool c5_1) = (Value.bool true),
    (Value.bool (decide ((w64 (c1_0 + col)) ≥ c5_0))) = (Value.bool false)]) (by kernel_rfl) ⟨(m13_ok n L cap sz line (c1_0, c1_1) hc1), (iv_flat _ _), (vBn hc2), (vbF hc3), (vbF hc4), (m13_ok n L cap sz (w64 (line + (1 : Int))) (c5_0, c5_1) hc5), (iv_flat _ _), (vB hc6), (vbF hc7), trivial⟩
set_option maxRecDepth 100000 in
theorem p14_4 (n : Nat) (L : List Int) (cap : Nat) (sz : Int) (line : Int) (col : Int) (c1_0 : Int) (c1_1 : Bool) (hc1 : m13 n L cap sz line = some (c1_0, c1_1)) (hc2 : c1_1 = true) (hc3 : ¬ (col < (0 : Int))) (hc4 : ¬ (col > (w64 (sz - c1_0)))) (c5_0 : Int) (c5_1 : Bool) (hc5 : m13 n L cap sz (w64 (line + (1 : Int))) = some (c5_0, c5_1)) (hc6 : ¬ (c5_1 = true)) : Gv P (.func 14) (A14 L cap sz line col) (H14 L cap sz line col) (V14 L cap sz line col ((w64 (c1_0 + col)), true)) (R14 L cap sz line col ((w64 (c1_0 + col)), true)) :=
  runF_ok hm (A := aT [(6, .call ⟨2, [(0, 0, false), (1, 1, true)], (V13 L cap sz line (c1_0, c1_1)), (R13 L cap sz line (c1_0, c1_1)), []⟩), (15, .val (.bool false)), (18, .val (.bool false)), (28, .val (.bool false)), (36, .call ⟨2, [(0, 0, false), (1, 1, true)], (V13 L cap sz (w64 (line + (1 : Int))) (c5_0, c5_1)), (R13 L cap sz (w64 (line + (1 : Int))) (c5_0, c5_1)), []⟩), (44, .val (.bool false))]) (L := lT []) (wk := ⟨[6, 7], [], 2, 2⟩)
    (ps := [Gv P (.func 13) (A13 L cap sz line) (H13 L cap sz line) (V13 L cap sz line (c1_0, c1_1)) (R13 L cap sz line (c1_0, c1_1)),
    FlatB (.cells (layT (iv L)) 3),
    (Value.bool (!c1_1)) = (Value.bool false),
    (Value.bool (decide (col < (0 : Int)))) = (Value.bool false),
    (Value.bool (decide (col > (w64 (sz - c1_0))))) = (Value.bool false),
    Gv P (.func 13) (A13 L cap sz (w64 (line + (1 : Int)))) (H13 L cap sz (w64 (line + (1 : Int)))) (V13 L cap sz (w64 (line + (1 : Int))) (c5_0, c5_1)) (R13 L cap sz (w64 (line + (1 : Int))) (c5_0, c5_1)),
    FlatB (.cells (layT (iv L)) 3),
    (Value.bool c5_1) = (Value.bool false)]) (by kernel_rfl) ⟨(m13_ok n L cap sz line (c1_0, c1_1) hc1), (iv_flat _ _), (vBn hc2), (vbF hc3), (vbF hc4), (m13_ok n L cap sz (w64 (line + (1 : Int))) (c5_0, c5_1) hc5), (iv_flat _ _), (vB (Bool.eq_false_iff.2 hc6)), trivial⟩
set_option maxRecDepth 100000 in
theorem p14_5 (n : Nat) (L : List Int) (cap : Nat) (sz : Int) (line : Int) (col : Int) (c1_0 : Int) (c1_1 : Bool) (hc1 : m13 n L cap sz line = some (c1_0, c1_1)) (hc2 : ¬ (c1_1 = true)) : Gv P (.func 14) (A14 L cap sz line col) (H14 L cap sz line col) (V14 L cap sz line col (0, false)) (R14 L cap sz line col (0, false)) :=
  runF_ok hm (A := aT [(6, .call ⟨2, [(0, 0, false), (1, 1, true)], (V13 L cap sz line (c1_0, c1_1)), (R13 L cap sz line (c1_0, c1_1)), []⟩), (15, .val (.bool true))]) (L := lT []) (wk := ⟨[6, 7], [], 2, 2⟩)
    (ps := [Gv P (.func 13) (A13 L cap sz line) (H13 L cap sz line) (V13 L cap sz line (c1_0, c1_1)) (R13 L cap sz line (c1_0, c1_1)),
    FlatB (.cells (layT (iv L)) 3),
    (Value.bool (!c1_1)) = (Value.bool true)]) (by kernel_rfl) ⟨(m13_ok n L cap sz line (c1_0, c1_1) hc1), (iv_flat _ _), (vBn (Bool.eq_false_iff.2 hc2)), trivial⟩
theorem m14_ok (n : Nat) (L : List Int) (cap : Nat) (sz : Int) (line : Int) (col : Int) (r : Int × Bool) (h : m14 n L cap sz line col = some r) : Gv P (.func 14) (A14 L cap sz line col) (H14 L cap sz line col) (V14 L cap sz line col r) (R14 L cap sz line col r) := by
  unfold m14 at h
  obtain ⟨⟨c1_0, c1_1⟩, hc1, h⟩ := Option.bind_eq_some_iff.1 h
  dsimp only at h
  by_cases hc2 : c1_1 = true
  · rw [if_pos hc2] at h
    by_cases hc3 : col < (0 : Int)
    · rw [if_pos hc3] at h
      obtain rfl := Option.some.inj h; exact p14_0 n L cap sz line col c1_0 c1_1 hc1 hc2 hc3
    · rw [if_neg hc3] at h
      by_cases hc4 : col > (w64 (sz - c1_0))
      · rw [if_pos hc4] at h
        obtain rfl := Option.some.inj h; exact p14_1 n L cap sz line col c1_0 c1_1 hc1 hc2 hc3 hc4
      · rw [if_neg hc4] at h
        obtain ⟨⟨c5_0, c5_1⟩, hc5, h⟩ := Option.bind_eq_some_iff.1 h
        dsimp only at h
        by_cases hc6 : c5_1 = true
        · rw [if_pos hc6] at h
          by_cases hc7 : (w64 (c1_0 + col)) ≥ c5_0
          · rw [if_pos hc7] at h
            obtain rfl := Option.some.inj h; exact p14_2 n L cap sz line col c1_0 c1_1 hc1 hc2 hc3 hc4 c5_0 c5_1 hc5 hc6 hc7
          · rw [if_neg hc7] at h
            obtain rfl := Option.some.inj h; exact p14_3 n L cap sz line col c1_0 c1_1 hc1 hc2 hc3 hc4 c5_0 c5_1 hc5 hc6 hc7
        · rw [if_neg hc6] at h
          obtain rfl := Option.some.inj h; exact p14_4 n L cap sz line col c1_0 c1_1 hc1 hc2 hc3 hc4 c5_0 c5_1 hc5 hc6
  · rw [if_neg hc2] at h
    obtain rfl := Option.some.inj h; exact p14_5 n L cap sz line col c1_0 c1_1 hc1 hc2

noncomputable def A11 (s : ByteArray) : List Value := [(Value.string s)]
noncomputable def H11 (s : ByteArray) : AH := ⟨sB [], 0, 0⟩
noncomputable def V11 (s : ByteArray) (r : List Int × Nat) : Value := match r with
  | (o0, o1) => (Value.tuple #[(Value.pointer (some ⟨0, 0, none⟩)), (Value.int .i64 (0 : Int))])
noncomputable def R11 (s : ByteArray) (r : List Int × Nat) : AH := match r with
  | (o0, o1) => ⟨sB [(0, (some (.cells (layT [(Value.pointer (some ⟨0, 0, none⟩)), (Value.slice (some ⟨1, 0, none⟩) (o0).length o1), (Value.int .i64 (((s).size : Nat) : Int))]) 103))), (1, (some (.cells (layT (iv o0)) 3)))], 2, 0⟩
def m11 (n : Nat) (s : ByteArray) : Option (List Int × Nat) :=
  if (((s).size : Nat) : Int) > (65536 : Int) then
    none
  else
    (m56 n s 0).bind fun c2_ =>
    match c2_ with
    | [] =>
      some ([(0 : Int)], 1)
    | c2_a :: c2_t =>
      if (1 + ((c2_a :: c2_t)).length) * 8 ≤ 140737488355328 then
        if 1 < 1 + ((c2_a :: c2_t)).length then
          some (([(0 : Int)] ++ (c2_a :: c2_t)), (Nat.add big 1))
        else none
      else none
set_option maxRecDepth 100000 in
theorem p11_0 (n : Nat) (s : ByteArray) (hc1 : ¬ ((((s).size : Nat) : Int) > (65536 : Int))) (hc2 : m56 n s 0 = some []) : Gv P (.func 11) (A11 s) (H11 s) (V11 s ([(0 : Int)], 1)) (R11 s ([(0 : Int)], 1)) :=
  runF_ok hm (A := aT [(7, .val (.bool false)), (12, .call ⟨0, [], (V56 s 0 ([] : List Int)), (R56 s 0 ([] : List Int)), []⟩)]) (L := lT []) (wk := ⟨[2, 3], [(0, 2, false), (1, 0, false)], 2, 0⟩)
    (ps := [(Value.bool (decide ((((s).size : Nat) : Int) > (65536 : Int)))) = (Value.bool false),
    Gv P (.func 56) (A56 s 0) (H56 s 0) (V56 s 0 ([] : List Int)) (R56 s 0 ([] : List Int))]) (by kernel_rfl) ⟨(vbF hc1), (m56_ok n s 0 ([] : List Int) hc2), trivial⟩
set_option maxRecDepth 100000 in
theorem p11_1 (n : Nat) (s : ByteArray) (hc1 : ¬ ((((s).size : Nat) : Int) > (65536 : Int))) (c2_a : Int) (c2_t : List Int) (hc2 : m56 n s 0 = some (c2_a :: c2_t)) (hc3 : (1 + ((c2_a :: c2_t)).length) * 8 ≤ 140737488355328) (hc4 : 1 < 1 + ((c2_a :: c2_t)).length) : Gv P (.func 11) (A11 s) (H11 s) (V11 s (([(0 : Int)] ++ (c2_a :: c2_t)), (Nat.add big 1))) (R11 s (([(0 : Int)] ++ (c2_a :: c2_t)), (Nat.add big 1))) :=
  runF_ok hm (A := aT [(7, .val (.bool false)), (12, .call ⟨0, [], (V56 s 0 (c2_a :: c2_t)), (R56 s 0 (c2_a :: c2_t)), [(1, 0, true)]⟩), (13, .app ⟨some (((c2_a :: c2_t)).length, iv (c2_a :: c2_t)), [(Value.int .i64 (0 : Int))], iv ([(0 : Int)] ++ (c2_a :: c2_t)), (([(0 : Int)] ++ (c2_a :: c2_t))).length, true⟩)]) (L := lT []) (wk := ⟨[2, 3], [(0, 3, false), (1, 2, true)], 2, 0⟩)
    (ps := [(Value.bool (decide ((((s).size : Nat) : Int) > (65536 : Int)))) = (Value.bool false),
    Gv P (.func 56) (A56 s 0) (H56 s 0) (V56 s 0 (c2_a :: c2_t)) (R56 s 0 (c2_a :: c2_t)),
    FlatB (.cells (layT (iv (c2_a :: c2_t))) 3),
    ((c2_a :: c2_t)).length = ((c2_a :: c2_t)).length,
    rdT (layT (iv (c2_a :: c2_t))) (Nat.mul ((c2_a :: c2_t)).length 1) 0 = some (iv (c2_a :: c2_t)),
    0 < ((c2_a :: c2_t)).length,
    1 < big,
    1 < Nat.add 1 ((c2_a :: c2_t)).length,
    rdT (layT [(Value.int .i64 (0 : Int))]) (Nat.mul 1 1) 0 = some ([(Value.int .i64 (0 : Int))]),
    fits (Nat.add 1 ((c2_a :: c2_t)).length) 8 = true,
    [(Value.int .i64 (0 : Int))] ++ (iv (c2_a :: c2_t)) = iv ([(0 : Int)] ++ (c2_a :: c2_t)),
    Nat.add 1 ((c2_a :: c2_t)).length = (([(0 : Int)] ++ (c2_a :: c2_t))).length,
    FlatB (.cells (layT (iv ([(0 : Int)] ++ (c2_a :: c2_t)))) 3)]) (by kernel_rfl) ⟨(vbF hc1), (m56_ok n s 0 (c2_a :: c2_t) hc2), (iv_flat _ _), (rfl), (iv_rd _), ((Nat.succ_pos _)), ((by decide)), (hc4), (rfl), (fits_ok hc3 (by have := hc3; show (_ : Nat) + _ ≤ _; omega)), (by simp [iv]), (by simp <;> omega), (iv_flat _ _), trivial⟩
theorem m11_ok (n : Nat) (s : ByteArray) (r : List Int × Nat) (h : m11 n s = some r) : Gv P (.func 11) (A11 s) (H11 s) (V11 s r) (R11 s r) := by
  unfold m11 at h
  by_cases hc1 : (((s).size : Nat) : Int) > (65536 : Int)
  · rw [if_pos hc1] at h
    cases h
  · rw [if_neg hc1] at h
    obtain ⟨c2_, hc2, h⟩ := Option.bind_eq_some_iff.1 h
    cases c2_ with
    | nil =>
      dsimp only at h
      obtain rfl := Option.some.inj h; exact p11_0 n s hc1 hc2
    | cons c2_a c2_t =>
      dsimp only at h
      by_cases hc3 : (1 + ((c2_a :: c2_t)).length) * 8 ≤ 140737488355328
      · rw [if_pos hc3] at h
        by_cases hc4 : 1 < 1 + ((c2_a :: c2_t)).length
        · rw [if_pos hc4] at h
          obtain rfl := Option.some.inj h; exact p11_1 n s hc1 c2_a c2_t hc2 hc3 hc4
        · rw [if_neg hc4] at h; cases h
      · rw [if_neg hc3] at h; cases h

def m10 (n : Nat) : Option Unit := some ()
set_option maxRecDepth 1000000 in
theorem m10_run : Ax.isTrue (Ax.callP P (.func 10) [] Ax.h0) = true := by kernel_rfl
theorem m10_ok (n : Nat) (r : Unit) (h : m10 n = some r) : Gv P (.func 10) [] Ax.h0 (Value.bool true) Ax.h0 := Gv.ofTrue hm m10_run

noncomputable def S3_1 (x1_0 : ByteArray) (x1_1 : List Int) (x1_2 : Nat) (x1_3 : Int) (st : Int × Int) : XSt := match st with
  | (x1_4, x1_5) => (sT 128 [(0, (Value.string x1_0)), (3, (Value.pointer (some ⟨0, 0, none⟩))), (5, (Value.int .i64 x1_4)), (6, (Value.int .i64 x1_5))], [], ⟨sB [(0, (some (.cells (layT [(Value.pointer (some ⟨0, 0, none⟩)), (Value.slice (some ⟨1, 0, none⟩) (x1_1).length x1_2), (Value.int .i64 x1_3)]) 103))), (1, (some (.cells (layT (iv x1_1)) 3)))], 2, 0⟩)
noncomputable def X3_1 (x1_0 : ByteArray) (x1_1 : List Int) (x1_2 : Nat) (x1_3 : Int) (r : Int) : Ex × XSt := match r with
  | z1_0 => (.exit 0, (sT 128 [(0, (Value.string x1_0)), (3, (Value.pointer (some ⟨0, 0, none⟩))), (5, (Value.int .i64 z1_0))], [], ⟨sB [(0, (some (.cells (layT [(Value.pointer (some ⟨0, 0, none⟩)), (Value.slice (some ⟨1, 0, none⟩) (x1_1).length x1_2), (Value.int .i64 x1_3)]) 103))), (1, (some (.cells (layT (iv x1_1)) 3)))], 2, 0⟩))
def B3_1 (n : Nat) (x1_0 : ByteArray) (x1_1 : List Int) (x1_2 : Nat) (x1_3 : Int) (st : Int × Int) : Option ((Int × Int) ⊕ (Int)) := match st with
  | (x1_4, x1_5) =>
    if x1_5 ≤ (((x1_0).size : Nat) : Int) then
      if x1_5 > (0 : Int) then
        if 0 ≤ (w64 (x1_5 - (1 : Int))) ∧ (w64 (x1_5 - (1 : Int))) < (((x1_0).size : Nat) : Int) then
          if (byteAt x1_0 ((w64 (x1_5 - (1 : Int)))).toNat) = (10 : Int) then
            (m12 n x1_1 x1_2 x1_3 x1_5).bind fun t => match t with
            | (y1_5_0, y1_5_1, y1_5_2) =>
              (m13 n x1_1 x1_2 x1_3 y1_5_0).bind fun t => match t with
              | (y1_6_0, y1_6_1) =>
                (m14 n x1_1 x1_2 x1_3 y1_5_0 y1_5_1).bind fun t => match t with
                | (y1_7_0, y1_7_1) =>
                  if y1_5_2 = true then
                    if y1_5_0 = (w64 (x1_4 + (1 : Int))) then
                      if y1_6_1 = true then
                        if (w64 (y1_6_0 + y1_5_1)) = x1_5 then
                          if y1_7_1 = true then
                            if y1_7_0 = x1_5 then
                              some (.inl ((w64 (x1_4 + (1 : Int))), (w64 (x1_5 + (1 : Int)))))
                            else
                              none
                          else
                            none
                        else
                          none
                      else
                        none
                    else
                      none
                  else
                    none
          else
            (m12 n x1_1 x1_2 x1_3 x1_5).bind fun t => match t with
            | (y1_5_0, y1_5_1, y1_5_2) =>
              (m13 n x1_1 x1_2 x1_3 y1_5_0).bind fun t => match t with
              | (y1_6_0, y1_6_1) =>
                (m14 n x1_1 x1_2 x1_3 y1_5_0 y1_5_1).bind fun t => match t with
                | (y1_7_0, y1_7_1) =>
                  if y1_5_2 = true then
                    if y1_5_0 = x1_4 then
                      if y1_6_1 = true then
                        if (w64 (y1_6_0 + y1_5_1)) = x1_5 then
                          if y1_7_1 = true then
                            if y1_7_0 = x1_5 then
                              some (.inl (x1_4, (w64 (x1_5 + (1 : Int)))))
                            else
                              none
                          else
                            none
                        else
                          none
                      else
                        none
                    else
                      none
                  else
                    none
        else none
      else
        (m12 n x1_1 x1_2 x1_3 x1_5).bind fun t => match t with
        | (y1_3_0, y1_3_1, y1_3_2) =>
          (m13 n x1_1 x1_2 x1_3 y1_3_0).bind fun t => match t with
          | (y1_4_0, y1_4_1) =>
            (m14 n x1_1 x1_2 x1_3 y1_3_0 y1_3_1).bind fun t => match t with
            | (y1_5_0, y1_5_1) =>
              if y1_3_2 = true then
                if y1_3_0 = x1_4 then
                  if y1_4_1 = true then
                    if (w64 (y1_4_0 + y1_3_1)) = x1_5 then
                      if y1_5_1 = true then
                        if y1_5_0 = x1_5 then
                          some (.inl (x1_4, (w64 (x1_5 + (1 : Int)))))
                        else
                          none
                      else
                        none
                    else
                      none
                  else
                    none
                else
                  none
              else
                none
    else
      some (.inr x1_4)
def m3_1 (n : Nat) (x1_0 : ByteArray) (x1_1 : List Int) (x1_2 : Nat) (x1_3 : Int) (st : Int × Int) : Option (Int) := iterM (B3_1 n x1_0 x1_1 x1_2 x1_3) n st
set_option maxRecDepth 100000 in
theorem q3_1_0 (n : Nat) (x1_0 : ByteArray) (x1_1 : List Int) (x1_2 : Nat) (x1_3 : Int) (x1_4 : Int) (x1_5 : Int) (hy1_1 : x1_5 ≤ (((x1_0).size : Nat) : Int)) (hy1_2 : x1_5 > (0 : Int)) (hy1_3 : 0 ≤ (w64 (x1_5 - (1 : Int))) ∧ (w64 (x1_5 - (1 : Int))) < (((x1_0).size : Nat) : Int)) (hy1_4 : (byteAt x1_0 ((w64 (x1_5 - (1 : Int)))).toNat) = (10 : Int)) (y1_5_0 : Int) (y1_5_1 : Int) (y1_5_2 : Bool) (hy1_5 : m12 n x1_1 x1_2 x1_3 x1_5 = some (y1_5_0, y1_5_1, y1_5_2)) (y1_6_0 : Int) (y1_6_1 : Bool) (hy1_6 : m13 n x1_1 x1_2 x1_3 y1_5_0 = some (y1_6_0, y1_6_1)) (y1_7_0 : Int) (y1_7_1 : Bool) (hy1_7 : m14 n x1_1 x1_2 x1_3 y1_5_0 y1_5_1 = some (y1_7_0, y1_7_1)) (hy1_8 : y1_5_2 = true) (hy1_9 : y1_5_0 = (w64 (x1_4 + (1 : Int)))) (hy1_10 : y1_6_1 = true) (hy1_11 : (w64 (y1_6_0 + y1_5_1)) = x1_5) (hy1_12 : y1_7_1 = true) (hy1_13 : y1_7_0 = x1_5) : CG P none (fnN P 3) 0 (codeOf P 3 [false, false, true, false, true, true, true, true, true, true]) (S3_1 x1_0 x1_1 x1_2 x1_3 (x1_4, x1_5)) (.normal, S3_1 x1_0 x1_1 x1_2 x1_3 ((w64 (x1_4 + (1 : Int))), (w64 (x1_5 + (1 : Int))))) :=
  runC_ok hm (A := aT [(5, .val (.bool true)), (12, .val (.bool true)), (17, .pur (Value.int .u8 (byteAt x1_0 ((w64 (x1_5 - (1 : Int)))).toNat))), (18, .val (.bool true)), (27, .call ⟨2, [(0, 0, false), (1, 1, true)], (V12 x1_1 x1_2 x1_3 x1_5 (y1_5_0, y1_5_1, y1_5_2)), (R12 x1_1 x1_2 x1_3 x1_5 (y1_5_0, y1_5_1, y1_5_2)), []⟩), (38, .call ⟨2, [(0, 0, false), (1, 1, true)], (V13 x1_1 x1_2 x1_3 y1_5_0 (y1_6_0, y1_6_1)), (R13 x1_1 x1_2 x1_3 y1_5_0 (y1_6_0, y1_6_1)), []⟩), (48, .call ⟨2, [(0, 0, false), (1, 1, true)], (V14 x1_1 x1_2 x1_3 y1_5_0 y1_5_1 (y1_7_0, y1_7_1)), (R14 x1_1 x1_2 x1_3 y1_5_0 y1_5_1 (y1_7_0, y1_7_1)), []⟩), (56, .val (.bool false)), (60, .val (.bool false)), (64, .val (.bool false)), (71, .val (.bool false)), (75, .val (.bool false)), (80, .val (.bool false))]) (L := lT []) (wk := ⟨[0, 3, 5, 6], [(0, 0, false), (1, 1, true)], 2, 0⟩)
    (ps := [(Value.bool (decide (x1_5 ≤ (((x1_0).size : Nat) : Int)))) = (Value.bool true),
    (Value.bool (decide (x1_5 > (0 : Int)))) = (Value.bool true),
    opIndex P 9 (Value.string x1_0) (Value.int .i64 (w64 (x1_5 - (1 : Int)))) Ax.h0 = some ((Value.int .u8 (byteAt x1_0 ((w64 (x1_5 - (1 : Int)))).toNat)), Ax.h0),
    (Value.bool ((byteAt x1_0 ((w64 (x1_5 - (1 : Int)))).toNat) == (10 : Int))) = (Value.bool true),
    Gv P (.func 12) (A12 x1_1 x1_2 x1_3 x1_5) (H12 x1_1 x1_2 x1_3 x1_5) (V12 x1_1 x1_2 x1_3 x1_5 (y1_5_0, y1_5_1, y1_5_2)) (R12 x1_1 x1_2 x1_3 x1_5 (y1_5_0, y1_5_1, y1_5_2)),
    FlatB (.cells (layT (iv x1_1)) 3),
    Gv P (.func 13) (A13 x1_1 x1_2 x1_3 y1_5_0) (H13 x1_1 x1_2 x1_3 y1_5_0) (V13 x1_1 x1_2 x1_3 y1_5_0 (y1_6_0, y1_6_1)) (R13 x1_1 x1_2 x1_3 y1_5_0 (y1_6_0, y1_6_1)),
    FlatB (.cells (layT (iv x1_1)) 3),
    Gv P (.func 14) (A14 x1_1 x1_2 x1_3 y1_5_0 y1_5_1) (H14 x1_1 x1_2 x1_3 y1_5_0 y1_5_1) (V14 x1_1 x1_2 x1_3 y1_5_0 y1_5_1 (y1_7_0, y1_7_1)) (R14 x1_1 x1_2 x1_3 y1_5_0 y1_5_1 (y1_7_0, y1_7_1)),
    FlatB (.cells (layT (iv x1_1)) 3),
    (Value.bool (!y1_5_2)) = (Value.bool false),
    (Value.bool (y1_5_0 != (w64 (x1_4 + (1 : Int))))) = (Value.bool false),
    (Value.bool (!y1_6_1)) = (Value.bool false),
    (Value.bool ((w64 (y1_6_0 + y1_5_1)) != x1_5)) = (Value.bool false),
    (Value.bool (!y1_7_1)) = (Value.bool false),
    (Value.bool (y1_7_0 != x1_5)) = (Value.bool false),
    FlatB (.cells (layT (iv x1_1)) 3)]) (by kernel_rfl) ⟨(vbT hy1_1), (vbT hy1_2), (ixStr (by kernel_rfl) hy1_3), (veT hy1_4), (m12_ok n x1_1 x1_2 x1_3 x1_5 (y1_5_0, y1_5_1, y1_5_2) hy1_5), (iv_flat _ _), (m13_ok n x1_1 x1_2 x1_3 y1_5_0 (y1_6_0, y1_6_1) hy1_6), (iv_flat _ _), (m14_ok n x1_1 x1_2 x1_3 y1_5_0 y1_5_1 (y1_7_0, y1_7_1) hy1_7), (iv_flat _ _), (vBn hy1_8), (vnF hy1_9), (vBn hy1_10), (vnF hy1_11), (vBn hy1_12), (vnF hy1_13), (iv_flat _ _), trivial⟩
set_option maxRecDepth 100000 in
theorem q3_1_1 (n : Nat) (x1_0 : ByteArray) (x1_1 : List Int) (x1_2 : Nat) (x1_3 : Int) (x1_4 : Int) (x1_5 : Int) (hy1_1 : x1_5 ≤ (((x1_0).size : Nat) : Int)) (hy1_2 : x1_5 > (0 : Int)) (hy1_3 : 0 ≤ (w64 (x1_5 - (1 : Int))) ∧ (w64 (x1_5 - (1 : Int))) < (((x1_0).size : Nat) : Int)) (hy1_4 : ¬ ((byteAt x1_0 ((w64 (x1_5 - (1 : Int)))).toNat) = (10 : Int))) (y1_5_0 : Int) (y1_5_1 : Int) (y1_5_2 : Bool) (hy1_5 : m12 n x1_1 x1_2 x1_3 x1_5 = some (y1_5_0, y1_5_1, y1_5_2)) (y1_6_0 : Int) (y1_6_1 : Bool) (hy1_6 : m13 n x1_1 x1_2 x1_3 y1_5_0 = some (y1_6_0, y1_6_1)) (y1_7_0 : Int) (y1_7_1 : Bool) (hy1_7 : m14 n x1_1 x1_2 x1_3 y1_5_0 y1_5_1 = some (y1_7_0, y1_7_1)) (hy1_8 : y1_5_2 = true) (hy1_9 : y1_5_0 = x1_4) (hy1_10 : y1_6_1 = true) (hy1_11 : (w64 (y1_6_0 + y1_5_1)) = x1_5) (hy1_12 : y1_7_1 = true) (hy1_13 : y1_7_0 = x1_5) : CG P none (fnN P 3) 0 (codeOf P 3 [false, false, true, false, true, true, true, true, true, true]) (S3_1 x1_0 x1_1 x1_2 x1_3 (x1_4, x1_5)) (.normal, S3_1 x1_0 x1_1 x1_2 x1_3 (x1_4, (w64 (x1_5 + (1 : Int))))) :=
  runC_ok hm (A := aT [(5, .val (.bool true)), (12, .val (.bool true)), (17, .pur (Value.int .u8 (byteAt x1_0 ((w64 (x1_5 - (1 : Int)))).toNat))), (18, .val (.bool false)), (24, .call ⟨2, [(0, 0, false), (1, 1, true)], (V12 x1_1 x1_2 x1_3 x1_5 (y1_5_0, y1_5_1, y1_5_2)), (R12 x1_1 x1_2 x1_3 x1_5 (y1_5_0, y1_5_1, y1_5_2)), []⟩), (35, .call ⟨2, [(0, 0, false), (1, 1, true)], (V13 x1_1 x1_2 x1_3 y1_5_0 (y1_6_0, y1_6_1)), (R13 x1_1 x1_2 x1_3 y1_5_0 (y1_6_0, y1_6_1)), []⟩), (45, .call ⟨2, [(0, 0, false), (1, 1, true)], (V14 x1_1 x1_2 x1_3 y1_5_0 y1_5_1 (y1_7_0, y1_7_1)), (R14 x1_1 x1_2 x1_3 y1_5_0 y1_5_1 (y1_7_0, y1_7_1)), []⟩), (53, .val (.bool false)), (57, .val (.bool false)), (61, .val (.bool false)), (68, .val (.bool false)), (72, .val (.bool false)), (77, .val (.bool false))]) (L := lT []) (wk := ⟨[0, 3, 5, 6], [(0, 0, false), (1, 1, true)], 2, 0⟩)
    (ps := [(Value.bool (decide (x1_5 ≤ (((x1_0).size : Nat) : Int)))) = (Value.bool true),
    (Value.bool (decide (x1_5 > (0 : Int)))) = (Value.bool true),
    opIndex P 9 (Value.string x1_0) (Value.int .i64 (w64 (x1_5 - (1 : Int)))) Ax.h0 = some ((Value.int .u8 (byteAt x1_0 ((w64 (x1_5 - (1 : Int)))).toNat)), Ax.h0),
    (Value.bool ((byteAt x1_0 ((w64 (x1_5 - (1 : Int)))).toNat) == (10 : Int))) = (Value.bool false),
    Gv P (.func 12) (A12 x1_1 x1_2 x1_3 x1_5) (H12 x1_1 x1_2 x1_3 x1_5) (V12 x1_1 x1_2 x1_3 x1_5 (y1_5_0, y1_5_1, y1_5_2)) (R12 x1_1 x1_2 x1_3 x1_5 (y1_5_0, y1_5_1, y1_5_2)),
    FlatB (.cells (layT (iv x1_1)) 3),
    Gv P (.func 13) (A13 x1_1 x1_2 x1_3 y1_5_0) (H13 x1_1 x1_2 x1_3 y1_5_0) (V13 x1_1 x1_2 x1_3 y1_5_0 (y1_6_0, y1_6_1)) (R13 x1_1 x1_2 x1_3 y1_5_0 (y1_6_0, y1_6_1)),
    FlatB (.cells (layT (iv x1_1)) 3),
    Gv P (.func 14) (A14 x1_1 x1_2 x1_3 y1_5_0 y1_5_1) (H14 x1_1 x1_2 x1_3 y1_5_0 y1_5_1) (V14 x1_1 x1_2 x1_3 y1_5_0 y1_5_1 (y1_7_0, y1_7_1)) (R14 x1_1 x1_2 x1_3 y1_5_0 y1_5_1 (y1_7_0, y1_7_1)),
    FlatB (.cells (layT (iv x1_1)) 3),
    (Value.bool (!y1_5_2)) = (Value.bool false),
    (Value.bool (y1_5_0 != x1_4)) = (Value.bool false),
    (Value.bool (!y1_6_1)) = (Value.bool false),
    (Value.bool ((w64 (y1_6_0 + y1_5_1)) != x1_5)) = (Value.bool false),
    (Value.bool (!y1_7_1)) = (Value.bool false),
    (Value.bool (y1_7_0 != x1_5)) = (Value.bool false),
    FlatB (.cells (layT (iv x1_1)) 3)]) (by kernel_rfl) ⟨(vbT hy1_1), (vbT hy1_2), (ixStr (by kernel_rfl) hy1_3), (veF hy1_4), (m12_ok n x1_1 x1_2 x1_3 x1_5 (y1_5_0, y1_5_1, y1_5_2) hy1_5), (iv_flat _ _), (m13_ok n x1_1 x1_2 x1_3 y1_5_0 (y1_6_0, y1_6_1) hy1_6), (iv_flat _ _), (m14_ok n x1_1 x1_2 x1_3 y1_5_0 y1_5_1 (y1_7_0, y1_7_1) hy1_7), (iv_flat _ _), (vBn hy1_8), (vnF hy1_9), (vBn hy1_10), (vnF hy1_11), (vBn hy1_12), (vnF hy1_13), (iv_flat _ _), trivial⟩
set_option maxRecDepth 100000 in
theorem q3_1_2 (n : Nat) (x1_0 : ByteArray) (x1_1 : List Int) (x1_2 : Nat) (x1_3 : Int) (x1_4 : Int) (x1_5 : Int) (hy1_1 : x1_5 ≤ (((x1_0).size : Nat) : Int)) (hy1_2 : ¬ (x1_5 > (0 : Int))) (y1_3_0 : Int) (y1_3_1 : Int) (y1_3_2 : Bool) (hy1_3 : m12 n x1_1 x1_2 x1_3 x1_5 = some (y1_3_0, y1_3_1, y1_3_2)) (y1_4_0 : Int) (y1_4_1 : Bool) (hy1_4 : m13 n x1_1 x1_2 x1_3 y1_3_0 = some (y1_4_0, y1_4_1)) (y1_5_0 : Int) (y1_5_1 : Bool) (hy1_5 : m14 n x1_1 x1_2 x1_3 y1_3_0 y1_3_1 = some (y1_5_0, y1_5_1)) (hy1_6 : y1_3_2 = true) (hy1_7 : y1_3_0 = x1_4) (hy1_8 : y1_4_1 = true) (hy1_9 : (w64 (y1_4_0 + y1_3_1)) = x1_5) (hy1_10 : y1_5_1 = true) (hy1_11 : y1_5_0 = x1_5) : CG P none (fnN P 3) 0 (codeOf P 3 [false, false, true, false, true, true, true, true, true, true]) (S3_1 x1_0 x1_1 x1_2 x1_3 (x1_4, x1_5)) (.normal, S3_1 x1_0 x1_1 x1_2 x1_3 (x1_4, (w64 (x1_5 + (1 : Int))))) :=
  runC_ok hm (A := aT [(5, .val (.bool true)), (12, .val (.bool false)), (24, .call ⟨2, [(0, 0, false), (1, 1, true)], (V12 x1_1 x1_2 x1_3 x1_5 (y1_3_0, y1_3_1, y1_3_2)), (R12 x1_1 x1_2 x1_3 x1_5 (y1_3_0, y1_3_1, y1_3_2)), []⟩), (35, .call ⟨2, [(0, 0, false), (1, 1, true)], (V13 x1_1 x1_2 x1_3 y1_3_0 (y1_4_0, y1_4_1)), (R13 x1_1 x1_2 x1_3 y1_3_0 (y1_4_0, y1_4_1)), []⟩), (45, .call ⟨2, [(0, 0, false), (1, 1, true)], (V14 x1_1 x1_2 x1_3 y1_3_0 y1_3_1 (y1_5_0, y1_5_1)), (R14 x1_1 x1_2 x1_3 y1_3_0 y1_3_1 (y1_5_0, y1_5_1)), []⟩), (53, .val (.bool false)), (57, .val (.bool false)), (61, .val (.bool false)), (68, .val (.bool false)), (72, .val (.bool false)), (77, .val (.bool false))]) (L := lT []) (wk := ⟨[0, 3, 5, 6], [(0, 0, false), (1, 1, true)], 2, 0⟩)
    (ps := [(Value.bool (decide (x1_5 ≤ (((x1_0).size : Nat) : Int)))) = (Value.bool true),
    (Value.bool (decide (x1_5 > (0 : Int)))) = (Value.bool false),
    Gv P (.func 12) (A12 x1_1 x1_2 x1_3 x1_5) (H12 x1_1 x1_2 x1_3 x1_5) (V12 x1_1 x1_2 x1_3 x1_5 (y1_3_0, y1_3_1, y1_3_2)) (R12 x1_1 x1_2 x1_3 x1_5 (y1_3_0, y1_3_1, y1_3_2)),
    FlatB (.cells (layT (iv x1_1)) 3),
    Gv P (.func 13) (A13 x1_1 x1_2 x1_3 y1_3_0) (H13 x1_1 x1_2 x1_3 y1_3_0) (V13 x1_1 x1_2 x1_3 y1_3_0 (y1_4_0, y1_4_1)) (R13 x1_1 x1_2 x1_3 y1_3_0 (y1_4_0, y1_4_1)),
    FlatB (.cells (layT (iv x1_1)) 3),
    Gv P (.func 14) (A14 x1_1 x1_2 x1_3 y1_3_0 y1_3_1) (H14 x1_1 x1_2 x1_3 y1_3_0 y1_3_1) (V14 x1_1 x1_2 x1_3 y1_3_0 y1_3_1 (y1_5_0, y1_5_1)) (R14 x1_1 x1_2 x1_3 y1_3_0 y1_3_1 (y1_5_0, y1_5_1)),
    FlatB (.cells (layT (iv x1_1)) 3),
    (Value.bool (!y1_3_2)) = (Value.bool false),
    (Value.bool (y1_3_0 != x1_4)) = (Value.bool false),
    (Value.bool (!y1_4_1)) = (Value.bool false),
    (Value.bool ((w64 (y1_4_0 + y1_3_1)) != x1_5)) = (Value.bool false),
    (Value.bool (!y1_5_1)) = (Value.bool false),
    (Value.bool (y1_5_0 != x1_5)) = (Value.bool false),
    FlatB (.cells (layT (iv x1_1)) 3)]) (by kernel_rfl) ⟨(vbT hy1_1), (vbF hy1_2), (m12_ok n x1_1 x1_2 x1_3 x1_5 (y1_3_0, y1_3_1, y1_3_2) hy1_3), (iv_flat _ _), (m13_ok n x1_1 x1_2 x1_3 y1_3_0 (y1_4_0, y1_4_1) hy1_4), (iv_flat _ _), (m14_ok n x1_1 x1_2 x1_3 y1_3_0 y1_3_1 (y1_5_0, y1_5_1) hy1_5), (iv_flat _ _), (vBn hy1_6), (vnF hy1_7), (vBn hy1_8), (vnF hy1_9), (vBn hy1_10), (vnF hy1_11), (iv_flat _ _), trivial⟩
set_option maxRecDepth 100000 in
theorem q3_1_3 (n : Nat) (x1_0 : ByteArray) (x1_1 : List Int) (x1_2 : Nat) (x1_3 : Int) (x1_4 : Int) (x1_5 : Int) (hy1_1 : ¬ (x1_5 ≤ (((x1_0).size : Nat) : Int))) : CG P none (fnN P 3) 0 (codeOf P 3 [false, false, true, false, true, true, true, true, true, true]) (S3_1 x1_0 x1_1 x1_2 x1_3 (x1_4, x1_5)) (X3_1 x1_0 x1_1 x1_2 x1_3 x1_4) :=
  runC_ok hm (A := aT [(5, .val (.bool false))]) (L := lT []) (wk := ⟨[0, 3, 5], [(0, 0, false), (1, 1, true)], 2, 0⟩)
    (ps := [(Value.bool (decide (x1_5 ≤ (((x1_0).size : Nat) : Int)))) = (Value.bool false),
    FlatB (.cells (layT (iv x1_1)) 3)]) (by kernel_rfl) ⟨(vbF hy1_1), (iv_flat _ _), trivial⟩
theorem m3_1_ok (n : Nat) (x1_0 : ByteArray) (x1_1 : List Int) (x1_2 : Nat) (x1_3 : Int) (st : Int × Int) (r : Int) (h : m3_1 n x1_0 x1_1 x1_2 x1_3 st = some r) : CG P none (fnN P 3) 0 (codeOf P 3 [false, true, false, true, true, true, true, true, true]) (S3_1 x1_0 x1_1 x1_2 x1_3 st) (X3_1 x1_0 x1_1 x1_2 x1_3 r) :=
  CG.iter (b := codeOf P 3 [false, false, true, false, true, true, true, true, true, true]) (by kernel_rfl) (body := B3_1 n x1_0 x1_1 x1_2 x1_3) (S := S3_1 x1_0 x1_1 x1_2 x1_3) (X := X3_1 x1_0 x1_1 x1_2 x1_3)
    (fun s s' h => by
    obtain ⟨x1_4, x1_5⟩ := s
    unfold B3_1 at h
    dsimp only at h
    by_cases hy1_1 : x1_5 ≤ (((x1_0).size : Nat) : Int)
    · rw [if_pos hy1_1] at h
      by_cases hy1_2 : x1_5 > (0 : Int)
      · rw [if_pos hy1_2] at h
        by_cases hy1_3 : 0 ≤ (w64 (x1_5 - (1 : Int))) ∧ (w64 (x1_5 - (1 : Int))) < (((x1_0).size : Nat) : Int)
        · rw [if_pos hy1_3] at h
          by_cases hy1_4 : (byteAt x1_0 ((w64 (x1_5 - (1 : Int)))).toNat) = (10 : Int)
          · rw [if_pos hy1_4] at h
            obtain ⟨⟨y1_5_0, y1_5_1, y1_5_2⟩, hy1_5, h⟩ := Option.bind_eq_some_iff.1 h
            dsimp only at h
            obtain ⟨⟨y1_6_0, y1_6_1⟩, hy1_6, h⟩ := Option.bind_eq_some_iff.1 h
            dsimp only at h
            obtain ⟨⟨y1_7_0, y1_7_1⟩, hy1_7, h⟩ := Option.bind_eq_some_iff.1 h
            dsimp only at h
            by_cases hy1_8 : y1_5_2 = true
            · rw [if_pos hy1_8] at h
              by_cases hy1_9 : y1_5_0 = (w64 (x1_4 + (1 : Int)))
              · rw [if_pos hy1_9] at h
                by_cases hy1_10 : y1_6_1 = true
                · rw [if_pos hy1_10] at h
                  by_cases hy1_11 : (w64 (y1_6_0 + y1_5_1)) = x1_5
                  · rw [if_pos hy1_11] at h
                    by_cases hy1_12 : y1_7_1 = true
                    · rw [if_pos hy1_12] at h
                      by_cases hy1_13 : y1_7_0 = x1_5
                      · rw [if_pos hy1_13] at h
                        obtain rfl := Sum.inl.inj (Option.some.inj h); exact q3_1_0 n x1_0 x1_1 x1_2 x1_3 x1_4 x1_5 hy1_1 hy1_2 hy1_3 hy1_4 y1_5_0 y1_5_1 y1_5_2 hy1_5 y1_6_0 y1_6_1 hy1_6 y1_7_0 y1_7_1 hy1_7 hy1_8 hy1_9 hy1_10 hy1_11 hy1_12 hy1_13
                      · rw [if_neg hy1_13] at h
                        cases h
                    · rw [if_neg hy1_12] at h
                      cases h
                  · rw [if_neg hy1_11] at h
                    cases h
                · rw [if_neg hy1_10] at h
                  cases h
              · rw [if_neg hy1_9] at h
                cases h
            · rw [if_neg hy1_8] at h
              cases h
          · rw [if_neg hy1_4] at h
            obtain ⟨⟨y1_5_0, y1_5_1, y1_5_2⟩, hy1_5, h⟩ := Option.bind_eq_some_iff.1 h
            dsimp only at h
            obtain ⟨⟨y1_6_0, y1_6_1⟩, hy1_6, h⟩ := Option.bind_eq_some_iff.1 h
            dsimp only at h
            obtain ⟨⟨y1_7_0, y1_7_1⟩, hy1_7, h⟩ := Option.bind_eq_some_iff.1 h
            dsimp only at h
            by_cases hy1_8 : y1_5_2 = true
            · rw [if_pos hy1_8] at h
              by_cases hy1_9 : y1_5_0 = x1_4
              · rw [if_pos hy1_9] at h
                by_cases hy1_10 : y1_6_1 = true
                · rw [if_pos hy1_10] at h
                  by_cases hy1_11 : (w64 (y1_6_0 + y1_5_1)) = x1_5
                  · rw [if_pos hy1_11] at h
                    by_cases hy1_12 : y1_7_1 = true
                    · rw [if_pos hy1_12] at h
                      by_cases hy1_13 : y1_7_0 = x1_5
                      · rw [if_pos hy1_13] at h
                        obtain rfl := Sum.inl.inj (Option.some.inj h); exact q3_1_1 n x1_0 x1_1 x1_2 x1_3 x1_4 x1_5 hy1_1 hy1_2 hy1_3 hy1_4 y1_5_0 y1_5_1 y1_5_2 hy1_5 y1_6_0 y1_6_1 hy1_6 y1_7_0 y1_7_1 hy1_7 hy1_8 hy1_9 hy1_10 hy1_11 hy1_12 hy1_13
                      · rw [if_neg hy1_13] at h
                        cases h
                    · rw [if_neg hy1_12] at h
                      cases h
                  · rw [if_neg hy1_11] at h
                    cases h
                · rw [if_neg hy1_10] at h
                  cases h
              · rw [if_neg hy1_9] at h
                cases h
            · rw [if_neg hy1_8] at h
              cases h
        · rw [if_neg hy1_3] at h; cases h
      · rw [if_neg hy1_2] at h
        obtain ⟨⟨y1_3_0, y1_3_1, y1_3_2⟩, hy1_3, h⟩ := Option.bind_eq_some_iff.1 h
        dsimp only at h
        obtain ⟨⟨y1_4_0, y1_4_1⟩, hy1_4, h⟩ := Option.bind_eq_some_iff.1 h
        dsimp only at h
        obtain ⟨⟨y1_5_0, y1_5_1⟩, hy1_5, h⟩ := Option.bind_eq_some_iff.1 h
        dsimp only at h
        by_cases hy1_6 : y1_3_2 = true
        · rw [if_pos hy1_6] at h
          by_cases hy1_7 : y1_3_0 = x1_4
          · rw [if_pos hy1_7] at h
            by_cases hy1_8 : y1_4_1 = true
            · rw [if_pos hy1_8] at h
              by_cases hy1_9 : (w64 (y1_4_0 + y1_3_1)) = x1_5
              · rw [if_pos hy1_9] at h
                by_cases hy1_10 : y1_5_1 = true
                · rw [if_pos hy1_10] at h
                  by_cases hy1_11 : y1_5_0 = x1_5
                  · rw [if_pos hy1_11] at h
                    obtain rfl := Sum.inl.inj (Option.some.inj h); exact q3_1_2 n x1_0 x1_1 x1_2 x1_3 x1_4 x1_5 hy1_1 hy1_2 y1_3_0 y1_3_1 y1_3_2 hy1_3 y1_4_0 y1_4_1 hy1_4 y1_5_0 y1_5_1 hy1_5 hy1_6 hy1_7 hy1_8 hy1_9 hy1_10 hy1_11
                  · rw [if_neg hy1_11] at h
                    cases h
                · rw [if_neg hy1_10] at h
                  cases h
              · rw [if_neg hy1_9] at h
                cases h
            · rw [if_neg hy1_8] at h
              cases h
          · rw [if_neg hy1_7] at h
            cases h
        · rw [if_neg hy1_6] at h
          cases h
    · rw [if_neg hy1_1] at h
      cases h)
    (fun s r h => by
    obtain ⟨x1_4, x1_5⟩ := s
    unfold B3_1 at h
    dsimp only at h
    by_cases hy1_1 : x1_5 ≤ (((x1_0).size : Nat) : Int)
    · rw [if_pos hy1_1] at h
      by_cases hy1_2 : x1_5 > (0 : Int)
      · rw [if_pos hy1_2] at h
        by_cases hy1_3 : 0 ≤ (w64 (x1_5 - (1 : Int))) ∧ (w64 (x1_5 - (1 : Int))) < (((x1_0).size : Nat) : Int)
        · rw [if_pos hy1_3] at h
          by_cases hy1_4 : (byteAt x1_0 ((w64 (x1_5 - (1 : Int)))).toNat) = (10 : Int)
          · rw [if_pos hy1_4] at h
            obtain ⟨⟨y1_5_0, y1_5_1, y1_5_2⟩, hy1_5, h⟩ := Option.bind_eq_some_iff.1 h
            dsimp only at h
            obtain ⟨⟨y1_6_0, y1_6_1⟩, hy1_6, h⟩ := Option.bind_eq_some_iff.1 h
            dsimp only at h
            obtain ⟨⟨y1_7_0, y1_7_1⟩, hy1_7, h⟩ := Option.bind_eq_some_iff.1 h
            dsimp only at h
            by_cases hy1_8 : y1_5_2 = true
            · rw [if_pos hy1_8] at h
              by_cases hy1_9 : y1_5_0 = (w64 (x1_4 + (1 : Int)))
              · rw [if_pos hy1_9] at h
                by_cases hy1_10 : y1_6_1 = true
                · rw [if_pos hy1_10] at h
                  by_cases hy1_11 : (w64 (y1_6_0 + y1_5_1)) = x1_5
                  · rw [if_pos hy1_11] at h
                    by_cases hy1_12 : y1_7_1 = true
                    · rw [if_pos hy1_12] at h
                      by_cases hy1_13 : y1_7_0 = x1_5
                      · rw [if_pos hy1_13] at h
                        cases h
                      · rw [if_neg hy1_13] at h
                        cases h
                    · rw [if_neg hy1_12] at h
                      cases h
                  · rw [if_neg hy1_11] at h
                    cases h
                · rw [if_neg hy1_10] at h
                  cases h
              · rw [if_neg hy1_9] at h
                cases h
            · rw [if_neg hy1_8] at h
              cases h
          · rw [if_neg hy1_4] at h
            obtain ⟨⟨y1_5_0, y1_5_1, y1_5_2⟩, hy1_5, h⟩ := Option.bind_eq_some_iff.1 h
            dsimp only at h
            obtain ⟨⟨y1_6_0, y1_6_1⟩, hy1_6, h⟩ := Option.bind_eq_some_iff.1 h
            dsimp only at h
            obtain ⟨⟨y1_7_0, y1_7_1⟩, hy1_7, h⟩ := Option.bind_eq_some_iff.1 h
            dsimp only at h
            by_cases hy1_8 : y1_5_2 = true
            · rw [if_pos hy1_8] at h
              by_cases hy1_9 : y1_5_0 = x1_4
              · rw [if_pos hy1_9] at h
                by_cases hy1_10 : y1_6_1 = true
                · rw [if_pos hy1_10] at h
                  by_cases hy1_11 : (w64 (y1_6_0 + y1_5_1)) = x1_5
                  · rw [if_pos hy1_11] at h
                    by_cases hy1_12 : y1_7_1 = true
                    · rw [if_pos hy1_12] at h
                      by_cases hy1_13 : y1_7_0 = x1_5
                      · rw [if_pos hy1_13] at h
                        cases h
                      · rw [if_neg hy1_13] at h
                        cases h
                    · rw [if_neg hy1_12] at h
                      cases h
                  · rw [if_neg hy1_11] at h
                    cases h
                · rw [if_neg hy1_10] at h
                  cases h
              · rw [if_neg hy1_9] at h
                cases h
            · rw [if_neg hy1_8] at h
              cases h
        · rw [if_neg hy1_3] at h; cases h
      · rw [if_neg hy1_2] at h
        obtain ⟨⟨y1_3_0, y1_3_1, y1_3_2⟩, hy1_3, h⟩ := Option.bind_eq_some_iff.1 h
        dsimp only at h
        obtain ⟨⟨y1_4_0, y1_4_1⟩, hy1_4, h⟩ := Option.bind_eq_some_iff.1 h
        dsimp only at h
        obtain ⟨⟨y1_5_0, y1_5_1⟩, hy1_5, h⟩ := Option.bind_eq_some_iff.1 h
        dsimp only at h
        by_cases hy1_6 : y1_3_2 = true
        · rw [if_pos hy1_6] at h
          by_cases hy1_7 : y1_3_0 = x1_4
          · rw [if_pos hy1_7] at h
            by_cases hy1_8 : y1_4_1 = true
            · rw [if_pos hy1_8] at h
              by_cases hy1_9 : (w64 (y1_4_0 + y1_3_1)) = x1_5
              · rw [if_pos hy1_9] at h
                by_cases hy1_10 : y1_5_1 = true
                · rw [if_pos hy1_10] at h
                  by_cases hy1_11 : y1_5_0 = x1_5
                  · rw [if_pos hy1_11] at h
                    cases h
                  · rw [if_neg hy1_11] at h
                    cases h
                · rw [if_neg hy1_10] at h
                  cases h
              · rw [if_neg hy1_9] at h
                cases h
            · rw [if_neg hy1_8] at h
              cases h
          · rw [if_neg hy1_7] at h
            cases h
        · rw [if_neg hy1_6] at h
          cases h
    · rw [if_neg hy1_1] at h
      obtain rfl := Sum.inr.inj (Option.some.inj h); exact q3_1_3 n x1_0 x1_1 x1_2 x1_3 x1_4 x1_5 hy1_1)
    (fun r => by intro hx; cases hx) h
noncomputable def A3 (s : ByteArray) : List Value := [(Value.string s)]
noncomputable def H3 (s : ByteArray) : AH := ⟨sB [], 0, 0⟩
noncomputable def V3 (s : ByteArray) (r : Unit) : Value := match r with
  | _ => (Value.bool true)
noncomputable def R3 (s : ByteArray) (r : Unit) : AH := match r with
  | _ => ⟨sB [], 0, 0⟩
def m3 (n : Nat) (s : ByteArray) : Option (Unit) :=
  (m10 n).bind fun _ =>
  if (((s).size : Nat) : Int) > (200 : Int) then
    some ()
  else
    (m11 n s).bind fun t => match t with
    | (c3_0, c3_1) =>
      (m3_1 n s c3_0 c3_1 (((s).size : Nat) : Int) (0, 0)).bind fun c4_ =>
      (m12 n c3_0 c3_1 (((s).size : Nat) : Int) (w64 ((((s).size : Nat) : Int) + (1 : Int)))).bind fun t => match t with
      | (c5_0, c5_1, c5_2) =>
        (m13 n c3_0 c3_1 (((s).size : Nat) : Int) (w64 (c4_ + (1 : Int)))).bind fun t => match t with
        | (c6_0, c6_1) =>
          (m15 n c3_0 c3_1 (((s).size : Nat) : Int)).bind fun _ =>
          if (((c3_0).length : Nat) : Int) = (w64 (c4_ + (1 : Int))) then
            if c5_2 = true then
              none
            else
              if c6_1 = true then
                none
              else
                some ()
          else
            none
set_option maxRecDepth 100000 in
theorem p3_0 (n : Nat) (s : ByteArray) (hc1 : m10 n = some ()) (hc2 : (((s).size : Nat) : Int) > (200 : Int)) : Gv P (.func 3) (A3 s) (H3 s) (V3 s ()) (R3 s ()) :=
  runF_ok hm (A := aT [(4, .call ⟨0, [], (Value.bool true), Ax.h0, []⟩), (11, .val (.bool true))]) (L := lT []) (wk := ⟨[2], [], 0, 0⟩)
    (ps := [Gv P (.func 10) [] Ax.h0 (Value.bool true) Ax.h0,
    (Value.bool (decide ((((s).size : Nat) : Int) > (200 : Int)))) = (Value.bool true)]) (by kernel_rfl) ⟨(m10_ok n () hc1), (vbT hc2), trivial⟩
set_option maxRecDepth 100000 in
theorem p3_1 (n : Nat) (s : ByteArray) (hc1 : m10 n = some ()) (hc2 : ¬ ((((s).size : Nat) : Int) > (200 : Int))) (c3_0 : List Int) (c3_1 : Nat) (hc3 : m11 n s = some (c3_0, c3_1)) (c4_ : Int) (hc4 : m3_1 n s c3_0 c3_1 (((s).size : Nat) : Int) (0, 0) = some c4_) (c5_0 : Int) (c5_1 : Int) (c5_2 : Bool) (hc5 : m12 n c3_0 c3_1 (((s).size : Nat) : Int) (w64 ((((s).size : Nat) : Int) + (1 : Int))) = some (c5_0, c5_1, c5_2)) (c6_0 : Int) (c6_1 : Bool) (hc6 : m13 n c3_0 c3_1 (((s).size : Nat) : Int) (w64 (c4_ + (1 : Int))) = some (c6_0, c6_1)) (hc7 : m15 n c3_0 c3_1 (((s).size : Nat) : Int) = some ()) (hc8 : (((c3_0).length : Nat) : Int) = (w64 (c4_ + (1 : Int)))) (hc9 : ¬ (c5_2 = true)) (hc10 : ¬ (c6_1 = true)) : Gv P (.func 3) (A3 s) (H3 s) (V3 s ()) (R3 s ()) :=
  runF_ok hm (A := aT [(4, .call ⟨0, [], (Value.bool true), Ax.h0, []⟩), (11, .val (.bool false)), (15, .call ⟨0, [], (V11 s (c3_0, c3_1)), (R11 s (c3_0, c3_1)), [(0, 0, false), (1, 1, true)]⟩), (42, .call ⟨2, [(0, 0, false), (1, 1, true)], (V12 c3_0 c3_1 (((s).size : Nat) : Int) (w64 ((((s).size : Nat) : Int) + (1 : Int))) (c5_0, c5_1, c5_2)), (R12 c3_0 c3_1 (((s).size : Nat) : Int) (w64 ((((s).size : Nat) : Int) + (1 : Int))) (c5_0, c5_1, c5_2)), []⟩), (54, .call ⟨2, [(0, 0, false), (1, 1, true)], (V13 c3_0 c3_1 (((s).size : Nat) : Int) (w64 (c4_ + (1 : Int))) (c6_0, c6_1)), (R13 c3_0 c3_1 (((s).size : Nat) : Int) (w64 (c4_ + (1 : Int))) (c6_0, c6_1)), []⟩), (62, .call ⟨2, [(0, 0, false), (1, 1, true)], (V15 c3_0 c3_1 (((s).size : Nat) : Int) ()), (R15 c3_0 c3_1 (((s).size : Nat) : Int) ()), []⟩), (65, .val (.bool true)), (68, .val (.bool true)), (72, .val (.bool true))]) (L := lT [(36, ⟨⟨[0, 3, 5, 6], [(0, 0, false), (1, 1, true)], 2, 0⟩, (X3_1 s c3_0 c3_1 (((s).size : Nat) : Int) c4_).1, (X3_1 s c3_0 c3_1 (((s).size : Nat) : Int) c4_).2⟩)]) (wk := ⟨[2], [], 0, 0⟩)
    (ps := [Gv P (.func 10) [] Ax.h0 (Value.bool true) Ax.h0,
    (Value.bool (decide ((((s).size : Nat) : Int) > (200 : Int)))) = (Value.bool false),
    Gv P (.func 11) (A11 s) (H11 s) (V11 s (c3_0, c3_1)) (R11 s (c3_0, c3_1)),
    FlatB (.cells (layT (iv c3_0)) 3),
    CG P none (fnN P 3) 0 (codeOf P 3 [false, true, false, true, true, true, true, true, true]) (S3_1 s c3_0 c3_1 (((s).size : Nat) : Int) (0, 0)) (X3_1 s c3_0 c3_1 (((s).size : Nat) : Int) c4_),
    FlatB (.cells (layT (iv c3_0)) 3),
    Gv P (.func 12) (A12 c3_0 c3_1 (((s).size : Nat) : Int) (w64 ((((s).size : Nat) : Int) + (1 : Int)))) (H12 c3_0 c3_1 (((s).size : Nat) : Int) (w64 ((((s).size : Nat) : Int) + (1 : Int)))) (V12 c3_0 c3_1 (((s).size : Nat) : Int) (w64 ((((s).size : Nat) : Int) + (1 : Int))) (c5_0, c5_1, c5_2)) (R12 c3_0 c3_1 (((s).size : Nat) : Int) (w64 ((((s).size : Nat) : Int) + (1 : Int))) (c5_0, c5_1, c5_2)),
    FlatB (.cells (layT (iv c3_0)) 3),
    Gv P (.func 13) (A13 c3_0 c3_1 (((s).size : Nat) : Int) (w64 (c4_ + (1 : Int)))) (H13 c3_0 c3_1 (((s).size : Nat) : Int) (w64 (c4_ + (1 : Int)))) (V13 c3_0 c3_1 (((s).size : Nat) : Int) (w64 (c4_ + (1 : Int))) (c6_0, c6_1)) (R13 c3_0 c3_1 (((s).size : Nat) : Int) (w64 (c4_ + (1 : Int))) (c6_0, c6_1)),
    FlatB (.cells (layT (iv c3_0)) 3),
    Gv P (.func 15) (A15 c3_0 c3_1 (((s).size : Nat) : Int)) (H15 c3_0 c3_1 (((s).size : Nat) : Int)) (V15 c3_0 c3_1 (((s).size : Nat) : Int) ()) (R15 c3_0 c3_1 (((s).size : Nat) : Int) ()),
    FlatB (.cells (layT (iv c3_0)) 3),
    (Value.bool ((((c3_0).length : Nat) : Int) == (w64 (c4_ + (1 : Int))))) = (Value.bool true),
    (Value.bool (!c5_2)) = (Value.bool true),
    (Value.bool (!c6_1)) = (Value.bool true)]) (by kernel_rfl) ⟨(m10_ok n () hc1), (vbF hc2), (m11_ok n s (c3_0, c3_1) hc3), (iv_flat _ _), (m3_1_ok n s c3_0 c3_1 (((s).size : Nat) : Int) (0, 0) c4_ hc4), (iv_flat _ _), (m12_ok n c3_0 c3_1 (((s).size : Nat) : Int) (w64 ((((s).size : Nat) : Int) + (1 : Int))) (c5_0, c5_1, c5_2) hc5), (iv_flat _ _), (m13_ok n c3_0 c3_1 (((s).size : Nat) : Int) (w64 (c4_ + (1 : Int))) (c6_0, c6_1) hc6), (iv_flat _ _), (m15_ok n c3_0 c3_1 (((s).size : Nat) : Int) () hc7), (iv_flat _ _), (veT hc8), (vBn (Bool.eq_false_iff.2 hc9)), (vBn (Bool.eq_false_iff.2 hc10)), trivial⟩
theorem m3_ok (n : Nat) (s : ByteArray) (r : Unit) (h : m3 n s = some r) : Gv P (.func 3) (A3 s) (H3 s) (V3 s r) (R3 s r) := by
  unfold m3 at h
  obtain ⟨_, hc1, h⟩ := Option.bind_eq_some_iff.1 h
  by_cases hc2 : (((s).size : Nat) : Int) > (200 : Int)
  · rw [if_pos hc2] at h
    obtain rfl := Option.some.inj h; exact p3_0 n s hc1 hc2
  · rw [if_neg hc2] at h
    obtain ⟨⟨c3_0, c3_1⟩, hc3, h⟩ := Option.bind_eq_some_iff.1 h
    dsimp only at h
    obtain ⟨c4_, hc4, h⟩ := Option.bind_eq_some_iff.1 h
    obtain ⟨⟨c5_0, c5_1, c5_2⟩, hc5, h⟩ := Option.bind_eq_some_iff.1 h
    dsimp only at h
    obtain ⟨⟨c6_0, c6_1⟩, hc6, h⟩ := Option.bind_eq_some_iff.1 h
    dsimp only at h
    obtain ⟨_, hc7, h⟩ := Option.bind_eq_some_iff.1 h
    by_cases hc8 : (((c3_0).length : Nat) : Int) = (w64 (c4_ + (1 : Int)))
    · rw [if_pos hc8] at h
      by_cases hc9 : c5_2 = true
      · rw [if_pos hc9] at h
        cases h
      · rw [if_neg hc9] at h
        by_cases hc10 : c6_1 = true
        · rw [if_pos hc10] at h
          cases h
        · rw [if_neg hc10] at h
          obtain rfl := Option.some.inj h; exact p3_1 n s hc1 hc2 c3_0 c3_1 hc3 c4_ hc4 c5_0 c5_1 c5_2 hc5 c6_0 c6_1 hc6 hc7 hc8 hc9 hc10
    · rw [if_neg hc8] at h
      cases h

end Go.Proofs.Ythomkiindjhdmaa.linesBack
