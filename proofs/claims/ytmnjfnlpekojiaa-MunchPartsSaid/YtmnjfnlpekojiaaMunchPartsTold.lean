/-
  What functions do, told by pure functions. No condition.
-/
import Derived.Test.YtmnjfnlpekojiaaMunchAllTold
set_option linter.unusedSimpArgs false
set_option linter.unusedVariables false
set_option linter.unusedSectionVars false
set_option linter.unnecessarySimpa false
namespace Go.Proofs.Ytmnjfnlpekojiaa.munchw
open Go Go.Proofs.Ytmnjfnlpekojiaa Ax
variable [Args]
noncomputable def S5_1 (x1_0 : ByteArray) (x1_1 : ByteArray) (x1_2 : ByteArray) (st : List (Int × Int × Int × Int) × Int × Int) : XSt := match st with
  | (x1_3, x1_4, x1_5) => (sT 164 [(1, (Value.string x1_0)), (2, (Value.string x1_1)), (3, (Value.string x1_2)), (4, (Value.pointer (some ⟨0, 0, none⟩))), (9, (slR x1_3 1 4)), (10, (Value.int .i64 x1_4)), (11, (Value.int .i64 x1_5))], [], ⟨sB [(0, (some (.cells (layT [(Value.slice (some ⟨0, 0, some 1⟩) (Args.N).length Args.cN), (Value.slice (some ⟨1, 0, some 1⟩) (Args.R).length Args.cR)]) 24))), (1, (nblkR rw_iiii x1_3 31))], 2, 0⟩)
noncomputable def X5_1 (x1_0 : ByteArray) (x1_1 : ByteArray) (x1_2 : ByteArray) (r : Int) : Ex × XSt := match r with
  | z1_0 => (.exit 0, (sT 164 [(1, (Value.string x1_0)), (10, (Value.int .i64 z1_0))], [], ⟨sB [], 0, 0⟩))
def B5_1 (n : Nat) (x1_0 : ByteArray) (x1_1 : ByteArray) (x1_2 : ByteArray) (st : List (Int × Int × Int × Int) × Int × Int) : Option ((List (Int × Int × Int × Int) × Int × Int) ⊕ (Int)) := match st with
  | (x1_3, x1_4, x1_5) =>
    match x1_3 with
    | [] =>
      if x1_5 < (0 : Int) then
        none
      else
        some (.inr x1_4)
    | x1_3a :: x1_3t =>
      if x1_5 < ((((x1_3a :: x1_3t)).length : Nat) : Int) then
        if 0 ≤ x1_5 ∧ x1_5 < ((((x1_3a :: x1_3t)).length : Nat) : Int) then
          if ((((x1_3a :: x1_3t)).getD (x1_5).toNat (0, 0, 0, 0)).2.1) = x1_4 then
            if ((((x1_3a :: x1_3t)).getD (x1_5).toNat (0, 0, 0, 0)).2.2.1) ≤ x1_4 then
              none
            else
              if ((((x1_3a :: x1_3t)).getD (x1_5).toNat (0, 0, 0, 0)).2.2.2) < (0 : Int) then
                none
              else
                if (x1_2).size + (x1_0).size < 9223372036854775808 then
                  (m11 n (x1_2 ++ x1_0) (w64 ((((x1_2).size : Nat) : Int) + ((((x1_3a :: x1_3t)).getD (x1_5).toNat (0, 0, 0, 0)).2.1)))).bind fun t => match t with
                  | (y1_7_0, y1_7_1, y1_7_2, y1_7_3, y1_7_4) =>
                    if y1_7_4 = true then
                      if (!((y1_7_0 == ((((x1_3a :: x1_3t)).getD (x1_5).toNat (0, 0, 0, 0)).1)) && (((w64 (y1_7_1 - (((x1_2).size : Nat) : Int))) == ((((x1_3a :: x1_3t)).getD (x1_5).toNat (0, 0, 0, 0)).2.1)) && (((w64 (y1_7_2 - (((x1_2).size : Nat) : Int))) == ((((x1_3a :: x1_3t)).getD (x1_5).toNat (0, 0, 0, 0)).2.2.1)) && (((w64 (y1_7_3 - (((x1_2).size : Nat) : Int))) == ((((x1_3a :: x1_3t)).getD (x1_5).toNat (0, 0, 0, 0)).2.2.2)) && true))))) = true then
                        none
                      else
                        if ((((x1_3a :: x1_3t)).getD (x1_5).toNat (0, 0, 0, 0)).2.2.2) ≤ (((x1_0).size : Nat) : Int) then
                          if 0 ≤ ((((x1_3a :: x1_3t)).getD (x1_5).toNat (0, 0, 0, 0)).2.2.2) ∧ ((((x1_3a :: x1_3t)).getD (x1_5).toNat (0, 0, 0, 0)).2.2.2) ≤ (((x1_0).size : Nat) : Int) then
                            if ((ByteArray.extract x1_0 0 (((((x1_3a :: x1_3t)).getD (x1_5).toNat (0, 0, 0, 0)).2.2.2)).toNat)).size + (x1_1).size < 9223372036854775808 then
                              (m11 n ((ByteArray.extract x1_0 0 (((((x1_3a :: x1_3t)).getD (x1_5).toNat (0, 0, 0, 0)).2.2.2)).toNat) ++ x1_1) ((((x1_3a :: x1_3t)).getD (x1_5).toNat (0, 0, 0, 0)).2.1)).bind fun t => match t with
                              | (y1_13_0, y1_13_1, y1_13_2, y1_13_3, y1_13_4) =>
                                if y1_13_4 = true then
                                  if (!((y1_13_0 == ((((x1_3a :: x1_3t)).getD (x1_5).toNat (0, 0, 0, 0)).1)) && ((y1_13_1 == ((((x1_3a :: x1_3t)).getD (x1_5).toNat (0, 0, 0, 0)).2.1)) && ((y1_13_2 == ((((x1_3a :: x1_3t)).getD (x1_5).toNat (0, 0, 0, 0)).2.2.1)) && ((y1_13_3 == ((((x1_3a :: x1_3t)).getD (x1_5).toNat (0, 0, 0, 0)).2.2.2)) && true))))) = true then
                                    none
                                  else
                                    some (.inl ((x1_3a :: x1_3t), ((((x1_3a :: x1_3t)).getD (x1_5).toNat (0, 0, 0, 0)).2.2.1), (w64 (x1_5 + (1 : Int)))))
                                else
                                  none
                            else none
                          else none
                        else
                          some (.inl ((x1_3a :: x1_3t), ((((x1_3a :: x1_3t)).getD (x1_5).toNat (0, 0, 0, 0)).2.2.1), (w64 (x1_5 + (1 : Int)))))
                    else
                      none
                else none
          else
            none
        else none
      else
        some (.inr x1_4)
def m5_1 (n : Nat) (x1_0 : ByteArray) (x1_1 : ByteArray) (x1_2 : ByteArray) (st : List (Int × Int × Int × Int) × Int × Int) : Option (Int) := iterM (B5_1 n x1_0 x1_1 x1_2) n st
set_option maxRecDepth 100000 in
theorem q5_1_0 (n : Nat) (x1_0 : ByteArray) (x1_1 : ByteArray) (x1_2 : ByteArray) (x1_4 : Int) (x1_5 : Int) (hy1_1 : ¬ (x1_5 < (0 : Int))) : CG P none (fnN P 5) 0 (codeOf P 5 [false, false, true, false, true, true, true, true, true]) (S5_1 x1_0 x1_1 x1_2 (([] : List (Int × Int × Int × Int)), x1_4, x1_5)) (X5_1 x1_0 x1_1 x1_2 x1_4) :=
  runC_ok hm (A := aT [(5, .val (.bool false))]) (L := lT []) (wk := ⟨[1, 10], [], 0, 0⟩)
    (ps := [(Value.bool (decide (x1_5 < (0 : Int)))) = (Value.bool false)]) (by kernel_rfl) ⟨(vbF hy1_1), trivial⟩
set_option maxRecDepth 100000 in
theorem q5_1_1 (n : Nat) (x1_0 : ByteArray) (x1_1 : ByteArray) (x1_2 : ByteArray) (x1_3a : Int × Int × Int × Int) (x1_3t : List (Int × Int × Int × Int)) (x1_4 : Int) (x1_5 : Int) (hy1_1 : x1_5 < ((((x1_3a :: x1_3t)).length : Nat) : Int)) (hy1_2 : 0 ≤ x1_5 ∧ x1_5 < ((((x1_3a :: x1_3t)).length : Nat) : Int)) (hy1_3 : ((((x1_3a :: x1_3t)).getD (x1_5).toNat (0, 0, 0, 0)).2.1) = x1_4) (hy1_4 : ¬ (((((x1_3a :: x1_3t)).getD (x1_5).toNat (0, 0, 0, 0)).2.2.1) ≤ x1_4)) (hy1_5 : ¬ (((((x1_3a :: x1_3t)).getD (x1_5).toNat (0, 0, 0, 0)).2.2.2) < (0 : Int))) (hy1_6 : (x1_2).size + (x1_0).size < 9223372036854775808) (y1_7_0 : Int) (y1_7_1 : Int) (y1_7_2 : Int) (y1_7_3 : Int) (y1_7_4 : Bool) (hy1_7 : m11 n (x1_2 ++ x1_0) (w64 ((((x1_2).size : Nat) : Int) + ((((x1_3a :: x1_3t)).getD (x1_5).toNat (0, 0, 0, 0)).2.1))) = some (y1_7_0, y1_7_1, y1_7_2, y1_7_3, y1_7_4)) (hy1_8 : y1_7_4 = true) (hy1_9 : ¬ ((!((y1_7_0 == ((((x1_3a :: x1_3t)).getD (x1_5).toNat (0, 0, 0, 0)).1)) && (((w64 (y1_7_1 - (((x1_2).size : Nat) : Int))) == ((((x1_3a :: x1_3t)).getD (x1_5).toNat (0, 0, 0, 0)).2.1)) && (((w64 (y1_7_2 - (((x1_2).size : Nat) : Int))) == ((((x1_3a :: x1_3t)).getD (x1_5).toNat (0, 0, 0, 0)).2.2.1)) && (((w64 (y1_7_3 - (((x1_2).size : Nat) : Int))) == ((((x1_3a :: x1_3t)).getD (x1_5).toNat (0, 0, 0, 0)).2.2.2)) && true))))) = true)) (hy1_10 : ((((x1_3a :: x1_3t)).getD (x1_5).toNat (0, 0, 0, 0)).2.2.2) ≤ (((x1_0).size : Nat) : Int)) (hy1_11 : 0 ≤ ((((x1_3a :: x1_3t)).getD (x1_5).toNat (0, 0, 0, 0)).2.2.2) ∧ ((((x1_3a :: x1_3t)).getD (x1_5).toNat (0, 0, 0, 0)).2.2.2) ≤ (((x1_0).size : Nat) : Int)) (hy1_12 : ((ByteArray.extract x1_0 0 (((((x1_3a :: x1_3t)).getD (x1_5).toNat (0, 0, 0, 0)).2.2.2)).toNat)).size + (x1_1).size < 9223372036854775808) (y1_13_0 : Int) (y1_13_1 : Int) (y1_13_2 : Int) (y1_13_3 : Int) (y1_13_4 : Bool) (hy1_13 : m11 n ((ByteArray.extract x1_0 0 (((((x1_3a :: x1_3t)).getD (x1_5).toNat (0, 0, 0, 0)).2.2.2)).toNat) ++ x1_1) ((((x1_3a :: x1_3t)).getD (x1_5).toNat (0, 0, 0, 0)).2.1) = some (y1_13_0, y1_13_1, y1_13_2, y1_13_3, y1_13_4)) (hy1_14 : y1_13_4 = true) (hy1_15 : ¬ ((!((y1_13_0 == ((((x1_3a :: x1_3t)).getD (x1_5).toNat (0, 0, 0, 0)).1)) && ((y1_13_1 == ((((x1_3a :: x1_3t)).getD (x1_5).toNat (0, 0, 0, 0)).2.1)) && ((y1_13_2 == ((((x1_3a :: x1_3t)).getD (x1_5).toNat (0, 0, 0, 0)).2.2.1)) && ((y1_13_3 == ((((x1_3a :: x1_3t)).getD (x1_5).toNat (0, 0, 0, 0)).2.2.2)) && true))))) = true)) : CG P none (fnN P 5) 0 (codeOf P 5 [false, false, true, false, true, true, true, true, true]) (S5_1 x1_0 x1_1 x1_2 ((x1_3a :: x1_3t), x1_4, x1_5)) (.normal, S5_1 x1_0 x1_1 x1_2 ((x1_3a :: x1_3t), ((((x1_3a :: x1_3t)).getD (x1_5).toNat (0, 0, 0, 0)).2.2.1), (w64 (x1_5 + (1 : Int))))) :=
  runC_ok hm (A := aT [(5, .val (.bool true)), (13, .pur (Value.pointer (some ⟨1, ((x1_5).toNat * 4), none⟩))), (15, .ld (Value.int .i64 ((((x1_3a :: x1_3t)).getD (x1_5).toNat (0, 0, 0, 0)).2.1))), (17, .val (.bool false)), (21, .pur (Value.pointer (some ⟨1, ((x1_5).toNat * 4), none⟩))), (23, .ld (Value.int .i64 ((((x1_3a :: x1_3t)).getD (x1_5).toNat (0, 0, 0, 0)).2.2.1))), (25, .val (.bool false)), (30, .pur (Value.pointer (some ⟨1, ((x1_5).toNat * 4), none⟩))), (32, .ld (Value.int .i64 ((((x1_3a :: x1_3t)).getD (x1_5).toNat (0, 0, 0, 0)).2.2.2))), (33, .val (.bool false)), (39, .pur (Value.pointer (some ⟨1, ((x1_5).toNat * 4), none⟩))), (41, .ld (Value.int .i64 ((((x1_3a :: x1_3t)).getD (x1_5).toNat (0, 0, 0, 0)).2.2.1))), (47, .pur (Value.string (x1_2 ++ x1_0))), (52, .pur (Value.pointer (some ⟨1, ((x1_5).toNat * 4), none⟩))), (54, .ld (Value.int .i64 ((((x1_3a :: x1_3t)).getD (x1_5).toNat (0, 0, 0, 0)).2.1))), (56, .call ⟨0, [], (V11 (x1_2 ++ x1_0) (w64 ((((x1_2).size : Nat) : Int) + ((((x1_3a :: x1_3t)).getD (x1_5).toNat (0, 0, 0, 0)).2.1))) (y1_7_0, y1_7_1, y1_7_2, y1_7_3, y1_7_4)), (R11 (x1_2 ++ x1_0) (w64 ((((x1_2).size : Nat) : Int) + ((((x1_3a :: x1_3t)).getD (x1_5).toNat (0, 0, 0, 0)).2.1))) (y1_7_0, y1_7_1, y1_7_2, y1_7_3, y1_7_4)), [(19, 0, false)]⟩), (88, .val (.bool false)), (93, .pur (Value.pointer (some ⟨1, ((x1_5).toNat * 4), none⟩))), (94, .ld (Value.agg #[(Value.int .i64 ((((x1_3a :: x1_3t)).getD (x1_5).toNat (0, 0, 0, 0)).1)), (Value.int .i64 ((((x1_3a :: x1_3t)).getD (x1_5).toNat (0, 0, 0, 0)).2.1)), (Value.int .i64 ((((x1_3a :: x1_3t)).getD (x1_5).toNat (0, 0, 0, 0)).2.2.1)), (Value.int .i64 ((((x1_3a :: x1_3t)).getD (x1_5).toNat (0, 0, 0, 0)).2.2.2))])), (97, .val (.bool false)), (101, .pur (Value.pointer (some ⟨1, ((x1_5).toNat * 4), none⟩))), (103, .ld (Value.int .i64 ((((x1_3a :: x1_3t)).getD (x1_5).toNat (0, 0, 0, 0)).2.2.2))), (106, .val (.bool true)), (113, .pur (Value.pointer (some ⟨1, ((x1_5).toNat * 4), none⟩))), (115, .ld (Value.int .i64 ((((x1_3a :: x1_3t)).getD (x1_5).toNat (0, 0, 0, 0)).2.2.2))), (116, .pur (Value.string (ByteArray.extract x1_0 0 (((((x1_3a :: x1_3t)).getD (x1_5).toNat (0, 0, 0, 0)).2.2.2)).toNat))), (118, .pur (Value.string ((ByteArray.extract x1_0 0 (((((x1_3a :: x1_3t)).getD (x1_5).toNat (0, 0, 0, 0)).2.2.2)).toNat) ++ x1_1))), (121, .pur (Value.pointer (some ⟨1, ((x1_5).toNat * 4), none⟩))), (123, .ld (Value.int .i64 ((((x1_3a :: x1_3t)).getD (x1_5).toNat (0, 0, 0, 0)).2.1))), (124, .call ⟨0, [], (V11 ((ByteArray.extract x1_0 0 (((((x1_3a :: x1_3t)).getD (x1_5).toNat (0, 0, 0, 0)).2.2.2)).toNat) ++ x1_1) ((((x1_3a :: x1_3t)).getD (x1_5).toNat (0, 0, 0, 0)).2.1) (y1_13_0, y1_13_1, y1_13_2, y1_13_3, y1_13_4)), (R11 ((ByteArray.extract x1_0 0 (((((x1_3a :: x1_3t)).getD (x1_5).toNat (0, 0, 0, 0)).2.2.2)).toNat) ++ x1_1) ((((x1_3a :: x1_3t)).getD (x1_5).toNat (0, 0, 0, 0)).2.1) (y1_13_0, y1_13_1, y1_13_2, y1_13_3, y1_13_4)), [(40, 0, false)]⟩), (133, .val (.bool false)), (138, .pur (Value.pointer (some ⟨1, ((x1_5).toNat * 4), none⟩))), (139, .ld (Value.agg #[(Value.int .i64 ((((x1_3a :: x1_3t)).getD (x1_5).toNat (0, 0, 0, 0)).1)), (Value.int .i64 ((((x1_3a :: x1_3t)).getD (x1_5).toNat (0, 0, 0, 0)).2.1)), (Value.int .i64 ((((x1_3a :: x1_3t)).getD (x1_5).toNat (0, 0, 0, 0)).2.2.1)), (Value.int .i64 ((((x1_3a :: x1_3t)).getD (x1_5).toNat (0, 0, 0, 0)).2.2.2))])), (142, .val (.bool false))]) (L := lT []) (wk := ⟨[1, 2, 3, 4, 9, 10, 11], [(0, 0, false), (1, 1, true)], 2, 0⟩)
    (ps := [(Value.bool (decide (x1_5 < ((((x1_3a :: x1_3t)).length : Nat) : Int)))) = (Value.bool true),
    opIndexAddr P 44 (Value.slice (some ⟨1, 0, none⟩) ((x1_3a :: x1_3t)).length (Nat.add big 4)) (Value.int .i64 x1_5) Ax.h0 = some ((Value.pointer (some ⟨1, ((x1_5).toNat * 4), none⟩)), Ax.h0),
    (layT (rows rw_iiii (x1_3a :: x1_3t))).get (Nat.add ((x1_5).toNat * 4) 1) = some (Value.int .i64 ((((x1_3a :: x1_3t)).getD (x1_5).toNat (0, 0, 0, 0)).2.1)),
    (Value.bool (((((x1_3a :: x1_3t)).getD (x1_5).toNat (0, 0, 0, 0)).2.1) != x1_4)) = (Value.bool false),
    opIndexAddr P 44 (Value.slice (some ⟨1, 0, none⟩) ((x1_3a :: x1_3t)).length (Nat.add big 4)) (Value.int .i64 x1_5) Ax.h0 = some ((Value.pointer (some ⟨1, ((x1_5).toNat * 4), none⟩)), Ax.h0),
    (layT (rows rw_iiii (x1_3a :: x1_3t))).get (Nat.add ((x1_5).toNat * 4) 2) = some (Value.int .i64 ((((x1_3a :: x1_3t)).getD (x1_5).toNat (0, 0, 0, 0)).2.2.1)),
    (Value.bool (decide (((((x1_3a :: x1_3t)).getD (x1_5).toNat (0, 0, 0, 0)).2.2.1) ≤ x1_4))) = (Value.bool false),
    opIndexAddr P 44 (Value.slice (some ⟨1, 0, none⟩) ((x1_3a :: x1_3t)).length (Nat.add big 4)) (Value.int .i64 x1_5) Ax.h0 = some ((Value.pointer (some ⟨1, ((x1_5).toNat * 4), none⟩)), Ax.h0),
    (layT (rows rw_iiii (x1_3a :: x1_3t))).get (Nat.add ((x1_5).toNat * 4) 3) = some (Value.int .i64 ((((x1_3a :: x1_3t)).getD (x1_5).toNat (0, 0, 0, 0)).2.2.2)),
    (Value.bool (decide (((((x1_3a :: x1_3t)).getD (x1_5).toNat (0, 0, 0, 0)).2.2.2) < (0 : Int)))) = (Value.bool false),
    opIndexAddr P 44 (Value.slice (some ⟨1, 0, none⟩) ((x1_3a :: x1_3t)).length (Nat.add big 4)) (Value.int .i64 x1_5) Ax.h0 = some ((Value.pointer (some ⟨1, ((x1_5).toNat * 4), none⟩)), Ax.h0),
    (layT (rows rw_iiii (x1_3a :: x1_3t))).get (Nat.add ((x1_5).toNat * 4) 2) = some (Value.int .i64 ((((x1_3a :: x1_3t)).getD (x1_5).toNat (0, 0, 0, 0)).2.2.1)),
    opBin P .add 9 (.tmp 81) (.tmp 82) (Value.string x1_2) (Value.string x1_0) Ax.h0 = some ((Value.string (x1_2 ++ x1_0)), Ax.h0),
    opIndexAddr P 44 (Value.slice (some ⟨1, 0, none⟩) ((x1_3a :: x1_3t)).length (Nat.add big 4)) (Value.int .i64 x1_5) Ax.h0 = some ((Value.pointer (some ⟨1, ((x1_5).toNat * 4), none⟩)), Ax.h0),
    (layT (rows rw_iiii (x1_3a :: x1_3t))).get (Nat.add ((x1_5).toNat * 4) 1) = some (Value.int .i64 ((((x1_3a :: x1_3t)).getD (x1_5).toNat (0, 0, 0, 0)).2.1)),
    Gv P (.func 11) (A11 (x1_2 ++ x1_0) (w64 ((((x1_2).size : Nat) : Int) + ((((x1_3a :: x1_3t)).getD (x1_5).toNat (0, 0, 0, 0)).2.1)))) (H11 (x1_2 ++ x1_0) (w64 ((((x1_2).size : Nat) : Int) + ((((x1_3a :: x1_3t)).getD (x1_5).toNat (0, 0, 0, 0)).2.1)))) (V11 (x1_2 ++ x1_0) (w64 ((((x1_2).size : Nat) : Int) + ((((x1_3a :: x1_3t)).getD (x1_5).toNat (0, 0, 0, 0)).2.1))) (y1_7_0, y1_7_1, y1_7_2, y1_7_3, y1_7_4)) (R11 (x1_2 ++ x1_0) (w64 ((((x1_2).size : Nat) : Int) + ((((x1_3a :: x1_3t)).getD (x1_5).toNat (0, 0, 0, 0)).2.1))) (y1_7_0, y1_7_1, y1_7_2, y1_7_3, y1_7_4)),
    (Value.bool (!y1_7_4)) = (Value.bool false),
    opIndexAddr P 44 (Value.slice (some ⟨1, 0, none⟩) ((x1_3a :: x1_3t)).length (Nat.add big 4)) (Value.int .i64 x1_5) Ax.h0 = some ((Value.pointer (some ⟨1, ((x1_5).toNat * 4), none⟩)), Ax.h0),
    rdT (layT (rows rw_iiii (x1_3a :: x1_3t))) 4 ((x1_5).toNat * 4) = some [(Value.int .i64 ((((x1_3a :: x1_3t)).getD (x1_5).toNat (0, 0, 0, 0)).1)), (Value.int .i64 ((((x1_3a :: x1_3t)).getD (x1_5).toNat (0, 0, 0, 0)).2.1)), (Value.int .i64 ((((x1_3a :: x1_3t)).getD (x1_5).toNat (0, 0, 0, 0)).2.2.1)), (Value.int .i64 ((((x1_3a :: x1_3t)).getD (x1_5).toNat (0, 0, 0, 0)).2.2.2))],
    (Value.bool (!((y1_7_0 == ((((x1_3a :: x1_3t)).getD (x1_5).toNat (0, 0, 0, 0)).1)) && (((w64 (y1_7_1 - (((x1_2).size : Nat) : Int))) == ((((x1_3a :: x1_3t)).getD (x1_5).toNat (0, 0, 0, 0)).2.1)) && (((w64 (y1_7_2 - (((x1_2).size : Nat) : Int))) == ((((x1_3a :: x1_3t)).getD (x1_5).toNat (0, 0, 0, 0)).2.2.1)) && (((w64 (y1_7_3 - (((x1_2).size : Nat) : Int))) == ((((x1_3a :: x1_3t)).getD (x1_5).toNat (0, 0, 0, 0)).2.2.2)) && true)))))) = (Value.bool false),
    opIndexAddr P 44 (Value.slice (some ⟨1, 0, none⟩) ((x1_3a :: x1_3t)).length (Nat.add big 4)) (Value.int .i64 x1_5) Ax.h0 = some ((Value.pointer (some ⟨1, ((x1_5).toNat * 4), none⟩)), Ax.h0),
    (layT (rows rw_iiii (x1_3a :: x1_3t))).get (Nat.add ((x1_5).toNat * 4) 3) = some (Value.int .i64 ((((x1_3a :: x1_3t)).getD (x1_5).toNat (0, 0, 0, 0)).2.2.2)),
    (Value.bool (decide (((((x1_3a :: x1_3t)).getD (x1_5).toNat (0, 0, 0, 0)).2.2.2) ≤ (((x1_0).size : Nat) : Int)))) = (Value.bool true),
    opIndexAddr P 44 (Value.slice (some ⟨1, 0, none⟩) ((x1_3a :: x1_3t)).length (Nat.add big 4)) (Value.int .i64 x1_5) Ax.h0 = some ((Value.pointer (some ⟨1, ((x1_5).toNat * 4), none⟩)), Ax.h0),
    (layT (rows rw_iiii (x1_3a :: x1_3t))).get (Nat.add ((x1_5).toNat * 4) 3) = some (Value.int .i64 ((((x1_3a :: x1_3t)).getD (x1_5).toNat (0, 0, 0, 0)).2.2.2)),
    opSlice P 9 (Value.string x1_0) none (some (Value.int .i64 ((((x1_3a :: x1_3t)).getD (x1_5).toNat (0, 0, 0, 0)).2.2.2))) none Ax.h0 = some ((Value.string (ByteArray.extract x1_0 0 (((((x1_3a :: x1_3t)).getD (x1_5).toNat (0, 0, 0, 0)).2.2.2)).toNat)), Ax.h0),
    opBin P .add 9 (.tmp 139) (.tmp 140) (Value.string (ByteArray.extract x1_0 0 (((((x1_3a :: x1_3t)).getD (x1_5).toNat (0, 0, 0, 0)).2.2.2)).toNat)) (Value.string x1_1) Ax.h0 = some ((Value.string ((ByteArray.extract x1_0 0 (((((x1_3a :: x1_3t)).getD (x1_5).toNat (0, 0, 0, 0)).2.2.2)).toNat) ++ x1_1)), Ax.h0),
    opIndexAddr P 44 (Value.slice (some ⟨1, 0, none⟩) ((x1_3a :: x1_3t)).length (Nat.add big 4)) (Value.int .i64 x1_5) Ax.h0 = some ((Value.pointer (some ⟨1, ((x1_5).toNat * 4), none⟩)), Ax.h0),
    (layT (rows rw_iiii (x1_3a :: x1_3t))).get (Nat.add ((x1_5).toNat * 4) 1) = some (Value.int .i64 ((((x1_3a :: x1_3t)).getD (x1_5).toNat (0, 0, 0, 0)).2.1)),
    Gv P (.func 11) (A11 ((ByteArray.extract x1_0 0 (((((x1_3a :: x1_3t)).getD (x1_5).toNat (0, 0, 0, 0)).2.2.2)).toNat) ++ x1_1) ((((x1_3a :: x1_3t)).getD (x1_5).toNat (0, 0, 0, 0)).2.1)) (H11 ((ByteArray.extract x1_0 0 (((((x1_3a :: x1_3t)).getD (x1_5).toNat (0, 0, 0, 0)).2.2.2)).toNat) ++ x1_1) ((((x1_3a :: x1_3t)).getD (x1_5).toNat (0, 0, 0, 0)).2.1)) (V11 ((ByteArray.extract x1_0 0 (((((x1_3a :: x1_3t)).getD (x1_5).toNat (0, 0, 0, 0)).2.2.2)).toNat) ++ x1_1) ((((x1_3a :: x1_3t)).getD (x1_5).toNat (0, 0, 0, 0)).2.1) (y1_13_0, y1_13_1, y1_13_2, y1_13_3, y1_13_4)) (R11 ((ByteArray.extract x1_0 0 (((((x1_3a :: x1_3t)).getD (x1_5).toNat (0, 0, 0, 0)).2.2.2)).toNat) ++ x1_1) ((((x1_3a :: x1_3t)).getD (x1_5).toNat (0, 0, 0, 0)).2.1) (y1_13_0, y1_13_1, y1_13_2, y1_13_3, y1_13_4)),
    (Value.bool (!y1_13_4)) = (Value.bool false),
    opIndexAddr P 44 (Value.slice (some ⟨1, 0, none⟩) ((x1_3a :: x1_3t)).length (Nat.add big 4)) (Value.int .i64 x1_5) Ax.h0 = some ((Value.pointer (some ⟨1, ((x1_5).toNat * 4), none⟩)), Ax.h0),
    rdT (layT (rows rw_iiii (x1_3a :: x1_3t))) 4 ((x1_5).toNat * 4) = some [(Value.int .i64 ((((x1_3a :: x1_3t)).getD (x1_5).toNat (0, 0, 0, 0)).1)), (Value.int .i64 ((((x1_3a :: x1_3t)).getD (x1_5).toNat (0, 0, 0, 0)).2.1)), (Value.int .i64 ((((x1_3a :: x1_3t)).getD (x1_5).toNat (0, 0, 0, 0)).2.2.1)), (Value.int .i64 ((((x1_3a :: x1_3t)).getD (x1_5).toNat (0, 0, 0, 0)).2.2.2))],
    (Value.bool (!((y1_13_0 == ((((x1_3a :: x1_3t)).getD (x1_5).toNat (0, 0, 0, 0)).1)) && ((y1_13_1 == ((((x1_3a :: x1_3t)).getD (x1_5).toNat (0, 0, 0, 0)).2.1)) && ((y1_13_2 == ((((x1_3a :: x1_3t)).getD (x1_5).toNat (0, 0, 0, 0)).2.2.1)) && ((y1_13_3 == ((((x1_3a :: x1_3t)).getD (x1_5).toNat (0, 0, 0, 0)).2.2.2)) && true)))))) = (Value.bool false),
    FlatB (.cells (layT (rows rw_iiii (x1_3a :: x1_3t))) 31)]) (by kernel_rfl) ⟨(vbT hy1_1), (ixS (e := 31) (by kernel_rfl) (by kernel_rfl) (hy1_2).1 (hy1_2).2), (rows_ld rwf_iiii (0, 0, 0, 0) (i := (x1_5).toNat) (j := 1) (Nat.add ((x1_5).toNat * 4) 1) rfl (toNatLt hy1_2) (by decide) rfl), (vnF hy1_3), (ixS (e := 31) (by kernel_rfl) (by kernel_rfl) (hy1_2).1 (hy1_2).2), (rows_ld rwf_iiii (0, 0, 0, 0) (i := (x1_5).toNat) (j := 2) (Nat.add ((x1_5).toNat * 4) 2) rfl (toNatLt hy1_2) (by decide) rfl), (vbF hy1_4), (ixS (e := 31) (by kernel_rfl) (by kernel_rfl) (hy1_2).1 (hy1_2).2), (rows_ld rwf_iiii (0, 0, 0, 0) (i := (x1_5).toNat) (j := 3) (Nat.add ((x1_5).toNat * 4) 3) rfl (toNatLt hy1_2) (by decide) rfl), (vbF hy1_5), (ixS (e := 31) (by kernel_rfl) (by kernel_rfl) (hy1_2).1 (hy1_2).2), (rows_ld rwf_iiii (0, 0, 0, 0) (i := (x1_5).toNat) (j := 2) (Nat.add ((x1_5).toNat * 4) 2) rfl (toNatLt hy1_2) (by decide) rfl), (catStr hy1_6), (ixS (e := 31) (by kernel_rfl) (by kernel_rfl) (hy1_2).1 (hy1_2).2), (rows_ld rwf_iiii (0, 0, 0, 0) (i := (x1_5).toNat) (j := 1) (Nat.add ((x1_5).toNat * 4) 1) rfl (toNatLt hy1_2) (by decide) rfl), (m11_ok n (x1_2 ++ x1_0) (w64 ((((x1_2).size : Nat) : Int) + ((((x1_3a :: x1_3t)).getD (x1_5).toNat (0, 0, 0, 0)).2.1))) (y1_7_0, y1_7_1, y1_7_2, y1_7_3, y1_7_4) hy1_7), (vBn hy1_8), (ixS (e := 31) (by kernel_rfl) (by kernel_rfl) (hy1_2).1 (hy1_2).2), (rows_rdp rwf_iiii (0, 0, 0, 0) (i := (x1_5).toNat) (j := 0) ((x1_5).toNat * 4) rfl (toNatLt hy1_2) (by decide) rfl), (vB (Bool.eq_false_iff.2 hy1_9)), (ixS (e := 31) (by kernel_rfl) (by kernel_rfl) (hy1_2).1 (hy1_2).2), (rows_ld rwf_iiii (0, 0, 0, 0) (i := (x1_5).toNat) (j := 3) (Nat.add ((x1_5).toNat * 4) 3) rfl (toNatLt hy1_2) (by decide) rfl), (vbT hy1_10), (ixS (e := 31) (by kernel_rfl) (by kernel_rfl) (hy1_2).1 (hy1_2).2), (rows_ld rwf_iiii (0, 0, 0, 0) (i := (x1_5).toNat) (j := 3) (Nat.add ((x1_5).toNat * 4) 3) rfl (toNatLt hy1_2) (by decide) rfl), (slStrLo (by kernel_rfl) hy1_11), (catStr hy1_12), (ixS (e := 31) (by kernel_rfl) (by kernel_rfl) (hy1_2).1 (hy1_2).2), (rows_ld rwf_iiii (0, 0, 0, 0) (i := (x1_5).toNat) (j := 1) (Nat.add ((x1_5).toNat * 4) 1) rfl (toNatLt hy1_2) (by decide) rfl), (m11_ok n ((ByteArray.extract x1_0 0 (((((x1_3a :: x1_3t)).getD (x1_5).toNat (0, 0, 0, 0)).2.2.2)).toNat) ++ x1_1) ((((x1_3a :: x1_3t)).getD (x1_5).toNat (0, 0, 0, 0)).2.1) (y1_13_0, y1_13_1, y1_13_2, y1_13_3, y1_13_4) hy1_13), (vBn hy1_14), (ixS (e := 31) (by kernel_rfl) (by kernel_rfl) (hy1_2).1 (hy1_2).2), (rows_rdp rwf_iiii (0, 0, 0, 0) (i := (x1_5).toNat) (j := 0) ((x1_5).toNat * 4) rfl (toNatLt hy1_2) (by decide) rfl), (vB (Bool.eq_false_iff.2 hy1_15)), (rows_flat rwf_iiii _ _), trivial⟩
set_option maxRecDepth 100000 in
theorem q5_1_2 (n : Nat) (x1_0 : ByteArray) (x1_1 : ByteArray) (x1_2 : ByteArray) (x1_3a : Int × Int × Int × Int) (x1_3t : List (Int × Int × Int × Int)) (x1_4 : Int) (x1_5 : Int) (hy1_1 : x1_5 < ((((x1_3a :: x1_3t)).length : Nat) : Int)) (hy1_2 : 0 ≤ x1_5 ∧ x1_5 < ((((x1_3a :: x1_3t)).length : Nat) : Int)) (hy1_3 : ((((x1_3a :: x1_3t)).getD (x1_5).toNat (0, 0, 0, 0)).2.1) = x1_4) (hy1_4 : ¬ (((((x1_3a :: x1_3t)).getD (x1_5).toNat (0, 0, 0, 0)).2.2.1) ≤ x1_4)) (hy1_5 : ¬ (((((x1_3a :: x1_3t)).getD (x1_5).toNat (0, 0, 0, 0)).2.2.2) < (0 : Int))) (hy1_6 : (x1_2).size + (x1_0).size < 9223372036854775808) (y1_7_0 : Int) (y1_7_1 : Int) (y1_7_2 : Int) (y1_7_3 : Int) (y1_7_4 : Bool) (hy1_7 : m11 n (x1_2 ++ x1_0) (w64 ((((x1_2).size : Nat) : Int) + ((((x1_3a :: x1_3t)).getD (x1_5).toNat (0, 0, 0, 0)).2.1))) = some (y1_7_0, y1_7_1, y1_7_2, y1_7_3, y1_7_4)) (hy1_8 : y1_7_4 = true) (hy1_9 : ¬ ((!((y1_7_0 == ((((x1_3a :: x1_3t)).getD (x1_5).toNat (0, 0, 0, 0)).1)) && (((w64 (y1_7_1 - (((x1_2).size : Nat) : Int))) == ((((x1_3a :: x1_3t)).getD (x1_5).toNat (0, 0, 0, 0)).2.1)) && (((w64 (y1_7_2 - (((x1_2).size : Nat) : Int))) == ((((x1_3a :: x1_3t)).getD (x1_5).toNat (0, 0, 0, 0)).2.2.1)) && (((w64 (y1_7_3 - (((x1_2).size : Nat) : Int))) == ((((x1_3a :: x1_3t)).getD (x1_5).toNat (0, 0, 0, 0)).2.2.2)) && true))))) = true)) (hy1_10 : ¬ (((((x1_3a :: x1_3t)).getD (x1_5).toNat (0, 0, 0, 0)).2.2.2) ≤ (((x1_0).size : Nat) : Int))) : CG P none (fnN P 5) 0 (codeOf P 5 [false, false, true, false, true, true, true, true, true]) (S5_1 x1_0 x1_1 x1_2 ((x1_3a :: x1_3t), x1_4, x1_5)) (.normal, S5_1 x1_0 x1_1 x1_2 ((x1_3a :: x1_3t), ((((x1_3a :: x1_3t)).getD (x1_5).toNat (0, 0, 0, 0)).2.2.1), (w64 (x1_5 + (1 : Int))))) :=
  runC_ok hm (A := aT [(5, .val (.bool true)), (13, .pur (Value.pointer (some ⟨1, ((x1_5).toNat * 4), none⟩))), (15, .ld (Value.int .i64 ((((x1_3a :: x1_3t)).getD (x1_5).toNat (0, 0, 0, 0)).2.1))), (17, .val (.bool false)), (21, .pur (Value.pointer (some ⟨1, ((x1_5).toNat * 4), none⟩))), (23, .ld (Value.int .i64 ((((x1_3a :: x1_3t)).getD (x1_5).toNat (0, 0, 0, 0)).2.2.1))), (25, .val (.bool false)), (30, .pur (Value.pointer (some ⟨1, ((x1_5).toNat * 4), none⟩))), (32, .ld (Value.int .i64 ((((x1_3a :: x1_3t)).getD (x1_5).toNat (0, 0, 0, 0)).2.2.2))), (33, .val (.bool false)), (39, .pur (Value.pointer (some ⟨1, ((x1_5).toNat * 4), none⟩))), (41, .ld (Value.int .i64 ((((x1_3a :: x1_3t)).getD (x1_5).toNat (0, 0, 0, 0)).2.2.1))), (47, .pur (Value.string (x1_2 ++ x1_0))), (52, .pur (Value.pointer (some ⟨1, ((x1_5).toNat * 4), none⟩))), (54, .ld (Value.int .i64 ((((x1_3a :: x1_3t)).getD (x1_5).toNat (0, 0, 0, 0)).2.1))), (56, .call ⟨0, [], (V11 (x1_2 ++ x1_0) (w64 ((((x1_2).size : Nat) : Int) + ((((x1_3a :: x1_3t)).getD (x1_5).toNat (0, 0, 0, 0)).2.1))) (y1_7_0, y1_7_1, y1_7_2, y1_7_3, y1_7_4)), (R11 (x1_2 ++ x1_0) (w64 ((((x1_2).size : Nat) : Int) + ((((x1_3a :: x1_3t)).getD (x1_5).toNat (0, 0, 0, 0)).2.1))) (y1_7_0, y1_7_1, y1_7_2, y1_7_3, y1_7_4)), [(19, 0, false)]⟩), (88, .val (.bool false)), (93, .pur (Value.pointer (some ⟨1, ((x1_5).toNat * 4), none⟩))), (94, .ld (Value.agg #[(Value.int .i64 ((((x1_3a :: x1_3t)).getD (x1_5).toNat (0, 0, 0, 0)).1)), (Value.int .i64 ((((x1_3a :: x1_3t)).getD (x1_5).toNat (0, 0, 0, 0)).2.1)), (Value.int .i64 ((((x1_3a :: x1_3t)).getD (x1_5).toNat (0, 0, 0, 0)).2.2.1)), (Value.int .i64 ((((x1_3a :: x1_3t)).getD (x1_5).toNat (0, 0, 0, 0)).2.2.2))])), (97, .val (.bool false)), (101, .pur (Value.pointer (some ⟨1, ((x1_5).toNat * 4), none⟩))), (103, .ld (Value.int .i64 ((((x1_3a :: x1_3t)).getD (x1_5).toNat (0, 0, 0, 0)).2.2.2))), (106, .val (.bool false))]) (L := lT []) (wk := ⟨[1, 2, 3, 4, 9, 10, 11], [(0, 0, false), (1, 1, true)], 2, 0⟩)
    (ps := [(Value.bool (decide (x1_5 < ((((x1_3a :: x1_3t)).length : Nat) : Int)))) = (Value.bool true),
    opIndexAddr P 44 (Value.slice (some ⟨1, 0, none⟩) ((x1_3a :: x1_3t)).length (Nat.add big 4)) (Value.int .i64 x1_5) Ax.h0 = some ((Value.pointer (some ⟨1, ((x1_5).toNat * 4), none⟩)), Ax.h0),
    (layT (rows rw_iiii (x1_3a :: x1_3t))).get (Nat.add ((x1_5).toNat * 4) 1) = some (Value.int .i64 ((((x1_3a :: x1_3t)).getD (x1_5).toNat (0, 0, 0, 0)).2.1)),
    (Value.bool (((((x1_3a :: x1_3t)).getD (x1_5).toNat (0, 0, 0, 0)).2.1) != x1_4)) = (Value.bool false),
    opIndexAddr P 44 (Value.slice (some ⟨1, 0, none⟩) ((x1_3a :: x1_3t)).length (Nat.add big 4)) (Value.int .i64 x1_5) Ax.h0 = some ((Value.pointer (some ⟨1, ((x1_5).toNat * 4), none⟩)), Ax.h0),
    (layT (rows rw_iiii (x1_3a :: x1_3t))).get (Nat.add ((x1_5).toNat * 4) 2) = some (Value.int .i64 ((((x1_3a :: x1_3t)).getD (x1_5).toNat (0, 0, 0, 0)).2.2.1)),
    (Value.bool (decide (((((x1_3a :: x1_3t)).getD (x1_5).toNat (0, 0, 0, 0)).2.2.1) ≤ x1_4))) = (Value.bool false),
    opIndexAddr P 44 (Value.slice (some ⟨1, 0, none⟩) ((x1_3a :: x1_3t)).length (Nat.add big 4)) (Value.int .i64 x1_5) Ax.h0 = some ((Value.pointer (some ⟨1, ((x1_5).toNat * 4), none⟩)), Ax.h0),
    (layT (rows rw_iiii (x1_3a :: x1_3t))).get (Nat.add ((x1_5).toNat * 4) 3) = some (Value.int .i64 ((((x1_3a :: x1_3t)).getD (x1_5).toNat (0, 0, 0, 0)).2.2.2)),
    (Value.bool (decide (((((x1_3a :: x1_3t)).getD (x1_5).toNat (0, 0, 0, 0)).2.2.2) < (0 : Int)))) = (Value.bool false),
    opIndexAddr P 44 (Value.slice (some ⟨1, 0, none⟩) ((x1_3a :: x1_3t)).length (Nat.add big 4)) (Value.int .i64 x1_5) Ax.h0 = some ((Value.pointer (some ⟨1, ((x1_5).toNat * 4), none⟩)), Ax.h0),
    (layT (rows rw_iiii (x1_3a :: x1_3t))).get (Nat.add ((x1_5).toNat * 4) 2) = some (Value.int .i64 ((((x1_3a :: x1_3t)).getD (x1_5).toNat (0, 0, 0, 0)).2.2.1)),
    opBin P .add 9 (.tmp 81) (.tmp 82) (Value.string x1_2) (Value.string x1_0) Ax.h0 = some ((Value.string (x1_2 ++ x1_0)), Ax.h0),
    opIndexAddr P 44 (Value.slice (some ⟨1, 0, none⟩) ((x1_3a :: x1_3t)).length (Nat.add big 4)) (Value.int .i64 x1_5) Ax.h0 = some ((Value.pointer (some ⟨1, ((x1_5).toNat * 4), none⟩)), Ax.h0),
    (layT (rows rw_iiii (x1_3a :: x1_3t))).get (Nat.add ((x1_5).toNat * 4) 1) = some (Value.int .i64 ((((x1_3a :: x1_3t)).getD (x1_5).toNat (0, 0, 0, 0)).2.1)),
    Gv P (.func 11) (A11 (x1_2 ++ x1_0) (w64 ((((x1_2).size : Nat) : Int) + ((((x1_3a :: x1_3t)).getD (x1_5).toNat (0, 0, 0, 0)).2.1)))) (H11 (x1_2 ++ x1_0) (w64 ((((x1_2).size : Nat) : Int) + ((((x1_3a :: x1_3t)).getD (x1_5).toNat (0, 0, 0, 0)).2.1)))) (V11 (x1_2 ++ x1_0) (w64 ((((x1_2).size : Nat) : Int) + ((((x1_3a :: x1_3t)).getD (x1_5).toNat (0, 0, 0, 0)).2.1))) (y1_7_0, y1_7_1, y1_7_2, y1_7_3, y1_7_4)) (R11 (x1_2 ++ x1_0) (w64 ((((x1_2).size : Nat) : Int) + ((((x1_3a :: x1_3t)).getD (x1_5).toNat (0, 0, 0, 0)).2.1))) (y1_7_0, y1_7_1, y1_7_2, y1_7_3, y1_7_4)),
    (Value.bool (!y1_7_4)) = (Value.bool false),
    opIndexAddr P 44 (Value.slice (some ⟨1, 0, none⟩) ((x1_3a :: x1_3t)).length (Nat.add big 4)) (Value.int .i64 x1_5) Ax.h0 = some ((Value.pointer (some ⟨1, ((x1_5).toNat * 4), none⟩)), Ax.h0),
    rdT (layT (rows rw_iiii (x1_3a :: x1_3t))) 4 ((x1_5).toNat * 4) = some [(Value.int .i64 ((((x1_3a :: x1_3t)).getD (x1_5).toNat (0, 0, 0, 0)).1)), (Value.int .i64 ((((x1_3a :: x1_3t)).getD (x1_5).toNat (0, 0, 0, 0)).2.1)), (Value.int .i64 ((((x1_3a :: x1_3t)).getD (x1_5).toNat (0, 0, 0, 0)).2.2.1)), (Value.int .i64 ((((x1_3a :: x1_3t)).getD (x1_5).toNat (0, 0, 0, 0)).2.2.2))],
    (Value.bool (!((y1_7_0 == ((((x1_3a :: x1_3t)).getD (x1_5).toNat (0, 0, 0, 0)).1)) && (((w64 (y1_7_1 - (((x1_2).size : Nat) : Int))) == ((((x1_3a :: x1_3t)).getD (x1_5).toNat (0, 0, 0, 0)).2.1)) && (((w64 (y1_7_2 - (((x1_2).size : Nat) : Int))) == ((((x1_3a :: x1_3t)).getD (x1_5).toNat (0, 0, 0, 0)).2.2.1)) && (((w64 (y1_7_3 - (((x1_2).size : Nat) : Int))) == ((((x1_3a :: x1_3t)).getD (x1_5).toNat (0, 0, 0, 0)).2.2.2)) && true)))))) = (Value.bool false),
    opIndexAddr P 44 (Value.slice (some ⟨1, 0, none⟩) ((x1_3a :: x1_3t)).length (Nat.add big 4)) (Value.int .i64 x1_5) Ax.h0 = some ((Value.pointer (some ⟨1, ((x1_5).toNat * 4), none⟩)), Ax.h0),
    (layT (rows rw_iiii (x1_3a :: x1_3t))).get (Nat.add ((x1_5).toNat * 4) 3) = some (Value.int .i64 ((((x1_3a :: x1_3t)).getD (x1_5).toNat (0, 0, 0, 0)).2.2.2)),
    (Value.bool (decide (((((x1_3a :: x1_3t)).getD (x1_5).toNat (0, 0, 0, 0)).2.2.2) ≤ (((x1_0).size : Nat) : Int)))) = (Value.bool false),
    FlatB (.cells (layT (rows rw_iiii (x1_3a :: x1_3t))) 31)]) (by kernel_rfl) ⟨(vbT hy1_1), (ixS (e := 31) (by kernel_rfl) (by kernel_rfl) (hy1_2).1 (hy1_2).2), (rows_ld rwf_iiii (0, 0, 0, 0) (i := (x1_5).toNat) (j := 1) (Nat.add ((x1_5).toNat * 4) 1) rfl (toNatLt hy1_2) (by decide) rfl), (vnF hy1_3), (ixS (e := 31) (by kernel_rfl) (by kernel_rfl) (hy1_2).1 (hy1_2).2), (rows_ld rwf_iiii (0, 0, 0, 0) (i := (x1_5).toNat) (j := 2) (Nat.add ((x1_5).toNat * 4) 2) rfl (toNatLt hy1_2) (by decide) rfl), (vbF hy1_4), (ixS (e := 31) (by kernel_rfl) (by kernel_rfl) (hy1_2).1 (hy1_2).2), (rows_ld rwf_iiii (0, 0, 0, 0) (i := (x1_5).toNat) (j := 3) (Nat.add ((x1_5).toNat * 4) 3) rfl (toNatLt hy1_2) (by decide) rfl), (vbF hy1_5), (ixS (e := 31) (by kernel_rfl) (by kernel_rfl) (hy1_2).1 (hy1_2).2), (rows_ld rwf_iiii (0, 0, 0, 0) (i := (x1_5).toNat) (j := 2) (Nat.add ((x1_5).toNat * 4) 2) rfl (toNatLt hy1_2) (by decide) rfl), (catStr hy1_6), (ixS (e := 31) (by kernel_rfl) (by kernel_rfl) (hy1_2).1 (hy1_2).2), (rows_ld rwf_iiii (0, 0, 0, 0) (i := (x1_5).toNat) (j := 1) (Nat.add ((x1_5).toNat * 4) 1) rfl (toNatLt hy1_2) (by decide) rfl), (m11_ok n (x1_2 ++ x1_0) (w64 ((((x1_2).size : Nat) : Int) + ((((x1_3a :: x1_3t)).getD (x1_5).toNat (0, 0, 0, 0)).2.1))) (y1_7_0, y1_7_1, y1_7_2, y1_7_3, y1_7_4) hy1_7), (vBn hy1_8), (ixS (e := 31) (by kernel_rfl) (by kernel_rfl) (hy1_2).1 (hy1_2).2), (rows_rdp rwf_iiii (0, 0, 0, 0) (i := (x1_5).toNat) (j := 0) ((x1_5).toNat * 4) rfl (toNatLt hy1_2) (by decide) rfl), (vB (Bool.eq_false_iff.2 hy1_9)), (ixS (e := 31) (by kernel_rfl) (by kernel_rfl) (hy1_2).1 (hy1_2).2), (rows_ld rwf_iiii (0, 0, 0, 0) (i := (x1_5).toNat) (j := 3) (Nat.add ((x1_5).toNat * 4) 3) rfl (toNatLt hy1_2) (by decide) rfl), (vbF hy1_10), (rows_flat rwf_iiii _ _), trivial⟩
set_option maxRecDepth 100000 in
theorem q5_1_3 (n : Nat) (x1_0 : ByteArray) (x1_1 : ByteArray) (x1_2 : ByteArray) (x1_3a : Int × Int × Int × Int) (x1_3t : List (Int × Int × Int × Int)) (x1_4 : Int) (x1_5 : Int) (hy1_1 : ¬ (x1_5 < ((((x1_3a :: x1_3t)).length : Nat) : Int))) : CG P none (fnN P 5) 0 (codeOf P 5 [false, false, true, false, true, true, true, true, true]) (S5_1 x1_0 x1_1 x1_2 ((x1_3a :: x1_3t), x1_4, x1_5)) (X5_1 x1_0 x1_1 x1_2 x1_4) :=
  runC_ok hm (A := aT [(5, .val (.bool false))]) (L := lT []) (wk := ⟨[1, 10], [], 0, 0⟩)
    (ps := [(Value.bool (decide (x1_5 < ((((x1_3a :: x1_3t)).length : Nat) : Int)))) = (Value.bool false)]) (by kernel_rfl) ⟨(vbF hy1_1), trivial⟩
theorem m5_1_ok (n : Nat) (x1_0 : ByteArray) (x1_1 : ByteArray) (x1_2 : ByteArray) (st : List (Int × Int × Int × Int) × Int × Int) (r : Int) (h : m5_1 n x1_0 x1_1 x1_2 st = some r) : CG P none (fnN P 5) 0 (codeOf P 5 [false, true, false, true, true, true, true, true]) (S5_1 x1_0 x1_1 x1_2 st) (X5_1 x1_0 x1_1 x1_2 r) :=
  CG.iter (b := codeOf P 5 [false, false, true, false, true, true, true, true, true]) (by kernel_rfl) (body := B5_1 n x1_0 x1_1 x1_2) (S := S5_1 x1_0 x1_1 x1_2) (X := X5_1 x1_0 x1_1 x1_2)
    (fun s s' h => by
    obtain ⟨x1_3, x1_4, x1_5⟩ := s
    unfold B5_1 at h
    dsimp only at h
    cases x1_3 with
    | nil =>
      dsimp only at h
      by_cases hy1_1 : x1_5 < (0 : Int)
      · rw [if_pos hy1_1] at h
        cases h
      · rw [if_neg hy1_1] at h
        cases h
    | cons x1_3a x1_3t =>
      dsimp only at h
      by_cases hy1_1 : x1_5 < ((((x1_3a :: x1_3t)).length : Nat) : Int)
      · rw [if_pos hy1_1] at h
        by_cases hy1_2 : 0 ≤ x1_5 ∧ x1_5 < ((((x1_3a :: x1_3t)).length : Nat) : Int)
        · rw [if_pos hy1_2] at h
          by_cases hy1_3 : ((((x1_3a :: x1_3t)).getD (x1_5).toNat (0, 0, 0, 0)).2.1) = x1_4
          · rw [if_pos hy1_3] at h
            by_cases hy1_4 : ((((x1_3a :: x1_3t)).getD (x1_5).toNat (0, 0, 0, 0)).2.2.1) ≤ x1_4
            · rw [if_pos hy1_4] at h
              cases h
            · rw [if_neg hy1_4] at h
              by_cases hy1_5 : ((((x1_3a :: x1_3t)).getD (x1_5).toNat (0, 0, 0, 0)).2.2.2) < (0 : Int)
              · rw [if_pos hy1_5] at h
                cases h
              · rw [if_neg hy1_5] at h
                by_cases hy1_6 : (x1_2).size + (x1_0).size < 9223372036854775808
                · rw [if_pos hy1_6] at h
                  obtain ⟨⟨y1_7_0, y1_7_1, y1_7_2, y1_7_3, y1_7_4⟩, hy1_7, h⟩ := Option.bind_eq_some_iff.1 h
                  dsimp only at h
                  by_cases hy1_8 : y1_7_4 = true
                  · rw [if_pos hy1_8] at h
                    by_cases hy1_9 : (!((y1_7_0 == ((((x1_3a :: x1_3t)).getD (x1_5).toNat (0, 0, 0, 0)).1)) && (((w64 (y1_7_1 - (((x1_2).size : Nat) : Int))) == ((((x1_3a :: x1_3t)).getD (x1_5).toNat (0, 0, 0, 0)).2.1)) && (((w64 (y1_7_2 - (((x1_2).size : Nat) : Int))) == ((((x1_3a :: x1_3t)).getD (x1_5).toNat (0, 0, 0, 0)).2.2.1)) && (((w64 (y1_7_3 - (((x1_2).size : Nat) : Int))) == ((((x1_3a :: x1_3t)).getD (x1_5).toNat (0, 0, 0, 0)).2.2.2)) && true))))) = true
                    · rw [if_pos hy1_9] at h
                      cases h
                    · rw [if_neg hy1_9] at h
                      by_cases hy1_10 : ((((x1_3a :: x1_3t)).getD (x1_5).toNat (0, 0, 0, 0)).2.2.2) ≤ (((x1_0).size : Nat) : Int)
                      · rw [if_pos hy1_10] at h
                        by_cases hy1_11 : 0 ≤ ((((x1_3a :: x1_3t)).getD (x1_5).toNat (0, 0, 0, 0)).2.2.2) ∧ ((((x1_3a :: x1_3t)).getD (x1_5).toNat (0, 0, 0, 0)).2.2.2) ≤ (((x1_0).size : Nat) : Int)
                        · rw [if_pos hy1_11] at h
                          by_cases hy1_12 : ((ByteArray.extract x1_0 0 (((((x1_3a :: x1_3t)).getD (x1_5).toNat (0, 0, 0, 0)).2.2.2)).toNat)).size + (x1_1).size < 9223372036854775808
                          · rw [if_pos hy1_12] at h
                            obtain ⟨⟨y1_13_0, y1_13_1, y1_13_2, y1_13_3, y1_13_4⟩, hy1_13, h⟩ := Option.bind_eq_some_iff.1 h
                            dsimp only at h
                            by_cases hy1_14 : y1_13_4 = true
                            · rw [if_pos hy1_14] at h
                              by_cases hy1_15 : (!((y1_13_0 == ((((x1_3a :: x1_3t)).getD (x1_5).toNat (0, 0, 0, 0)).1)) && ((y1_13_1 == ((((x1_3a :: x1_3t)).getD (x1_5).toNat (0, 0, 0, 0)).2.1)) && ((y1_13_2 == ((((x1_3a :: x1_3t)).getD (x1_5).toNat (0, 0, 0, 0)).2.2.1)) && ((y1_13_3 == ((((x1_3a :: x1_3t)).getD (x1_5).toNat (0, 0, 0, 0)).2.2.2)) && true))))) = true
                              · rw [if_pos hy1_15] at h
                                cases h
                              · rw [if_neg hy1_15] at h
                                obtain rfl := Sum.inl.inj (Option.some.inj h); exact q5_1_1 n x1_0 x1_1 x1_2 x1_3a x1_3t x1_4 x1_5 hy1_1 hy1_2 hy1_3 hy1_4 hy1_5 hy1_6 y1_7_0 y1_7_1 y1_7_2 y1_7_3 y1_7_4 hy1_7 hy1_8 hy1_9 hy1_10 hy1_11 hy1_12 y1_13_0 y1_13_1 y1_13_2 y1_13_3 y1_13_4 hy1_13 hy1_14 hy1_15
                            · rw [if_neg hy1_14] at h
                              cases h
                          · rw [if_neg hy1_12] at h; cases h
                        · rw [if_neg hy1_11] at h; cases h
                      · rw [if_neg hy1_10] at h
                        obtain rfl := Sum.inl.inj (Option.some.inj h); exact q5_1_2 n x1_0 x1_1 x1_2 x1_3a x1_3t x1_4 x1_5 hy1_1 hy1_2 hy1_3 hy1_4 hy1_5 hy1_6 y1_7_0 y1_7_1 y1_7_2 y1_7_3 y1_7_4 hy1_7 hy1_8 hy1_9 hy1_10
                  · rw [if_neg hy1_8] at h
                    cases h
                · rw [if_neg hy1_6] at h; cases h
          · rw [if_neg hy1_3] at h
            cases h
        · rw [if_neg hy1_2] at h; cases h
      · rw [if_neg hy1_1] at h
        cases h)
    (fun s r h => by
    obtain ⟨x1_3, x1_4, x1_5⟩ := s
    unfold B5_1 at h
    dsimp only at h
    cases x1_3 with
    | nil =>
      dsimp only at h
      by_cases hy1_1 : x1_5 < (0 : Int)
      · rw [if_pos hy1_1] at h
        cases h
      · rw [if_neg hy1_1] at h
        obtain rfl := Sum.inr.inj (Option.some.inj h); exact q5_1_0 n x1_0 x1_1 x1_2 x1_4 x1_5 hy1_1
    | cons x1_3a x1_3t =>
      dsimp only at h
      by_cases hy1_1 : x1_5 < ((((x1_3a :: x1_3t)).length : Nat) : Int)
      · rw [if_pos hy1_1] at h
        by_cases hy1_2 : 0 ≤ x1_5 ∧ x1_5 < ((((x1_3a :: x1_3t)).length : Nat) : Int)
        · rw [if_pos hy1_2] at h
          by_cases hy1_3 : ((((x1_3a :: x1_3t)).getD (x1_5).toNat (0, 0, 0, 0)).2.1) = x1_4
          · rw [if_pos hy1_3] at h
            by_cases hy1_4 : ((((x1_3a :: x1_3t)).getD (x1_5).toNat (0, 0, 0, 0)).2.2.1) ≤ x1_4
            · rw [if_pos hy1_4] at h
              cases h
            · rw [if_neg hy1_4] at h
              by_cases hy1_5 : ((((x1_3a :: x1_3t)).getD (x1_5).toNat (0, 0, 0, 0)).2.2.2) < (0 : Int)
              · rw [if_pos hy1_5] at h
                cases h
              · rw [if_neg hy1_5] at h
                by_cases hy1_6 : (x1_2).size + (x1_0).size < 9223372036854775808
                · rw [if_pos hy1_6] at h
                  obtain ⟨⟨y1_7_0, y1_7_1, y1_7_2, y1_7_3, y1_7_4⟩, hy1_7, h⟩ := Option.bind_eq_some_iff.1 h
                  dsimp only at h
                  by_cases hy1_8 : y1_7_4 = true
                  · rw [if_pos hy1_8] at h
                    by_cases hy1_9 : (!((y1_7_0 == ((((x1_3a :: x1_3t)).getD (x1_5).toNat (0, 0, 0, 0)).1)) && (((w64 (y1_7_1 - (((x1_2).size : Nat) : Int))) == ((((x1_3a :: x1_3t)).getD (x1_5).toNat (0, 0, 0, 0)).2.1)) && (((w64 (y1_7_2 - (((x1_2).size : Nat) : Int))) == ((((x1_3a :: x1_3t)).getD (x1_5).toNat (0, 0, 0, 0)).2.2.1)) && (((w64 (y1_7_3 - (((x1_2).size : Nat) : Int))) == ((((x1_3a :: x1_3t)).getD (x1_5).toNat (0, 0, 0, 0)).2.2.2)) && true))))) = true
                    · rw [if_pos hy1_9] at h
                      cases h
                    · rw [if_neg hy1_9] at h
                      by_cases hy1_10 : ((((x1_3a :: x1_3t)).getD (x1_5).toNat (0, 0, 0, 0)).2.2.2) ≤ (((x1_0).size : Nat) : Int)
                      · rw [if_pos hy1_10] at h
                        by_cases hy1_11 : 0 ≤ ((((x1_3a :: x1_3t)).getD (x1_5).toNat (0, 0, 0, 0)).2.2.2) ∧ ((((x1_3a :: x1_3t)).getD (x1_5).toNat (0, 0, 0, 0)).2.2.2) ≤ (((x1_0).size : Nat) : Int)
                        · rw [if_pos hy1_11] at h
                          by_cases hy1_12 : ((ByteArray.extract x1_0 0 (((((x1_3a :: x1_3t)).getD (x1_5).toNat (0, 0, 0, 0)).2.2.2)).toNat)).size + (x1_1).size < 9223372036854775808
                          · rw [if_pos hy1_12] at h
                            obtain ⟨⟨y1_13_0, y1_13_1, y1_13_2, y1_13_3, y1_13_4⟩, hy1_13, h⟩ := Option.bind_eq_some_iff.1 h
                            dsimp only at h
                            by_cases hy1_14 : y1_13_4 = true
                            · rw [if_pos hy1_14] at h
                              by_cases hy1_15 : (!((y1_13_0 == ((((x1_3a :: x1_3t)).getD (x1_5).toNat (0, 0, 0, 0)).1)) && ((y1_13_1 == ((((x1_3a :: x1_3t)).getD (x1_5).toNat (0, 0, 0, 0)).2.1)) && ((y1_13_2 == ((((x1_3a :: x1_3t)).getD (x1_5).toNat (0, 0, 0, 0)).2.2.1)) && ((y1_13_3 == ((((x1_3a :: x1_3t)).getD (x1_5).toNat (0, 0, 0, 0)).2.2.2)) && true))))) = true
                              · rw [if_pos hy1_15] at h
                                cases h
                              · rw [if_neg hy1_15] at h
                                cases h
                            · rw [if_neg hy1_14] at h
                              cases h
                          · rw [if_neg hy1_12] at h; cases h
                        · rw [if_neg hy1_11] at h; cases h
                      · rw [if_neg hy1_10] at h
                        cases h
                  · rw [if_neg hy1_8] at h
                    cases h
                · rw [if_neg hy1_6] at h; cases h
          · rw [if_neg hy1_3] at h
            cases h
        · rw [if_neg hy1_2] at h; cases h
      · rw [if_neg hy1_1] at h
        obtain rfl := Sum.inr.inj (Option.some.inj h); exact q5_1_3 n x1_0 x1_1 x1_2 x1_3a x1_3t x1_4 x1_5 hy1_1)
    (fun r => by intro hx; cases hx) h
noncomputable def A5 (x : ByteArray) (be : ByteArray) (ah : ByteArray) : List Value := [(Value.agg #[(Value.slice (some ⟨0, 0, some 1⟩) (Args.N).length Args.cN), (Value.slice (some ⟨1, 0, some 1⟩) (Args.R).length Args.cR)]), (Value.string x), (Value.string be), (Value.string ah)]
noncomputable def H5 (x : ByteArray) (be : ByteArray) (ah : ByteArray) : AH := ⟨sB [], 0, 0⟩
noncomputable def V5 (x : ByteArray) (be : ByteArray) (ah : ByteArray) (r : Unit) : Value := match r with
  | _ => (Value.bool true)
noncomputable def R5 (x : ByteArray) (be : ByteArray) (ah : ByteArray) (r : Unit) : AH := match r with
  | _ => ⟨sB [], 0, 0⟩
def m5 (n : Nat) (x : ByteArray) (be : ByteArray) (ah : ByteArray) : Option (Unit) :=
  (m7 n).bind fun _ =>
  (m8 n 24).bind fun c2_ =>
  if c2_ = true then
    if (((x).size : Nat) : Int) > (60 : Int) then
      some ()
    else
      if (((be).size : Nat) : Int) > (60 : Int) then
        some ()
      else
        if (((ah).size : Nat) : Int) > (60 : Int) then
          some ()
        else
          (m9 n).bind fun c7_ =>
          if c7_ = (0 : Int) then
            (m19 n x).bind fun c9_ =>
            match c9_ with
            | [] =>
              (m5_1 n x be ah (([] : List (Int × Int × Int × Int)), 0, 0)).bind fun c10_ =>
              if c10_ = (((x).size : Nat) : Int) then
                some ()
              else
                none
            | c9_a :: c9_t =>
              (m5_1 n x be ah ((c9_a :: c9_t), 0, 0)).bind fun c10_ =>
              if c10_ = (((x).size : Nat) : Int) then
                some ()
              else
                none
          else
            some ()
  else
    some ()
set_option maxRecDepth 100000 in
theorem p5_0 (n : Nat) (x : ByteArray) (be : ByteArray) (ah : ByteArray) (hc1 : m7 n = some ()) (c2_ : Bool) (hc2 : m8 n 24 = some c2_) (hc3 : c2_ = true) (hc4 : (((x).size : Nat) : Int) > (60 : Int)) : Gv P (.func 5) (A5 x be ah) (H5 x be ah) (V5 x be ah ()) (R5 x be ah ()) :=
  runF_ok hm (A := aT [(5, .call ⟨0, [], (Value.bool true), Ax.h0, []⟩), (11, .call ⟨0, [], (V8 24 c2_), (R8 24 c2_), []⟩), (12, .val (.bool false)), (16, .val (.bool true))]) (L := lT []) (wk := ⟨[8], [], 0, 0⟩)
    (ps := [Gv P (.func 7) [] Ax.h0 (Value.bool true) Ax.h0,
    Gv P (.func 8) (A8 24) (H8 24) (V8 24 c2_) (R8 24 c2_),
    (Value.bool (!c2_)) = (Value.bool false),
    (Value.bool (decide ((((x).size : Nat) : Int) > (60 : Int)))) = (Value.bool true)]) (by kernel_rfl) ⟨(m7_ok n () hc1), (m8_ok n 24 c2_ hc2), (vBn hc3), (vbT hc4), trivial⟩
set_option maxRecDepth 100000 in
theorem p5_1 (n : Nat) (x : ByteArray) (be : ByteArray) (ah : ByteArray) (hc1 : m7 n = some ()) (c2_ : Bool) (hc2 : m8 n 24 = some c2_) (hc3 : c2_ = true) (hc4 : ¬ ((((x).size : Nat) : Int) > (60 : Int))) (hc5 : (((be).size : Nat) : Int) > (60 : Int)) : Gv P (.func 5) (A5 x be ah) (H5 x be ah) (V5 x be ah ()) (R5 x be ah ()) :=
  runF_ok hm (A := aT [(5, .call ⟨0, [], (Value.bool true), Ax.h0, []⟩), (11, .call ⟨0, [], (V8 24 c2_), (R8 24 c2_), []⟩), (12, .val (.bool false)), (16, .val (.bool false)), (21, .val (.bool true))]) (L := lT []) (wk := ⟨[8], [], 0, 0⟩)
    (ps := [Gv P (.func 7) [] Ax.h0 (Value.bool true) Ax.h0,
    Gv P (.func 8) (A8 24) (H8 24) (V8 24 c2_) (R8 24 c2_),
    (Value.bool (!c2_)) = (Value.bool false),
    (Value.bool (decide ((((x).size : Nat) : Int) > (60 : Int)))) = (Value.bool false),
    (Value.bool (decide ((((be).size : Nat) : Int) > (60 : Int)))) = (Value.bool true)]) (by kernel_rfl) ⟨(m7_ok n () hc1), (m8_ok n 24 c2_ hc2), (vBn hc3), (vbF hc4), (vbT hc5), trivial⟩
set_option maxRecDepth 100000 in
theorem p5_2 (n : Nat) (x : ByteArray) (be : ByteArray) (ah : ByteArray) (hc1 : m7 n = some ()) (c2_ : Bool) (hc2 : m8 n 24 = some c2_) (hc3 : c2_ = true) (hc4 : ¬ ((((x).size : Nat) : Int) > (60 : Int))) (hc5 : ¬ ((((be).size : Nat) : Int) > (60 : Int))) (hc6 : (((ah).size : Nat) : Int) > (60 : Int)) : Gv P (.func 5) (A5 x be ah) (H5 x be ah) (V5 x be ah ()) (R5 x be ah ()) :=
  runF_ok hm (A := aT [(5, .call ⟨0, [], (Value.bool true), Ax.h0, []⟩), (11, .call ⟨0, [], (V8 24 c2_), (R8 24 c2_), []⟩), (12, .val (.bool false)), (16, .val (.bool false)), (21, .val (.bool false)), (26, .val (.bool true))]) (L := lT []) (wk := ⟨[8], [], 0, 0⟩)
    (ps := [Gv P (.func 7) [] Ax.h0 (Value.bool true) Ax.h0,
    Gv P (.func 8) (A8 24) (H8 24) (V8 24 c2_) (R8 24 c2_),
    (Value.bool (!c2_)) = (Value.bool false),
    (Value.bool (decide ((((x).size : Nat) : Int) > (60 : Int)))) = (Value.bool false),
    (Value.bool (decide ((((be).size : Nat) : Int) > (60 : Int)))) = (Value.bool false),
    (Value.bool (decide ((((ah).size : Nat) : Int) > (60 : Int)))) = (Value.bool true)]) (by kernel_rfl) ⟨(m7_ok n () hc1), (m8_ok n 24 c2_ hc2), (vBn hc3), (vbF hc4), (vbF hc5), (vbT hc6), trivial⟩
set_option maxRecDepth 100000 in
theorem p5_3 (n : Nat) (x : ByteArray) (be : ByteArray) (ah : ByteArray) (hc1 : m7 n = some ()) (c2_ : Bool) (hc2 : m8 n 24 = some c2_) (hc3 : c2_ = true) (hc4 : ¬ ((((x).size : Nat) : Int) > (60 : Int))) (hc5 : ¬ ((((be).size : Nat) : Int) > (60 : Int))) (hc6 : ¬ ((((ah).size : Nat) : Int) > (60 : Int))) (c7_ : Int) (hc7 : m9 n = some c7_) (hc8 : c7_ = (0 : Int)) (hc9 : m19 n x = some []) (c10_ : Int) (hc10 : m5_1 n x be ah (([] : List (Int × Int × Int × Int)), 0, 0) = some c10_) (hc11 : c10_ = (((x).size : Nat) : Int)) : Gv P (.func 5) (A5 x be ah) (H5 x be ah) (V5 x be ah ()) (R5 x be ah ()) :=
  runF_ok hm (A := aT [(5, .call ⟨0, [], (Value.bool true), Ax.h0, []⟩), (11, .call ⟨0, [], (V8 24 c2_), (R8 24 c2_), []⟩), (12, .val (.bool false)), (16, .val (.bool false)), (21, .val (.bool false)), (26, .val (.bool false)), (30, .call ⟨0, [], (V9  c7_), (R9  c7_), []⟩), (31, .val (.bool false)), (37, .call ⟨0, [], (V19 x ([] : List (Int × Int × Int × Int))), (R19 x ([] : List (Int × Int × Int × Int))), []⟩), (50, .val (.bool true))]) (L := lT [(45, ⟨⟨[1, 2, 3, 4, 9, 10, 11], [(0, 0, false)], 2, 0⟩, (X5_1 x be ah c10_).1, (X5_1 x be ah c10_).2⟩)]) (wk := ⟨[8], [], 0, 0⟩)
    (ps := [Gv P (.func 7) [] Ax.h0 (Value.bool true) Ax.h0,
    Gv P (.func 8) (A8 24) (H8 24) (V8 24 c2_) (R8 24 c2_),
    (Value.bool (!c2_)) = (Value.bool false),
    (Value.bool (decide ((((x).size : Nat) : Int) > (60 : Int)))) = (Value.bool false),
    (Value.bool (decide ((((be).size : Nat) : Int) > (60 : Int)))) = (Value.bool false),
    (Value.bool (decide ((((ah).size : Nat) : Int) > (60 : Int)))) = (Value.bool false),
    Gv P (.func 9) A9 H9 (V9  c7_) (R9  c7_),
    (Value.bool (c7_ != (0 : Int))) = (Value.bool false),
    Gv P (.func 19) (A19 x) (H19 x) (V19 x ([] : List (Int × Int × Int × Int))) (R19 x ([] : List (Int × Int × Int × Int))),
    CG P none (fnN P 5) 0 (codeOf P 5 [false, true, false, true, true, true, true, true]) (S5_1 x be ah (([] : List (Int × Int × Int × Int)), 0, 0)) (X5_1 x be ah c10_),
    (Value.bool (c10_ == (((x).size : Nat) : Int))) = (Value.bool true)]) (by kernel_rfl) ⟨(m7_ok n () hc1), (m8_ok n 24 c2_ hc2), (vBn hc3), (vbF hc4), (vbF hc5), (vbF hc6), (m9_ok n c7_ hc7), (vnF hc8), (m19_ok n x ([] : List (Int × Int × Int × Int)) hc9), (m5_1_ok n x be ah (([] : List (Int × Int × Int × Int)), 0, 0) c10_ hc10), (veT hc11), trivial⟩
set_option maxRecDepth 100000 in
theorem p5_4 (n : Nat) (x : ByteArray) (be : ByteArray) (ah : ByteArray) (hc1 : m7 n = some ()) (c2_ : Bool) (hc2 : m8 n 24 = some c2_) (hc3 : c2_ = true) (hc4 : ¬ ((((x).size : Nat) : Int) > (60 : Int))) (hc5 : ¬ ((((be).size : Nat) : Int) > (60 : Int))) (hc6 : ¬ ((((ah).size : Nat) : Int) > (60 : Int))) (c7_ : Int) (hc7 : m9 n = some c7_) (hc8 : c7_ = (0 : Int)) (c9_a : Int × Int × Int × Int) (c9_t : List (Int × Int × Int × Int)) (hc9 : m19 n x = some (c9_a :: c9_t)) (c10_ : Int) (hc10 : m5_1 n x be ah ((c9_a :: c9_t), 0, 0) = some c10_) (hc11 : c10_ = (((x).size : Nat) : Int)) : Gv P (.func 5) (A5 x be ah) (H5 x be ah) (V5 x be ah ()) (R5 x be ah ()) :=
  runF_ok hm (A := aT [(5, .call ⟨0, [], (Value.bool true), Ax.h0, []⟩), (11, .call ⟨0, [], (V8 24 c2_), (R8 24 c2_), []⟩), (12, .val (.bool false)), (16, .val (.bool false)), (21, .val (.bool false)), (26, .val (.bool false)), (30, .call ⟨0, [], (V9  c7_), (R9  c7_), []⟩), (31, .val (.bool false)), (37, .call ⟨0, [], (V19 x (c9_a :: c9_t)), (R19 x (c9_a :: c9_t)), [(1, 0, true)]⟩), (50, .val (.bool true))]) (L := lT [(45, ⟨⟨[1, 2, 3, 4, 9, 10, 11], [(0, 0, false), (1, 1, true)], 2, 0⟩, (X5_1 x be ah c10_).1, (X5_1 x be ah c10_).2⟩)]) (wk := ⟨[8], [], 0, 0⟩)
    (ps := [Gv P (.func 7) [] Ax.h0 (Value.bool true) Ax.h0,
    Gv P (.func 8) (A8 24) (H8 24) (V8 24 c2_) (R8 24 c2_),
    (Value.bool (!c2_)) = (Value.bool false),
    (Value.bool (decide ((((x).size : Nat) : Int) > (60 : Int)))) = (Value.bool false),
    (Value.bool (decide ((((be).size : Nat) : Int) > (60 : Int)))) = (Value.bool false),
    (Value.bool (decide ((((ah).size : Nat) : Int) > (60 : Int)))) = (Value.bool false),
    Gv P (.func 9) A9 H9 (V9  c7_) (R9  c7_),
    (Value.bool (c7_ != (0 : Int))) = (Value.bool false),
    Gv P (.func 19) (A19 x) (H19 x) (V19 x (c9_a :: c9_t)) (R19 x (c9_a :: c9_t)),
    FlatB (.cells (layT (rows rw_iiii (c9_a :: c9_t))) 31),
    CG P none (fnN P 5) 0 (codeOf P 5 [false, true, false, true, true, true, true, true]) (S5_1 x be ah ((c9_a :: c9_t), 0, 0)) (X5_1 x be ah c10_),
    FlatB (.cells (layT (rows rw_iiii (c9_a :: c9_t))) 31),
    (Value.bool (c10_ == (((x).size : Nat) : Int))) = (Value.bool true)]) (by kernel_rfl) ⟨(m7_ok n () hc1), (m8_ok n 24 c2_ hc2), (vBn hc3), (vbF hc4), (vbF hc5), (vbF hc6), (m9_ok n c7_ hc7), (vnF hc8), (m19_ok n x (c9_a :: c9_t) hc9), (rows_flat rwf_iiii _ _), (m5_1_ok n x be ah ((c9_a :: c9_t), 0, 0) c10_ hc10), (rows_flat rwf_iiii _ _), (veT hc11), trivial⟩
set_option maxRecDepth 100000 in
theorem p5_5 (n : Nat) (x : ByteArray) (be : ByteArray) (ah : ByteArray) (hc1 : m7 n = some ()) (c2_ : Bool) (hc2 : m8 n 24 = some c2_) (hc3 : c2_ = true) (hc4 : ¬ ((((x).size : Nat) : Int) > (60 : Int))) (hc5 : ¬ ((((be).size : Nat) : Int) > (60 : Int))) (hc6 : ¬ ((((ah).size : Nat) : Int) > (60 : Int))) (c7_ : Int) (hc7 : m9 n = some c7_) (hc8 : ¬ (c7_ = (0 : Int))) : Gv P (.func 5) (A5 x be ah) (H5 x be ah) (V5 x be ah ()) (R5 x be ah ()) :=
  runF_ok hm (A := aT [(5, .call ⟨0, [], (Value.bool true), Ax.h0, []⟩), (11, .call ⟨0, [], (V8 24 c2_), (R8 24 c2_), []⟩), (12, .val (.bool false)), (16, .val (.bool false)), (21, .val (.bool false)), (26, .val (.bool false)), (30, .call ⟨0, [], (V9  c7_), (R9  c7_), []⟩), (31, .val (.bool true))]) (L := lT []) (wk := ⟨[8], [], 0, 0⟩)
    (ps := [Gv P (.func 7) [] Ax.h0 (Value.bool true) Ax.h0,
    Gv P (.func 8) (A8 24) (H8 24) (V8 24 c2_) (R8 24 c2_),
    (Value.bool (!c2_)) = (Value.bool false),
    (Value.bool (decide ((((x).size : Nat) : Int) > (60 : Int)))) = (Value.bool false),
    (Value.bool (decide ((((be).size : Nat) : Int) > (60 : Int)))) = (Value.bool false),
    (Value.bool (decide ((((ah).size : Nat) : Int) > (60 : Int)))) = (Value.bool false),
    Gv P (.func 9) A9 H9 (V9  c7_) (R9  c7_),
    (Value.bool (c7_ != (0 : Int))) = (Value.bool true)]) (by kernel_rfl) ⟨(m7_ok n () hc1), (m8_ok n 24 c2_ hc2), (vBn hc3), (vbF hc4), (vbF hc5), (vbF hc6), (m9_ok n c7_ hc7), (vnT hc8), trivial⟩
set_option maxRecDepth 100000 in
theorem p5_6 (n : Nat) (x : ByteArray) (be : ByteArray) (ah : ByteArray) (hc1 : m7 n = some ()) (c2_ : Bool) (hc2 : m8 n 24 = some c2_) (hc3 : ¬ (c2_ = true)) : Gv P (.func 5) (A5 x be ah) (H5 x be ah) (V5 x be ah ()) (R5 x be ah ()) :=
  runF_ok hm (A := aT [(5, .call ⟨0, [], (Value.bool true), Ax.h0, []⟩), (11, .call ⟨0, [], (V8 24 c2_), (R8 24 c2_), []⟩), (12, .val (.bool true))]) (L := lT []) (wk := ⟨[8], [], 0, 0⟩)
    (ps := [Gv P (.func 7) [] Ax.h0 (Value.bool true) Ax.h0,
    Gv P (.func 8) (A8 24) (H8 24) (V8 24 c2_) (R8 24 c2_),
    (Value.bool (!c2_)) = (Value.bool true)]) (by kernel_rfl) ⟨(m7_ok n () hc1), (m8_ok n 24 c2_ hc2), (vBn (Bool.eq_false_iff.2 hc3)), trivial⟩
theorem m5_ok (n : Nat) (x : ByteArray) (be : ByteArray) (ah : ByteArray) (r : Unit) (h : m5 n x be ah = some r) : Gv P (.func 5) (A5 x be ah) (H5 x be ah) (V5 x be ah r) (R5 x be ah r) := by
  unfold m5 at h
  obtain ⟨_, hc1, h⟩ := Option.bind_eq_some_iff.1 h
  obtain ⟨c2_, hc2, h⟩ := Option.bind_eq_some_iff.1 h
  by_cases hc3 : c2_ = true
  · rw [if_pos hc3] at h
    by_cases hc4 : (((x).size : Nat) : Int) > (60 : Int)
    · rw [if_pos hc4] at h
      obtain rfl := Option.some.inj h; exact p5_0 n x be ah hc1 c2_ hc2 hc3 hc4
    · rw [if_neg hc4] at h
      by_cases hc5 : (((be).size : Nat) : Int) > (60 : Int)
      · rw [if_pos hc5] at h
        obtain rfl := Option.some.inj h; exact p5_1 n x be ah hc1 c2_ hc2 hc3 hc4 hc5
      · rw [if_neg hc5] at h
        by_cases hc6 : (((ah).size : Nat) : Int) > (60 : Int)
        · rw [if_pos hc6] at h
          obtain rfl := Option.some.inj h; exact p5_2 n x be ah hc1 c2_ hc2 hc3 hc4 hc5 hc6
        · rw [if_neg hc6] at h
          obtain ⟨c7_, hc7, h⟩ := Option.bind_eq_some_iff.1 h
          by_cases hc8 : c7_ = (0 : Int)
          · rw [if_pos hc8] at h
            obtain ⟨c9_, hc9, h⟩ := Option.bind_eq_some_iff.1 h
            cases c9_ with
            | nil =>
              dsimp only at h
              obtain ⟨c10_, hc10, h⟩ := Option.bind_eq_some_iff.1 h
              by_cases hc11 : c10_ = (((x).size : Nat) : Int)
              · rw [if_pos hc11] at h
                obtain rfl := Option.some.inj h; exact p5_3 n x be ah hc1 c2_ hc2 hc3 hc4 hc5 hc6 c7_ hc7 hc8 hc9 c10_ hc10 hc11
              · rw [if_neg hc11] at h
                cases h
            | cons c9_a c9_t =>
              dsimp only at h
              obtain ⟨c10_, hc10, h⟩ := Option.bind_eq_some_iff.1 h
              by_cases hc11 : c10_ = (((x).size : Nat) : Int)
              · rw [if_pos hc11] at h
                obtain rfl := Option.some.inj h; exact p5_4 n x be ah hc1 c2_ hc2 hc3 hc4 hc5 hc6 c7_ hc7 hc8 c9_a c9_t hc9 c10_ hc10 hc11
              · rw [if_neg hc11] at h
                cases h
          · rw [if_neg hc8] at h
            obtain rfl := Option.some.inj h; exact p5_5 n x be ah hc1 c2_ hc2 hc3 hc4 hc5 hc6 c7_ hc7 hc8
  · rw [if_neg hc3] at h
    obtain rfl := Option.some.inj h; exact p5_6 n x be ah hc1 c2_ hc2 hc3

end Go.Proofs.Ytmnjfnlpekojiaa.munchw
