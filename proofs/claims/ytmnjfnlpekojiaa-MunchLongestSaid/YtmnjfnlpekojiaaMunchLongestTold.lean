/-
  What functions do, told by pure functions. No condition.
-/
import Derived.Test.YtmnjfnlpekojiaaMunchTold
set_option linter.unusedSimpArgs false
set_option linter.unusedVariables false
set_option linter.unusedSectionVars false
set_option linter.unnecessarySimpa false
namespace Go.Proofs.Ytmnjfnlpekojiaa.munchw
open Go Go.Proofs.Ytmnjfnlpekojiaa Ax
variable [Args]
noncomputable def S3_1 (x1_0 : ByteArray) (x1_1 : Int) (x1_2 : Int) (x1_3 : Int) (x1_4 : Int) (x1_5 : Int) (st : Int) : XSt := match st with
  | x1_6 => (sT 129 [(1, (Value.string x1_0)), (2, (Value.int .i64 x1_1)), (3, (Value.pointer (some ⟨0, 0, none⟩))), (7, (Value.pointer (some ⟨1, 0, none⟩))), (9, (Value.int .i64 x1_6))], [], ⟨sB [(0, (some (.cells (layT [(Value.slice (some ⟨0, 0, some 1⟩) Args.N.length Args.cN), (Value.slice (some ⟨1, 0, some 1⟩) Args.R.length Args.cR)]) 24))), (1, (some (.cells (layT [(Value.int .i64 x1_2), (Value.int .i64 x1_3), (Value.int .i64 x1_4), (Value.int .i64 x1_5)]) 31)))], 2, 0⟩)
noncomputable def X3_1 (x1_0 : ByteArray) (x1_1 : Int) (x1_2 : Int) (x1_3 : Int) (x1_4 : Int) (x1_5 : Int) (r : Unit) : Ex × XSt := match r with
  | _ => (.exit 0, (sT 129 [], [], ⟨sB [], 0, 0⟩))
def B3_1 (n : Nat) (x1_0 : ByteArray) (x1_1 : Int) (x1_2 : Int) (x1_3 : Int) (x1_4 : Int) (x1_5 : Int) (st : Int) : Option ((Int) ⊕ (Unit)) := match st with
  | x1_6 =>
    if x1_6 ≤ (((x1_0).size : Nat) : Int) then
      if 0 ≤ x1_1 ∧ x1_1 ≤ x1_6 ∧ x1_6 ≤ (((x1_0).size : Nat) : Int) then
        (m12 n (ByteArray.extract x1_0 (x1_1).toNat (x1_6).toNat)).bind fun y1_3_ =>
        if x1_6 = x1_4 then
          if y1_3_ = x1_2 then
            if x1_6 > x1_4 then
              if y1_3_ ≥ (0 : Int) then
                none
              else
                some (.inl (w64 (x1_6 + (1 : Int))))
            else
              if x1_2 < (0 : Int) then
                if y1_3_ ≥ (0 : Int) then
                  none
                else
                  some (.inl (w64 (x1_6 + (1 : Int))))
              else
                some (.inl (w64 (x1_6 + (1 : Int))))
          else
            none
        else
          if x1_6 > x1_4 then
            if y1_3_ ≥ (0 : Int) then
              none
            else
              some (.inl (w64 (x1_6 + (1 : Int))))
          else
            if x1_2 < (0 : Int) then
              if y1_3_ ≥ (0 : Int) then
                none
              else
                some (.inl (w64 (x1_6 + (1 : Int))))
            else
              some (.inl (w64 (x1_6 + (1 : Int))))
      else none
    else
      some (.inr ())
def m3_1 (n : Nat) (x1_0 : ByteArray) (x1_1 : Int) (x1_2 : Int) (x1_3 : Int) (x1_4 : Int) (x1_5 : Int) (st : Int) : Option (Unit) := iterM (B3_1 n x1_0 x1_1 x1_2 x1_3 x1_4 x1_5) n st
set_option maxRecDepth 100000 in
theorem q3_1_0 (n : Nat) (x1_0 : ByteArray) (x1_1 : Int) (x1_2 : Int) (x1_3 : Int) (x1_4 : Int) (x1_5 : Int) (x1_6 : Int) (hy1_1 : x1_6 ≤ (((x1_0).size : Nat) : Int)) (hy1_2 : 0 ≤ x1_1 ∧ x1_1 ≤ x1_6 ∧ x1_6 ≤ (((x1_0).size : Nat) : Int)) (y1_3_ : Int) (hy1_3 : m12 n (ByteArray.extract x1_0 (x1_1).toNat (x1_6).toNat) = some y1_3_) (hy1_4 : x1_6 = x1_4) (hy1_5 : y1_3_ = x1_2) (hy1_6 : x1_6 > x1_4) (hy1_7 : ¬ (y1_3_ ≥ (0 : Int))) : CG P none (fnN P 3) 0 (codeOf P 3 [false, false, true, false, true, true, true, true, true, true]) (S3_1 x1_0 x1_1 x1_2 x1_3 x1_4 x1_5 x1_6) (.normal, S3_1 x1_0 x1_1 x1_2 x1_3 x1_4 x1_5 (w64 (x1_6 + (1 : Int)))) :=
  runC_ok hm (A := aT [(5, .val (.bool true)), (14, .pur (Value.string (ByteArray.extract x1_0 (x1_1).toNat (x1_6).toNat))), (15, .call ⟨0, [], (V12 (ByteArray.extract x1_0 (x1_1).toNat (x1_6).toNat) y1_3_), (R12 (ByteArray.extract x1_0 (x1_1).toNat (x1_6).toNat) y1_3_), []⟩), (21, .val (.bool true)), (26, .val (.bool false)), (32, .val (.bool true)), (40, .val (.bool false))]) (L := lT []) (wk := ⟨[1, 2, 3, 7, 9], [(0, 0, false), (1, 1, false)], 2, 0⟩)
    (ps := [(Value.bool (decide (x1_6 ≤ (((x1_0).size : Nat) : Int)))) = (Value.bool true),
    opSlice P 9 (Value.string x1_0) (some (Value.int .i64 x1_1)) (some (Value.int .i64 x1_6)) none Ax.h0 = some ((Value.string (ByteArray.extract x1_0 (x1_1).toNat (x1_6).toNat)), Ax.h0),
    Gv P (.func 12) (A12 (ByteArray.extract x1_0 (x1_1).toNat (x1_6).toNat)) (H12 (ByteArray.extract x1_0 (x1_1).toNat (x1_6).toNat)) (V12 (ByteArray.extract x1_0 (x1_1).toNat (x1_6).toNat) y1_3_) (R12 (ByteArray.extract x1_0 (x1_1).toNat (x1_6).toNat) y1_3_),
    (Value.bool (x1_6 == x1_4)) = (Value.bool true),
    (Value.bool (y1_3_ != x1_2)) = (Value.bool false),
    (Value.bool (decide (x1_6 > x1_4))) = (Value.bool true),
    (Value.bool (decide (y1_3_ ≥ (0 : Int)))) = (Value.bool false)]) (by kernel_rfl) ⟨(vbT hy1_1), (slStr (by kernel_rfl) hy1_2), (m12_ok n (ByteArray.extract x1_0 (x1_1).toNat (x1_6).toNat) y1_3_ hy1_3), (veT hy1_4), (vnF hy1_5), (vbT hy1_6), (vbF hy1_7), trivial⟩
set_option maxRecDepth 100000 in
theorem q3_1_1 (n : Nat) (x1_0 : ByteArray) (x1_1 : Int) (x1_2 : Int) (x1_3 : Int) (x1_4 : Int) (x1_5 : Int) (x1_6 : Int) (hy1_1 : x1_6 ≤ (((x1_0).size : Nat) : Int)) (hy1_2 : 0 ≤ x1_1 ∧ x1_1 ≤ x1_6 ∧ x1_6 ≤ (((x1_0).size : Nat) : Int)) (y1_3_ : Int) (hy1_3 : m12 n (ByteArray.extract x1_0 (x1_1).toNat (x1_6).toNat) = some y1_3_) (hy1_4 : x1_6 = x1_4) (hy1_5 : y1_3_ = x1_2) (hy1_6 : ¬ (x1_6 > x1_4)) (hy1_7 : x1_2 < (0 : Int)) (hy1_8 : ¬ (y1_3_ ≥ (0 : Int))) : CG P none (fnN P 3) 0 (codeOf P 3 [false, false, true, false, true, true, true, true, true, true]) (S3_1 x1_0 x1_1 x1_2 x1_3 x1_4 x1_5 x1_6) (.normal, S3_1 x1_0 x1_1 x1_2 x1_3 x1_4 x1_5 (w64 (x1_6 + (1 : Int)))) :=
  runC_ok hm (A := aT [(5, .val (.bool true)), (14, .pur (Value.string (ByteArray.extract x1_0 (x1_1).toNat (x1_6).toNat))), (15, .call ⟨0, [], (V12 (ByteArray.extract x1_0 (x1_1).toNat (x1_6).toNat) y1_3_), (R12 (ByteArray.extract x1_0 (x1_1).toNat (x1_6).toNat) y1_3_), []⟩), (21, .val (.bool true)), (26, .val (.bool false)), (32, .val (.bool false)), (36, .val (.bool true)), (40, .val (.bool false))]) (L := lT []) (wk := ⟨[1, 2, 3, 7, 9], [(0, 0, false), (1, 1, false)], 2, 0⟩)
    (ps := [(Value.bool (decide (x1_6 ≤ (((x1_0).size : Nat) : Int)))) = (Value.bool true),
    opSlice P 9 (Value.string x1_0) (some (Value.int .i64 x1_1)) (some (Value.int .i64 x1_6)) none Ax.h0 = some ((Value.string (ByteArray.extract x1_0 (x1_1).toNat (x1_6).toNat)), Ax.h0),
    Gv P (.func 12) (A12 (ByteArray.extract x1_0 (x1_1).toNat (x1_6).toNat)) (H12 (ByteArray.extract x1_0 (x1_1).toNat (x1_6).toNat)) (V12 (ByteArray.extract x1_0 (x1_1).toNat (x1_6).toNat) y1_3_) (R12 (ByteArray.extract x1_0 (x1_1).toNat (x1_6).toNat) y1_3_),
    (Value.bool (x1_6 == x1_4)) = (Value.bool true),
    (Value.bool (y1_3_ != x1_2)) = (Value.bool false),
    (Value.bool (decide (x1_6 > x1_4))) = (Value.bool false),
    (Value.bool (decide (x1_2 < (0 : Int)))) = (Value.bool true),
    (Value.bool (decide (y1_3_ ≥ (0 : Int)))) = (Value.bool false)]) (by kernel_rfl) ⟨(vbT hy1_1), (slStr (by kernel_rfl) hy1_2), (m12_ok n (ByteArray.extract x1_0 (x1_1).toNat (x1_6).toNat) y1_3_ hy1_3), (veT hy1_4), (vnF hy1_5), (vbF hy1_6), (vbT hy1_7), (vbF hy1_8), trivial⟩
set_option maxRecDepth 100000 in
theorem q3_1_2 (n : Nat) (x1_0 : ByteArray) (x1_1 : Int) (x1_2 : Int) (x1_3 : Int) (x1_4 : Int) (x1_5 : Int) (x1_6 : Int) (hy1_1 : x1_6 ≤ (((x1_0).size : Nat) : Int)) (hy1_2 : 0 ≤ x1_1 ∧ x1_1 ≤ x1_6 ∧ x1_6 ≤ (((x1_0).size : Nat) : Int)) (y1_3_ : Int) (hy1_3 : m12 n (ByteArray.extract x1_0 (x1_1).toNat (x1_6).toNat) = some y1_3_) (hy1_4 : x1_6 = x1_4) (hy1_5 : y1_3_ = x1_2) (hy1_6 : ¬ (x1_6 > x1_4)) (hy1_7 : ¬ (x1_2 < (0 : Int))) : CG P none (fnN P 3) 0 (codeOf P 3 [false, false, true, false, true, true, true, true, true, true]) (S3_1 x1_0 x1_1 x1_2 x1_3 x1_4 x1_5 x1_6) (.normal, S3_1 x1_0 x1_1 x1_2 x1_3 x1_4 x1_5 (w64 (x1_6 + (1 : Int)))) :=
  runC_ok hm (A := aT [(5, .val (.bool true)), (14, .pur (Value.string (ByteArray.extract x1_0 (x1_1).toNat (x1_6).toNat))), (15, .call ⟨0, [], (V12 (ByteArray.extract x1_0 (x1_1).toNat (x1_6).toNat) y1_3_), (R12 (ByteArray.extract x1_0 (x1_1).toNat (x1_6).toNat) y1_3_), []⟩), (21, .val (.bool true)), (26, .val (.bool false)), (32, .val (.bool false)), (36, .val (.bool false))]) (L := lT []) (wk := ⟨[1, 2, 3, 7, 9], [(0, 0, false), (1, 1, false)], 2, 0⟩)
    (ps := [(Value.bool (decide (x1_6 ≤ (((x1_0).size : Nat) : Int)))) = (Value.bool true),
    opSlice P 9 (Value.string x1_0) (some (Value.int .i64 x1_1)) (some (Value.int .i64 x1_6)) none Ax.h0 = some ((Value.string (ByteArray.extract x1_0 (x1_1).toNat (x1_6).toNat)), Ax.h0),
    Gv P (.func 12) (A12 (ByteArray.extract x1_0 (x1_1).toNat (x1_6).toNat)) (H12 (ByteArray.extract x1_0 (x1_1).toNat (x1_6).toNat)) (V12 (ByteArray.extract x1_0 (x1_1).toNat (x1_6).toNat) y1_3_) (R12 (ByteArray.extract x1_0 (x1_1).toNat (x1_6).toNat) y1_3_),
    (Value.bool (x1_6 == x1_4)) = (Value.bool true),
    (Value.bool (y1_3_ != x1_2)) = (Value.bool false),
    (Value.bool (decide (x1_6 > x1_4))) = (Value.bool false),
    (Value.bool (decide (x1_2 < (0 : Int)))) = (Value.bool false)]) (by kernel_rfl) ⟨(vbT hy1_1), (slStr (by kernel_rfl) hy1_2), (m12_ok n (ByteArray.extract x1_0 (x1_1).toNat (x1_6).toNat) y1_3_ hy1_3), (veT hy1_4), (vnF hy1_5), (vbF hy1_6), (vbF hy1_7), trivial⟩
set_option maxRecDepth 100000 in
theorem q3_1_3 (n : Nat) (x1_0 : ByteArray) (x1_1 : Int) (x1_2 : Int) (x1_3 : Int) (x1_4 : Int) (x1_5 : Int) (x1_6 : Int) (hy1_1 : x1_6 ≤ (((x1_0).size : Nat) : Int)) (hy1_2 : 0 ≤ x1_1 ∧ x1_1 ≤ x1_6 ∧ x1_6 ≤ (((x1_0).size : Nat) : Int)) (y1_3_ : Int) (hy1_3 : m12 n (ByteArray.extract x1_0 (x1_1).toNat (x1_6).toNat) = some y1_3_) (hy1_4 : ¬ (x1_6 = x1_4)) (hy1_5 : x1_6 > x1_4) (hy1_6 : ¬ (y1_3_ ≥ (0 : Int))) : CG P none (fnN P 3) 0 (codeOf P 3 [false, false, true, false, true, true, true, true, true, true]) (S3_1 x1_0 x1_1 x1_2 x1_3 x1_4 x1_5 x1_6) (.normal, S3_1 x1_0 x1_1 x1_2 x1_3 x1_4 x1_5 (w64 (x1_6 + (1 : Int)))) :=
  runC_ok hm (A := aT [(5, .val (.bool true)), (14, .pur (Value.string (ByteArray.extract x1_0 (x1_1).toNat (x1_6).toNat))), (15, .call ⟨0, [], (V12 (ByteArray.extract x1_0 (x1_1).toNat (x1_6).toNat) y1_3_), (R12 (ByteArray.extract x1_0 (x1_1).toNat (x1_6).toNat) y1_3_), []⟩), (21, .val (.bool false)), (32, .val (.bool true)), (40, .val (.bool false))]) (L := lT []) (wk := ⟨[1, 2, 3, 7, 9], [(0, 0, false), (1, 1, false)], 2, 0⟩)
    (ps := [(Value.bool (decide (x1_6 ≤ (((x1_0).size : Nat) : Int)))) = (Value.bool true),
    opSlice P 9 (Value.string x1_0) (some (Value.int .i64 x1_1)) (some (Value.int .i64 x1_6)) none Ax.h0 = some ((Value.string (ByteArray.extract x1_0 (x1_1).toNat (x1_6).toNat)), Ax.h0),
    Gv P (.func 12) (A12 (ByteArray.extract x1_0 (x1_1).toNat (x1_6).toNat)) (H12 (ByteArray.extract x1_0 (x1_1).toNat (x1_6).toNat)) (V12 (ByteArray.extract x1_0 (x1_1).toNat (x1_6).toNat) y1_3_) (R12 (ByteArray.extract x1_0 (x1_1).toNat (x1_6).toNat) y1_3_),
    (Value.bool (x1_6 == x1_4)) = (Value.bool false),
    (Value.bool (decide (x1_6 > x1_4))) = (Value.bool true),
    (Value.bool (decide (y1_3_ ≥ (0 : Int)))) = (Value.bool false)]) (by kernel_rfl) ⟨(vbT hy1_1), (slStr (by kernel_rfl) hy1_2), (m12_ok n (ByteArray.extract x1_0 (x1_1).toNat (x1_6).toNat) y1_3_ hy1_3), (veF hy1_4), (vbT hy1_5), (vbF hy1_6), trivial⟩
set_option maxRecDepth 100000 in
theorem q3_1_4 (n : Nat) (x1_0 : ByteArray) (x1_1 : Int) (x1_2 : Int) (x1_3 : Int) (x1_4 : Int) (x1_5 : Int) (x1_6 : Int) (hy1_1 : x1_6 ≤ (((x1_0).size : Nat) : Int)) (hy1_2 : 0 ≤ x1_1 ∧ x1_1 ≤ x1_6 ∧ x1_6 ≤ (((x1_0).size : Nat) : Int)) (y1_3_ : Int) (hy1_3 : m12 n (ByteArray.extract x1_0 (x1_1).toNat (x1_6).toNat) = some y1_3_) (hy1_4 : ¬ (x1_6 = x1_4)) (hy1_5 : ¬ (x1_6 > x1_4)) (hy1_6 : x1_2 < (0 : Int)) (hy1_7 : ¬ (y1_3_ ≥ (0 : Int))) : CG P none (fnN P 3) 0 (codeOf P 3 [false, false, true, false, true, true, true, true, true, true]) (S3_1 x1_0 x1_1 x1_2 x1_3 x1_4 x1_5 x1_6) (.normal, S3_1 x1_0 x1_1 x1_2 x1_3 x1_4 x1_5 (w64 (x1_6 + (1 : Int)))) :=
  runC_ok hm (A := aT [(5, .val (.bool true)), (14, .pur (Value.string (ByteArray.extract x1_0 (x1_1).toNat (x1_6).toNat))), (15, .call ⟨0, [], (V12 (ByteArray.extract x1_0 (x1_1).toNat (x1_6).toNat) y1_3_), (R12 (ByteArray.extract x1_0 (x1_1).toNat (x1_6).toNat) y1_3_), []⟩), (21, .val (.bool false)), (32, .val (.bool false)), (36, .val (.bool true)), (40, .val (.bool false))]) (L := lT []) (wk := ⟨[1, 2, 3, 7, 9], [(0, 0, false), (1, 1, false)], 2, 0⟩)
    (ps := [(Value.bool (decide (x1_6 ≤ (((x1_0).size : Nat) : Int)))) = (Value.bool true),
    opSlice P 9 (Value.string x1_0) (some (Value.int .i64 x1_1)) (some (Value.int .i64 x1_6)) none Ax.h0 = some ((Value.string (ByteArray.extract x1_0 (x1_1).toNat (x1_6).toNat)), Ax.h0),
    Gv P (.func 12) (A12 (ByteArray.extract x1_0 (x1_1).toNat (x1_6).toNat)) (H12 (ByteArray.extract x1_0 (x1_1).toNat (x1_6).toNat)) (V12 (ByteArray.extract x1_0 (x1_1).toNat (x1_6).toNat) y1_3_) (R12 (ByteArray.extract x1_0 (x1_1).toNat (x1_6).toNat) y1_3_),
    (Value.bool (x1_6 == x1_4)) = (Value.bool false),
    (Value.bool (decide (x1_6 > x1_4))) = (Value.bool false),
    (Value.bool (decide (x1_2 < (0 : Int)))) = (Value.bool true),
    (Value.bool (decide (y1_3_ ≥ (0 : Int)))) = (Value.bool false)]) (by kernel_rfl) ⟨(vbT hy1_1), (slStr (by kernel_rfl) hy1_2), (m12_ok n (ByteArray.extract x1_0 (x1_1).toNat (x1_6).toNat) y1_3_ hy1_3), (veF hy1_4), (vbF hy1_5), (vbT hy1_6), (vbF hy1_7), trivial⟩
set_option maxRecDepth 100000 in
theorem q3_1_5 (n : Nat) (x1_0 : ByteArray) (x1_1 : Int) (x1_2 : Int) (x1_3 : Int) (x1_4 : Int) (x1_5 : Int) (x1_6 : Int) (hy1_1 : x1_6 ≤ (((x1_0).size : Nat) : Int)) (hy1_2 : 0 ≤ x1_1 ∧ x1_1 ≤ x1_6 ∧ x1_6 ≤ (((x1_0).size : Nat) : Int)) (y1_3_ : Int) (hy1_3 : m12 n (ByteArray.extract x1_0 (x1_1).toNat (x1_6).toNat) = some y1_3_) (hy1_4 : ¬ (x1_6 = x1_4)) (hy1_5 : ¬ (x1_6 > x1_4)) (hy1_6 : ¬ (x1_2 < (0 : Int))) : CG P none (fnN P 3) 0 (codeOf P 3 [false, false, true, false, true, true, true, true, true, true]) (S3_1 x1_0 x1_1 x1_2 x1_3 x1_4 x1_5 x1_6) (.normal, S3_1 x1_0 x1_1 x1_2 x1_3 x1_4 x1_5 (w64 (x1_6 + (1 : Int)))) :=
  runC_ok hm (A := aT [(5, .val (.bool true)), (14, .pur (Value.string (ByteArray.extract x1_0 (x1_1).toNat (x1_6).toNat))), (15, .call ⟨0, [], (V12 (ByteArray.extract x1_0 (x1_1).toNat (x1_6).toNat) y1_3_), (R12 (ByteArray.extract x1_0 (x1_1).toNat (x1_6).toNat) y1_3_), []⟩), (21, .val (.bool false)), (32, .val (.bool false)), (36, .val (.bool false))]) (L := lT []) (wk := ⟨[1, 2, 3, 7, 9], [(0, 0, false), (1, 1, false)], 2, 0⟩)
    (ps := [(Value.bool (decide (x1_6 ≤ (((x1_0).size : Nat) : Int)))) = (Value.bool true),
    opSlice P 9 (Value.string x1_0) (some (Value.int .i64 x1_1)) (some (Value.int .i64 x1_6)) none Ax.h0 = some ((Value.string (ByteArray.extract x1_0 (x1_1).toNat (x1_6).toNat)), Ax.h0),
    Gv P (.func 12) (A12 (ByteArray.extract x1_0 (x1_1).toNat (x1_6).toNat)) (H12 (ByteArray.extract x1_0 (x1_1).toNat (x1_6).toNat)) (V12 (ByteArray.extract x1_0 (x1_1).toNat (x1_6).toNat) y1_3_) (R12 (ByteArray.extract x1_0 (x1_1).toNat (x1_6).toNat) y1_3_),
    (Value.bool (x1_6 == x1_4)) = (Value.bool false),
    (Value.bool (decide (x1_6 > x1_4))) = (Value.bool false),
    (Value.bool (decide (x1_2 < (0 : Int)))) = (Value.bool false)]) (by kernel_rfl) ⟨(vbT hy1_1), (slStr (by kernel_rfl) hy1_2), (m12_ok n (ByteArray.extract x1_0 (x1_1).toNat (x1_6).toNat) y1_3_ hy1_3), (veF hy1_4), (vbF hy1_5), (vbF hy1_6), trivial⟩
set_option maxRecDepth 100000 in
theorem q3_1_6 (n : Nat) (x1_0 : ByteArray) (x1_1 : Int) (x1_2 : Int) (x1_3 : Int) (x1_4 : Int) (x1_5 : Int) (x1_6 : Int) (hy1_1 : ¬ (x1_6 ≤ (((x1_0).size : Nat) : Int))) : CG P none (fnN P 3) 0 (codeOf P 3 [false, false, true, false, true, true, true, true, true, true]) (S3_1 x1_0 x1_1 x1_2 x1_3 x1_4 x1_5 x1_6) (X3_1 x1_0 x1_1 x1_2 x1_3 x1_4 x1_5 ()) :=
  runC_ok hm (A := aT [(5, .val (.bool false))]) (L := lT []) (wk := ⟨[], [], 0, 0⟩)
    (ps := [(Value.bool (decide (x1_6 ≤ (((x1_0).size : Nat) : Int)))) = (Value.bool false)]) (by kernel_rfl) ⟨(vbF hy1_1), trivial⟩
theorem m3_1_ok (n : Nat) (x1_0 : ByteArray) (x1_1 : Int) (x1_2 : Int) (x1_3 : Int) (x1_4 : Int) (x1_5 : Int) (st : Int) (r : Unit) (h : m3_1 n x1_0 x1_1 x1_2 x1_3 x1_4 x1_5 st = some r) : CG P none (fnN P 3) 0 (codeOf P 3 [false, true, false, true, true, true, true, true, true]) (S3_1 x1_0 x1_1 x1_2 x1_3 x1_4 x1_5 st) (X3_1 x1_0 x1_1 x1_2 x1_3 x1_4 x1_5 r) :=
  CG.iter (b := codeOf P 3 [false, false, true, false, true, true, true, true, true, true]) (by kernel_rfl) (body := B3_1 n x1_0 x1_1 x1_2 x1_3 x1_4 x1_5) (S := S3_1 x1_0 x1_1 x1_2 x1_3 x1_4 x1_5) (X := X3_1 x1_0 x1_1 x1_2 x1_3 x1_4 x1_5)
    (fun x1_6 s' h => by
    unfold B3_1 at h
    dsimp only at h
    by_cases hy1_1 : x1_6 ≤ (((x1_0).size : Nat) : Int)
    · rw [if_pos hy1_1] at h
      by_cases hy1_2 : 0 ≤ x1_1 ∧ x1_1 ≤ x1_6 ∧ x1_6 ≤ (((x1_0).size : Nat) : Int)
      · rw [if_pos hy1_2] at h
        obtain ⟨y1_3_, hy1_3, h⟩ := Option.bind_eq_some_iff.1 h
        by_cases hy1_4 : x1_6 = x1_4
        · rw [if_pos hy1_4] at h
          by_cases hy1_5 : y1_3_ = x1_2
          · rw [if_pos hy1_5] at h
            by_cases hy1_6 : x1_6 > x1_4
            · rw [if_pos hy1_6] at h
              by_cases hy1_7 : y1_3_ ≥ (0 : Int)
              · rw [if_pos hy1_7] at h
                cases h
              · rw [if_neg hy1_7] at h
                obtain rfl := Sum.inl.inj (Option.some.inj h); exact q3_1_0 n x1_0 x1_1 x1_2 x1_3 x1_4 x1_5 x1_6 hy1_1 hy1_2 y1_3_ hy1_3 hy1_4 hy1_5 hy1_6 hy1_7
            · rw [if_neg hy1_6] at h
              by_cases hy1_7 : x1_2 < (0 : Int)
              · rw [if_pos hy1_7] at h
                by_cases hy1_8 : y1_3_ ≥ (0 : Int)
                · rw [if_pos hy1_8] at h
                  cases h
                · rw [if_neg hy1_8] at h
                  obtain rfl := Sum.inl.inj (Option.some.inj h); exact q3_1_1 n x1_0 x1_1 x1_2 x1_3 x1_4 x1_5 x1_6 hy1_1 hy1_2 y1_3_ hy1_3 hy1_4 hy1_5 hy1_6 hy1_7 hy1_8
              · rw [if_neg hy1_7] at h
                obtain rfl := Sum.inl.inj (Option.some.inj h); exact q3_1_2 n x1_0 x1_1 x1_2 x1_3 x1_4 x1_5 x1_6 hy1_1 hy1_2 y1_3_ hy1_3 hy1_4 hy1_5 hy1_6 hy1_7
          · rw [if_neg hy1_5] at h
            cases h
        · rw [if_neg hy1_4] at h
          by_cases hy1_5 : x1_6 > x1_4
          · rw [if_pos hy1_5] at h
            by_cases hy1_6 : y1_3_ ≥ (0 : Int)
            · rw [if_pos hy1_6] at h
              cases h
            · rw [if_neg hy1_6] at h
              obtain rfl := Sum.inl.inj (Option.some.inj h); exact q3_1_3 n x1_0 x1_1 x1_2 x1_3 x1_4 x1_5 x1_6 hy1_1 hy1_2 y1_3_ hy1_3 hy1_4 hy1_5 hy1_6
          · rw [if_neg hy1_5] at h
            by_cases hy1_6 : x1_2 < (0 : Int)
            · rw [if_pos hy1_6] at h
              by_cases hy1_7 : y1_3_ ≥ (0 : Int)
              · rw [if_pos hy1_7] at h
                cases h
              · rw [if_neg hy1_7] at h
                obtain rfl := Sum.inl.inj (Option.some.inj h); exact q3_1_4 n x1_0 x1_1 x1_2 x1_3 x1_4 x1_5 x1_6 hy1_1 hy1_2 y1_3_ hy1_3 hy1_4 hy1_5 hy1_6 hy1_7
            · rw [if_neg hy1_6] at h
              obtain rfl := Sum.inl.inj (Option.some.inj h); exact q3_1_5 n x1_0 x1_1 x1_2 x1_3 x1_4 x1_5 x1_6 hy1_1 hy1_2 y1_3_ hy1_3 hy1_4 hy1_5 hy1_6
      · rw [if_neg hy1_2] at h; cases h
    · rw [if_neg hy1_1] at h
      cases h)
    (fun x1_6 r h => by
    unfold B3_1 at h
    dsimp only at h
    by_cases hy1_1 : x1_6 ≤ (((x1_0).size : Nat) : Int)
    · rw [if_pos hy1_1] at h
      by_cases hy1_2 : 0 ≤ x1_1 ∧ x1_1 ≤ x1_6 ∧ x1_6 ≤ (((x1_0).size : Nat) : Int)
      · rw [if_pos hy1_2] at h
        obtain ⟨y1_3_, hy1_3, h⟩ := Option.bind_eq_some_iff.1 h
        by_cases hy1_4 : x1_6 = x1_4
        · rw [if_pos hy1_4] at h
          by_cases hy1_5 : y1_3_ = x1_2
          · rw [if_pos hy1_5] at h
            by_cases hy1_6 : x1_6 > x1_4
            · rw [if_pos hy1_6] at h
              by_cases hy1_7 : y1_3_ ≥ (0 : Int)
              · rw [if_pos hy1_7] at h
                cases h
              · rw [if_neg hy1_7] at h
                cases h
            · rw [if_neg hy1_6] at h
              by_cases hy1_7 : x1_2 < (0 : Int)
              · rw [if_pos hy1_7] at h
                by_cases hy1_8 : y1_3_ ≥ (0 : Int)
                · rw [if_pos hy1_8] at h
                  cases h
                · rw [if_neg hy1_8] at h
                  cases h
              · rw [if_neg hy1_7] at h
                cases h
          · rw [if_neg hy1_5] at h
            cases h
        · rw [if_neg hy1_4] at h
          by_cases hy1_5 : x1_6 > x1_4
          · rw [if_pos hy1_5] at h
            by_cases hy1_6 : y1_3_ ≥ (0 : Int)
            · rw [if_pos hy1_6] at h
              cases h
            · rw [if_neg hy1_6] at h
              cases h
          · rw [if_neg hy1_5] at h
            by_cases hy1_6 : x1_2 < (0 : Int)
            · rw [if_pos hy1_6] at h
              by_cases hy1_7 : y1_3_ ≥ (0 : Int)
              · rw [if_pos hy1_7] at h
                cases h
              · rw [if_neg hy1_7] at h
                cases h
            · rw [if_neg hy1_6] at h
              cases h
      · rw [if_neg hy1_2] at h; cases h
    · rw [if_neg hy1_1] at h
      obtain rfl := Sum.inr.inj (Option.some.inj h); exact q3_1_6 n x1_0 x1_1 x1_2 x1_3 x1_4 x1_5 x1_6 hy1_1)
    (fun r => by intro hx; cases hx) h
noncomputable def A3 (x : ByteArray) (a : Int) : List Value := [(Value.agg #[(Value.slice (some ⟨0, 0, some 1⟩) Args.N.length Args.cN), (Value.slice (some ⟨1, 0, some 1⟩) Args.R.length Args.cR)]), (Value.string x), (Value.int .i64 a)]
noncomputable def H3 (x : ByteArray) (a : Int) : AH := ⟨sB [], 0, 0⟩
noncomputable def V3 (x : ByteArray) (a : Int) (r : Unit) : Value := match r with
  | _ => (Value.bool true)
noncomputable def R3 (x : ByteArray) (a : Int) (r : Unit) : AH := match r with
  | _ => ⟨sB [], 0, 0⟩
def m3 (n : Nat) (x : ByteArray) (a : Int) : Option (Unit) :=
  (m7 n).bind fun _ =>
  (m8 n 24).bind fun c2_ =>
  if c2_ = true then
    if (((x).size : Nat) : Int) > (60 : Int) then
      some ()
    else
      if (((x).size : Nat) : Int) = (0 : Int) then
        some ()
      else
        (m9 n).bind fun c6_ =>
        if c6_ = (0 : Int) then
          (m10 n a (((x).size : Nat) : Int)).bind fun c8_ =>
          (m11 n x c8_).bind fun t => match t with
          | (c9_0, c9_1, c9_2, c9_3, c9_4) =>
            if c9_4 = true then
              if c9_1 = c8_ then
                if c9_2 ≤ c8_ then
                  none
                else
                  if c9_2 > (((x).size : Nat) : Int) then
                    none
                  else
                    if c9_3 < c9_2 then
                      none
                    else
                      if c9_3 > (w64 ((((x).size : Nat) : Int) + (1 : Int))) then
                        none
                      else
                        if c9_0 < (0 : Int) then
                          if c9_2 = (w64 (c8_ + (1 : Int))) then
                            (m3_1 n x c8_ c9_0 c9_1 c9_2 c9_3 (w64 (c8_ + (1 : Int)))).bind fun _ =>
                            some ()
                          else
                            none
                        else
                          (m3_1 n x c8_ c9_0 c9_1 c9_2 c9_3 (w64 (c8_ + (1 : Int)))).bind fun _ =>
                          some ()
              else
                none
            else
              none
        else
          some ()
  else
    some ()
set_option maxRecDepth 100000 in
theorem p3_0 (n : Nat) (x : ByteArray) (a : Int) (hc1 : m7 n = some ()) (c2_ : Bool) (hc2 : m8 n 24 = some c2_) (hc3 : c2_ = true) (hc4 : (((x).size : Nat) : Int) > (60 : Int)) : Gv P (.func 3) (A3 x a) (H3 x a) (V3 x a ()) (R3 x a ()) :=
  runF_ok hm (A := aT [(5, .call ⟨0, [], (Value.bool true), Ax.h0, []⟩), (11, .call ⟨0, [], (V8 24 c2_), (R8 24 c2_), []⟩), (12, .val (.bool false)), (16, .val (.bool true))]) (L := lT []) (wk := ⟨[6], [], 0, 0⟩)
    (ps := [Gv P (.func 7) [] Ax.h0 (Value.bool true) Ax.h0,
    Gv P (.func 8) (A8 24) (H8 24) (V8 24 c2_) (R8 24 c2_),
    (Value.bool (!c2_)) = (Value.bool false),
    (Value.bool (decide ((((x).size : Nat) : Int) > (60 : Int)))) = (Value.bool true)]) (by kernel_rfl) ⟨(m7_ok n () hc1), (m8_ok n 24 c2_ hc2), (vBn hc3), (vbT hc4), trivial⟩
set_option maxRecDepth 100000 in
theorem p3_1 (n : Nat) (x : ByteArray) (a : Int) (hc1 : m7 n = some ()) (c2_ : Bool) (hc2 : m8 n 24 = some c2_) (hc3 : c2_ = true) (hc4 : ¬ ((((x).size : Nat) : Int) > (60 : Int))) (hc5 : (((x).size : Nat) : Int) = (0 : Int)) : Gv P (.func 3) (A3 x a) (H3 x a) (V3 x a ()) (R3 x a ()) :=
  runF_ok hm (A := aT [(5, .call ⟨0, [], (Value.bool true), Ax.h0, []⟩), (11, .call ⟨0, [], (V8 24 c2_), (R8 24 c2_), []⟩), (12, .val (.bool false)), (16, .val (.bool false)), (21, .val (.bool true))]) (L := lT []) (wk := ⟨[6], [], 0, 0⟩)
    (ps := [Gv P (.func 7) [] Ax.h0 (Value.bool true) Ax.h0,
    Gv P (.func 8) (A8 24) (H8 24) (V8 24 c2_) (R8 24 c2_),
    (Value.bool (!c2_)) = (Value.bool false),
    (Value.bool (decide ((((x).size : Nat) : Int) > (60 : Int)))) = (Value.bool false),
    (Value.bool ((((x).size : Nat) : Int) == (0 : Int))) = (Value.bool true)]) (by kernel_rfl) ⟨(m7_ok n () hc1), (m8_ok n 24 c2_ hc2), (vBn hc3), (vbF hc4), (veT hc5), trivial⟩
set_option maxRecDepth 100000 in
theorem p3_2 (n : Nat) (x : ByteArray) (a : Int) (hc1 : m7 n = some ()) (c2_ : Bool) (hc2 : m8 n 24 = some c2_) (hc3 : c2_ = true) (hc4 : ¬ ((((x).size : Nat) : Int) > (60 : Int))) (hc5 : ¬ ((((x).size : Nat) : Int) = (0 : Int))) (c6_ : Int) (hc6 : m9 n = some c6_) (hc7 : c6_ = (0 : Int)) (c8_ : Int) (hc8 : m10 n a (((x).size : Nat) : Int) = some c8_) (c9_0 : Int) (c9_1 : Int) (c9_2 : Int) (c9_3 : Int) (c9_4 : Bool) (hc9 : m11 n x c8_ = some (c9_0, c9_1, c9_2, c9_3, c9_4)) (hc10 : c9_4 = true) (hc11 : c9_1 = c8_) (hc12 : ¬ (c9_2 ≤ c8_)) (hc13 : ¬ (c9_2 > (((x).size : Nat) : Int))) (hc14 : ¬ (c9_3 < c9_2)) (hc15 : ¬ (c9_3 > (w64 ((((x).size : Nat) : Int) + (1 : Int))))) (hc16 : c9_0 < (0 : Int)) (hc17 : c9_2 = (w64 (c8_ + (1 : Int)))) (hc18 : m3_1 n x c8_ c9_0 c9_1 c9_2 c9_3 (w64 (c8_ + (1 : Int))) = some ()) : Gv P (.func 3) (A3 x a) (H3 x a) (V3 x a ()) (R3 x a ()) :=
  runF_ok hm (A := aT [(5, .call ⟨0, [], (Value.bool true), Ax.h0, []⟩), (11, .call ⟨0, [], (V8 24 c2_), (R8 24 c2_), []⟩), (12, .val (.bool false)), (16, .val (.bool false)), (21, .val (.bool false)), (25, .call ⟨0, [], (V9  c6_), (R9  c6_), []⟩), (26, .val (.bool false)), (33, .call ⟨0, [], (V10 a (((x).size : Nat) : Int) c8_), (R10 a (((x).size : Nat) : Int) c8_), []⟩), (39, .call ⟨0, [], (V11 x c8_ (c9_0, c9_1, c9_2, c9_3, c9_4)), (R11 x c8_ (c9_0, c9_1, c9_2, c9_3, c9_4)), [(1, 0, false)]⟩), (49, .val (.bool false)), (54, .val (.bool false)), (60, .val (.bool false)), (67, .val (.bool false)), (74, .val (.bool false)), (82, .val (.bool false)), (87, .val (.bool true)), (93, .val (.bool false))]) (L := lT [(103, ⟨⟨[1, 2, 3, 7, 9], [(0, 0, false), (1, 2, false)], 2, 0⟩, (X3_1 x c8_ c9_0 c9_1 c9_2 c9_3 ()).1, (X3_1 x c8_ c9_0 c9_1 c9_2 c9_3 ()).2⟩)]) (wk := ⟨[6], [], 0, 0⟩)
    (ps := [Gv P (.func 7) [] Ax.h0 (Value.bool true) Ax.h0,
    Gv P (.func 8) (A8 24) (H8 24) (V8 24 c2_) (R8 24 c2_),
    (Value.bool (!c2_)) = (Value.bool false),
    (Value.bool (decide ((((x).size : Nat) : Int) > (60 : Int)))) = (Value.bool false),
    (Value.bool ((((x).size : Nat) : Int) == (0 : Int))) = (Value.bool false),
    Gv P (.func 9) A9 H9 (V9  c6_) (R9  c6_),
    (Value.bool (c6_ != (0 : Int))) = (Value.bool false),
    Gv P (.func 10) (A10 a (((x).size : Nat) : Int)) (H10 a (((x).size : Nat) : Int)) (V10 a (((x).size : Nat) : Int) c8_) (R10 a (((x).size : Nat) : Int) c8_),
    Gv P (.func 11) (A11 x c8_) (H11 x c8_) (V11 x c8_ (c9_0, c9_1, c9_2, c9_3, c9_4)) (R11 x c8_ (c9_0, c9_1, c9_2, c9_3, c9_4)),
    (Value.bool (!c9_4)) = (Value.bool false),
    (Value.bool (c9_1 != c8_)) = (Value.bool false),
    (Value.bool (decide (c9_2 ≤ c8_))) = (Value.bool false),
    (Value.bool (decide (c9_2 > (((x).size : Nat) : Int)))) = (Value.bool false),
    (Value.bool (decide (c9_3 < c9_2))) = (Value.bool false),
    (Value.bool (decide (c9_3 > (w64 ((((x).size : Nat) : Int) + (1 : Int)))))) = (Value.bool false),
    (Value.bool (decide (c9_0 < (0 : Int)))) = (Value.bool true),
    (Value.bool (c9_2 != (w64 (c8_ + (1 : Int))))) = (Value.bool false),
    CG P none (fnN P 3) 0 (codeOf P 3 [false, true, false, true, true, true, true, true, true]) (S3_1 x c8_ c9_0 c9_1 c9_2 c9_3 (w64 (c8_ + (1 : Int)))) (X3_1 x c8_ c9_0 c9_1 c9_2 c9_3 ())]) (by kernel_rfl) ⟨(m7_ok n () hc1), (m8_ok n 24 c2_ hc2), (vBn hc3), (vbF hc4), (veF hc5), (m9_ok n c6_ hc6), (vnF hc7), (m10_ok n a (((x).size : Nat) : Int) c8_ hc8), (m11_ok n x c8_ (c9_0, c9_1, c9_2, c9_3, c9_4) hc9), (vBn hc10), (vnF hc11), (vbF hc12), (vbF hc13), (vbF hc14), (vbF hc15), (vbT hc16), (vnF hc17), (m3_1_ok n x c8_ c9_0 c9_1 c9_2 c9_3 (w64 (c8_ + (1 : Int))) () hc18), trivial⟩
set_option maxRecDepth 100000 in
theorem p3_3 (n : Nat) (x : ByteArray) (a : Int) (hc1 : m7 n = some ()) (c2_ : Bool) (hc2 : m8 n 24 = some c2_) (hc3 : c2_ = true) (hc4 : ¬ ((((x).size : Nat) : Int) > (60 : Int))) (hc5 : ¬ ((((x).size : Nat) : Int) = (0 : Int))) (c6_ : Int) (hc6 : m9 n = some c6_) (hc7 : c6_ = (0 : Int)) (c8_ : Int) (hc8 : m10 n a (((x).size : Nat) : Int) = some c8_) (c9_0 : Int) (c9_1 : Int) (c9_2 : Int) (c9_3 : Int) (c9_4 : Bool) (hc9 : m11 n x c8_ = some (c9_0, c9_1, c9_2, c9_3, c9_4)) (hc10 : c9_4 = true) (hc11 : c9_1 = c8_) (hc12 : ¬ (c9_2 ≤ c8_)) (hc13 : ¬ (c9_2 > (((x).size : Nat) : Int))) (hc14 : ¬ (c9_3 < c9_2)) (hc15 : ¬ (c9_3 > (w64 ((((x).size : Nat) : Int) + (1 : Int))))) (hc16 : ¬ (c9_0 < (0 : Int))) (hc17 : m3_1 n x c8_ c9_0 c9_1 c9_2 c9_3 (w64 (c8_ + (1 : Int))) = some ()) : Gv P (.func 3) (A3 x a) (H3 x a) (V3 x a ()) (R3 x a ()) :=
  runF_ok hm (A := aT [(5, .call ⟨0, [], (Value.bool true), Ax.h0, []⟩), (11, .call ⟨0, [], (V8 24 c2_), (R8 24 c2_), []⟩), (12, .val (.bool false)), (16, .val (.bool false)), (21, .val (.bool false)), (25, .call ⟨0, [], (V9  c6_), (R9  c6_), []⟩), (26, .val (.bool false)), (33, .call ⟨0, [], (V10 a (((x).size : Nat) : Int) c8_), (R10 a (((x).size : Nat) : Int) c8_), []⟩), (39, .call ⟨0, [], (V11 x c8_ (c9_0, c9_1, c9_2, c9_3, c9_4)), (R11 x c8_ (c9_0, c9_1, c9_2, c9_3, c9_4)), [(1, 0, false)]⟩), (49, .val (.bool false)), (54, .val (.bool false)), (60, .val (.bool false)), (67, .val (.bool false)), (74, .val (.bool false)), (82, .val (.bool false)), (87, .val (.bool false))]) (L := lT [(103, ⟨⟨[1, 2, 3, 7, 9], [(0, 0, false), (1, 2, false)], 2, 0⟩, (X3_1 x c8_ c9_0 c9_1 c9_2 c9_3 ()).1, (X3_1 x c8_ c9_0 c9_1 c9_2 c9_3 ()).2⟩)]) (wk := ⟨[6], [], 0, 0⟩)
    (ps := [Gv P (.func 7) [] Ax.h0 (Value.bool true) Ax.h0,
    Gv P (.func 8) (A8 24) (H8 24) (V8 24 c2_) (R8 24 c2_),
    (Value.bool (!c2_)) = (Value.bool false),
    (Value.bool (decide ((((x).size : Nat) : Int) > (60 : Int)))) = (Value.bool false),
    (Value.bool ((((x).size : Nat) : Int) == (0 : Int))) = (Value.bool false),
    Gv P (.func 9) A9 H9 (V9  c6_) (R9  c6_),
    (Value.bool (c6_ != (0 : Int))) = (Value.bool false),
    Gv P (.func 10) (A10 a (((x).size : Nat) : Int)) (H10 a (((x).size : Nat) : Int)) (V10 a (((x).size : Nat) : Int) c8_) (R10 a (((x).size : Nat) : Int) c8_),
    Gv P (.func 11) (A11 x c8_) (H11 x c8_) (V11 x c8_ (c9_0, c9_1, c9_2, c9_3, c9_4)) (R11 x c8_ (c9_0, c9_1, c9_2, c9_3, c9_4)),
    (Value.bool (!c9_4)) = (Value.bool false),
    (Value.bool (c9_1 != c8_)) = (Value.bool false),
    (Value.bool (decide (c9_2 ≤ c8_))) = (Value.bool false),
    (Value.bool (decide (c9_2 > (((x).size : Nat) : Int)))) = (Value.bool false),
    (Value.bool (decide (c9_3 < c9_2))) = (Value.bool false),
    (Value.bool (decide (c9_3 > (w64 ((((x).size : Nat) : Int) + (1 : Int)))))) = (Value.bool false),
    (Value.bool (decide (c9_0 < (0 : Int)))) = (Value.bool false),
    CG P none (fnN P 3) 0 (codeOf P 3 [false, true, false, true, true, true, true, true, true]) (S3_1 x c8_ c9_0 c9_1 c9_2 c9_3 (w64 (c8_ + (1 : Int)))) (X3_1 x c8_ c9_0 c9_1 c9_2 c9_3 ())]) (by kernel_rfl) ⟨(m7_ok n () hc1), (m8_ok n 24 c2_ hc2), (vBn hc3), (vbF hc4), (veF hc5), (m9_ok n c6_ hc6), (vnF hc7), (m10_ok n a (((x).size : Nat) : Int) c8_ hc8), (m11_ok n x c8_ (c9_0, c9_1, c9_2, c9_3, c9_4) hc9), (vBn hc10), (vnF hc11), (vbF hc12), (vbF hc13), (vbF hc14), (vbF hc15), (vbF hc16), (m3_1_ok n x c8_ c9_0 c9_1 c9_2 c9_3 (w64 (c8_ + (1 : Int))) () hc17), trivial⟩
set_option maxRecDepth 100000 in
theorem p3_4 (n : Nat) (x : ByteArray) (a : Int) (hc1 : m7 n = some ()) (c2_ : Bool) (hc2 : m8 n 24 = some c2_) (hc3 : c2_ = true) (hc4 : ¬ ((((x).size : Nat) : Int) > (60 : Int))) (hc5 : ¬ ((((x).size : Nat) : Int) = (0 : Int))) (c6_ : Int) (hc6 : m9 n = some c6_) (hc7 : ¬ (c6_ = (0 : Int))) : Gv P (.func 3) (A3 x a) (H3 x a) (V3 x a ()) (R3 x a ()) :=
  runF_ok hm (A := aT [(5, .call ⟨0, [], (Value.bool true), Ax.h0, []⟩), (11, .call ⟨0, [], (V8 24 c2_), (R8 24 c2_), []⟩), (12, .val (.bool false)), (16, .val (.bool false)), (21, .val (.bool false)), (25, .call ⟨0, [], (V9  c6_), (R9  c6_), []⟩), (26, .val (.bool true))]) (L := lT []) (wk := ⟨[6], [], 0, 0⟩)
    (ps := [Gv P (.func 7) [] Ax.h0 (Value.bool true) Ax.h0,
    Gv P (.func 8) (A8 24) (H8 24) (V8 24 c2_) (R8 24 c2_),
    (Value.bool (!c2_)) = (Value.bool false),
    (Value.bool (decide ((((x).size : Nat) : Int) > (60 : Int)))) = (Value.bool false),
    (Value.bool ((((x).size : Nat) : Int) == (0 : Int))) = (Value.bool false),
    Gv P (.func 9) A9 H9 (V9  c6_) (R9  c6_),
    (Value.bool (c6_ != (0 : Int))) = (Value.bool true)]) (by kernel_rfl) ⟨(m7_ok n () hc1), (m8_ok n 24 c2_ hc2), (vBn hc3), (vbF hc4), (veF hc5), (m9_ok n c6_ hc6), (vnT hc7), trivial⟩
set_option maxRecDepth 100000 in
theorem p3_5 (n : Nat) (x : ByteArray) (a : Int) (hc1 : m7 n = some ()) (c2_ : Bool) (hc2 : m8 n 24 = some c2_) (hc3 : ¬ (c2_ = true)) : Gv P (.func 3) (A3 x a) (H3 x a) (V3 x a ()) (R3 x a ()) :=
  runF_ok hm (A := aT [(5, .call ⟨0, [], (Value.bool true), Ax.h0, []⟩), (11, .call ⟨0, [], (V8 24 c2_), (R8 24 c2_), []⟩), (12, .val (.bool true))]) (L := lT []) (wk := ⟨[6], [], 0, 0⟩)
    (ps := [Gv P (.func 7) [] Ax.h0 (Value.bool true) Ax.h0,
    Gv P (.func 8) (A8 24) (H8 24) (V8 24 c2_) (R8 24 c2_),
    (Value.bool (!c2_)) = (Value.bool true)]) (by kernel_rfl) ⟨(m7_ok n () hc1), (m8_ok n 24 c2_ hc2), (vBn (Bool.eq_false_iff.2 hc3)), trivial⟩
theorem m3_ok (n : Nat) (x : ByteArray) (a : Int) (r : Unit) (h : m3 n x a = some r) : Gv P (.func 3) (A3 x a) (H3 x a) (V3 x a r) (R3 x a r) := by
  unfold m3 at h
  obtain ⟨_, hc1, h⟩ := Option.bind_eq_some_iff.1 h
  obtain ⟨c2_, hc2, h⟩ := Option.bind_eq_some_iff.1 h
  by_cases hc3 : c2_ = true
  · rw [if_pos hc3] at h
    by_cases hc4 : (((x).size : Nat) : Int) > (60 : Int)
    · rw [if_pos hc4] at h
      obtain rfl := Option.some.inj h; exact p3_0 n x a hc1 c2_ hc2 hc3 hc4
    · rw [if_neg hc4] at h
      by_cases hc5 : (((x).size : Nat) : Int) = (0 : Int)
      · rw [if_pos hc5] at h
        obtain rfl := Option.some.inj h; exact p3_1 n x a hc1 c2_ hc2 hc3 hc4 hc5
      · rw [if_neg hc5] at h
        obtain ⟨c6_, hc6, h⟩ := Option.bind_eq_some_iff.1 h
        by_cases hc7 : c6_ = (0 : Int)
        · rw [if_pos hc7] at h
          obtain ⟨c8_, hc8, h⟩ := Option.bind_eq_some_iff.1 h
          obtain ⟨⟨c9_0, c9_1, c9_2, c9_3, c9_4⟩, hc9, h⟩ := Option.bind_eq_some_iff.1 h
          dsimp only at h
          by_cases hc10 : c9_4 = true
          · rw [if_pos hc10] at h
            by_cases hc11 : c9_1 = c8_
            · rw [if_pos hc11] at h
              by_cases hc12 : c9_2 ≤ c8_
              · rw [if_pos hc12] at h
                cases h
              · rw [if_neg hc12] at h
                by_cases hc13 : c9_2 > (((x).size : Nat) : Int)
                · rw [if_pos hc13] at h
                  cases h
                · rw [if_neg hc13] at h
                  by_cases hc14 : c9_3 < c9_2
                  · rw [if_pos hc14] at h
                    cases h
                  · rw [if_neg hc14] at h
                    by_cases hc15 : c9_3 > (w64 ((((x).size : Nat) : Int) + (1 : Int)))
                    · rw [if_pos hc15] at h
                      cases h
                    · rw [if_neg hc15] at h
                      by_cases hc16 : c9_0 < (0 : Int)
                      · rw [if_pos hc16] at h
                        by_cases hc17 : c9_2 = (w64 (c8_ + (1 : Int)))
                        · rw [if_pos hc17] at h
                          obtain ⟨_, hc18, h⟩ := Option.bind_eq_some_iff.1 h
                          obtain rfl := Option.some.inj h; exact p3_2 n x a hc1 c2_ hc2 hc3 hc4 hc5 c6_ hc6 hc7 c8_ hc8 c9_0 c9_1 c9_2 c9_3 c9_4 hc9 hc10 hc11 hc12 hc13 hc14 hc15 hc16 hc17 hc18
                        · rw [if_neg hc17] at h
                          cases h
                      · rw [if_neg hc16] at h
                        obtain ⟨_, hc17, h⟩ := Option.bind_eq_some_iff.1 h
                        obtain rfl := Option.some.inj h; exact p3_3 n x a hc1 c2_ hc2 hc3 hc4 hc5 c6_ hc6 hc7 c8_ hc8 c9_0 c9_1 c9_2 c9_3 c9_4 hc9 hc10 hc11 hc12 hc13 hc14 hc15 hc16 hc17
            · rw [if_neg hc11] at h
              cases h
          · rw [if_neg hc10] at h
            cases h
        · rw [if_neg hc7] at h
          obtain rfl := Option.some.inj h; exact p3_4 n x a hc1 c2_ hc2 hc3 hc4 hc5 c6_ hc6 hc7
  · rw [if_neg hc3] at h
    obtain rfl := Option.some.inj h; exact p3_5 n x a hc1 c2_ hc2 hc3

end Go.Proofs.Ytmnjfnlpekojiaa.munchw
