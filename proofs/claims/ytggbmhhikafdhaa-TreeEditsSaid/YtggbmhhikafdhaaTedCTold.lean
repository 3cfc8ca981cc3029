/-
  What functions do, told by pure functions. No condition.
-/
import Derived.Test.YtggbmhhikafdhaaTedBTold
set_option linter.unusedSimpArgs false
set_option linter.unusedVariables false
set_option linter.unusedSectionVars false
set_option linter.unnecessarySimpa false
set_option maxRecDepth 100000
noncomputable section
namespace Go.Proofs.Ytggbmhhikafdhaa.ted16
open Go Go.Proofs.Ytggbmhhikafdhaa Ax
variable [Args]
def A_treeEdit_111010y1 (a0 : Int) (a1 : Int) (a2 : Int) (a3 : Int) (a4 : List R8) (a5 : Nat) (a6 : Nat) (a7 : List R8) (a8 : Nat) (a9 : Nat) (a10 : Int) (a11 : Int) (a12 : Int) (a13 : Int) (a14 : Int) (a15 : Int) (a16 : Int) (a17 : NL) (a18 : Int) : List Value := [(i6 a10), (Value.agg #[(i6 a11), (i6 a12), (i6 a13), (i6 a14), (i6 a15), (i6 a16), (nlV a17), (Value.int .u64 a18)])]
def H_treeEdit_111010y1 (a0 : Int) (a1 : Int) (a2 : Int) (a3 : Int) (a4 : List R8) (a5 : Nat) (a6 : Nat) (a7 : List R8) (a8 : Nat) (a9 : Nat) (a10 : Int) (a11 : Int) (a12 : Int) (a13 : Int) (a14 : Int) (a15 : Int) (a16 : Int) (a17 : NL) (a18 : Int) : AH := ⟨sB [(0, (some (rblk P 8 [false, true, false, true, true, true] .ready none [(4, (pN 2 0)), (5, (pN 3 0)), (7, (pN 4 0)), (33, (Value.func (.func 33) #[] #[(pN 6 0)]))] 1))), (1, (some (.marks true))), (2, (some (.cells (layT [(i6 a0), (i6 a1), (i6 a2)]) 24))), (3, (some (.cells (layT [(Value.int .u64 a3)]) 30))), (4, (some (.cells (layT [(sN 5 0 a5 a6)]) 22))), (5, (some (.cells (layT (rows rw_iiiiiiLu a4)) 32))), (6, (some (.cells (layT [(sN 7 0 a8 a9)]) 22))), (7, (some (.cells (layT (rows rw_iiiiiiLu a7)) 32)))], 8, 8⟩
def V_treeEdit_111010y1 (a0 : Int) (a1 : Int) (a2 : Int) (a3 : Int) (a4 : List R8) (a5 : Nat) (a6 : Nat) (a7 : List R8) (a8 : Nat) (a9 : Nat) (a10 : Int) (a11 : Int) (a12 : Int) (a13 : Int) (a14 : Int) (a15 : Int) (a16 : Int) (a17 : NL) (a18 : Int) (r : List R8) : Value := match r with
 | o0 => (bO true)
def R_treeEdit_111010y1 (a0 : Int) (a1 : Int) (a2 : Int) (a3 : Int) (a4 : List R8) (a5 : Nat) (a6 : Nat) (a7 : List R8) (a8 : Nat) (a9 : Nat) (a10 : Int) (a11 : Int) (a12 : Int) (a13 : Int) (a14 : Int) (a15 : Int) (a16 : Int) (a17 : NL) (a18 : Int) (r : List R8) : AH := match r with
 | o0 => ⟨sB [(0, (some (rblk P 8 [false, true, false, true, true, true] .ready none [(4, (pN 2 0)), (5, (pN 3 0)), (7, (pN 4 0)), (33, (Value.func (.func 33) #[] #[(pN 6 0)]))] 1))), (1, (some (.marks true))), (2, (some (.cells (layT [(i6 a0), (i6 a1), (i6 a2)]) 24))), (3, (some (.cells (layT [(Value.int .u64 a3)]) 30))), (4, (some (.cells (layT [(sN 5 0 a5 a6)]) 22))), (5, (some (.cells (layT (rows rw_iiiiiiLu o0)) 32))), (6, (some (.cells (layT [(sN 7 0 a8 a9)]) 22))), (7, (some (.cells (layT (rows rw_iiiiiiLu a7)) 32)))], 8, 0⟩
abbrev G_treeEdit_111010y1 (a0 : Int) (a1 : Int) (a2 : Int) (a3 : Int) (a4 : List R8) (a5 : Nat) (a6 : Nat) (a7 : List R8) (a8 : Nat) (a9 : Nat) (a10 : Int) (a11 : Int) (a12 : Int) (a13 : Int) (a14 : Int) (a15 : Int) (a16 : Int) (a17 : NL) (a18 : Int) (r : List R8) : Prop := Gv P (.yield 0) (A_treeEdit_111010y1 a0 a1 a2 a3 a4 a5 a6 a7 a8 a9 a10 a11 a12 a13 a14 a15 a16 a17 a18) (H_treeEdit_111010y1 a0 a1 a2 a3 a4 a5 a6 a7 a8 a9 a10 a11 a12 a13 a14 a15 a16 a17 a18) (V_treeEdit_111010y1 a0 a1 a2 a3 a4 a5 a6 a7 a8 a9 a10 a11 a12 a13 a14 a15 a16 a17 a18 r) (R_treeEdit_111010y1 a0 a1 a2 a3 a4 a5 a6 a7 a8 a9 a10 a11 a12 a13 a14 a15 a16 a17 a18 r)
abbrev C_treeEdit_111010y1 (a0 : Int) (a1 : Int) (a2 : Int) (a3 : Int) (a4 : List R8) (a5 : Nat) (a6 : Nat) (a7 : List R8) (a8 : Nat) (a9 : Nat) (a10 : Int) (a11 : Int) (a12 : Int) (a13 : Int) (a14 : Int) (a15 : Int) (a16 : Int) (a17 : NL) (a18 : Int) (r : List R8) (ins outs : BL) : CallA := ⟨8, ins, V_treeEdit_111010y1 a0 a1 a2 a3 a4 a5 a6 a7 a8 a9 a10 a11 a12 a13 a14 a15 a16 a17 a18 r, R_treeEdit_111010y1 a0 a1 a2 a3 a4 a5 a6 a7 a8 a9 a10 a11 a12 a13 a14 a15 a16 a17 a18 r, outs⟩
def S_tEy_1 (x1_0 : Int) (x1_1 : Int) (x1_2 : Int) (x1_3 : Int) (x1_5 : Nat) (x1_6 : Nat) (x1_7 : List R8) (x1_8 : Nat) (x1_9 : Nat) (x1_10 : Int) (x1_11 : NL) (x1_12 : Int) (st : List R8 × Int) : XSt := match st with
 | (x1_4, x1_13) => (sT 70 [(4, (pN 2 0)), (5, (pN 3 0)), (7, (pN 4 0)), (8, (i6 x1_10)), (47, (nlV x1_11)), (48, (i6 x1_12)), (49, (i6 x1_13))], [], ⟨sB [(0, (some (rblk P 8 [false, true, false, true, true, true] .busy none [(4, (pN 2 0)), (5, (pN 3 0)), (7, (pN 4 0)), (33, (Value.func (.func 33) #[] #[(pN 6 0)]))] 1))), (1, (some (.marks true))), (2, (some (.cells (layT [(i6 x1_0), (i6 x1_1), (i6 x1_2)]) 24))), (3, (some (.cells (layT [(Value.int .u64 x1_3)]) 30))), (4, (some (.cells (layT [(sN 5 0 x1_5 x1_6)]) 22))), (5, (some (.cells (layT (rows rw_iiiiiiLu x1_4)) 32))), (6, (some (.cells (layT [(sN 7 0 x1_8 x1_9)]) 22))), (7, (some (.cells (layT (rows rw_iiiiiiLu x1_7)) 32)))], 8, 0⟩)
def X_tEy_1 (x1_0 : Int) (x1_1 : Int) (x1_2 : Int) (x1_3 : Int) (x1_5 : Nat) (x1_6 : Nat) (x1_7 : List R8) (x1_8 : Nat) (x1_9 : Nat) (x1_10 : Int) (x1_11 : NL) (x1_12 : Int) (r : List R8) : Ex × XSt := match r with
 | z1_0 => (.exit 2, (sT 70 [(4, (pN 2 0)), (5, (pN 3 0)), (7, (pN 4 0))], [], ⟨sB [(0, (some (rblk P 8 [false, true, false, true, true, true] .busy none [(4, (pN 2 0)), (5, (pN 3 0)), (7, (pN 4 0)), (33, (Value.func (.func 33) #[] #[(pN 6 0)]))] 1))), (1, (some (.marks true))), (2, (some (.cells (layT [(i6 x1_0), (i6 x1_1), (i6 x1_2)]) 24))), (3, (some (.cells (layT [(Value.int .u64 x1_3)]) 30))), (4, (some (.cells (layT [(sN 5 0 x1_5 x1_6)]) 22))), (5, (some (.cells (layT (rows rw_iiiiiiLu z1_0)) 32))), (6, (some (.cells (layT [(sN 7 0 x1_8 x1_9)]) 22))), (7, (some (.cells (layT (rows rw_iiiiiiLu x1_7)) 32)))], 8, 0⟩))
abbrev Q_tEy_1 (rnd : Option Nat) (x1_0 : Int) (x1_1 : Int) (x1_2 : Int) (x1_3 : Int) (x1_5 : Nat) (x1_6 : Nat) (x1_7 : List R8) (x1_8 : Nat) (x1_9 : Nat) (x1_10 : Int) (x1_11 : NL) (x1_12 : Int) (st : List R8 × Int) (c : Ex × XSt) : Prop := CG P rnd (fnN P 8) 8 (codeOf P 8 [false, false, true, true, false, true, false, true, false, true, true, true]) (S_tEy_1 x1_0 x1_1 x1_2 x1_3 x1_5 x1_6 x1_7 x1_8 x1_9 x1_10 x1_11 x1_12 st) c
abbrev U_tEy_1 (rd : Option Nat) (x1_0 : Int) (x1_1 : Int) (x1_2 : Int) (x1_3 : Int) (x1_5 : Nat) (x1_6 : Nat) (x1_7 : List R8) (x1_8 : Nat) (x1_9 : Nat) (x1_10 : Int) (x1_11 : NL) (x1_12 : Int) (st : List R8 × Int) (r : List R8) : Prop := CG P rd (fnN P 8) 8 (codeOf P 8 [false, true, true, false, true, false, true, false, true, true, true]) (S_tEy_1 x1_0 x1_1 x1_2 x1_3 x1_5 x1_6 x1_7 x1_8 x1_9 x1_10 x1_11 x1_12 st) (X_tEy_1 x1_0 x1_1 x1_2 x1_3 x1_5 x1_6 x1_7 x1_8 x1_9 x1_10 x1_11 x1_12 r)
def B_tEy_1 (n : Nat) (x1_0 : Int) (x1_1 : Int) (x1_2 : Int) (x1_3 : Int) (x1_5 : Nat) (x1_6 : Nat) (x1_7 : List R8) (x1_8 : Nat) (x1_9 : Nat) (x1_10 : Int) (x1_11 : NL) (x1_12 : Int) (st : List R8 × Int) : Option ((List R8 × Int) ⊕ (List R8)) := match st with
 | (x1_4, x1_13) =>
  if x1_13 < x1_12 then
   if 0 ≤ x1_13 ∧ x1_13 < (x1_11.l.length : Int) then
    if (x1_13).toNat < ((x1_11).l).length then
     ((some (((x1_11).l).getD (x1_13).toNat 0))).bind fun y1_4_ =>
     if 0 ≤ x1_10 ∧ x1_10 < ((x1_5 : Nat) : Int) then
      if (x1_10).toNat < (x1_4).length then
       ((some ((x1_4).getD (x1_10).toNat (0, 0, 0, 0, 0, 0, nl0, 0)))).bind fun y1_7_ =>
       if 0 ≤ y1_4_ ∧ y1_4_ < ((x1_5 : Nat) : Int) then
        if (y1_4_).toNat < (x1_4).length then
         ((some ((x1_4).getD (y1_4_).toNat (0, 0, 0, 0, 0, 0, nl0, 0)))).bind fun y1_10_ =>
         some (.inl (((x1_4).set (x1_10).toNat ((y1_7_.1), (y1_7_.2.1), (y1_7_.2.2.1), (y1_7_.2.2.2.1), (maxB (y1_7_.2.2.2.2.1) (y1_10_.2.2.2.2.1)), (y1_7_.2.2.2.2.2.1), (y1_7_.2.2.2.2.2.2.1), (y1_7_.2.2.2.2.2.2.2))), (w64 (x1_13 + (1 : Int)))))
        else none
       else none
      else none
     else none
    else none
   else none
  else
   some (.inr x1_4)
def m_tEy_1 (n : Nat) (x1_0 : Int) (x1_1 : Int) (x1_2 : Int) (x1_3 : Int) (x1_5 : Nat) (x1_6 : Nat) (x1_7 : List R8) (x1_8 : Nat) (x1_9 : Nat) (x1_10 : Int) (x1_11 : NL) (x1_12 : Int) (st : List R8 × Int) : Option (List R8) := iterM (B_tEy_1 n x1_0 x1_1 x1_2 x1_3 x1_5 x1_6 x1_7 x1_8 x1_9 x1_10 x1_11 x1_12) n st
theorem q_tEy_1_0 (n : Nat) {rnd : Option Nat} (x1_0 x1_1 x1_2 x1_3 : Int) (x1_4 : List R8) (x1_5 x1_6 : Nat) (x1_7 : List R8) (x1_8 x1_9 : Nat) (x1_10 : Int) (x1_11 : NL) (x1_12 x1_13 : Int) (hy1_1 : x1_13 < x1_12) (hy1_2 : 0 ≤ x1_13 ∧ x1_13 < (x1_11.l.length : Int)) (hy1_3 : (x1_13).toNat < ((x1_11).l).length) (y1_4_ : Int) (hy1_4 : (some (((x1_11).l).getD (x1_13).toNat 0)) = some y1_4_) (hy1_5 : 0 ≤ x1_10 ∧ x1_10 < ((x1_5 : Nat) : Int)) (hy1_6 : (x1_10).toNat < (x1_4).length) (y1_7_ : R8) (hy1_7 : (some ((x1_4).getD (x1_10).toNat (0, 0, 0, 0, 0, 0, nl0, 0))) = some y1_7_) (hy1_8 : 0 ≤ y1_4_ ∧ y1_4_ < ((x1_5 : Nat) : Int)) (hy1_9 : (y1_4_).toNat < (x1_4).length) (y1_10_ : R8) (hy1_10 : (some ((x1_4).getD (y1_4_).toNat (0, 0, 0, 0, 0, 0, nl0, 0))) = some y1_10_) : Q_tEy_1 rnd x1_0 x1_1 x1_2 x1_3 x1_5 x1_6 x1_7 x1_8 x1_9 x1_10 x1_11 x1_12 (x1_4, x1_13) (.normal, S_tEy_1 x1_0 x1_1 x1_2 x1_3 x1_5 x1_6 x1_7 x1_8 x1_9 x1_10 x1_11 x1_12 (((x1_4).set (x1_10).toNat ((y1_7_.1), (y1_7_.2.1), (y1_7_.2.2.1), (y1_7_.2.2.2.1), (maxB (y1_7_.2.2.2.2.1) (y1_10_.2.2.2.2.1)), (y1_7_.2.2.2.2.2.1), (y1_7_.2.2.2.2.2.2.1), (y1_7_.2.2.2.2.2.2.2))), (w64 (x1_13 + (1 : Int))))) :=
 runC2 hm (L := lT []) ⟨[4, 5, 7, 8, 47, 48, 49], [(0, 0, false), (1, 1, false), (2, 2, false), (3, 3, false), (4, 4, false), (5, 5, true), (6, 6, false), (7, 7, true)], 8, 0, [], false, []⟩ (zz 1 (xdT hy1_1) <|
zz 7 (xk6 (Nat.add (x1_11).num 64) (x1_11).cap hy1_2) <|
zz 8 (nk7 hy1_4 hy1_3) <|
zz 14 (xk18 5 x1_6 hy1_5) <|
zz 16 (ok19 hy1_7 (hy1_6)) <|
zz 19 (xk18 5 x1_6 hy1_8) <|
zz 21 (ok19 hy1_10 (hy1_9)) <|
zz 23 (xk18 5 x1_6 hy1_5) <|
yy 25 (.sto (layT (rows rw_iiiiiiLu ((x1_4).set (x1_10).toNat ((y1_7_.1), (y1_7_.2.1), (y1_7_.2.2.1), (y1_7_.2.2.2.1), (maxB (y1_7_.2.2.2.2.1) (y1_10_.2.2.2.2.1)), (y1_7_.2.2.2.2.2.1), (y1_7_.2.2.2.2.2.2.1), (y1_7_.2.2.2.2.2.2.2)))))) <|
ww (p := ∃ old, rdT (layT (rows rw_iiiiiiLu x1_4)) 1 (Nat.add ((x1_10).toNat * 8) 4) = some old) (Exists.elim (rows_stN rwf_iiiiiiLu (0, 0, 0, 0, 0, 0, nl0, 0) (hr := hy1_7) (i := (x1_10).toNat) (j := 4) (l := [(i6 (maxB (y1_7_.2.2.2.2.1) (y1_10_.2.2.2.2.1)))]) ((y1_7_.1), (y1_7_.2.1), (y1_7_.2.2.1), (y1_7_.2.2.2.1), (maxB (y1_7_.2.2.2.2.1) (y1_10_.2.2.2.2.1)), (y1_7_.2.2.2.2.2.1), (y1_7_.2.2.2.2.2.2.1), (y1_7_.2.2.2.2.2.2.2)) (Nat.add ((x1_10).toNat * 8) 4) rfl (hy1_6) (Nat.le_of_ble_eq_true rfl) rfl) fun o h => ⟨o, h.1⟩) <|
ww (p := layL [(i6 (maxB (y1_7_.2.2.2.2.1) (y1_10_.2.2.2.2.1)))] (Nat.add ((x1_10).toNat * 8) 4) (layT (rows rw_iiiiiiLu x1_4)) = layT (rows rw_iiiiiiLu ((x1_4).set (x1_10).toNat ((y1_7_.1), (y1_7_.2.1), (y1_7_.2.2.1), (y1_7_.2.2.2.1), (maxB (y1_7_.2.2.2.2.1) (y1_10_.2.2.2.2.1)), (y1_7_.2.2.2.2.2.1), (y1_7_.2.2.2.2.2.2.1), (y1_7_.2.2.2.2.2.2.2))))) (Exists.elim (rows_stN rwf_iiiiiiLu (0, 0, 0, 0, 0, 0, nl0, 0) (hr := hy1_7) (i := (x1_10).toNat) (j := 4) (l := [(i6 (maxB (y1_7_.2.2.2.2.1) (y1_10_.2.2.2.2.1)))]) ((y1_7_.1), (y1_7_.2.1), (y1_7_.2.2.1), (y1_7_.2.2.2.1), (maxB (y1_7_.2.2.2.2.1) (y1_10_.2.2.2.2.1)), (y1_7_.2.2.2.2.2.1), (y1_7_.2.2.2.2.2.2.1), (y1_7_.2.2.2.2.2.2.2)) (Nat.add ((x1_10).toNat * 8) 4) rfl (hy1_6) (Nat.le_of_ble_eq_true rfl) rfl) fun o h => h.2) <|
ww (rows_flat rwf_iiiiiiLu ((x1_4).set (x1_10).toNat ((y1_7_.1), (y1_7_.2.1), (y1_7_.2.2.1), (y1_7_.2.2.2.1), (maxB (y1_7_.2.2.2.2.1) (y1_10_.2.2.2.2.1)), (y1_7_.2.2.2.2.2.1), (y1_7_.2.2.2.2.2.2.1), (y1_7_.2.2.2.2.2.2.2))) 32) <|
ww (rows_flat rwf_iiiiiiLu x1_7 32) <|
ee) (by kernel_rfl)
theorem q_tEy_1_1 (n : Nat) {rnd : Option Nat} (x1_0 x1_1 x1_2 x1_3 : Int) (x1_4 : List R8) (x1_5 x1_6 : Nat) (x1_7 : List R8) (x1_8 x1_9 : Nat) (x1_10 : Int) (x1_11 : NL) (x1_12 x1_13 : Int) (hy1_1 : ¬ (x1_13 < x1_12)) : Q_tEy_1 rnd x1_0 x1_1 x1_2 x1_3 x1_5 x1_6 x1_7 x1_8 x1_9 x1_10 x1_11 x1_12 (x1_4, x1_13) (X_tEy_1 x1_0 x1_1 x1_2 x1_3 x1_5 x1_6 x1_7 x1_8 x1_9 x1_10 x1_11 x1_12 x1_4) :=
 runC2 hm (L := lT []) ⟨[4, 5, 7], [(0, 0, false), (1, 1, false), (2, 2, false), (3, 3, false), (4, 4, false), (5, 5, true), (6, 6, false), (7, 7, true)], 8, 0, [], false, []⟩ (zz 1 (xdF hy1_1) <|
ww (rows_flat rwf_iiiiiiLu x1_4 32) <|
ww (rows_flat rwf_iiiiiiLu x1_7 32) <|
ee) (by kernel_rfl)
theorem m_tEy_1_ok (n : Nat) {rnd : Option Nat} (x1_0 : Int) (x1_1 : Int) (x1_2 : Int) (x1_3 : Int) (x1_5 : Nat) (x1_6 : Nat) (x1_7 : List R8) (x1_8 : Nat) (x1_9 : Nat) (x1_10 : Int) (x1_11 : NL) (x1_12 : Int) (st : List R8 × Int) (r : List R8) (h : m_tEy_1 n x1_0 x1_1 x1_2 x1_3 x1_5 x1_6 x1_7 x1_8 x1_9 x1_10 x1_11 x1_12 st = some r) : CG P rnd (fnN P 8) 8 (codeOf P 8 [false, true, true, false, true, false, true, false, true, true, true]) (S_tEy_1 x1_0 x1_1 x1_2 x1_3 x1_5 x1_6 x1_7 x1_8 x1_9 x1_10 x1_11 x1_12 st) (X_tEy_1 x1_0 x1_1 x1_2 x1_3 x1_5 x1_6 x1_7 x1_8 x1_9 x1_10 x1_11 x1_12 r) :=
 CG.iter (b := codeOf P 8 [false, false, true, true, false, true, false, true, false, true, true, true]) (by kernel_rfl) (body := B_tEy_1 n x1_0 x1_1 x1_2 x1_3 x1_5 x1_6 x1_7 x1_8 x1_9 x1_10 x1_11 x1_12) (S := S_tEy_1 x1_0 x1_1 x1_2 x1_3 x1_5 x1_6 x1_7 x1_8 x1_9 x1_10 x1_11 x1_12) (X := X_tEy_1 x1_0 x1_1 x1_2 x1_3 x1_5 x1_6 x1_7 x1_8 x1_9 x1_10 x1_11 x1_12)
  (fun s s' h => by
  obtain ⟨x1_4, x1_13⟩ := s
  unfold B_tEy_1 at h
  dsimp only at h
  by_cases hy1_1 : x1_13 < x1_12
  ·rw [if_pos hy1_1] at h
   by_cases hy1_2 : 0 ≤ x1_13 ∧ x1_13 < (x1_11.l.length : Int)
   ·rw [if_pos hy1_2] at h
    by_cases hy1_3 : (x1_13).toNat < ((x1_11).l).length
    ·rw [if_pos hy1_3] at h
     obtain ⟨y1_4_, hy1_4, h⟩ := Option.bind_eq_some_iff.1 h
     by_cases hy1_5 : 0 ≤ x1_10 ∧ x1_10 < ((x1_5 : Nat) : Int)
     ·rw [if_pos hy1_5] at h
      by_cases hy1_6 : (x1_10).toNat < (x1_4).length
      ·rw [if_pos hy1_6] at h
       obtain ⟨y1_7_, hy1_7, h⟩ := Option.bind_eq_some_iff.1 h
       by_cases hy1_8 : 0 ≤ y1_4_ ∧ y1_4_ < ((x1_5 : Nat) : Int)
       ·rw [if_pos hy1_8] at h
        by_cases hy1_9 : (y1_4_).toNat < (x1_4).length
        ·rw [if_pos hy1_9] at h
         obtain ⟨y1_10_, hy1_10, h⟩ := Option.bind_eq_some_iff.1 h
         obtain rfl := Sum.inl.inj (oI h); exact q_tEy_1_0 n x1_0 x1_1 x1_2 x1_3 x1_4 x1_5 x1_6 x1_7 x1_8 x1_9 x1_10 x1_11 x1_12 x1_13 hy1_1 hy1_2 hy1_3 y1_4_ hy1_4 hy1_5 hy1_6 y1_7_ hy1_7 hy1_8 hy1_9 y1_10_ hy1_10
        ·rw [if_neg hy1_9] at h; cases h
       ·rw [if_neg hy1_8] at h; cases h
      ·rw [if_neg hy1_6] at h; cases h
     ·rw [if_neg hy1_5] at h; cases h
    ·rw [if_neg hy1_3] at h; cases h
   ·rw [if_neg hy1_2] at h; cases h
  ·rw [if_neg hy1_1] at h
   cases h)
  (fun s r h => by
  obtain ⟨x1_4, x1_13⟩ := s
  unfold B_tEy_1 at h
  dsimp only at h
  by_cases hy1_1 : x1_13 < x1_12
  ·rw [if_pos hy1_1] at h
   by_cases hy1_2 : 0 ≤ x1_13 ∧ x1_13 < (x1_11.l.length : Int)
   ·rw [if_pos hy1_2] at h
    by_cases hy1_3 : (x1_13).toNat < ((x1_11).l).length
    ·rw [if_pos hy1_3] at h
     obtain ⟨y1_4_, hy1_4, h⟩ := Option.bind_eq_some_iff.1 h
     by_cases hy1_5 : 0 ≤ x1_10 ∧ x1_10 < ((x1_5 : Nat) : Int)
     ·rw [if_pos hy1_5] at h
      by_cases hy1_6 : (x1_10).toNat < (x1_4).length
      ·rw [if_pos hy1_6] at h
       obtain ⟨y1_7_, hy1_7, h⟩ := Option.bind_eq_some_iff.1 h
       by_cases hy1_8 : 0 ≤ y1_4_ ∧ y1_4_ < ((x1_5 : Nat) : Int)
       ·rw [if_pos hy1_8] at h
        by_cases hy1_9 : (y1_4_).toNat < (x1_4).length
        ·rw [if_pos hy1_9] at h
         obtain ⟨y1_10_, hy1_10, h⟩ := Option.bind_eq_some_iff.1 h
         cases h
        ·rw [if_neg hy1_9] at h; cases h
       ·rw [if_neg hy1_8] at h; cases h
      ·rw [if_neg hy1_6] at h; cases h
     ·rw [if_neg hy1_5] at h; cases h
    ·rw [if_neg hy1_3] at h; cases h
   ·rw [if_neg hy1_2] at h; cases h
  ·rw [if_neg hy1_1] at h
   obtain rfl := Sum.inr.inj (oI h); exact q_tEy_1_1 n x1_0 x1_1 x1_2 x1_3 x1_4 x1_5 x1_6 x1_7 x1_8 x1_9 x1_10 x1_11 x1_12 x1_13 hy1_1)
  (fun r => by intro hx; cases hx) h
def m_treeEdit_111010y1 (n : Nat) (a0 : Int) (a1 : Int) (a2 : Int) (a3 : Int) (a4 : List R8) (a5 : Nat) (a6 : Nat) (a7 : List R8) (a8 : Nat) (a9 : Nat) (a10 : Int) (a11 : Int) (a12 : Int) (a13 : Int) (a14 : Int) (a15 : Int) (a16 : Int) (a17 : NL) (a18 : Int) : Option (List R8) :=
 if 0 ≤ a10 ∧ a10 < ((a5 : Nat) : Int) then
  if (a10).toNat < (a4).length then
   ((some ((a4).getD (a10).toNat (0, 0, 0, 0, 0, 0, nl0, 0)))).bind fun c3_ =>
   (m_tdq1 n (c3_.1) (c3_.2.1) (c3_.2.2.1) (c3_.2.2.2.1) (c3_.2.2.2.2.1) (c3_.2.2.2.2.2.1) (c3_.2.2.2.2.2.2.1) (c3_.2.2.2.2.2.2.2) a0 a1 a2 a3).bind fun t => match t with
   | (c4_0, c4_1, c4_2, c4_3, c4_4) =>
    (m_tEy_1 n a0 a1 a2 a3 a5 a6 a7 a8 a9 a10 a17 (a17.l.length : Int) (((a4).set (a10).toNat ((c3_.1), (c3_.2.1), c4_0, c4_1, c4_2, c4_3, (c3_.2.2.2.2.2.2.1), c4_4)), 0)).bind fun c5_ =>
    some c5_
  else none
 else none
theorem m_treeEdit_111010y1_ok (n : Nat) (a0 : Int) (a1 : Int) (a2 : Int) (a3 : Int) (a4 : List R8) (a5 : Nat) (a6 : Nat) (a7 : List R8) (a8 : Nat) (a9 : Nat) (a10 : Int) (a11 : Int) (a12 : Int) (a13 : Int) (a14 : Int) (a15 : Int) (a16 : Int) (a17 : NL) (a18 : Int) (r : List R8) (h : m_treeEdit_111010y1 n a0 a1 a2 a3 a4 a5 a6 a7 a8 a9 a10 a11 a12 a13 a14 a15 a16 a17 a18 = some r) : Gv P (.yield 0) (A_treeEdit_111010y1 a0 a1 a2 a3 a4 a5 a6 a7 a8 a9 a10 a11 a12 a13 a14 a15 a16 a17 a18) (H_treeEdit_111010y1 a0 a1 a2 a3 a4 a5 a6 a7 a8 a9 a10 a11 a12 a13 a14 a15 a16 a17 a18) (V_treeEdit_111010y1 a0 a1 a2 a3 a4 a5 a6 a7 a8 a9 a10 a11 a12 a13 a14 a15 a16 a17 a18 r) (R_treeEdit_111010y1 a0 a1 a2 a3 a4 a5 a6 a7 a8 a9 a10 a11 a12 a13 a14 a15 a16 a17 a18 r) := by
 unfold m_treeEdit_111010y1 at h
 by_cases hc1 : 0 ≤ a10 ∧ a10 < ((a5 : Nat) : Int)
 ·rw [if_pos hc1] at h
  by_cases hc2 : (a10).toNat < (a4).length
  ·rw [if_pos hc2] at h
   obtain ⟨c3_, hc3, h⟩ := Option.bind_eq_some_iff.1 h
   obtain ⟨⟨c4_0, c4_1, c4_2, c4_3, c4_4⟩, hc4, h⟩ := Option.bind_eq_some_iff.1 h
   dsimp only at h
   obtain ⟨c5_, hc5, h⟩ := Option.bind_eq_some_iff.1 h
   obtain rfl := oI h; exact (runY_ok hm (A1 := aT []) (L1 := lT []) (A2 := aT [(6, .pur (pN 5 ((a10).toNat * 8))), (7, .ld (Value.agg #[(i6 (c3_.1)), (i6 (c3_.2.1)), (i6 (c3_.2.2.1)), (i6 (c3_.2.2.2.1)), (i6 (c3_.2.2.2.2.1)), (i6 (c3_.2.2.2.2.2.1)), (nlV (c3_.2.2.2.2.2.2.1)), (Value.int .u64 (c3_.2.2.2.2.2.2.2))])), (10, .call (C_tdq1 (c3_.1) (c3_.2.1) (c3_.2.2.1) (c3_.2.2.2.1) (c3_.2.2.2.2.1) (c3_.2.2.2.2.2.1) (c3_.2.2.2.2.2.2.1) (c3_.2.2.2.2.2.2.2) a0 a1 a2 a3 (c4_0, c4_1, c4_2, c4_3, c4_4) [] [(9, 0, false)])), (11, .pur (pN 5 ((a10).toNat * 8))), (12, .sto (layT (rows rw_iiiiiiLu ((a4).set (a10).toNat ((c3_.1), (c3_.2.1), c4_0, c4_1, c4_2, c4_3, (c3_.2.2.2.2.2.2.1), c4_4)))))]) (L2 := lT [(19, ⟨⟨[4, 5, 7, 8, 47, 48, 49], [(0, 0, false), (1, 1, false), (2, 2, false), (3, 3, false), (4, 4, false), (5, 5, true), (6, 6, false), (7, 7, true)], 8, 0, [], false, []⟩, (X_tEy_1 a0 a1 a2 a3 a5 a6 a7 a8 a9 a10 a17 (a17.l.length : Int) c5_).1, (X_tEy_1 a0 a1 a2 a3 a5 a6 a7 a8 a9 a10 a17 (a17.l.length : Int) c5_).2⟩)]) (wk := ⟨[], [(0, 0, false), (1, 1, false), (2, 2, false), (3, 3, false), (4, 4, false), (5, 5, true), (6, 6, false), (7, 7, true)], 8, 0, [], false, []⟩) (ps := [xp18 5 a5 a6 a10, rdT (layT (rows rw_iiiiiiLu a4)) 8 ((a10).toNat * 8) = some [(i6 (c3_.1)), (i6 (c3_.2.1)), (i6 (c3_.2.2.1)), (i6 (c3_.2.2.2.1)), (i6 (c3_.2.2.2.2.1)), (i6 (c3_.2.2.2.2.2.1)), (nlV (c3_.2.2.2.2.2.2.1)), (Value.int .u64 (c3_.2.2.2.2.2.2.2))], G_tdq1 (c3_.1) (c3_.2.1) (c3_.2.2.1) (c3_.2.2.2.1) (c3_.2.2.2.2.1) (c3_.2.2.2.2.2.1) (c3_.2.2.2.2.2.2.1) (c3_.2.2.2.2.2.2.2) a0 a1 a2 a3 (c4_0, c4_1, c4_2, c4_3, c4_4), xp18 5 a5 a6 a10, ∃ old, rdT (layT (rows rw_iiiiiiLu a4)) 8 ((a10).toNat * 8) = some old, layL [(i6 (c3_.1)), (i6 (c3_.2.1)), (i6 c4_0), (i6 c4_1), (i6 c4_2), (i6 c4_3), (nlV (c3_.2.2.2.2.2.2.1)), (Value.int .u64 c4_4)] ((a10).toNat * 8) (layT (rows rw_iiiiiiLu a4)) = layT (rows rw_iiiiiiLu ((a4).set (a10).toNat ((c3_.1), (c3_.2.1), c4_0, c4_1, c4_2, c4_3, (c3_.2.2.2.2.2.2.1), c4_4))), U_tEy_1 (some 0) a0 a1 a2 a3 a5 a6 a7 a8 a9 a10 a17 (a17.l.length : Int) (((a4).set (a10).toNat ((c3_.1), (c3_.2.1), c4_0, c4_1, c4_2, c4_3, (c3_.2.2.2.2.2.2.1), c4_4)), 0) c5_, FlatB (.cells (layT (rows rw_iiiiiiLu ((a4).set (a10).toNat ((c3_.1), (c3_.2.1), c4_0, c4_1, c4_2, c4_3, (c3_.2.2.2.2.2.2.1), c4_4)))) 32), FlatB (.cells (layT (rows rw_iiiiiiLu a7)) 32), FlatB (.cells (layT (rows rw_iiiiiiLu c5_)) 32), FlatB (.cells (layT (rows rw_iiiiiiLu a7)) 32)]) (by kernel_rfl) ⟨((xk18 5 a6 hc1).p), (rows_rdpN rwf_iiiiiiLu (0, 0, 0, 0, 0, 0, nl0, 0) (hr := hc3) (i := (a10).toNat) (j := 0) ((a10).toNat * 8) rfl (hc2) (by decide) rfl), (m_tdq1_ok n (c3_.1) (c3_.2.1) (c3_.2.2.1) (c3_.2.2.2.1) (c3_.2.2.2.2.1) (c3_.2.2.2.2.2.1) (c3_.2.2.2.2.2.2.1) (c3_.2.2.2.2.2.2.2) a0 a1 a2 a3 (c4_0, c4_1, c4_2, c4_3, c4_4) hc4), ((xk18 5 a6 hc1).p), (Exists.elim (rows_st rwf_iiiiiiLu (0, 0, 0, 0, 0, 0, nl0, 0) (i := (a10).toNat) (j := 0) (l := [(i6 (c3_.1)), (i6 (c3_.2.1)), (i6 c4_0), (i6 c4_1), (i6 c4_2), (i6 c4_3), (nlV (c3_.2.2.2.2.2.2.1)), (Value.int .u64 c4_4)]) ((c3_.1), (c3_.2.1), c4_0, c4_1, c4_2, c4_3, (c3_.2.2.2.2.2.2.1), c4_4) ((a10).toNat * 8) rfl (hc2) (Nat.le_of_ble_eq_true rfl) rfl) fun o h => ⟨o, h.1⟩), (Exists.elim (rows_st rwf_iiiiiiLu (0, 0, 0, 0, 0, 0, nl0, 0) (i := (a10).toNat) (j := 0) (l := [(i6 (c3_.1)), (i6 (c3_.2.1)), (i6 c4_0), (i6 c4_1), (i6 c4_2), (i6 c4_3), (nlV (c3_.2.2.2.2.2.2.1)), (Value.int .u64 c4_4)]) ((c3_.1), (c3_.2.1), c4_0, c4_1, c4_2, c4_3, (c3_.2.2.2.2.2.2.1), c4_4) ((a10).toNat * 8) rfl (hc2) (Nat.le_of_ble_eq_true rfl) rfl) fun o h => h.2), (m_tEy_1_ok n a0 a1 a2 a3 a5 a6 a7 a8 a9 a10 a17 (a17.l.length : Int) (((a4).set (a10).toNat ((c3_.1), (c3_.2.1), c4_0, c4_1, c4_2, c4_3, (c3_.2.2.2.2.2.2.1), c4_4)), 0) c5_ hc5), (rows_flat rwf_iiiiiiLu ((a4).set (a10).toNat ((c3_.1), (c3_.2.1), c4_0, c4_1, c4_2, c4_3, (c3_.2.2.2.2.2.2.1), c4_4)) 32), (rows_flat rwf_iiiiiiLu a7 32), (rows_flat rwf_iiiiiiLu c5_ 32), (rows_flat rwf_iiiiiiLu a7 32), trivial⟩)
  ·rw [if_neg hc2] at h; cases h
 ·rw [if_neg hc1] at h; cases h

def A_bK1q1 (a0 : Int) (a1 : Int) (a2 : Int) (a3 : Int) (a4 : List R8) (a5 : Nat) (a6 : Nat) (a7 : List R8) (a8 : Nat) (a9 : Nat) : List Value := [(Value.func (.yield 0) #[] #[]), (pN 6 0)]
def H_bK1q1 (a0 : Int) (a1 : Int) (a2 : Int) (a3 : Int) (a4 : List R8) (a5 : Nat) (a6 : Nat) (a7 : List R8) (a8 : Nat) (a9 : Nat) : AH := ⟨sB [(0, (some (rblk P 8 [false, true, false, true, true, true] .ready none [(4, (pN 2 0)), (5, (pN 3 0)), (7, (pN 4 0)), (33, (Value.func (.func 33) #[] #[(pN 6 0)]))] 1))), (1, (some (.marks true))), (2, (some (.cells (layT [(i6 a0), (i6 a1), (i6 a2)]) 24))), (3, (some (.cells (layT [(Value.int .u64 a3)]) 30))), (4, (some (.cells (layT [(sN 5 0 a5 a6)]) 22))), (5, (some (.cells (layT (rows rw_iiiiiiLu a4)) 32))), (6, (some (.cells (layT [(sN 7 0 a8 a9)]) 22))), (7, (some (.cells (layT (rows rw_iiiiiiLu a7)) 32)))], 8, 8⟩
def V_bK1q1 (a0 : Int) (a1 : Int) (a2 : Int) (a3 : Int) (a4 : List R8) (a5 : Nat) (a6 : Nat) (a7 : List R8) (a8 : Nat) (a9 : Nat) (r : List R8) : Value := match r with
 | o0 => (Value.tuple #[])
def R_bK1q1 (a0 : Int) (a1 : Int) (a2 : Int) (a3 : Int) (a4 : List R8) (a5 : Nat) (a6 : Nat) (a7 : List R8) (a8 : Nat) (a9 : Nat) (r : List R8) : AH := match r with
 | o0 => ⟨sB [(0, (some (rblk P 8 [false, true, false, true, true, true] .ready none [(4, (pN 2 0)), (5, (pN 3 0)), (7, (pN 4 0)), (33, (Value.func (.func 33) #[] #[(pN 6 0)]))] 1))), (1, (some (.marks true))), (2, (some (.cells (layT [(i6 a0), (i6 a1), (i6 a2)]) 24))), (3, (some (.cells (layT [(Value.int .u64 a3)]) 30))), (4, (some (.cells (layT [(sN 5 0 a5 a6)]) 22))), (5, (some (.cells (layT (rows rw_iiiiiiLu o0)) 32))), (6, (some (.cells (layT [(sN 7 0 a8 a9)]) 22))), (7, (some (.cells (layT (rows rw_iiiiiiLu a7)) 32)))], 8, 0⟩
abbrev G_bK1q1 (a0 : Int) (a1 : Int) (a2 : Int) (a3 : Int) (a4 : List R8) (a5 : Nat) (a6 : Nat) (a7 : List R8) (a8 : Nat) (a9 : Nat) (r : List R8) : Prop := Gv P (.func 33) (A_bK1q1 a0 a1 a2 a3 a4 a5 a6 a7 a8 a9) (H_bK1q1 a0 a1 a2 a3 a4 a5 a6 a7 a8 a9) (V_bK1q1 a0 a1 a2 a3 a4 a5 a6 a7 a8 a9 r) (R_bK1q1 a0 a1 a2 a3 a4 a5 a6 a7 a8 a9 r)
abbrev C_bK1q1 (a0 : Int) (a1 : Int) (a2 : Int) (a3 : Int) (a4 : List R8) (a5 : Nat) (a6 : Nat) (a7 : List R8) (a8 : Nat) (a9 : Nat) (r : List R8) (ins outs : BL) : CallA := ⟨8, ins, V_bK1q1 a0 a1 a2 a3 a4 a5 a6 a7 a8 a9 r, R_bK1q1 a0 a1 a2 a3 a4 a5 a6 a7 a8 a9 r, outs⟩
def S_bK1q1_1 (x1_0 : Int) (x1_1 : Int) (x1_2 : Int) (x1_3 : Int) (x1_5 : Nat) (x1_6 : Nat) (x1_7 : List R8) (x1_8 : Nat) (x1_9 : Nat) (st : List R8 × Int) : XSt := match st with
 | (x1_4, x1_10) => (sT 19 [(0, (Value.func (.yield 0) #[] #[])), (1, (pN 6 0)), (3, (i6 x1_10))], [], ⟨sB [(0, (some (rblk P 8 [false, true, false, true, true, true] .ready none [(4, (pN 2 0)), (5, (pN 3 0)), (7, (pN 4 0)), (33, (Value.func (.func 33) #[] #[(pN 6 0)]))] 1))), (1, (some (.marks true))), (2, (some (.cells (layT [(i6 x1_0), (i6 x1_1), (i6 x1_2)]) 24))), (3, (some (.cells (layT [(Value.int .u64 x1_3)]) 30))), (4, (some (.cells (layT [(sN 5 0 x1_5 x1_6)]) 22))), (5, (some (.cells (layT (rows rw_iiiiiiLu x1_4)) 32))), (6, (some (.cells (layT [(sN 7 0 x1_8 x1_9)]) 22))), (7, (some (.cells (layT (rows rw_iiiiiiLu x1_7)) 32)))], 8, 0⟩)
def X_bK1q1_1 (x1_0 : Int) (x1_1 : Int) (x1_2 : Int) (x1_3 : Int) (x1_5 : Nat) (x1_6 : Nat) (x1_7 : List R8) (x1_8 : Nat) (x1_9 : Nat) (r : List R8) : Ex × XSt := match r with
 | z1_0 => (.exit 0, (sT 19 [], [], ⟨sB [(0, (some (rblk P 8 [false, true, false, true, true, true] .ready none [(4, (pN 2 0)), (5, (pN 3 0)), (7, (pN 4 0)), (33, (Value.func (.func 33) #[] #[(pN 6 0)]))] 1))), (1, (some (.marks true))), (2, (some (.cells (layT [(i6 x1_0), (i6 x1_1), (i6 x1_2)]) 24))), (3, (some (.cells (layT [(Value.int .u64 x1_3)]) 30))), (4, (some (.cells (layT [(sN 5 0 x1_5 x1_6)]) 22))), (5, (some (.cells (layT (rows rw_iiiiiiLu z1_0)) 32))), (6, (some (.cells (layT [(sN 7 0 x1_8 x1_9)]) 22))), (7, (some (.cells (layT (rows rw_iiiiiiLu x1_7)) 32)))], 8, 0⟩))
abbrev Q_bK1q1_1 (rnd : Option Nat) (x1_0 : Int) (x1_1 : Int) (x1_2 : Int) (x1_3 : Int) (x1_5 : Nat) (x1_6 : Nat) (x1_7 : List R8) (x1_8 : Nat) (x1_9 : Nat) (st : List R8 × Int) (c : Ex × XSt) : Prop := CG P rnd (fnN P 33) 8 (codeOf P 33 [false, false, true]) (S_bK1q1_1 x1_0 x1_1 x1_2 x1_3 x1_5 x1_6 x1_7 x1_8 x1_9 st) c
abbrev U_bK1q1_1 (rd : Option Nat) (x1_0 : Int) (x1_1 : Int) (x1_2 : Int) (x1_3 : Int) (x1_5 : Nat) (x1_6 : Nat) (x1_7 : List R8) (x1_8 : Nat) (x1_9 : Nat) (st : List R8 × Int) (r : List R8) : Prop := CG P rd (fnN P 33) 8 (codeOf P 33 [false, true]) (S_bK1q1_1 x1_0 x1_1 x1_2 x1_3 x1_5 x1_6 x1_7 x1_8 x1_9 st) (X_bK1q1_1 x1_0 x1_1 x1_2 x1_3 x1_5 x1_6 x1_7 x1_8 x1_9 r)
def B_bK1q1_1 (n : Nat) (x1_0 : Int) (x1_1 : Int) (x1_2 : Int) (x1_3 : Int) (x1_5 : Nat) (x1_6 : Nat) (x1_7 : List R8) (x1_8 : Nat) (x1_9 : Nat) (st : List R8 × Int) : Option ((List R8 × Int) ⊕ (List R8)) := match st with
 | (x1_4, x1_10) =>
  if x1_10 ≥ (0 : Int) then
   if 0 ≤ x1_10 ∧ x1_10 < ((x1_8 : Nat) : Int) then
    if (x1_10).toNat < (x1_7).length then
     ((some ((x1_7).getD (x1_10).toNat (0, 0, 0, 0, 0, 0, nl0, 0)))).bind fun y1_4_ =>
     (m_treeEdit_111010y1 n x1_0 x1_1 x1_2 x1_3 x1_4 x1_5 x1_6 x1_7 x1_8 x1_9 x1_10 (y1_4_.1) (y1_4_.2.1) (y1_4_.2.2.1) (y1_4_.2.2.2.1) (y1_4_.2.2.2.2.1) (y1_4_.2.2.2.2.2.1) (y1_4_.2.2.2.2.2.2.1) (y1_4_.2.2.2.2.2.2.2)).bind fun y1_5_ =>
     some (.inl (y1_5_, (w64 (x1_10 - (1 : Int)))))
    else none
   else none
  else
   some (.inr x1_4)
def m_bK1q1_1 (n : Nat) (x1_0 : Int) (x1_1 : Int) (x1_2 : Int) (x1_3 : Int) (x1_5 : Nat) (x1_6 : Nat) (x1_7 : List R8) (x1_8 : Nat) (x1_9 : Nat) (st : List R8 × Int) : Option (List R8) := iterM (B_bK1q1_1 n x1_0 x1_1 x1_2 x1_3 x1_5 x1_6 x1_7 x1_8 x1_9) n st
theorem q_bK1q1_1_0 (n : Nat) {rnd : Option Nat} (x1_0 x1_1 x1_2 x1_3 : Int) (x1_4 : List R8) (x1_5 x1_6 : Nat) (x1_7 : List R8) (x1_8 x1_9 : Nat) (x1_10 : Int) (hy1_1 : x1_10 ≥ (0 : Int)) (hy1_2 : 0 ≤ x1_10 ∧ x1_10 < ((x1_8 : Nat) : Int)) (hy1_3 : (x1_10).toNat < (x1_7).length) (y1_4_ : R8) (hy1_4 : (some ((x1_7).getD (x1_10).toNat (0, 0, 0, 0, 0, 0, nl0, 0))) = some y1_4_) (y1_5_ : List R8) (hy1_5 : m_treeEdit_111010y1 n x1_0 x1_1 x1_2 x1_3 x1_4 x1_5 x1_6 x1_7 x1_8 x1_9 x1_10 (y1_4_.1) (y1_4_.2.1) (y1_4_.2.2.1) (y1_4_.2.2.2.1) (y1_4_.2.2.2.2.1) (y1_4_.2.2.2.2.2.1) (y1_4_.2.2.2.2.2.2.1) (y1_4_.2.2.2.2.2.2.2) = some y1_5_) : Q_bK1q1_1 rnd x1_0 x1_1 x1_2 x1_3 x1_5 x1_6 x1_7 x1_8 x1_9 (x1_4, x1_10) (.normal, S_bK1q1_1 x1_0 x1_1 x1_2 x1_3 x1_5 x1_6 x1_7 x1_8 x1_9 (y1_5_, (w64 (x1_10 - (1 : Int))))) :=
 runC2 hm (L := lT []) ⟨[0, 1, 3], [(0, 0, false), (1, 1, false), (2, 2, false), (3, 3, false), (4, 4, false), (5, 5, true), (6, 6, false), (7, 7, true)], 8, 0, [], false, []⟩ (zz 3 (xdT hy1_1) <|
zz 12 (xk18 7 x1_9 hy1_2) <|
yy 13 (.ld (Value.agg #[(i6 (y1_4_.1)), (i6 (y1_4_.2.1)), (i6 (y1_4_.2.2.1)), (i6 (y1_4_.2.2.2.1)), (i6 (y1_4_.2.2.2.2.1)), (i6 (y1_4_.2.2.2.2.2.1)), (nlV (y1_4_.2.2.2.2.2.2.1)), (Value.int .u64 (y1_4_.2.2.2.2.2.2.2))])) <|
ww (p := rdT (layT (rows rw_iiiiiiLu x1_7)) 8 ((x1_10).toNat * 8) = some [(i6 (y1_4_.1)), (i6 (y1_4_.2.1)), (i6 (y1_4_.2.2.1)), (i6 (y1_4_.2.2.2.1)), (i6 (y1_4_.2.2.2.2.1)), (i6 (y1_4_.2.2.2.2.2.1)), (nlV (y1_4_.2.2.2.2.2.2.1)), (Value.int .u64 (y1_4_.2.2.2.2.2.2.2))]) (rows_rdpN rwf_iiiiiiLu (0, 0, 0, 0, 0, 0, nl0, 0) (hr := hy1_4) (i := (x1_10).toNat) (j := 0) ((x1_10).toNat * 8) rfl (hy1_3) (by decide) rfl) <|
yy 14 (.call (C_treeEdit_111010y1 x1_0 x1_1 x1_2 x1_3 x1_4 x1_5 x1_6 x1_7 x1_8 x1_9 x1_10 (y1_4_.1) (y1_4_.2.1) (y1_4_.2.2.1) (y1_4_.2.2.2.1) (y1_4_.2.2.2.2.1) (y1_4_.2.2.2.2.2.1) (y1_4_.2.2.2.2.2.2.1) (y1_4_.2.2.2.2.2.2.2) y1_5_ [(0, 0, false), (1, 1, false), (2, 2, false), (3, 3, false), (4, 4, false), (5, 5, true), (6, 6, false), (7, 7, true)] [(0, 0, false), (1, 1, false), (2, 2, false), (3, 3, false), (4, 4, false), (5, 5, true), (6, 6, false), (7, 7, true)])) <|
ww (m_treeEdit_111010y1_ok n x1_0 x1_1 x1_2 x1_3 x1_4 x1_5 x1_6 x1_7 x1_8 x1_9 x1_10 (y1_4_.1) (y1_4_.2.1) (y1_4_.2.2.1) (y1_4_.2.2.2.1) (y1_4_.2.2.2.2.1) (y1_4_.2.2.2.2.2.1) (y1_4_.2.2.2.2.2.2.1) (y1_4_.2.2.2.2.2.2.2) y1_5_ hy1_5) <|
ww (rows_flat rwf_iiiiiiLu x1_4 32) <|
ww (rows_flat rwf_iiiiiiLu x1_7 32) <|
ww (rows_flat rwf_iiiiiiLu y1_5_ 32) <|
ww (rows_flat rwf_iiiiiiLu x1_7 32) <|
ww (rows_flat rwf_iiiiiiLu y1_5_ 32) <|
ww (rows_flat rwf_iiiiiiLu x1_7 32) <|
ee) (by kernel_rfl)
theorem q_bK1q1_1_1 (n : Nat) {rnd : Option Nat} (x1_0 x1_1 x1_2 x1_3 : Int) (x1_4 : List R8) (x1_5 x1_6 : Nat) (x1_7 : List R8) (x1_8 x1_9 : Nat) (x1_10 : Int) (hy1_1 : ¬ (x1_10 ≥ (0 : Int))) : Q_bK1q1_1 rnd x1_0 x1_1 x1_2 x1_3 x1_5 x1_6 x1_7 x1_8 x1_9 (x1_4, x1_10) (X_bK1q1_1 x1_0 x1_1 x1_2 x1_3 x1_5 x1_6 x1_7 x1_8 x1_9 x1_4) :=
 runC2 hm (L := lT []) ⟨[], [(0, 0, false), (1, 1, false), (2, 2, false), (3, 3, false), (4, 4, false), (5, 5, true), (6, 6, false), (7, 7, true)], 8, 0, [], false, []⟩ (zz 3 (xdF hy1_1) <|
ww (rows_flat rwf_iiiiiiLu x1_4 32) <|
ww (rows_flat rwf_iiiiiiLu x1_7 32) <|
ee) (by kernel_rfl)
theorem m_bK1q1_1_ok (n : Nat) {rnd : Option Nat} (x1_0 : Int) (x1_1 : Int) (x1_2 : Int) (x1_3 : Int) (x1_5 : Nat) (x1_6 : Nat) (x1_7 : List R8) (x1_8 : Nat) (x1_9 : Nat) (st : List R8 × Int) (r : List R8) (h : m_bK1q1_1 n x1_0 x1_1 x1_2 x1_3 x1_5 x1_6 x1_7 x1_8 x1_9 st = some r) : CG P rnd (fnN P 33) 8 (codeOf P 33 [false, true]) (S_bK1q1_1 x1_0 x1_1 x1_2 x1_3 x1_5 x1_6 x1_7 x1_8 x1_9 st) (X_bK1q1_1 x1_0 x1_1 x1_2 x1_3 x1_5 x1_6 x1_7 x1_8 x1_9 r) :=
 CG.iter (b := codeOf P 33 [false, false, true]) (by kernel_rfl) (body := B_bK1q1_1 n x1_0 x1_1 x1_2 x1_3 x1_5 x1_6 x1_7 x1_8 x1_9) (S := S_bK1q1_1 x1_0 x1_1 x1_2 x1_3 x1_5 x1_6 x1_7 x1_8 x1_9) (X := X_bK1q1_1 x1_0 x1_1 x1_2 x1_3 x1_5 x1_6 x1_7 x1_8 x1_9)
  (fun s s' h => by
  obtain ⟨x1_4, x1_10⟩ := s
  unfold B_bK1q1_1 at h
  dsimp only at h
  by_cases hy1_1 : x1_10 ≥ (0 : Int)
  ·rw [if_pos hy1_1] at h
   by_cases hy1_2 : 0 ≤ x1_10 ∧ x1_10 < ((x1_8 : Nat) : Int)
   ·rw [if_pos hy1_2] at h
    by_cases hy1_3 : (x1_10).toNat < (x1_7).length
    ·rw [if_pos hy1_3] at h
     obtain ⟨y1_4_, hy1_4, h⟩ := Option.bind_eq_some_iff.1 h
     obtain ⟨y1_5_, hy1_5, h⟩ := Option.bind_eq_some_iff.1 h
     obtain rfl := Sum.inl.inj (oI h); exact q_bK1q1_1_0 n x1_0 x1_1 x1_2 x1_3 x1_4 x1_5 x1_6 x1_7 x1_8 x1_9 x1_10 hy1_1 hy1_2 hy1_3 y1_4_ hy1_4 y1_5_ hy1_5
    ·rw [if_neg hy1_3] at h; cases h
   ·rw [if_neg hy1_2] at h; cases h
  ·rw [if_neg hy1_1] at h
   cases h)
  (fun s r h => by
  obtain ⟨x1_4, x1_10⟩ := s
  unfold B_bK1q1_1 at h
  dsimp only at h
  by_cases hy1_1 : x1_10 ≥ (0 : Int)
  ·rw [if_pos hy1_1] at h
   by_cases hy1_2 : 0 ≤ x1_10 ∧ x1_10 < ((x1_8 : Nat) : Int)
   ·rw [if_pos hy1_2] at h
    by_cases hy1_3 : (x1_10).toNat < (x1_7).length
    ·rw [if_pos hy1_3] at h
     obtain ⟨y1_4_, hy1_4, h⟩ := Option.bind_eq_some_iff.1 h
     obtain ⟨y1_5_, hy1_5, h⟩ := Option.bind_eq_some_iff.1 h
     cases h
    ·rw [if_neg hy1_3] at h; cases h
   ·rw [if_neg hy1_2] at h; cases h
  ·rw [if_neg hy1_1] at h
   obtain rfl := Sum.inr.inj (oI h); exact q_bK1q1_1_1 n x1_0 x1_1 x1_2 x1_3 x1_4 x1_5 x1_6 x1_7 x1_8 x1_9 x1_10 hy1_1)
  (fun r => by intro hx; cases hx) h
def m_bK1q1 (n : Nat) (a0 : Int) (a1 : Int) (a2 : Int) (a3 : Int) (a4 : List R8) (a5 : Nat) (a6 : Nat) (a7 : List R8) (a8 : Nat) (a9 : Nat) : Option (List R8) :=
 (m_bK1q1_1 n a0 a1 a2 a3 a5 a6 a7 a8 a9 (a4, (w64 (((a8 : Nat) : Int) - (1 : Int))))).bind fun c1_ =>
 some c1_
theorem m_bK1q1_ok (n : Nat) (a0 : Int) (a1 : Int) (a2 : Int) (a3 : Int) (a4 : List R8) (a5 : Nat) (a6 : Nat) (a7 : List R8) (a8 : Nat) (a9 : Nat) (r : List R8) (h : m_bK1q1 n a0 a1 a2 a3 a4 a5 a6 a7 a8 a9 = some r) : Gv P (.func 33) (A_bK1q1 a0 a1 a2 a3 a4 a5 a6 a7 a8 a9) (H_bK1q1 a0 a1 a2 a3 a4 a5 a6 a7 a8 a9) (V_bK1q1 a0 a1 a2 a3 a4 a5 a6 a7 a8 a9 r) (R_bK1q1 a0 a1 a2 a3 a4 a5 a6 a7 a8 a9 r) := by
 unfold m_bK1q1 at h
 obtain ⟨c1_, hc1, h⟩ := Option.bind_eq_some_iff.1 h
 obtain rfl := oI h; exact (runF2 hm (L := lT [(6, ⟨⟨[0, 1, 3], [(0, 0, false), (1, 1, false), (2, 2, false), (3, 3, false), (4, 4, false), (5, 5, true), (6, 6, false), (7, 7, true)], 8, 0, [], false, []⟩, (X_bK1q1_1 a0 a1 a2 a3 a5 a6 a7 a8 a9 c1_).1, (X_bK1q1_1 a0 a1 a2 a3 a5 a6 a7 a8 a9 c1_).2⟩)]) ⟨[], [(0, 0, false), (1, 1, false), (2, 2, false), (3, 3, false), (4, 4, false), (5, 5, true), (6, 6, false), (7, 7, true)], 8, 0, [], false, []⟩ (ww (p := U_bK1q1_1 none a0 a1 a2 a3 a5 a6 a7 a8 a9 (a4, (w64 (((a8 : Nat) : Int) - (1 : Int)))) c1_) (m_bK1q1_1_ok n a0 a1 a2 a3 a5 a6 a7 a8 a9 (a4, (w64 (((a8 : Nat) : Int) - (1 : Int)))) c1_ hc1) <|
ww (rows_flat rwf_iiiiiiLu a4 32) <|
ww (rows_flat rwf_iiiiiiLu a7 32) <|
ww (rows_flat rwf_iiiiiiLu c1_ 32) <|
ww (rows_flat rwf_iiiiiiLu a7 32) ee) (by kernel_rfl))

def A_treeEditq1 (a0 : List R8) (a1 : Nat) (a2 : Nat) (a3 : Int) (a4 : Int) (a5 : Int) (a6 : Int) : List Value := [(sN 0 0 a1 a2), (Value.agg #[(i6 a3), (i6 a4), (i6 a5)]), (Value.int .u64 a6)]
def H_treeEditq1 (a0 : List R8) (a1 : Nat) (a2 : Nat) (a3 : Int) (a4 : Int) (a5 : Int) (a6 : Int) : AH := ⟨sB [(0, (some (.cells (layT (rows rw_iiiiiiLu a0)) 32)))], 1, 1⟩
def V_treeEditq1 (a0 : List R8) (a1 : Nat) (a2 : Nat) (a3 : Int) (a4 : Int) (a5 : Int) (a6 : Int) (r : List R8) : Value := match r with
 | o0 => (sN 2 0 ((((a1 : Nat) : Int)).toNat) ((((a1 : Nat) : Int)).toNat))
def R_treeEditq1 (a0 : List R8) (a1 : Nat) (a2 : Nat) (a3 : Int) (a4 : Int) (a5 : Int) (a6 : Int) (r : List R8) : AH := match r with
 | o0 => ⟨sB [(0, (some (.cells (layT (rows rw_iiiiiiLu a0)) 32))), (1, (some (.marks false))), (2, (some (.cells (layT (rows rw_iiiiiiLu o0)) 32)))], 3, 0⟩
abbrev G_treeEditq1 (a0 : List R8) (a1 : Nat) (a2 : Nat) (a3 : Int) (a4 : Int) (a5 : Int) (a6 : Int) (r : List R8) : Prop := Gv P (.func 8) (A_treeEditq1 a0 a1 a2 a3 a4 a5 a6) (H_treeEditq1 a0 a1 a2 a3 a4 a5 a6) (V_treeEditq1 a0 a1 a2 a3 a4 a5 a6 r) (R_treeEditq1 a0 a1 a2 a3 a4 a5 a6 r)
abbrev C_treeEditq1 (a0 : List R8) (a1 : Nat) (a2 : Nat) (a3 : Int) (a4 : Int) (a5 : Int) (a6 : Int) (r : List R8) (ins outs : BL) : CallA := ⟨1, ins, V_treeEditq1 a0 a1 a2 a3 a4 a5 a6 r, R_treeEditq1 a0 a1 a2 a3 a4 a5 a6 r, outs⟩
def m_treeEditq1 (n : Nat) (a0 : List R8) (a1 : Nat) (a2 : Nat) (a3 : Int) (a4 : Int) (a5 : Int) (a6 : Int) : Option (List R8) :=
 if a3 < (0 : Int) then
  none
 else
  if a4 < (0 : Int) then
   none
  else
   if a5 < (0 : Int) then
    none
   else
    (m_tCq2 n a0 a1 a2).bind fun c4_ =>
    if c4_ = (0 : Int) then
     (m_treeCopyq2 n a0 a1 a2).bind fun c6_ =>
     (m_bKq1 n a0 a1 a2).bind fun _ =>
     (m_bK1q1 n a3 a4 a5 a6 c6_ ((((a1 : Nat) : Int)).toNat) ((((a1 : Nat) : Int)).toNat) a0 a1 a2).bind fun c8_ =>
     some c8_
    else
     none
theorem m_treeEditq1_ok (n : Nat) (a0 : List R8) (a1 : Nat) (a2 : Nat) (a3 : Int) (a4 : Int) (a5 : Int) (a6 : Int) (r : List R8) (h : m_treeEditq1 n a0 a1 a2 a3 a4 a5 a6 = some r) : Gv P (.func 8) (A_treeEditq1 a0 a1 a2 a3 a4 a5 a6) (H_treeEditq1 a0 a1 a2 a3 a4 a5 a6) (V_treeEditq1 a0 a1 a2 a3 a4 a5 a6 r) (R_treeEditq1 a0 a1 a2 a3 a4 a5 a6 r) := by
 unfold m_treeEditq1 at h
 by_cases hc1 : a3 < (0 : Int)
 ·rw [if_pos hc1] at h
  cases h
 ·rw [if_neg hc1] at h
  by_cases hc2 : a4 < (0 : Int)
  ·rw [if_pos hc2] at h
   cases h
  ·rw [if_neg hc2] at h
   by_cases hc3 : a5 < (0 : Int)
   ·rw [if_pos hc3] at h
    cases h
   ·rw [if_neg hc3] at h
    obtain ⟨c4_, hc4, h⟩ := Option.bind_eq_some_iff.1 h
    by_cases hc5 : c4_ = (0 : Int)
    ·rw [if_pos hc5] at h
     obtain ⟨c6_, hc6, h⟩ := Option.bind_eq_some_iff.1 h
     obtain ⟨_, hc7, h⟩ := Option.bind_eq_some_iff.1 h
     obtain ⟨c8_, hc8, h⟩ := Option.bind_eq_some_iff.1 h
     obtain rfl := oI h; exact (runF2 hm (L := lT []) ⟨[6], [(0, 0, true), (1, 6, false), (2, 3, true)], 3, 0, [], false, []⟩ (zz 8 (xdF hc1) <|
zz 12 (xdF hc2) <|
zz 17 (xdF hc3) <|
yy 21 (.call (C_tCq2 a0 a1 a2 c4_ [(0, 0, true)] [])) <|
ww (m_tCq2_ok n a0 a1 a2 c4_ hc4) <|
ww (rows_flat rwf_iiiiiiLu a0 32) <|
zz 22 (xnF hc5) <|
yy 27 (.call (C_treeCopyq2 a0 a1 a2 c6_ [(0, 0, true)] [(3, 1, true)])) <|
ww (m_treeCopyq2_ok n a0 a1 a2 c6_ hc6) <|
ww (rows_flat rwf_iiiiiiLu a0 32) <|
ww (rows_flat rwf_iiiiiiLu c6_ 32) <|
yy 33 (.call (C_bKq1 a0 a1 a2 () [(0, 0, true)] [(0, 0, true), (5, 1, false)])) <|
ww (m_bKq1_ok n a0 a1 a2 () hc7) <|
ww (rows_flat rwf_iiiiiiLu a0 32) <|
ww (rows_flat rwf_iiiiiiLu a0 32) <|
yy 35 (.rng (C_bK1q1 a3 a4 a5 a6 c6_ ((((a1 : Nat) : Int)).toNat) ((((a1 : Nat) : Int)).toNat) a0 a1 a2 c8_ [(0, 7, false), (1, 6, false), (2, 1, false), (3, 2, false), (4, 4, false), (5, 3, true), (6, 5, false), (7, 0, true)] [(7, 0, false), (6, 1, false), (1, 2, false), (2, 3, false), (4, 4, false), (3, 5, true), (5, 6, false), (0, 7, true)]) [4, 5, 7, 33]) <|
ww (m_bK1q1_ok n a3 a4 a5 a6 c6_ ((((a1 : Nat) : Int)).toNat) ((((a1 : Nat) : Int)).toNat) a0 a1 a2 c8_ hc8) <|
ww (rows_flat rwf_iiiiiiLu c6_ 32) <|
ww (rows_flat rwf_iiiiiiLu a0 32) <|
ww (rows_flat rwf_iiiiiiLu c8_ 32) <|
ww (rows_flat rwf_iiiiiiLu a0 32) <|
ww (rows_flat rwf_iiiiiiLu a0 32) <|
ww (rows_flat rwf_iiiiiiLu c8_ 32) ee) (by kernel_rfl))
    ·rw [if_neg hc5] at h
     cases h

def A_treeStale1q1 (a0 : Int) (a1 : List (Bool)) (a2 : Nat) (a3 : Nat) : List Value := [(i6 a0), (pN 0 0)]
def H_treeStale1q1 (a0 : Int) (a1 : List (Bool)) (a2 : Nat) (a3 : Nat) : AH := ⟨sB [(0, (some (.cells (layT [(sN 1 0 a2 a3)]) 37))), (1, (some (.cells (layT (rows rw_b a1)) 4)))], 2, 2⟩
def V_treeStale1q1 (a0 : Int) (a1 : List (Bool)) (a2 : Nat) (a3 : Nat) (r : Bool) : Value := match r with
 | o0 => (bO o0)
def R_treeStale1q1 (a0 : Int) (a1 : List (Bool)) (a2 : Nat) (a3 : Nat) (r : Bool) : AH := match r with
 | o0 => ⟨sB [], 2, 2⟩
abbrev G_treeStale1q1 (a0 : Int) (a1 : List (Bool)) (a2 : Nat) (a3 : Nat) (r : Bool) : Prop := Gv P (.func 24) (A_treeStale1q1 a0 a1 a2 a3) (H_treeStale1q1 a0 a1 a2 a3) (V_treeStale1q1 a0 a1 a2 a3 r) (R_treeStale1q1 a0 a1 a2 a3 r)
abbrev C_treeStale1q1 (a0 : Int) (a1 : List (Bool)) (a2 : Nat) (a3 : Nat) (r : Bool) (ins outs : BL) : CallA := ⟨2, ins, V_treeStale1q1 a0 a1 a2 a3 r, R_treeStale1q1 a0 a1 a2 a3 r, outs⟩
def m_treeStale1q1 (n : Nat) (a0 : Int) (a1 : List (Bool)) (a2 : Nat) (a3 : Nat) : Option (Bool) :=
 if 0 ≤ a0 ∧ a0 < ((a2 : Nat) : Int) then
  if (a0).toNat < (a1).length then
   ((some ((a1).getD (a0).toNat (false)))).bind fun c3_ =>
   some c3_
  else none
 else none
theorem m_treeStale1q1_ok (n : Nat) (a0 : Int) (a1 : List (Bool)) (a2 : Nat) (a3 : Nat) (r : Bool) (h : m_treeStale1q1 n a0 a1 a2 a3 = some r) : Gv P (.func 24) (A_treeStale1q1 a0 a1 a2 a3) (H_treeStale1q1 a0 a1 a2 a3) (V_treeStale1q1 a0 a1 a2 a3 r) (R_treeStale1q1 a0 a1 a2 a3 r) := by
 unfold m_treeStale1q1 at h
 by_cases hc1 : 0 ≤ a0 ∧ a0 < ((a2 : Nat) : Int)
 ·rw [if_pos hc1] at h
  by_cases hc2 : (a0).toNat < (a1).length
  ·rw [if_pos hc2] at h
   obtain ⟨c3_, hc3, h⟩ := Option.bind_eq_some_iff.1 h
   obtain rfl := oI h; exact (runF2 hm (L := lT []) ⟨[3], [], 2, 2, [], false, []⟩ (zz 5 (xk21 1 a3 hc1) <|
zz 6 (ok22 hc3 (hc2)) ee) (by kernel_rfl))
  ·rw [if_neg hc2] at h; cases h
 ·rw [if_neg hc1] at h; cases h

def A_xFq1 (a0 : NL) (a1 : List (Bool)) (a2 : Nat) (a3 : Nat) : List Value := [(nlV a0), (Value.func (.func 24) #[] #[(pN 0 0)])]
def H_xFq1 (a0 : NL) (a1 : List (Bool)) (a2 : Nat) (a3 : Nat) : AH := ⟨sB [(0, (some (.cells (layT [(sN 1 0 a2 a3)]) 37))), (1, (some (.cells (layT (rows rw_b a1)) 4)))], 2, 2⟩
def V_xFq1 (a0 : NL) (a1 : List (Bool)) (a2 : Nat) (a3 : Nat) (r : Int) : Value := match r with
 | o0 => (i6 o0)
def R_xFq1 (a0 : NL) (a1 : List (Bool)) (a2 : Nat) (a3 : Nat) (r : Int) : AH := match r with
 | o0 => ⟨sB [], 2, 2⟩
abbrev G_xFq1 (a0 : NL) (a1 : List (Bool)) (a2 : Nat) (a3 : Nat) (r : Int) : Prop := Gv P (.func 39) (A_xFq1 a0 a1 a2 a3) (H_xFq1 a0 a1 a2 a3) (V_xFq1 a0 a1 a2 a3 r) (R_xFq1 a0 a1 a2 a3 r)
abbrev C_xFq1 (a0 : NL) (a1 : List (Bool)) (a2 : Nat) (a3 : Nat) (r : Int) (ins outs : BL) : CallA := ⟨2, ins, V_xFq1 a0 a1 a2 a3 r, R_xFq1 a0 a1 a2 a3 r, outs⟩
def S_xFq1_1 (x1_0 : List (Bool)) (x1_1 : Nat) (x1_2 : Nat) (x1_3 : NL) (x1_4 : Int) (st : Int) : XSt := match st with
 | x1_5 => (sT 19 [(0, (nlV x1_3)), (1, (Value.func (.func 24) #[] #[(pN 0 0)])), (7, (i6 x1_4)), (8, (i6 x1_5))], [], ⟨sB [(0, (some (.cells (layT [(sN 1 0 x1_1 x1_2)]) 37))), (1, (some (.cells (layT (rows rw_b x1_0)) 4)))], 2, 2⟩)
def X_xFq1_1 (x1_0 : List (Bool)) (x1_1 : Nat) (x1_2 : Nat) (x1_3 : NL) (x1_4 : Int) (r : (Int) ⊕ (Unit)) : Ex × XSt := match r with
 | .inl z1_0 => (.ret, (sT 19 [(4, (i6 z1_0))], [], ⟨sB [(0, (some (.cells (layT [(sN 1 0 x1_1 x1_2)]) 37))), (1, (some (.cells (layT (rows rw_b x1_0)) 4)))], 2, 2⟩))
 | .inr _ => (.exit 0, (sT 19 [], [], ⟨sB [(0, (some (.cells (layT [(sN 1 0 x1_1 x1_2)]) 37))), (1, (some (.cells (layT (rows rw_b x1_0)) 4)))], 2, 2⟩))
abbrev Q_xFq1_1 (rnd : Option Nat) (x1_0 : List (Bool)) (x1_1 : Nat) (x1_2 : Nat) (x1_3 : NL) (x1_4 : Int) (st : Int) (c : Ex × XSt) : Prop := CG P rnd (fnN P 39) 2 (codeOf P 39 [false, false, true, false, true]) (S_xFq1_1 x1_0 x1_1 x1_2 x1_3 x1_4 st) c
abbrev U_xFq1_1 (rd : Option Nat) (x1_0 : List (Bool)) (x1_1 : Nat) (x1_2 : Nat) (x1_3 : NL) (x1_4 : Int) (st : Int) (r : (Int) ⊕ (Unit)) : Prop := CG P rd (fnN P 39) 2 (codeOf P 39 [false, true, false, true]) (S_xFq1_1 x1_0 x1_1 x1_2 x1_3 x1_4 st) (X_xFq1_1 x1_0 x1_1 x1_2 x1_3 x1_4 r)
def B_xFq1_1 (n : Nat) (x1_0 : List (Bool)) (x1_1 : Nat) (x1_2 : Nat) (x1_3 : NL) (x1_4 : Int) (st : Int) : Option ((Int) ⊕ ((Int) ⊕ (Unit))) := match st with
 | x1_5 =>
  if x1_5 < x1_4 then
   if 0 ≤ x1_5 ∧ x1_5 < (x1_3.l.length : Int) then
    if (x1_5).toNat < ((x1_3).l).length then
     ((some (((x1_3).l).getD (x1_5).toNat 0))).bind fun y1_4_ =>
     (m_treeStale1q1 n y1_4_ x1_0 x1_1 x1_2).bind fun y1_5_ =>
     if y1_5_ = true then
      some (.inr (.inl x1_5))
     else
      some (.inl (w64 (x1_5 + (1 : Int))))
    else none
   else none
  else
   some (.inr (.inr ()))
def m_xFq1_1 (n : Nat) (x1_0 : List (Bool)) (x1_1 : Nat) (x1_2 : Nat) (x1_3 : NL) (x1_4 : Int) (st : Int) : Option ((Int) ⊕ (Unit)) := iterM (B_xFq1_1 n x1_0 x1_1 x1_2 x1_3 x1_4) n st
theorem q_xFq1_1_0 (n : Nat) {rnd : Option Nat} (x1_0 : List (Bool)) (x1_1 x1_2 : Nat) (x1_3 : NL) (x1_4 x1_5 : Int) (hy1_1 : x1_5 < x1_4) (hy1_2 : 0 ≤ x1_5 ∧ x1_5 < (x1_3.l.length : Int)) (hy1_3 : (x1_5).toNat < ((x1_3).l).length) (y1_4_ : Int) (hy1_4 : (some (((x1_3).l).getD (x1_5).toNat 0)) = some y1_4_) (y1_5_ : Bool) (hy1_5 : m_treeStale1q1 n y1_4_ x1_0 x1_1 x1_2 = some y1_5_) (hy1_6 : y1_5_ = true) : Q_xFq1_1 rnd x1_0 x1_1 x1_2 x1_3 x1_4 x1_5 (X_xFq1_1 x1_0 x1_1 x1_2 x1_3 x1_4 (.inl x1_5)) :=
 runC2 hm (L := lT []) ⟨[4], [(0, 0, false), (1, 1, true)], 2, 2, [], false, []⟩ (zz 1 (xdT hy1_1) <|
zz 13 (xk6 (Nat.add (x1_3).num 64) (x1_3).cap hy1_2) <|
zz 14 (nk7 hy1_4 hy1_3) <|
yy 15 (.call (C_treeStale1q1 y1_4_ x1_0 x1_1 x1_2 y1_5_ [(0, 0, false), (1, 1, true)] [])) <|
ww (m_treeStale1q1_ok n y1_4_ x1_0 x1_1 x1_2 y1_5_ hy1_5) <|
ww (rows_flat rwf_b x1_0 4) <|
zz 16 (xbT hy1_6) <|
ww (rows_flat rwf_b x1_0 4) <|
ee) (by kernel_rfl)
theorem q_xFq1_1_1 (n : Nat) {rnd : Option Nat} (x1_0 : List (Bool)) (x1_1 x1_2 : Nat) (x1_3 : NL) (x1_4 x1_5 : Int) (hy1_1 : x1_5 < x1_4) (hy1_2 : 0 ≤ x1_5 ∧ x1_5 < (x1_3.l.length : Int)) (hy1_3 : (x1_5).toNat < ((x1_3).l).length) (y1_4_ : Int) (hy1_4 : (some (((x1_3).l).getD (x1_5).toNat 0)) = some y1_4_) (y1_5_ : Bool) (hy1_5 : m_treeStale1q1 n y1_4_ x1_0 x1_1 x1_2 = some y1_5_) (hy1_6 : ¬ (y1_5_ = true)) : Q_xFq1_1 rnd x1_0 x1_1 x1_2 x1_3 x1_4 x1_5 (.normal, S_xFq1_1 x1_0 x1_1 x1_2 x1_3 x1_4 (w64 (x1_5 + (1 : Int)))) :=
 runC2 hm (L := lT []) ⟨[0, 1, 7, 8], [(0, 0, false), (1, 1, true)], 2, 2, [], false, []⟩ (zz 1 (xdT hy1_1) <|
zz 13 (xk6 (Nat.add (x1_3).num 64) (x1_3).cap hy1_2) <|
zz 14 (nk7 hy1_4 hy1_3) <|
yy 15 (.call (C_treeStale1q1 y1_4_ x1_0 x1_1 x1_2 y1_5_ [(0, 0, false), (1, 1, true)] [])) <|
ww (m_treeStale1q1_ok n y1_4_ x1_0 x1_1 x1_2 y1_5_ hy1_5) <|
ww (rows_flat rwf_b x1_0 4) <|
zz 16 (xbF hy1_6) <|
ww (rows_flat rwf_b x1_0 4) <|
ee) (by kernel_rfl)
theorem q_xFq1_1_2 (n : Nat) {rnd : Option Nat} (x1_0 : List (Bool)) (x1_1 x1_2 : Nat) (x1_3 : NL) (x1_4 x1_5 : Int) (hy1_1 : ¬ (x1_5 < x1_4)) : Q_xFq1_1 rnd x1_0 x1_1 x1_2 x1_3 x1_4 x1_5 (X_xFq1_1 x1_0 x1_1 x1_2 x1_3 x1_4 (.inr ())) :=
 runC2 hm (L := lT []) ⟨[], [(0, 0, false), (1, 1, true)], 2, 2, [], false, []⟩ (zz 1 (xdF hy1_1) <|
ww (rows_flat rwf_b x1_0 4) <|
ee) (by kernel_rfl)
theorem m_xFq1_1_ok (n : Nat) {rnd : Option Nat} (x1_0 : List (Bool)) (x1_1 : Nat) (x1_2 : Nat) (x1_3 : NL) (x1_4 : Int) (st : Int) (r : (Int) ⊕ (Unit)) (h : m_xFq1_1 n x1_0 x1_1 x1_2 x1_3 x1_4 st = some r) : CG P rnd (fnN P 39) 2 (codeOf P 39 [false, true, false, true]) (S_xFq1_1 x1_0 x1_1 x1_2 x1_3 x1_4 st) (X_xFq1_1 x1_0 x1_1 x1_2 x1_3 x1_4 r) :=
 CG.iter (b := codeOf P 39 [false, false, true, false, true]) (by kernel_rfl) (body := B_xFq1_1 n x1_0 x1_1 x1_2 x1_3 x1_4) (S := S_xFq1_1 x1_0 x1_1 x1_2 x1_3 x1_4) (X := X_xFq1_1 x1_0 x1_1 x1_2 x1_3 x1_4)
  (fun x1_5 s' h => by
  unfold B_xFq1_1 at h
  dsimp only at h
  by_cases hy1_1 : x1_5 < x1_4
  ·rw [if_pos hy1_1] at h
   by_cases hy1_2 : 0 ≤ x1_5 ∧ x1_5 < (x1_3.l.length : Int)
   ·rw [if_pos hy1_2] at h
    by_cases hy1_3 : (x1_5).toNat < ((x1_3).l).length
    ·rw [if_pos hy1_3] at h
     obtain ⟨y1_4_, hy1_4, h⟩ := Option.bind_eq_some_iff.1 h
     obtain ⟨y1_5_, hy1_5, h⟩ := Option.bind_eq_some_iff.1 h
     by_cases hy1_6 : y1_5_ = true
     ·rw [if_pos hy1_6] at h
      cases h
     ·rw [if_neg hy1_6] at h
      obtain rfl := Sum.inl.inj (oI h); exact q_xFq1_1_1 n x1_0 x1_1 x1_2 x1_3 x1_4 x1_5 hy1_1 hy1_2 hy1_3 y1_4_ hy1_4 y1_5_ hy1_5 hy1_6
    ·rw [if_neg hy1_3] at h; cases h
   ·rw [if_neg hy1_2] at h; cases h
  ·rw [if_neg hy1_1] at h
   cases h)
  (fun x1_5 r h => by
  unfold B_xFq1_1 at h
  dsimp only at h
  by_cases hy1_1 : x1_5 < x1_4
  ·rw [if_pos hy1_1] at h
   by_cases hy1_2 : 0 ≤ x1_5 ∧ x1_5 < (x1_3.l.length : Int)
   ·rw [if_pos hy1_2] at h
    by_cases hy1_3 : (x1_5).toNat < ((x1_3).l).length
    ·rw [if_pos hy1_3] at h
     obtain ⟨y1_4_, hy1_4, h⟩ := Option.bind_eq_some_iff.1 h
     obtain ⟨y1_5_, hy1_5, h⟩ := Option.bind_eq_some_iff.1 h
     by_cases hy1_6 : y1_5_ = true
     ·rw [if_pos hy1_6] at h
      obtain rfl := Sum.inr.inj (oI h); exact q_xFq1_1_0 n x1_0 x1_1 x1_2 x1_3 x1_4 x1_5 hy1_1 hy1_2 hy1_3 y1_4_ hy1_4 y1_5_ hy1_5 hy1_6
     ·rw [if_neg hy1_6] at h
      cases h
    ·rw [if_neg hy1_3] at h; cases h
   ·rw [if_neg hy1_2] at h; cases h
  ·rw [if_neg hy1_1] at h
   obtain rfl := Sum.inr.inj (oI h); exact q_xFq1_1_2 n x1_0 x1_1 x1_2 x1_3 x1_4 x1_5 hy1_1)
  (fun r => by intro hx; rcases r with _ | _ <;> cases hx) h
def m_xFq1 (n : Nat) (a0 : NL) (a1 : List (Bool)) (a2 : Nat) (a3 : Nat) : Option (Int) :=
 match m_xFq1_1 n a1 a2 a3 a0 (a0.l.length : Int) 0 with
 | none => none
 | some (.inl c1_) =>
  some c1_
 | some (.inr _) =>
  some (-1)
theorem m_xFq1_ok (n : Nat) (a0 : NL) (a1 : List (Bool)) (a2 : Nat) (a3 : Nat) (r : Int) (h : m_xFq1 n a0 a1 a2 a3 = some r) : Gv P (.func 39) (A_xFq1 a0 a1 a2 a3) (H_xFq1 a0 a1 a2 a3) (V_xFq1 a0 a1 a2 a3 r) (R_xFq1 a0 a1 a2 a3 r) := by
 unfold m_xFq1 at h
 rcases hc1 : m_xFq1_1 n a1 a2 a3 a0 (a0.l.length : Int) 0 with _ | (c1_ | ⟨⟩)
 ·rw [hc1] at h; cases h
 ·rw [hc1] at h
  dsimp only at h
  obtain rfl := oI h; exact (runF2 hm (L := lT [(8, ⟨⟨[0, 1, 7, 8], [(0, 0, false), (1, 1, true)], 2, 2, [], false, []⟩, (X_xFq1_1 a1 a2 a3 a0 (a0.l.length : Int) (.inl c1_)).1, (X_xFq1_1 a1 a2 a3 a0 (a0.l.length : Int) (.inl c1_)).2⟩)]) ⟨[4], [], 2, 2, [], false, []⟩ (ww (p := U_xFq1_1 none a1 a2 a3 a0 (a0.l.length : Int) 0 (.inl c1_)) (m_xFq1_1_ok n a1 a2 a3 a0 (a0.l.length : Int) 0 (.inl c1_) hc1) <|
ww (rows_flat rwf_b a1 4) ee) (by kernel_rfl))
 ·rw [hc1] at h
  dsimp only at h
  obtain rfl := oI h; exact (runF2 hm (L := lT [(8, ⟨⟨[0, 1, 7, 8], [(0, 0, false), (1, 1, true)], 2, 2, [], false, []⟩, (X_xFq1_1 a1 a2 a3 a0 (a0.l.length : Int) (.inr ())).1, (X_xFq1_1 a1 a2 a3 a0 (a0.l.length : Int) (.inr ())).2⟩)]) ⟨[4], [], 2, 2, [], false, []⟩ (ww (p := U_xFq1_1 none a1 a2 a3 a0 (a0.l.length : Int) 0 (.inr ())) (m_xFq1_1_ok n a1 a2 a3 a0 (a0.l.length : Int) 0 (.inr ()) hc1) <|
ww (rows_flat rwf_b a1 4) ee) (by kernel_rfl))

def A_cFq1 (a0 : NL) (a1 : List (Bool)) (a2 : Nat) (a3 : Nat) : List Value := [(nlV a0), (Value.func (.func 24) #[] #[(pN 0 0)])]
def H_cFq1 (a0 : NL) (a1 : List (Bool)) (a2 : Nat) (a3 : Nat) : AH := ⟨sB [(0, (some (.cells (layT [(sN 1 0 a2 a3)]) 37))), (1, (some (.cells (layT (rows rw_b a1)) 4)))], 2, 2⟩
def V_cFq1 (a0 : NL) (a1 : List (Bool)) (a2 : Nat) (a3 : Nat) (r : Bool) : Value := match r with
 | o0 => (bO o0)
def R_cFq1 (a0 : NL) (a1 : List (Bool)) (a2 : Nat) (a3 : Nat) (r : Bool) : AH := match r with
 | o0 => ⟨sB [], 2, 2⟩
abbrev G_cFq1 (a0 : NL) (a1 : List (Bool)) (a2 : Nat) (a3 : Nat) (r : Bool) : Prop := Gv P (.func 23) (A_cFq1 a0 a1 a2 a3) (H_cFq1 a0 a1 a2 a3) (V_cFq1 a0 a1 a2 a3 r) (R_cFq1 a0 a1 a2 a3 r)
abbrev C_cFq1 (a0 : NL) (a1 : List (Bool)) (a2 : Nat) (a3 : Nat) (r : Bool) (ins outs : BL) : CallA := ⟨2, ins, V_cFq1 a0 a1 a2 a3 r, R_cFq1 a0 a1 a2 a3 r, outs⟩
def m_cFq1 (n : Nat) (a0 : NL) (a1 : List (Bool)) (a2 : Nat) (a3 : Nat) : Option (Bool) :=
 (m_xFq1 n a0 a1 a2 a3).bind fun c1_ =>
 if c1_ ≥ (0 : Int) then
  some true
 else
  some false
theorem m_cFq1_ok (n : Nat) (a0 : NL) (a1 : List (Bool)) (a2 : Nat) (a3 : Nat) (r : Bool) (h : m_cFq1 n a0 a1 a2 a3 = some r) : Gv P (.func 23) (A_cFq1 a0 a1 a2 a3) (H_cFq1 a0 a1 a2 a3) (V_cFq1 a0 a1 a2 a3 r) (R_cFq1 a0 a1 a2 a3 r) := by
 unfold m_cFq1 at h
 obtain ⟨c1_, hc1, h⟩ := Option.bind_eq_some_iff.1 h
 by_cases hc2 : c1_ ≥ (0 : Int)
 ·rw [if_pos hc2] at h
  obtain rfl := oI h; exact (runF2 hm (L := lT []) ⟨[4], [], 2, 2, [], false, []⟩ (yy 5 (.call (C_xFq1 a0 a1 a2 a3 c1_ [(0, 0, false), (1, 1, true)] [])) <|
ww (m_xFq1_ok n a0 a1 a2 a3 c1_ hc1) <|
ww (rows_flat rwf_b a1 4) <|
zz 6 (xdT hc2) ee) (by kernel_rfl))
 ·rw [if_neg hc2] at h
  obtain rfl := oI h; exact (runF2 hm (L := lT []) ⟨[4], [], 2, 2, [], false, []⟩ (yy 5 (.call (C_xFq1 a0 a1 a2 a3 c1_ [(0, 0, false), (1, 1, true)] [])) <|
ww (m_xFq1_ok n a0 a1 a2 a3 c1_ hc1) <|
ww (rows_flat rwf_b a1 4) <|
zz 6 (xdF hc2) ee) (by kernel_rfl))

def A_treeStale_111010y1 (a0 : List (Bool)) (a1 : Nat) (a2 : Nat) (a3 : List R8) (a4 : Nat) (a5 : Nat) (a6 : Int) (a7 : Int) (a8 : Int) (a9 : Int) (a10 : Int) (a11 : Int) (a12 : Int) (a13 : NL) (a14 : Int) : List Value := [(i6 a6), (Value.agg #[(i6 a7), (i6 a8), (i6 a9), (i6 a10), (i6 a11), (i6 a12), (nlV a13), (Value.int .u64 a14)])]
def H_treeStale_111010y1 (a0 : List (Bool)) (a1 : Nat) (a2 : Nat) (a3 : List R8) (a4 : Nat) (a5 : Nat) (a6 : Int) (a7 : Int) (a8 : Int) (a9 : Int) (a10 : Int) (a11 : Int) (a12 : Int) (a13 : NL) (a14 : Int) : AH := ⟨sB [(0, (some (rblk P 10 [false, true, false, true, true, true] .ready none [(3, (pN 2 0)), (13, (Value.func (.func 33) #[] #[(pN 4 0)]))] 1))), (1, (some (.marks true))), (2, (some (.cells (layT [(sN 3 0 a1 a2)]) 37))), (3, (some (.cells (layT (rows rw_b a0)) 4))), (4, (some (.cells (layT [(sN 5 0 a4 a5)]) 22))), (5, (some (.cells (layT (rows rw_iiiiiiLu a3)) 32)))], 6, 6⟩
def V_treeStale_111010y1 (a0 : List (Bool)) (a1 : Nat) (a2 : Nat) (a3 : List R8) (a4 : Nat) (a5 : Nat) (a6 : Int) (a7 : Int) (a8 : Int) (a9 : Int) (a10 : Int) (a11 : Int) (a12 : Int) (a13 : NL) (a14 : Int) (r : List (Bool)) : Value := match r with
 | o0 => (bO true)
def R_treeStale_111010y1 (a0 : List (Bool)) (a1 : Nat) (a2 : Nat) (a3 : List R8) (a4 : Nat) (a5 : Nat) (a6 : Int) (a7 : Int) (a8 : Int) (a9 : Int) (a10 : Int) (a11 : Int) (a12 : Int) (a13 : NL) (a14 : Int) (r : List (Bool)) : AH := match r with
 | o0 => ⟨sB [(0, (some (rblk P 10 [false, true, false, true, true, true] .ready none [(3, (pN 2 0)), (13, (Value.func (.func 33) #[] #[(pN 4 0)]))] 1))), (1, (some (.marks true))), (2, (some (.cells (layT [(sN 3 0 a1 a2)]) 37))), (3, (some (.cells (layT (rows rw_b o0)) 4))), (4, (some (.cells (layT [(sN 5 0 a4 a5)]) 22))), (5, (some (.cells (layT (rows rw_iiiiiiLu a3)) 32)))], 6, 0⟩
abbrev G_treeStale_111010y1 (a0 : List (Bool)) (a1 : Nat) (a2 : Nat) (a3 : List R8) (a4 : Nat) (a5 : Nat) (a6 : Int) (a7 : Int) (a8 : Int) (a9 : Int) (a10 : Int) (a11 : Int) (a12 : Int) (a13 : NL) (a14 : Int) (r : List (Bool)) : Prop := Gv P (.yield 0) (A_treeStale_111010y1 a0 a1 a2 a3 a4 a5 a6 a7 a8 a9 a10 a11 a12 a13 a14) (H_treeStale_111010y1 a0 a1 a2 a3 a4 a5 a6 a7 a8 a9 a10 a11 a12 a13 a14) (V_treeStale_111010y1 a0 a1 a2 a3 a4 a5 a6 a7 a8 a9 a10 a11 a12 a13 a14 r) (R_treeStale_111010y1 a0 a1 a2 a3 a4 a5 a6 a7 a8 a9 a10 a11 a12 a13 a14 r)
abbrev C_treeStale_111010y1 (a0 : List (Bool)) (a1 : Nat) (a2 : Nat) (a3 : List R8) (a4 : Nat) (a5 : Nat) (a6 : Int) (a7 : Int) (a8 : Int) (a9 : Int) (a10 : Int) (a11 : Int) (a12 : Int) (a13 : NL) (a14 : Int) (r : List (Bool)) (ins outs : BL) : CallA := ⟨6, ins, V_treeStale_111010y1 a0 a1 a2 a3 a4 a5 a6 a7 a8 a9 a10 a11 a12 a13 a14 r, R_treeStale_111010y1 a0 a1 a2 a3 a4 a5 a6 a7 a8 a9 a10 a11 a12 a13 a14 r, outs⟩
def m_treeStale_111010y1 (n : Nat) (a0 : List (Bool)) (a1 : Nat) (a2 : Nat) (a3 : List R8) (a4 : Nat) (a5 : Nat) (a6 : Int) (a7 : Int) (a8 : Int) (a9 : Int) (a10 : Int) (a11 : Int) (a12 : Int) (a13 : NL) (a14 : Int) : Option (List (Bool)) :=
 if a14 = (0 : Int) then
  (m_cFq1 n a13 a0 a1 a2).bind fun c2_ =>
  if 0 ≤ a6 ∧ a6 < ((a1 : Nat) : Int) then
   if (a6).toNat < (a0).length then
    some ((a0).set (a6).toNat c2_)
   else none
  else none
 else
  if 0 ≤ a6 ∧ a6 < ((a1 : Nat) : Int) then
   if (a6).toNat < (a0).length then
    some ((a0).set (a6).toNat true)
   else none
  else none
theorem m_treeStale_111010y1_ok (n : Nat) (a0 : List (Bool)) (a1 : Nat) (a2 : Nat) (a3 : List R8) (a4 : Nat) (a5 : Nat) (a6 : Int) (a7 : Int) (a8 : Int) (a9 : Int) (a10 : Int) (a11 : Int) (a12 : Int) (a13 : NL) (a14 : Int) (r : List (Bool)) (h : m_treeStale_111010y1 n a0 a1 a2 a3 a4 a5 a6 a7 a8 a9 a10 a11 a12 a13 a14 = some r) : Gv P (.yield 0) (A_treeStale_111010y1 a0 a1 a2 a3 a4 a5 a6 a7 a8 a9 a10 a11 a12 a13 a14) (H_treeStale_111010y1 a0 a1 a2 a3 a4 a5 a6 a7 a8 a9 a10 a11 a12 a13 a14) (V_treeStale_111010y1 a0 a1 a2 a3 a4 a5 a6 a7 a8 a9 a10 a11 a12 a13 a14 r) (R_treeStale_111010y1 a0 a1 a2 a3 a4 a5 a6 a7 a8 a9 a10 a11 a12 a13 a14 r) := by
 unfold m_treeStale_111010y1 at h
 by_cases hc1 : a14 = (0 : Int)
 ·rw [if_pos hc1] at h
  obtain ⟨c2_, hc2, h⟩ := Option.bind_eq_some_iff.1 h
  by_cases hc3 : 0 ≤ a6 ∧ a6 < ((a1 : Nat) : Int)
  ·rw [if_pos hc3] at h
   by_cases hc4 : (a6).toNat < (a0).length
   ·rw [if_pos hc4] at h
    obtain rfl := oI h; exact (runY_ok hm (A1 := aT []) (L1 := lT []) (A2 := aT [(5, vf), (10, .call (C_cFq1 a13 a0 a1 a2 c2_ [(0, 2, false), (1, 3, true)] [])), (12, .pur (pN 3 ((a6).toNat * 1))), (13, .sto (layT (rows rw_b ((a0).set (a6).toNat c2_))))]) (L2 := lT []) (wk := ⟨[], [(0, 0, false), (1, 1, false), (2, 2, false), (3, 3, true), (4, 4, false), (5, 5, true)], 6, 0, [], false, []⟩) (ps := [nF a14 0, G_cFq1 a13 a0 a1 a2 c2_, FlatB (.cells (layT (rows rw_b a0)) 4), xp21 3 a1 a2 a6, ∃ old, rdT (layT (rows rw_b a0)) 1 ((a6).toNat * 1) = some old, layL [(bO c2_)] ((a6).toNat * 1) (layT (rows rw_b a0)) = layT (rows rw_b ((a0).set (a6).toNat c2_)), FlatB (.cells (layT (rows rw_b ((a0).set (a6).toNat c2_))) 4), FlatB (.cells (layT (rows rw_iiiiiiLu a3)) 32)]) (by kernel_rfl) ⟨((xnF hc1).p), (m_cFq1_ok n a13 a0 a1 a2 c2_ hc2), (rows_flat rwf_b a0 4), ((xk21 3 a2 hc3).p), (Exists.elim (rows_st rwf_b (false) (i := (a6).toNat) (j := 0) (l := [(bO c2_)]) c2_ ((a6).toNat * 1) rfl (hc4) (Nat.le_of_ble_eq_true rfl) rfl) fun o h => ⟨o, h.1⟩), (Exists.elim (rows_st rwf_b (false) (i := (a6).toNat) (j := 0) (l := [(bO c2_)]) c2_ ((a6).toNat * 1) rfl (hc4) (Nat.le_of_ble_eq_true rfl) rfl) fun o h => h.2), (rows_flat rwf_b ((a0).set (a6).toNat c2_) 4), (rows_flat rwf_iiiiiiLu a3 32), trivial⟩)
   ·rw [if_neg hc4] at h; cases h
  ·rw [if_neg hc3] at h; cases h
 ·rw [if_neg hc1] at h
  by_cases hc2 : 0 ≤ a6 ∧ a6 < ((a1 : Nat) : Int)
  ·rw [if_pos hc2] at h
   by_cases hc3 : (a6).toNat < (a0).length
   ·rw [if_pos hc3] at h
    obtain rfl := oI h; exact (runY_ok hm (A1 := aT []) (L1 := lT []) (A2 := aT [(5, vt), (12, .pur (pN 3 ((a6).toNat * 1))), (13, .sto (layT (rows rw_b ((a0).set (a6).toNat true))))]) (L2 := lT []) (wk := ⟨[], [(0, 0, false), (1, 1, false), (2, 2, false), (3, 3, true), (4, 4, false), (5, 5, true)], 6, 0, [], false, []⟩) (ps := [nT a14 0, xp21 3 a1 a2 a6, ∃ old, rdT (layT (rows rw_b a0)) 1 ((a6).toNat * 1) = some old, layL [(bO true)] ((a6).toNat * 1) (layT (rows rw_b a0)) = layT (rows rw_b ((a0).set (a6).toNat true)), FlatB (.cells (layT (rows rw_b ((a0).set (a6).toNat true))) 4), FlatB (.cells (layT (rows rw_iiiiiiLu a3)) 32)]) (by kernel_rfl) ⟨((xnT hc1).p), ((xk21 3 a2 hc2).p), (Exists.elim (rows_st rwf_b (false) (i := (a6).toNat) (j := 0) (l := [(bO true)]) true ((a6).toNat * 1) rfl (hc3) (Nat.le_of_ble_eq_true rfl) rfl) fun o h => ⟨o, h.1⟩), (Exists.elim (rows_st rwf_b (false) (i := (a6).toNat) (j := 0) (l := [(bO true)]) true ((a6).toNat * 1) rfl (hc3) (Nat.le_of_ble_eq_true rfl) rfl) fun o h => h.2), (rows_flat rwf_b ((a0).set (a6).toNat true) 4), (rows_flat rwf_iiiiiiLu a3 32), trivial⟩)
   ·rw [if_neg hc3] at h; cases h
  ·rw [if_neg hc2] at h; cases h

def A_bK1q2 (a0 : List (Bool)) (a1 : Nat) (a2 : Nat) (a3 : List R8) (a4 : Nat) (a5 : Nat) : List Value := [(Value.func (.yield 0) #[] #[]), (pN 4 0)]
def H_bK1q2 (a0 : List (Bool)) (a1 : Nat) (a2 : Nat) (a3 : List R8) (a4 : Nat) (a5 : Nat) : AH := ⟨sB [(0, (some (rblk P 10 [false, true, false, true, true, true] .ready none [(3, (pN 2 0)), (13, (Value.func (.func 33) #[] #[(pN 4 0)]))] 1))), (1, (some (.marks true))), (2, (some (.cells (layT [(sN 3 0 a1 a2)]) 37))), (3, (some (.cells (layT (rows rw_b a0)) 4))), (4, (some (.cells (layT [(sN 5 0 a4 a5)]) 22))), (5, (some (.cells (layT (rows rw_iiiiiiLu a3)) 32)))], 6, 6⟩
def V_bK1q2 (a0 : List (Bool)) (a1 : Nat) (a2 : Nat) (a3 : List R8) (a4 : Nat) (a5 : Nat) (r : List (Bool)) : Value := match r with
 | o0 => (Value.tuple #[])
def R_bK1q2 (a0 : List (Bool)) (a1 : Nat) (a2 : Nat) (a3 : List R8) (a4 : Nat) (a5 : Nat) (r : List (Bool)) : AH := match r with
 | o0 => ⟨sB [(0, (some (rblk P 10 [false, true, false, true, true, true] .ready none [(3, (pN 2 0)), (13, (Value.func (.func 33) #[] #[(pN 4 0)]))] 1))), (1, (some (.marks true))), (2, (some (.cells (layT [(sN 3 0 a1 a2)]) 37))), (3, (some (.cells (layT (rows rw_b o0)) 4))), (4, (some (.cells (layT [(sN 5 0 a4 a5)]) 22))), (5, (some (.cells (layT (rows rw_iiiiiiLu a3)) 32)))], 6, 0⟩
abbrev G_bK1q2 (a0 : List (Bool)) (a1 : Nat) (a2 : Nat) (a3 : List R8) (a4 : Nat) (a5 : Nat) (r : List (Bool)) : Prop := Gv P (.func 33) (A_bK1q2 a0 a1 a2 a3 a4 a5) (H_bK1q2 a0 a1 a2 a3 a4 a5) (V_bK1q2 a0 a1 a2 a3 a4 a5 r) (R_bK1q2 a0 a1 a2 a3 a4 a5 r)
abbrev C_bK1q2 (a0 : List (Bool)) (a1 : Nat) (a2 : Nat) (a3 : List R8) (a4 : Nat) (a5 : Nat) (r : List (Bool)) (ins outs : BL) : CallA := ⟨6, ins, V_bK1q2 a0 a1 a2 a3 a4 a5 r, R_bK1q2 a0 a1 a2 a3 a4 a5 r, outs⟩
def S_bK1q2_1 (x1_1 : Nat) (x1_2 : Nat) (x1_3 : List R8) (x1_4 : Nat) (x1_5 : Nat) (st : List (Bool) × Int) : XSt := match st with
 | (x1_0, x1_6) => (sT 19 [(0, (Value.func (.yield 0) #[] #[])), (1, (pN 4 0)), (3, (i6 x1_6))], [], ⟨sB [(0, (some (rblk P 10 [false, true, false, true, true, true] .ready none [(3, (pN 2 0)), (13, (Value.func (.func 33) #[] #[(pN 4 0)]))] 1))), (1, (some (.marks true))), (2, (some (.cells (layT [(sN 3 0 x1_1 x1_2)]) 37))), (3, (some (.cells (layT (rows rw_b x1_0)) 4))), (4, (some (.cells (layT [(sN 5 0 x1_4 x1_5)]) 22))), (5, (some (.cells (layT (rows rw_iiiiiiLu x1_3)) 32)))], 6, 0⟩)
def X_bK1q2_1 (x1_1 : Nat) (x1_2 : Nat) (x1_3 : List R8) (x1_4 : Nat) (x1_5 : Nat) (r : List (Bool)) : Ex × XSt := match r with
 | z1_0 => (.exit 0, (sT 19 [], [], ⟨sB [(0, (some (rblk P 10 [false, true, false, true, true, true] .ready none [(3, (pN 2 0)), (13, (Value.func (.func 33) #[] #[(pN 4 0)]))] 1))), (1, (some (.marks true))), (2, (some (.cells (layT [(sN 3 0 x1_1 x1_2)]) 37))), (3, (some (.cells (layT (rows rw_b z1_0)) 4))), (4, (some (.cells (layT [(sN 5 0 x1_4 x1_5)]) 22))), (5, (some (.cells (layT (rows rw_iiiiiiLu x1_3)) 32)))], 6, 0⟩))
abbrev Q_bK1q2_1 (rnd : Option Nat) (x1_1 : Nat) (x1_2 : Nat) (x1_3 : List R8) (x1_4 : Nat) (x1_5 : Nat) (st : List (Bool) × Int) (c : Ex × XSt) : Prop := CG P rnd (fnN P 33) 6 (codeOf P 33 [false, false, true]) (S_bK1q2_1 x1_1 x1_2 x1_3 x1_4 x1_5 st) c
abbrev U_bK1q2_1 (rd : Option Nat) (x1_1 : Nat) (x1_2 : Nat) (x1_3 : List R8) (x1_4 : Nat) (x1_5 : Nat) (st : List (Bool) × Int) (r : List (Bool)) : Prop := CG P rd (fnN P 33) 6 (codeOf P 33 [false, true]) (S_bK1q2_1 x1_1 x1_2 x1_3 x1_4 x1_5 st) (X_bK1q2_1 x1_1 x1_2 x1_3 x1_4 x1_5 r)
def B_bK1q2_1 (n : Nat) (x1_1 : Nat) (x1_2 : Nat) (x1_3 : List R8) (x1_4 : Nat) (x1_5 : Nat) (st : List (Bool) × Int) : Option ((List (Bool) × Int) ⊕ (List (Bool))) := match st with
 | (x1_0, x1_6) =>
  if x1_6 ≥ (0 : Int) then
   if 0 ≤ x1_6 ∧ x1_6 < ((x1_4 : Nat) : Int) then
    if (x1_6).toNat < (x1_3).length then
     ((some ((x1_3).getD (x1_6).toNat (0, 0, 0, 0, 0, 0, nl0, 0)))).bind fun y1_4_ =>
     (m_treeStale_111010y1 n x1_0 x1_1 x1_2 x1_3 x1_4 x1_5 x1_6 (y1_4_.1) (y1_4_.2.1) (y1_4_.2.2.1) (y1_4_.2.2.2.1) (y1_4_.2.2.2.2.1) (y1_4_.2.2.2.2.2.1) (y1_4_.2.2.2.2.2.2.1) (y1_4_.2.2.2.2.2.2.2)).bind fun y1_5_ =>
     some (.inl (y1_5_, (w64 (x1_6 - (1 : Int)))))
    else none
   else none
  else
   some (.inr x1_0)
def m_bK1q2_1 (n : Nat) (x1_1 : Nat) (x1_2 : Nat) (x1_3 : List R8) (x1_4 : Nat) (x1_5 : Nat) (st : List (Bool) × Int) : Option (List (Bool)) := iterM (B_bK1q2_1 n x1_1 x1_2 x1_3 x1_4 x1_5) n st
theorem q_bK1q2_1_0 (n : Nat) {rnd : Option Nat} (x1_0 : List (Bool)) (x1_1 x1_2 : Nat) (x1_3 : List R8) (x1_4 x1_5 : Nat) (x1_6 : Int) (hy1_1 : x1_6 ≥ (0 : Int)) (hy1_2 : 0 ≤ x1_6 ∧ x1_6 < ((x1_4 : Nat) : Int)) (hy1_3 : (x1_6).toNat < (x1_3).length) (y1_4_ : R8) (hy1_4 : (some ((x1_3).getD (x1_6).toNat (0, 0, 0, 0, 0, 0, nl0, 0))) = some y1_4_) (y1_5_ : List (Bool)) (hy1_5 : m_treeStale_111010y1 n x1_0 x1_1 x1_2 x1_3 x1_4 x1_5 x1_6 (y1_4_.1) (y1_4_.2.1) (y1_4_.2.2.1) (y1_4_.2.2.2.1) (y1_4_.2.2.2.2.1) (y1_4_.2.2.2.2.2.1) (y1_4_.2.2.2.2.2.2.1) (y1_4_.2.2.2.2.2.2.2) = some y1_5_) : Q_bK1q2_1 rnd x1_1 x1_2 x1_3 x1_4 x1_5 (x1_0, x1_6) (.normal, S_bK1q2_1 x1_1 x1_2 x1_3 x1_4 x1_5 (y1_5_, (w64 (x1_6 - (1 : Int))))) :=
 runC2 hm (L := lT []) ⟨[0, 1, 3], [(0, 0, false), (1, 1, false), (2, 2, false), (3, 3, true), (4, 4, false), (5, 5, true)], 6, 0, [], false, []⟩ (zz 3 (xdT hy1_1) <|
zz 12 (xk18 5 x1_5 hy1_2) <|
yy 13 (.ld (Value.agg #[(i6 (y1_4_.1)), (i6 (y1_4_.2.1)), (i6 (y1_4_.2.2.1)), (i6 (y1_4_.2.2.2.1)), (i6 (y1_4_.2.2.2.2.1)), (i6 (y1_4_.2.2.2.2.2.1)), (nlV (y1_4_.2.2.2.2.2.2.1)), (Value.int .u64 (y1_4_.2.2.2.2.2.2.2))])) <|
ww (p := rdT (layT (rows rw_iiiiiiLu x1_3)) 8 ((x1_6).toNat * 8) = some [(i6 (y1_4_.1)), (i6 (y1_4_.2.1)), (i6 (y1_4_.2.2.1)), (i6 (y1_4_.2.2.2.1)), (i6 (y1_4_.2.2.2.2.1)), (i6 (y1_4_.2.2.2.2.2.1)), (nlV (y1_4_.2.2.2.2.2.2.1)), (Value.int .u64 (y1_4_.2.2.2.2.2.2.2))]) (rows_rdpN rwf_iiiiiiLu (0, 0, 0, 0, 0, 0, nl0, 0) (hr := hy1_4) (i := (x1_6).toNat) (j := 0) ((x1_6).toNat * 8) rfl (hy1_3) (by decide) rfl) <|
yy 14 (.call (C_treeStale_111010y1 x1_0 x1_1 x1_2 x1_3 x1_4 x1_5 x1_6 (y1_4_.1) (y1_4_.2.1) (y1_4_.2.2.1) (y1_4_.2.2.2.1) (y1_4_.2.2.2.2.1) (y1_4_.2.2.2.2.2.1) (y1_4_.2.2.2.2.2.2.1) (y1_4_.2.2.2.2.2.2.2) y1_5_ [(0, 0, false), (1, 1, false), (2, 2, false), (3, 3, true), (4, 4, false), (5, 5, true)] [(0, 0, false), (1, 1, false), (2, 2, false), (3, 3, true), (4, 4, false), (5, 5, true)])) <|
ww (m_treeStale_111010y1_ok n x1_0 x1_1 x1_2 x1_3 x1_4 x1_5 x1_6 (y1_4_.1) (y1_4_.2.1) (y1_4_.2.2.1) (y1_4_.2.2.2.1) (y1_4_.2.2.2.2.1) (y1_4_.2.2.2.2.2.1) (y1_4_.2.2.2.2.2.2.1) (y1_4_.2.2.2.2.2.2.2) y1_5_ hy1_5) <|
ww (rows_flat rwf_b x1_0 4) <|
ww (rows_flat rwf_iiiiiiLu x1_3 32) <|
ww (rows_flat rwf_b y1_5_ 4) <|
ww (rows_flat rwf_iiiiiiLu x1_3 32) <|
ww (rows_flat rwf_b y1_5_ 4) <|
ww (rows_flat rwf_iiiiiiLu x1_3 32) <|
ee) (by kernel_rfl)
theorem q_bK1q2_1_1 (n : Nat) {rnd : Option Nat} (x1_0 : List (Bool)) (x1_1 x1_2 : Nat) (x1_3 : List R8) (x1_4 x1_5 : Nat) (x1_6 : Int) (hy1_1 : ¬ (x1_6 ≥ (0 : Int))) : Q_bK1q2_1 rnd x1_1 x1_2 x1_3 x1_4 x1_5 (x1_0, x1_6) (X_bK1q2_1 x1_1 x1_2 x1_3 x1_4 x1_5 x1_0) :=
 runC2 hm (L := lT []) ⟨[], [(0, 0, false), (1, 1, false), (2, 2, false), (3, 3, true), (4, 4, false), (5, 5, true)], 6, 0, [], false, []⟩ (zz 3 (xdF hy1_1) <|
ww (rows_flat rwf_b x1_0 4) <|
ww (rows_flat rwf_iiiiiiLu x1_3 32) <|
ee) (by kernel_rfl)
theorem m_bK1q2_1_ok (n : Nat) {rnd : Option Nat} (x1_1 : Nat) (x1_2 : Nat) (x1_3 : List R8) (x1_4 : Nat) (x1_5 : Nat) (st : List (Bool) × Int) (r : List (Bool)) (h : m_bK1q2_1 n x1_1 x1_2 x1_3 x1_4 x1_5 st = some r) : CG P rnd (fnN P 33) 6 (codeOf P 33 [false, true]) (S_bK1q2_1 x1_1 x1_2 x1_3 x1_4 x1_5 st) (X_bK1q2_1 x1_1 x1_2 x1_3 x1_4 x1_5 r) :=
 CG.iter (b := codeOf P 33 [false, false, true]) (by kernel_rfl) (body := B_bK1q2_1 n x1_1 x1_2 x1_3 x1_4 x1_5) (S := S_bK1q2_1 x1_1 x1_2 x1_3 x1_4 x1_5) (X := X_bK1q2_1 x1_1 x1_2 x1_3 x1_4 x1_5)
  (fun s s' h => by
  obtain ⟨x1_0, x1_6⟩ := s
  unfold B_bK1q2_1 at h
  dsimp only at h
  by_cases hy1_1 : x1_6 ≥ (0 : Int)
  ·rw [if_pos hy1_1] at h
   by_cases hy1_2 : 0 ≤ x1_6 ∧ x1_6 < ((x1_4 : Nat) : Int)
   ·rw [if_pos hy1_2] at h
    by_cases hy1_3 : (x1_6).toNat < (x1_3).length
    ·rw [if_pos hy1_3] at h
     obtain ⟨y1_4_, hy1_4, h⟩ := Option.bind_eq_some_iff.1 h
     obtain ⟨y1_5_, hy1_5, h⟩ := Option.bind_eq_some_iff.1 h
     obtain rfl := Sum.inl.inj (oI h); exact q_bK1q2_1_0 n x1_0 x1_1 x1_2 x1_3 x1_4 x1_5 x1_6 hy1_1 hy1_2 hy1_3 y1_4_ hy1_4 y1_5_ hy1_5
    ·rw [if_neg hy1_3] at h; cases h
   ·rw [if_neg hy1_2] at h; cases h
  ·rw [if_neg hy1_1] at h
   cases h)
  (fun s r h => by
  obtain ⟨x1_0, x1_6⟩ := s
  unfold B_bK1q2_1 at h
  dsimp only at h
  by_cases hy1_1 : x1_6 ≥ (0 : Int)
  ·rw [if_pos hy1_1] at h
   by_cases hy1_2 : 0 ≤ x1_6 ∧ x1_6 < ((x1_4 : Nat) : Int)
   ·rw [if_pos hy1_2] at h
    by_cases hy1_3 : (x1_6).toNat < (x1_3).length
    ·rw [if_pos hy1_3] at h
     obtain ⟨y1_4_, hy1_4, h⟩ := Option.bind_eq_some_iff.1 h
     obtain ⟨y1_5_, hy1_5, h⟩ := Option.bind_eq_some_iff.1 h
     cases h
    ·rw [if_neg hy1_3] at h; cases h
   ·rw [if_neg hy1_2] at h; cases h
  ·rw [if_neg hy1_1] at h
   obtain rfl := Sum.inr.inj (oI h); exact q_bK1q2_1_1 n x1_0 x1_1 x1_2 x1_3 x1_4 x1_5 x1_6 hy1_1)
  (fun r => by intro hx; cases hx) h
def m_bK1q2 (n : Nat) (a0 : List (Bool)) (a1 : Nat) (a2 : Nat) (a3 : List R8) (a4 : Nat) (a5 : Nat) : Option (List (Bool)) :=
 (m_bK1q2_1 n a1 a2 a3 a4 a5 (a0, (w64 (((a4 : Nat) : Int) - (1 : Int))))).bind fun c1_ =>
 some c1_
theorem m_bK1q2_ok (n : Nat) (a0 : List (Bool)) (a1 : Nat) (a2 : Nat) (a3 : List R8) (a4 : Nat) (a5 : Nat) (r : List (Bool)) (h : m_bK1q2 n a0 a1 a2 a3 a4 a5 = some r) : Gv P (.func 33) (A_bK1q2 a0 a1 a2 a3 a4 a5) (H_bK1q2 a0 a1 a2 a3 a4 a5) (V_bK1q2 a0 a1 a2 a3 a4 a5 r) (R_bK1q2 a0 a1 a2 a3 a4 a5 r) := by
 unfold m_bK1q2 at h
 obtain ⟨c1_, hc1, h⟩ := Option.bind_eq_some_iff.1 h
 obtain rfl := oI h; exact (runF2 hm (L := lT [(6, ⟨⟨[0, 1, 3], [(0, 0, false), (1, 1, false), (2, 2, false), (3, 3, true), (4, 4, false), (5, 5, true)], 6, 0, [], false, []⟩, (X_bK1q2_1 a1 a2 a3 a4 a5 c1_).1, (X_bK1q2_1 a1 a2 a3 a4 a5 c1_).2⟩)]) ⟨[], [(0, 0, false), (1, 1, false), (2, 2, false), (3, 3, true), (4, 4, false), (5, 5, true)], 6, 0, [], false, []⟩ (ww (p := U_bK1q2_1 none a1 a2 a3 a4 a5 (a0, (w64 (((a4 : Nat) : Int) - (1 : Int)))) c1_) (m_bK1q2_1_ok n a1 a2 a3 a4 a5 (a0, (w64 (((a4 : Nat) : Int) - (1 : Int)))) c1_ hc1) <|
ww (rows_flat rwf_b a0 4) <|
ww (rows_flat rwf_iiiiiiLu a3 32) <|
ww (rows_flat rwf_b c1_ 4) <|
ww (rows_flat rwf_iiiiiiLu a3 32) ee) (by kernel_rfl))

def A_treeStaleq1 (a0 : List R8) (a1 : Nat) (a2 : Nat) : List Value := [(sN 0 0 a1 a2)]
def H_treeStaleq1 (a0 : List R8) (a1 : Nat) (a2 : Nat) : AH := ⟨sB [(0, (some (.cells (layT (rows rw_iiiiiiLu a0)) 32)))], 1, 1⟩
def V_treeStaleq1 (a0 : List R8) (a1 : Nat) (a2 : Nat) (r : List (Bool)) : Value := match r with
 | o0 => (sN 2 0 ((((a1 : Nat) : Int)).toNat) ((((a1 : Nat) : Int)).toNat))
def R_treeStaleq1 (a0 : List R8) (a1 : Nat) (a2 : Nat) (r : List (Bool)) : AH := match r with
 | o0 => ⟨sB [(0, (some (.cells (layT (rows rw_iiiiiiLu a0)) 32))), (1, (some (.marks false))), (2, (some (.cells (layT (rows rw_b o0)) 4)))], 3, 0⟩
abbrev G_treeStaleq1 (a0 : List R8) (a1 : Nat) (a2 : Nat) (r : List (Bool)) : Prop := Gv P (.func 10) (A_treeStaleq1 a0 a1 a2) (H_treeStaleq1 a0 a1 a2) (V_treeStaleq1 a0 a1 a2 r) (R_treeStaleq1 a0 a1 a2 r)
abbrev C_treeStaleq1 (a0 : List R8) (a1 : Nat) (a2 : Nat) (r : List (Bool)) (ins outs : BL) : CallA := ⟨1, ins, V_treeStaleq1 a0 a1 a2 r, R_treeStaleq1 a0 a1 a2 r, outs⟩
def m_treeStaleq1 (n : Nat) (a0 : List R8) (a1 : Nat) (a2 : Nat) : Option (List (Bool)) :=
 (m_tCq2 n a0 a1 a2).bind fun c1_ =>
 if c1_ = (0 : Int) then
  if 0 ≤ ((a1 : Nat) : Int) then
   if (((a1 : Nat) : Int)).toNat * 1 ≤ 140737488355328 then
    (m_bKq1 n a0 a1 a2).bind fun _ =>
    (m_bK1q2 n (List.replicate (((a1 : Nat) : Int)).toNat (false)) ((((a1 : Nat) : Int)).toNat) ((((a1 : Nat) : Int)).toNat) a0 a1 a2).bind fun c6_ =>
    some c6_
   else none
  else none
 else
  none
theorem m_treeStaleq1_ok (n : Nat) (a0 : List R8) (a1 : Nat) (a2 : Nat) (r : List (Bool)) (h : m_treeStaleq1 n a0 a1 a2 = some r) : Gv P (.func 10) (A_treeStaleq1 a0 a1 a2) (H_treeStaleq1 a0 a1 a2) (V_treeStaleq1 a0 a1 a2 r) (R_treeStaleq1 a0 a1 a2 r) := by
 unfold m_treeStaleq1 at h
 obtain ⟨c1_, hc1, h⟩ := Option.bind_eq_some_iff.1 h
 by_cases hc2 : c1_ = (0 : Int)
 ·rw [if_pos hc2] at h
  by_cases hc3 : 0 ≤ ((a1 : Nat) : Int)
  ·rw [if_pos hc3] at h
   by_cases hc4 : (((a1 : Nat) : Int)).toNat * 1 ≤ 140737488355328
   ·rw [if_pos hc4] at h
    obtain ⟨_, hc5, h⟩ := Option.bind_eq_some_iff.1 h
    obtain ⟨c6_, hc6, h⟩ := Option.bind_eq_some_iff.1 h
    obtain rfl := oI h; exact (runF2 hm (L := lT []) ⟨[2], [(0, 0, true), (1, 4, false), (2, 1, true)], 3, 0, [], false, []⟩ (yy 5 (.call (C_tCq2 a0 a1 a2 c1_ [(0, 0, true)] [])) <|
ww (m_tCq2_ok n a0 a1 a2 c1_ hc1) <|
ww (rows_flat rwf_iiiiiiLu a0 32) <|
zz 6 (xnF hc2) <|
yy 11 (.mk (((a1 : Nat) : Int)).toNat (rows rw_b (List.replicate (((a1 : Nat) : Int)).toNat (false)))) <|
ww (p := natOf (i6 ((a1 : Nat) : Int)) = some (((a1 : Nat) : Int)).toNat) (natOf_toNat hc3) <|
ww (p := natOf (i6 ((a1 : Nat) : Int)) = some (((a1 : Nat) : Int)).toNat) (natOf_toNat hc3) <|
ww (p := fits (((a1 : Nat) : Int)).toNat 1 = true) (fits_ok hc4 (by omega)) <|
ww (p := isZ8 [(bO false)] = false) (rfl) <|
ww (p := reps [(bO false)] (((a1 : Nat) : Int)).toNat = (rows rw_b (List.replicate (((a1 : Nat) : Int)).toNat (false)))) (reps_rows rw_b (false) _ rfl _) <|
yy 17 (.call (C_bKq1 a0 a1 a2 () [(0, 0, true)] [(0, 0, true), (3, 1, false)])) <|
ww (m_bKq1_ok n a0 a1 a2 () hc5) <|
ww (rows_flat rwf_iiiiiiLu a0 32) <|
ww (rows_flat rwf_iiiiiiLu a0 32) <|
yy 19 (.rng (C_bK1q2 (List.replicate (((a1 : Nat) : Int)).toNat (false)) ((((a1 : Nat) : Int)).toNat) ((((a1 : Nat) : Int)).toNat) a0 a1 a2 c6_ [(0, 5, false), (1, 4, false), (2, 2, false), (3, 1, true), (4, 3, false), (5, 0, true)] [(5, 0, false), (4, 1, false), (2, 2, false), (1, 3, true), (3, 4, false), (0, 5, true)]) [3, 13]) <|
ww (m_bK1q2_ok n (List.replicate (((a1 : Nat) : Int)).toNat (false)) ((((a1 : Nat) : Int)).toNat) ((((a1 : Nat) : Int)).toNat) a0 a1 a2 c6_ hc6) <|
ww (rows_flat rwf_b (List.replicate (((a1 : Nat) : Int)).toNat (false)) 4) <|
ww (rows_flat rwf_iiiiiiLu a0 32) <|
ww (rows_flat rwf_b c6_ 4) <|
ww (rows_flat rwf_iiiiiiLu a0 32) <|
ww (rows_flat rwf_iiiiiiLu a0 32) <|
ww (rows_flat rwf_b c6_ 4) ee) (by kernel_rfl))
   ·rw [if_neg hc4] at h; cases h
  ·rw [if_neg hc3] at h; cases h
 ·rw [if_neg hc2] at h
  cases h

def A_viewportref16Ownq1 (a0 : Int) (a1 : Int) (a2 : Int) (a3 : Int) (a4 : Int) (a5 : Int) (a6 : NL) (a7 : Int) : List Value := [(Value.agg #[(i6 a0), (i6 a1), (i6 a2), (i6 a3), (i6 a4), (i6 a5), (nlV a6), (Value.int .u64 a7)])]
def H_viewportref16Ownq1 (a0 : Int) (a1 : Int) (a2 : Int) (a3 : Int) (a4 : Int) (a5 : Int) (a6 : NL) (a7 : Int) : AH := ⟨sB [], 0, 0⟩
def V_viewportref16Ownq1 (a0 : Int) (a1 : Int) (a2 : Int) (a3 : Int) (a4 : Int) (a5 : Int) (a6 : NL) (a7 : Int) (r : Int) : Value := match r with
 | o0 => (Value.agg #[(i6 o0), (i6 a5)])
def R_viewportref16Ownq1 (a0 : Int) (a1 : Int) (a2 : Int) (a3 : Int) (a4 : Int) (a5 : Int) (a6 : NL) (a7 : Int) (r : Int) : AH := match r with
 | o0 => ⟨sB [(0, (some (.cells (layT [(i6 o0), (i6 a5)]) 41)))], 1, 0⟩
abbrev G_viewportref16Ownq1 (a0 : Int) (a1 : Int) (a2 : Int) (a3 : Int) (a4 : Int) (a5 : Int) (a6 : NL) (a7 : Int) (r : Int) : Prop := Gv P (.func 12) (A_viewportref16Ownq1 a0 a1 a2 a3 a4 a5 a6 a7) (H_viewportref16Ownq1 a0 a1 a2 a3 a4 a5 a6 a7) (V_viewportref16Ownq1 a0 a1 a2 a3 a4 a5 a6 a7 r) (R_viewportref16Ownq1 a0 a1 a2 a3 a4 a5 a6 a7 r)
abbrev C_viewportref16Ownq1 (a0 : Int) (a1 : Int) (a2 : Int) (a3 : Int) (a4 : Int) (a5 : Int) (a6 : NL) (a7 : Int) (r : Int) (ins outs : BL) : CallA := ⟨0, ins, V_viewportref16Ownq1 a0 a1 a2 a3 a4 a5 a6 a7 r, R_viewportref16Ownq1 a0 a1 a2 a3 a4 a5 a6 a7 r, outs⟩
def m_viewportref16Ownq1 (n : Nat) (a0 : Int) (a1 : Int) (a2 : Int) (a3 : Int) (a4 : Int) (a5 : Int) (a6 : NL) (a7 : Int) : Option (Int) :=
 if a1 = (1 : Int) then
  some (-1)
 else
  some a2
theorem m_viewportref16Ownq1_ok (n : Nat) (a0 : Int) (a1 : Int) (a2 : Int) (a3 : Int) (a4 : Int) (a5 : Int) (a6 : NL) (a7 : Int) (r : Int) (h : m_viewportref16Ownq1 n a0 a1 a2 a3 a4 a5 a6 a7 = some r) : Gv P (.func 12) (A_viewportref16Ownq1 a0 a1 a2 a3 a4 a5 a6 a7) (H_viewportref16Ownq1 a0 a1 a2 a3 a4 a5 a6 a7) (V_viewportref16Ownq1 a0 a1 a2 a3 a4 a5 a6 a7 r) (R_viewportref16Ownq1 a0 a1 a2 a3 a4 a5 a6 a7 r) := by
 unfold m_viewportref16Ownq1 at h
 by_cases hc1 : a1 = (1 : Int)
 ·rw [if_pos hc1] at h
  obtain rfl := oI h; exact (runF2 hm (L := lT []) ⟨[2], [(0, 1, false)], 1, 0, [], false, []⟩ (zz 7 (xeT hc1) ee) (by kernel_rfl))
 ·rw [if_neg hc1] at h
  obtain rfl := oI h; exact (runF2 hm (L := lT []) ⟨[2], [(0, 1, false)], 1, 0, [], false, []⟩ (zz 7 (xeF hc1) ee) (by kernel_rfl))

def A_viewportref10putq1 (a0 : Int) : List Value := [(i6 a0)]
def H_viewportref10putq1 (a0 : Int) : AH := ⟨sB [], 0, 0⟩
def V_viewportref10putq1 (a0 : Int) (r : Unit) : Value := match r with
 | _ => (i6 (maxB (-1099511627776 : Int) (minB a0 (1099511627776 : Int))))
def R_viewportref10putq1 (a0 : Int) (r : Unit) : AH := match r with
 | _ => ⟨sB [], 0, 0⟩
abbrev G_viewportref10putq1 (a0 : Int) (r : Unit) : Prop := Gv P (.func 40) (A_viewportref10putq1 a0) (H_viewportref10putq1 a0) (V_viewportref10putq1 a0 r) (R_viewportref10putq1 a0 r)
abbrev C_viewportref10putq1 (a0 : Int) (r : Unit) (ins outs : BL) : CallA := ⟨0, ins, V_viewportref10putq1 a0 r, R_viewportref10putq1 a0 r, outs⟩
def m_viewportref10putq1 (n : Nat) (a0 : Int) : Option (Unit) :=
 some ()
theorem m_viewportref10putq1_ok (n : Nat) (a0 : Int) (r : Unit) (h : m_viewportref10putq1 n a0 = some r) : Gv P (.func 40) (A_viewportref10putq1 a0) (H_viewportref10putq1 a0) (V_viewportref10putq1 a0 r) (R_viewportref10putq1 a0 r) := by
 unfold m_viewportref10putq1 at h
 obtain rfl := oI h; exact (runF2 hm (L := lT []) ⟨[2], [], 0, 0, [], false, []⟩ (ee) (by kernel_rfl))

def A_viewportref10spanq1 (a0 : Int) (a1 : Int) : List Value := [(Value.agg #[(i6 a0), (i6 a1)])]
def H_viewportref10spanq1 (a0 : Int) (a1 : Int) : AH := ⟨sB [], 0, 0⟩
def V_viewportref10spanq1 (a0 : Int) (a1 : Int) (r : Unit) : Value := match r with
 | _ => (Value.agg #[(i6 (maxB (-1099511627776 : Int) (minB a0 (1099511627776 : Int)))), (i6 (maxB (-1099511627776 : Int) (minB a1 (1099511627776 : Int))))])
def R_viewportref10spanq1 (a0 : Int) (a1 : Int) (r : Unit) : AH := match r with
 | _ => ⟨sB [(0, (some (.cells (layT [(i6 (maxB (-1099511627776 : Int) (minB a0 (1099511627776 : Int)))), (i6 (maxB (-1099511627776 : Int) (minB a1 (1099511627776 : Int))))]) 41)))], 1, 0⟩
abbrev G_viewportref10spanq1 (a0 : Int) (a1 : Int) (r : Unit) : Prop := Gv P (.func 25) (A_viewportref10spanq1 a0 a1) (H_viewportref10spanq1 a0 a1) (V_viewportref10spanq1 a0 a1 r) (R_viewportref10spanq1 a0 a1 r)
abbrev C_viewportref10spanq1 (a0 : Int) (a1 : Int) (r : Unit) (ins outs : BL) : CallA := ⟨0, ins, V_viewportref10spanq1 a0 a1 r, R_viewportref10spanq1 a0 a1 r, outs⟩
def m_viewportref10spanq1 (n : Nat) (a0 : Int) (a1 : Int) : Option (Unit) :=
 (m_viewportref10putq1 n a0).bind fun _ =>
 (m_viewportref10putq1 n a1).bind fun _ =>
 some ()
theorem m_viewportref10spanq1_ok (n : Nat) (a0 : Int) (a1 : Int) (r : Unit) (h : m_viewportref10spanq1 n a0 a1 = some r) : Gv P (.func 25) (A_viewportref10spanq1 a0 a1) (H_viewportref10spanq1 a0 a1) (V_viewportref10spanq1 a0 a1 r) (R_viewportref10spanq1 a0 a1 r) := by
 unfold m_viewportref10spanq1 at h
 obtain ⟨_, hc1, h⟩ := Option.bind_eq_some_iff.1 h
 obtain ⟨_, hc2, h⟩ := Option.bind_eq_some_iff.1 h
 obtain rfl := oI h; exact (runF2 hm (L := lT []) ⟨[2], [(0, 1, false)], 1, 0, [], false, []⟩ (yy 6 (.call (C_viewportref10putq1 a0 () [] [])) <|
ww (m_viewportref10putq1_ok n a0 () hc1) <|
yy 9 (.call (C_viewportref10putq1 a1 () [] [])) <|
ww (m_viewportref10putq1_ok n a1 () hc2) ee) (by kernel_rfl))

def A_viewportref10editq1 (a0 : Int) (a1 : Int) (a2 : Int) : List Value := [(Value.agg #[(i6 a0), (i6 a1), (i6 a2)])]
def H_viewportref10editq1 (a0 : Int) (a1 : Int) (a2 : Int) : AH := ⟨sB [], 0, 0⟩
def V_viewportref10editq1 (a0 : Int) (a1 : Int) (a2 : Int) (r : Unit) : Value := match r with
 | _ => (Value.agg #[(i6 (maxB (-1099511627776 : Int) (minB a0 (1099511627776 : Int)))), (i6 (maxB (-1099511627776 : Int) (minB a1 (1099511627776 : Int)))), (i6 (maxB (-1099511627776 : Int) (minB a2 (1099511627776 : Int))))])
def R_viewportref10editq1 (a0 : Int) (a1 : Int) (a2 : Int) (r : Unit) : AH := match r with
 | _ => ⟨sB [(0, (some (.cells (layT [(i6 (maxB (-1099511627776 : Int) (minB a0 (1099511627776 : Int)))), (i6 (maxB (-1099511627776 : Int) (minB a1 (1099511627776 : Int)))), (i6 (maxB (-1099511627776 : Int) (minB a2 (1099511627776 : Int))))]) 24)))], 1, 0⟩
abbrev G_viewportref10editq1 (a0 : Int) (a1 : Int) (a2 : Int) (r : Unit) : Prop := Gv P (.func 26) (A_viewportref10editq1 a0 a1 a2) (H_viewportref10editq1 a0 a1 a2) (V_viewportref10editq1 a0 a1 a2 r) (R_viewportref10editq1 a0 a1 a2 r)
abbrev C_viewportref10editq1 (a0 : Int) (a1 : Int) (a2 : Int) (r : Unit) (ins outs : BL) : CallA := ⟨0, ins, V_viewportref10editq1 a0 a1 a2 r, R_viewportref10editq1 a0 a1 a2 r, outs⟩
def m_viewportref10editq1 (n : Nat) (a0 : Int) (a1 : Int) (a2 : Int) : Option (Unit) :=
 (m_viewportref10putq1 n a0).bind fun _ =>
 (m_viewportref10putq1 n a1).bind fun _ =>
 (m_viewportref10putq1 n a2).bind fun _ =>
 some ()
theorem m_viewportref10editq1_ok (n : Nat) (a0 : Int) (a1 : Int) (a2 : Int) (r : Unit) (h : m_viewportref10editq1 n a0 a1 a2 = some r) : Gv P (.func 26) (A_viewportref10editq1 a0 a1 a2) (H_viewportref10editq1 a0 a1 a2) (V_viewportref10editq1 a0 a1 a2 r) (R_viewportref10editq1 a0 a1 a2 r) := by
 unfold m_viewportref10editq1 at h
 obtain ⟨_, hc1, h⟩ := Option.bind_eq_some_iff.1 h
 obtain ⟨_, hc2, h⟩ := Option.bind_eq_some_iff.1 h
 obtain ⟨_, hc3, h⟩ := Option.bind_eq_some_iff.1 h
 obtain rfl := oI h; exact (runF2 hm (L := lT []) ⟨[2], [(0, 1, false)], 1, 0, [], false, []⟩ (yy 6 (.call (C_viewportref10putq1 a0 () [] [])) <|
ww (m_viewportref10putq1_ok n a0 () hc1) <|
yy 9 (.call (C_viewportref10putq1 a1 () [] [])) <|
ww (m_viewportref10putq1_ok n a1 () hc2) <|
yy 12 (.call (C_viewportref10putq1 a2 () [] [])) <|
ww (m_viewportref10putq1_ok n a2 () hc3) ee) (by kernel_rfl))

def A_rMq1 (a0 : Int) (a1 : Int) (a2 : Int) (a3 : Int) (a4 : Int) : List Value := [(Value.agg #[(i6 a0), (i6 a1)]), (Value.agg #[(i6 a2), (i6 a3), (i6 a4)])]
def H_rMq1 (a0 : Int) (a1 : Int) (a2 : Int) (a3 : Int) (a4 : Int) : AH := ⟨sB [], 0, 0⟩
def V_rMq1 (a0 : Int) (a1 : Int) (a2 : Int) (a3 : Int) (a4 : Int) (r : Bool) : Value := match r with
 | o0 => (bO o0)
def R_rMq1 (a0 : Int) (a1 : Int) (a2 : Int) (a3 : Int) (a4 : Int) (r : Bool) : AH := match r with
 | o0 => ⟨sB [], 0, 0⟩
abbrev G_rMq1 (a0 : Int) (a1 : Int) (a2 : Int) (a3 : Int) (a4 : Int) (r : Bool) : Prop := Gv P (.func 11) (A_rMq1 a0 a1 a2 a3 a4) (H_rMq1 a0 a1 a2 a3 a4) (V_rMq1 a0 a1 a2 a3 a4 r) (R_rMq1 a0 a1 a2 a3 a4 r)
abbrev C_rMq1 (a0 : Int) (a1 : Int) (a2 : Int) (a3 : Int) (a4 : Int) (r : Bool) (ins outs : BL) : CallA := ⟨0, ins, V_rMq1 a0 a1 a2 a3 a4 r, R_rMq1 a0 a1 a2 a3 a4 r, outs⟩
def m_rMq1 (n : Nat) (a0 : Int) (a1 : Int) (a2 : Int) (a3 : Int) (a4 : Int) : Option (Bool) :=
 (m_viewportref10spanq1 n a0 a1).bind fun _ =>
 (m_viewportref10editq1 n a2 a3 a4).bind fun _ =>
 if (maxB (-1099511627776 : Int) (minB a3 (1099511627776 : Int))) > (0 : Int) then
  if (maxB (-1099511627776 : Int) (minB a2 (1099511627776 : Int))) < (maxB (-1099511627776 : Int) (minB a1 (1099511627776 : Int))) then
   ((some (w64 ((maxB (-1099511627776 : Int) (minB a2 (1099511627776 : Int))) + (maxB (-1099511627776 : Int) (minB a3 (1099511627776 : Int))))))).bind fun c5_ =>
   if c5_ > (maxB (-1099511627776 : Int) (minB a0 (1099511627776 : Int))) then
    some true
   else
    if (maxB (-1099511627776 : Int) (minB a4 (1099511627776 : Int))) > (0 : Int) then
     if (maxB (-1099511627776 : Int) (minB a0 (1099511627776 : Int))) < (maxB (-1099511627776 : Int) (minB a2 (1099511627776 : Int))) then
      some true
     else
      some false
    else
     some false
  else
   if (maxB (-1099511627776 : Int) (minB a4 (1099511627776 : Int))) > (0 : Int) then
    if (maxB (-1099511627776 : Int) (minB a0 (1099511627776 : Int))) < (maxB (-1099511627776 : Int) (minB a2 (1099511627776 : Int))) then
     some false
    else
     some false
   else
    some false
 else
  if (maxB (-1099511627776 : Int) (minB a4 (1099511627776 : Int))) > (0 : Int) then
   if (maxB (-1099511627776 : Int) (minB a0 (1099511627776 : Int))) < (maxB (-1099511627776 : Int) (minB a2 (1099511627776 : Int))) then
    if (maxB (-1099511627776 : Int) (minB a2 (1099511627776 : Int))) < (maxB (-1099511627776 : Int) (minB a1 (1099511627776 : Int))) then
     some true
    else
     some false
   else
    some false
  else
   some false
theorem m_rMq1_ok (n : Nat) (a0 : Int) (a1 : Int) (a2 : Int) (a3 : Int) (a4 : Int) (r : Bool) (h : m_rMq1 n a0 a1 a2 a3 a4 = some r) : Gv P (.func 11) (A_rMq1 a0 a1 a2 a3 a4) (H_rMq1 a0 a1 a2 a3 a4) (V_rMq1 a0 a1 a2 a3 a4 r) (R_rMq1 a0 a1 a2 a3 a4 r) := by
 unfold m_rMq1 at h
 obtain ⟨_, hc1, h⟩ := Option.bind_eq_some_iff.1 h
 obtain ⟨_, hc2, h⟩ := Option.bind_eq_some_iff.1 h
 by_cases hc3 : (maxB (-1099511627776 : Int) (minB a3 (1099511627776 : Int))) > (0 : Int)
 ·rw [if_pos hc3] at h
  by_cases hc4 : (maxB (-1099511627776 : Int) (minB a2 (1099511627776 : Int))) < (maxB (-1099511627776 : Int) (minB a1 (1099511627776 : Int)))
  ·rw [if_pos hc4] at h
   obtain ⟨c5_, hc5, h⟩ := Option.bind_eq_some_iff.1 h
   by_cases hc6 : c5_ > (maxB (-1099511627776 : Int) (minB a0 (1099511627776 : Int)))
   ·rw [if_pos hc6] at h
    obtain rfl := oI h; exact (runF2 hm (L := lT []) ⟨[4], [], 0, 0, [], false, []⟩ (yy 6 (.call (C_viewportref10spanq1 a0 a1 () [] [(2, 0, false)])) <|
ww (m_viewportref10spanq1_ok n a0 a1 () hc1) <|
yy 8 (.call (C_viewportref10editq1 a2 a3 a4 () [] [(3, 0, false)])) <|
ww (m_viewportref10editq1_ok n a2 a3 a4 () hc2) <|
zz 14 (xdT hc3) <|
zz 20 (xdT hc4) <|
zz 27 (xnm hc5) <|
zz 30 (xdT hc6) ee) (by kernel_rfl))
   ·rw [if_neg hc6] at h
    by_cases hc7 : (maxB (-1099511627776 : Int) (minB a4 (1099511627776 : Int))) > (0 : Int)
    ·rw [if_pos hc7] at h
     by_cases hc8 : (maxB (-1099511627776 : Int) (minB a0 (1099511627776 : Int))) < (maxB (-1099511627776 : Int) (minB a2 (1099511627776 : Int)))
     ·rw [if_pos hc8] at h
      obtain rfl := oI h; exact (runF2 hm (L := lT []) ⟨[4], [], 0, 0, [], false, []⟩ (yy 6 (.call (C_viewportref10spanq1 a0 a1 () [] [(2, 0, false)])) <|
ww (m_viewportref10spanq1_ok n a0 a1 () hc1) <|
yy 8 (.call (C_viewportref10editq1 a2 a3 a4 () [] [(3, 0, false)])) <|
ww (m_viewportref10editq1_ok n a2 a3 a4 () hc2) <|
zz 14 (xdT hc3) <|
zz 20 (xdT hc4) <|
zz 27 (xnm hc5) <|
zz 30 (xdF hc6) <|
zz 35 (xdT hc7) <|
zz 41 (xdT hc8) <|
zz 48 (xdT hc4) ee) (by kernel_rfl))
     ·rw [if_neg hc8] at h
      obtain rfl := oI h; exact (runF2 hm (L := lT []) ⟨[4], [], 0, 0, [], false, []⟩ (yy 6 (.call (C_viewportref10spanq1 a0 a1 () [] [(2, 0, false)])) <|
ww (m_viewportref10spanq1_ok n a0 a1 () hc1) <|
yy 8 (.call (C_viewportref10editq1 a2 a3 a4 () [] [(3, 0, false)])) <|
ww (m_viewportref10editq1_ok n a2 a3 a4 () hc2) <|
zz 14 (xdT hc3) <|
zz 20 (xdT hc4) <|
zz 27 (xnm hc5) <|
zz 30 (xdF hc6) <|
zz 35 (xdT hc7) <|
zz 41 (xdF hc8) ee) (by kernel_rfl))
    ·rw [if_neg hc7] at h
     obtain rfl := oI h; exact (runF2 hm (L := lT []) ⟨[4], [], 0, 0, [], false, []⟩ (yy 6 (.call (C_viewportref10spanq1 a0 a1 () [] [(2, 0, false)])) <|
ww (m_viewportref10spanq1_ok n a0 a1 () hc1) <|
yy 8 (.call (C_viewportref10editq1 a2 a3 a4 () [] [(3, 0, false)])) <|
ww (m_viewportref10editq1_ok n a2 a3 a4 () hc2) <|
zz 14 (xdT hc3) <|
zz 20 (xdT hc4) <|
zz 27 (xnm hc5) <|
zz 30 (xdF hc6) <|
zz 35 (xdF hc7) ee) (by kernel_rfl))
  ·rw [if_neg hc4] at h
   by_cases hc5 : (maxB (-1099511627776 : Int) (minB a4 (1099511627776 : Int))) > (0 : Int)
   ·rw [if_pos hc5] at h
    by_cases hc6 : (maxB (-1099511627776 : Int) (minB a0 (1099511627776 : Int))) < (maxB (-1099511627776 : Int) (minB a2 (1099511627776 : Int)))
    ·rw [if_pos hc6] at h
     obtain rfl := oI h; exact (runF2 hm (L := lT []) ⟨[4], [], 0, 0, [], false, []⟩ (yy 6 (.call (C_viewportref10spanq1 a0 a1 () [] [(2, 0, false)])) <|
ww (m_viewportref10spanq1_ok n a0 a1 () hc1) <|
yy 8 (.call (C_viewportref10editq1 a2 a3 a4 () [] [(3, 0, false)])) <|
ww (m_viewportref10editq1_ok n a2 a3 a4 () hc2) <|
zz 14 (xdT hc3) <|
zz 20 (xdF hc4) <|
zz 35 (xdT hc5) <|
zz 41 (xdT hc6) <|
zz 48 (xdF hc4) ee) (by kernel_rfl))
    ·rw [if_neg hc6] at h
     obtain rfl := oI h; exact (runF2 hm (L := lT []) ⟨[4], [], 0, 0, [], false, []⟩ (yy 6 (.call (C_viewportref10spanq1 a0 a1 () [] [(2, 0, false)])) <|
ww (m_viewportref10spanq1_ok n a0 a1 () hc1) <|
yy 8 (.call (C_viewportref10editq1 a2 a3 a4 () [] [(3, 0, false)])) <|
ww (m_viewportref10editq1_ok n a2 a3 a4 () hc2) <|
zz 14 (xdT hc3) <|
zz 20 (xdF hc4) <|
zz 35 (xdT hc5) <|
zz 41 (xdF hc6) ee) (by kernel_rfl))
   ·rw [if_neg hc5] at h
    obtain rfl := oI h; exact (runF2 hm (L := lT []) ⟨[4], [], 0, 0, [], false, []⟩ (yy 6 (.call (C_viewportref10spanq1 a0 a1 () [] [(2, 0, false)])) <|
ww (m_viewportref10spanq1_ok n a0 a1 () hc1) <|
yy 8 (.call (C_viewportref10editq1 a2 a3 a4 () [] [(3, 0, false)])) <|
ww (m_viewportref10editq1_ok n a2 a3 a4 () hc2) <|
zz 14 (xdT hc3) <|
zz 20 (xdF hc4) <|
zz 35 (xdF hc5) ee) (by kernel_rfl))
 ·rw [if_neg hc3] at h
  by_cases hc4 : (maxB (-1099511627776 : Int) (minB a4 (1099511627776 : Int))) > (0 : Int)
  ·rw [if_pos hc4] at h
   by_cases hc5 : (maxB (-1099511627776 : Int) (minB a0 (1099511627776 : Int))) < (maxB (-1099511627776 : Int) (minB a2 (1099511627776 : Int)))
   ·rw [if_pos hc5] at h
    by_cases hc6 : (maxB (-1099511627776 : Int) (minB a2 (1099511627776 : Int))) < (maxB (-1099511627776 : Int) (minB a1 (1099511627776 : Int)))
    ·rw [if_pos hc6] at h
     obtain rfl := oI h; exact (runF2 hm (L := lT []) ⟨[4], [], 0, 0, [], false, []⟩ (yy 6 (.call (C_viewportref10spanq1 a0 a1 () [] [(2, 0, false)])) <|
ww (m_viewportref10spanq1_ok n a0 a1 () hc1) <|
yy 8 (.call (C_viewportref10editq1 a2 a3 a4 () [] [(3, 0, false)])) <|
ww (m_viewportref10editq1_ok n a2 a3 a4 () hc2) <|
zz 14 (xdF hc3) <|
zz 35 (xdT hc4) <|
zz 41 (xdT hc5) <|
zz 48 (xdT hc6) ee) (by kernel_rfl))
    ·rw [if_neg hc6] at h
     obtain rfl := oI h; exact (runF2 hm (L := lT []) ⟨[4], [], 0, 0, [], false, []⟩ (yy 6 (.call (C_viewportref10spanq1 a0 a1 () [] [(2, 0, false)])) <|
ww (m_viewportref10spanq1_ok n a0 a1 () hc1) <|
yy 8 (.call (C_viewportref10editq1 a2 a3 a4 () [] [(3, 0, false)])) <|
ww (m_viewportref10editq1_ok n a2 a3 a4 () hc2) <|
zz 14 (xdF hc3) <|
zz 35 (xdT hc4) <|
zz 41 (xdT hc5) <|
zz 48 (xdF hc6) ee) (by kernel_rfl))
   ·rw [if_neg hc5] at h
    obtain rfl := oI h; exact (runF2 hm (L := lT []) ⟨[4], [], 0, 0, [], false, []⟩ (yy 6 (.call (C_viewportref10spanq1 a0 a1 () [] [(2, 0, false)])) <|
ww (m_viewportref10spanq1_ok n a0 a1 () hc1) <|
yy 8 (.call (C_viewportref10editq1 a2 a3 a4 () [] [(3, 0, false)])) <|
ww (m_viewportref10editq1_ok n a2 a3 a4 () hc2) <|
zz 14 (xdF hc3) <|
zz 35 (xdT hc4) <|
zz 41 (xdF hc5) ee) (by kernel_rfl))
  ·rw [if_neg hc4] at h
   obtain rfl := oI h; exact (runF2 hm (L := lT []) ⟨[4], [], 0, 0, [], false, []⟩ (yy 6 (.call (C_viewportref10spanq1 a0 a1 () [] [(2, 0, false)])) <|
ww (m_viewportref10spanq1_ok n a0 a1 () hc1) <|
yy 8 (.call (C_viewportref10editq1 a2 a3 a4 () [] [(3, 0, false)])) <|
ww (m_viewportref10editq1_ok n a2 a3 a4 () hc2) <|
zz 14 (xdF hc3) <|
zz 35 (xdF hc4) ee) (by kernel_rfl))

def A_V (g10 : Int) (g11 : Int) (g12 : Int) (g2 : Int) : List Value := [(sW 0 0 (Args.A).length Args.cA), (Value.agg #[(i6 g10), (i6 g11), (i6 g12)]), (i6 g2)]
def H_V (g10 : Int) (g11 : Int) (g12 : Int) (g2 : Int) : AH := ⟨sB [], 0, 0⟩
def V_V (g10 : Int) (g11 : Int) (g12 : Int) (g2 : Int) (r : Unit) : Value := match r with
 | _ => (bO true)
def R_V (g10 : Int) (g11 : Int) (g12 : Int) (g2 : Int) (r : Unit) : AH := match r with
 | _ => ⟨sB [], 0, 0⟩
abbrev G_V (g10 : Int) (g11 : Int) (g12 : Int) (g2 : Int) (r : Unit) : Prop := Gv P (.func 3) (A_V g10 g11 g12 g2) (H_V g10 g11 g12 g2) (V_V g10 g11 g12 g2 r) (R_V g10 g11 g12 g2 r)
abbrev C_V (g10 : Int) (g11 : Int) (g12 : Int) (g2 : Int) (r : Unit) (ins outs : BL) : CallA := ⟨0, ins, V_V g10 g11 g12 g2 r, R_V g10 g11 g12 g2 r, outs⟩
def S_V_1 (x1_0 : Int) (x1_1 : Int) (x1_2 : Int) (x1_3 : Int) (x1_4 : List R8) (x1_5 : Nat) (x1_6 : List (Bool)) (x1_7 : Nat) (st : Int) : XSt := match st with
 | x1_8 => (sT 232 [(0, (sW 0 0 (Args.A).length Args.cA)), (4, (pN 0 0)), (7, (Value.int .u64 x1_3)), (8, (sN 1 0 x1_5 x1_5)), (9, (sN 2 0 x1_7 x1_7)), (10, (i6 x1_8))], [], ⟨sB [(0, (some (.cells (layT [(i6 x1_0), (i6 x1_1), (i6 x1_2)]) 24))), (1, (some (.cells (layT (rows rw_iiiiiiLu x1_4)) 32))), (2, (some (.cells (layT (rows rw_b x1_6)) 4)))], 3, 0⟩)
def X_V_1 (x1_0 : Int) (x1_1 : Int) (x1_2 : Int) (x1_3 : Int) (x1_4 : List R8) (x1_5 : Nat) (x1_6 : List (Bool)) (x1_7 : Nat) (r : Unit) : Ex × XSt := match r with
 | _ => (.exit 0, (sT 232 [], [], ⟨sB [], 0, 0⟩))
abbrev Q_V_1 (rnd : Option Nat) (x1_0 : Int) (x1_1 : Int) (x1_2 : Int) (x1_3 : Int) (x1_4 : List R8) (x1_5 : Nat) (x1_6 : List (Bool)) (x1_7 : Nat) (st : Int) (c : Ex × XSt) : Prop := CG P rnd (fnN P 3) 0 (codeOf P 3 [false, false, true, false, true, true, true, true, true, true, true, true, true, true]) (S_V_1 x1_0 x1_1 x1_2 x1_3 x1_4 x1_5 x1_6 x1_7 st) c
abbrev U_V_1 (rd : Option Nat) (x1_0 : Int) (x1_1 : Int) (x1_2 : Int) (x1_3 : Int) (x1_4 : List R8) (x1_5 : Nat) (x1_6 : List (Bool)) (x1_7 : Nat) (st : Int) (r : Unit) : Prop := CG P rd (fnN P 3) 0 (codeOf P 3 [false, true, false, true, true, true, true, true, true, true, true, true, true]) (S_V_1 x1_0 x1_1 x1_2 x1_3 x1_4 x1_5 x1_6 x1_7 st) (X_V_1 x1_0 x1_1 x1_2 x1_3 x1_4 x1_5 x1_6 x1_7 r)
def B_V_1 (n : Nat) (x1_0 : Int) (x1_1 : Int) (x1_2 : Int) (x1_3 : Int) (x1_4 : List R8) (x1_5 : Nat) (x1_6 : List (Bool)) (x1_7 : Nat) (st : Int) : Option ((Int) ⊕ (Unit)) := match st with
 | x1_8 =>
  if x1_8 < (Args.A.length : Int) then
   if 0 ≤ x1_8 ∧ x1_8 < ((x1_5 : Nat) : Int) then
    if (x1_8).toNat < (x1_4).length then
     ((some ((x1_4).getD (x1_8).toNat (0, 0, 0, 0, 0, 0, nl0, 0)))).bind fun y1_4_ =>
     if (y1_4_.2.2.2.2.2.2.2) = x1_3 then
      if 0 ≤ x1_8 ∧ x1_8 < (Args.A.length : Int) then
       ((some ((Args.A).getD (x1_8).toNat (0, 0, 0, 0, 0, 0, nl0, 0)))).bind fun y1_7_ =>
       (m_viewportref16Ownq1 n (y1_7_.1) (y1_7_.2.1) (y1_7_.2.2.1) (y1_7_.2.2.2.1) (y1_7_.2.2.2.2.1) (y1_7_.2.2.2.2.2.1) (y1_7_.2.2.2.2.2.2.1) (y1_7_.2.2.2.2.2.2.2)).bind fun y1_8_ =>
       (m_rMq1 n y1_8_ (y1_7_.2.2.2.2.2.1) x1_0 x1_1 x1_2).bind fun y1_9_ =>
       if y1_9_ = true then
        if (y1_7_.2.1) = (1 : Int) then
         some (.inl (w64 (x1_8 + (1 : Int))))
        else
         if 0 ≤ x1_8 ∧ x1_8 < ((x1_7 : Nat) : Int) then
          if (x1_8).toNat < (x1_6).length then
           ((some ((x1_6).getD (x1_8).toNat (false)))).bind fun y1_14_ =>
           if y1_14_ = true then
            some (.inl (w64 (x1_8 + (1 : Int))))
           else
            ((some (w64 ((y1_4_.2.2.2.2.1) - (y1_7_.2.2.2.2.1))))).bind fun y1_16_ =>
            if y1_16_ = (w64 ((y1_4_.2.2.1) - (y1_7_.2.2.1))) then
             some (.inl (w64 (x1_8 + (1 : Int))))
            else
             if (y1_7_.2.2.2.2.1) = x1_0 then
              if (y1_7_.2.2.1) = (y1_7_.2.2.2.2.1) then
               if (y1_7_.2.2.2.2.2.1) > (y1_7_.2.2.2.2.1) then
                none
               else
                some (.inl (w64 (x1_8 + (1 : Int))))
              else
               some (.inl (w64 (x1_8 + (1 : Int))))
             else
              if (y1_7_.2.2.2.2.2.1) > (y1_7_.2.2.2.2.1) then
               none
              else
               some (.inl (w64 (x1_8 + (1 : Int))))
          else none
         else none
       else
        none
      else none
     else
      if 0 ≤ x1_8 ∧ x1_8 < (Args.A.length : Int) then
       ((some ((Args.A).getD (x1_8).toNat (0, 0, 0, 0, 0, 0, nl0, 0)))).bind fun y1_7_ =>
       (m_viewportref16Ownq1 n (y1_7_.1) (y1_7_.2.1) (y1_7_.2.2.1) (y1_7_.2.2.2.1) (y1_7_.2.2.2.2.1) (y1_7_.2.2.2.2.2.1) (y1_7_.2.2.2.2.2.2.1) (y1_7_.2.2.2.2.2.2.2)).bind fun y1_8_ =>
       (m_rMq1 n y1_8_ (y1_7_.2.2.2.2.2.1) x1_0 x1_1 x1_2).bind fun y1_9_ =>
       if y1_9_ = true then
        none
       else
        if (y1_4_.2.2.2.2.2.2.2) = (0 : Int) then
         if (y1_7_.2.1) = (1 : Int) then
          some (.inl (w64 (x1_8 + (1 : Int))))
         else
          if 0 ≤ x1_8 ∧ x1_8 < ((x1_7 : Nat) : Int) then
           if (x1_8).toNat < (x1_6).length then
            ((some ((x1_6).getD (x1_8).toNat (false)))).bind fun y1_15_ =>
            if y1_15_ = true then
             some (.inl (w64 (x1_8 + (1 : Int))))
            else
             ((some (w64 ((y1_4_.2.2.2.2.1) - (y1_7_.2.2.2.2.1))))).bind fun y1_17_ =>
             if y1_17_ = (w64 ((y1_4_.2.2.1) - (y1_7_.2.2.1))) then
              some (.inl (w64 (x1_8 + (1 : Int))))
             else
              if (y1_7_.2.2.2.2.1) = x1_0 then
               if (y1_7_.2.2.1) = (y1_7_.2.2.2.2.1) then
                if (y1_7_.2.2.2.2.2.1) > (y1_7_.2.2.2.2.1) then
                 none
                else
                 some (.inl (w64 (x1_8 + (1 : Int))))
               else
                some (.inl (w64 (x1_8 + (1 : Int))))
              else
               if (y1_7_.2.2.2.2.2.1) > (y1_7_.2.2.2.2.1) then
                none
               else
                some (.inl (w64 (x1_8 + (1 : Int))))
           else none
          else none
        else
         none
      else none
    else none
   else none
  else
   some (.inr ())
def m_V_1 (n : Nat) (x1_0 : Int) (x1_1 : Int) (x1_2 : Int) (x1_3 : Int) (x1_4 : List R8) (x1_5 : Nat) (x1_6 : List (Bool)) (x1_7 : Nat) (st : Int) : Option (Unit) := iterM (B_V_1 n x1_0 x1_1 x1_2 x1_3 x1_4 x1_5 x1_6 x1_7) n st
theorem q_V_1_0 (n : Nat) {rnd : Option Nat} (x1_0 x1_1 x1_2 x1_3 : Int) (x1_4 : List R8) (x1_5 : Nat) (x1_6 : List (Bool)) (x1_7 : Nat) (x1_8 : Int) (hy1_1 : x1_8 < (Args.A.length : Int)) (hy1_2 : 0 ≤ x1_8 ∧ x1_8 < ((x1_5 : Nat) : Int)) (hy1_3 : (x1_8).toNat < (x1_4).length) (y1_4_ : R8) (hy1_4 : (some ((x1_4).getD (x1_8).toNat (0, 0, 0, 0, 0, 0, nl0, 0))) = some y1_4_) (hy1_5 : (y1_4_.2.2.2.2.2.2.2) = x1_3) (hy1_6 : 0 ≤ x1_8 ∧ x1_8 < (Args.A.length : Int)) (y1_7_ : R8) (hy1_7 : (some ((Args.A).getD (x1_8).toNat (0, 0, 0, 0, 0, 0, nl0, 0))) = some y1_7_) (y1_8_ : Int) (hy1_8 : m_viewportref16Ownq1 n (y1_7_.1) (y1_7_.2.1) (y1_7_.2.2.1) (y1_7_.2.2.2.1) (y1_7_.2.2.2.2.1) (y1_7_.2.2.2.2.2.1) (y1_7_.2.2.2.2.2.2.1) (y1_7_.2.2.2.2.2.2.2) = some y1_8_) (y1_9_ : Bool) (hy1_9 : m_rMq1 n y1_8_ (y1_7_.2.2.2.2.2.1) x1_0 x1_1 x1_2 = some y1_9_) (hy1_10 : y1_9_ = true) (hy1_11 : (y1_7_.2.1) = (1 : Int)) : Q_V_1 rnd x1_0 x1_1 x1_2 x1_3 x1_4 x1_5 x1_6 x1_7 x1_8 (.normal, S_V_1 x1_0 x1_1 x1_2 x1_3 x1_4 x1_5 x1_6 x1_7 (w64 (x1_8 + (1 : Int)))) :=
 runC2 hm (L := lT []) ⟨[0, 4, 7, 8, 9, 10], [(0, 0, false), (1, 1, true), (2, 2, true)], 3, 0, [], false, []⟩ (zz 5 (xdT hy1_1) <|
zz 13 (xk18 1 x1_5 hy1_2) <|
zz 15 (ok23 hy1_4 (hy1_3)) <|
zz 17 (xeT hy1_5) <|
zz 20 (xk1 0 Args.cA hy1_6) <|
zz 21 (lk2 hy1_7 (toNatLt hy1_6)) <|
yy 22 (.call (C_viewportref16Ownq1 (y1_7_.1) (y1_7_.2.1) (y1_7_.2.2.1) (y1_7_.2.2.2.1) (y1_7_.2.2.2.2.1) (y1_7_.2.2.2.2.2.1) (y1_7_.2.2.2.2.2.2.1) (y1_7_.2.2.2.2.2.2.2) y1_8_ [] [(3, 0, false)])) <|
ww (m_viewportref16Ownq1_ok n (y1_7_.1) (y1_7_.2.1) (y1_7_.2.2.1) (y1_7_.2.2.2.1) (y1_7_.2.2.2.2.1) (y1_7_.2.2.2.2.2.1) (y1_7_.2.2.2.2.2.2.1) (y1_7_.2.2.2.2.2.2.2) y1_8_ hy1_8) <|
yy 24 (.call (C_rMq1 y1_8_ (y1_7_.2.2.2.2.2.1) x1_0 x1_1 x1_2 y1_9_ [] [])) <|
ww (m_rMq1_ok n y1_8_ (y1_7_.2.2.2.2.2.1) x1_0 x1_1 x1_2 y1_9_ hy1_9) <|
yy 25 (vf) <|
ww (p := (Value.bool (!(true == y1_9_))) = (Value.bool false)) (vNeB rfl hy1_10) <|
zz 29 (xk18 1 x1_5 hy1_2) <|
zz 31 (ok23 hy1_4 (hy1_3)) <|
zz 33 (xnF hy1_5) <|
zz 48 (xk1 0 Args.cA hy1_6) <|
zz 49 (fk9 ((x1_8).toNat * 8)) <|
zz 50 (lk10 hy1_7 (toNatLt hy1_6)) <|
zz 51 (xeT hy1_11) <|
ww (rows_flat rwf_iiiiiiLu x1_4 32) <|
ww (rows_flat rwf_b x1_6 4) <|
ee) (by kernel_rfl)
theorem q_V_1_1 (n : Nat) {rnd : Option Nat} (x1_0 x1_1 x1_2 x1_3 : Int) (x1_4 : List R8) (x1_5 : Nat) (x1_6 : List (Bool)) (x1_7 : Nat) (x1_8 : Int) (hy1_1 : x1_8 < (Args.A.length : Int)) (hy1_2 : 0 ≤ x1_8 ∧ x1_8 < ((x1_5 : Nat) : Int)) (hy1_3 : (x1_8).toNat < (x1_4).length) (y1_4_ : R8) (hy1_4 : (some ((x1_4).getD (x1_8).toNat (0, 0, 0, 0, 0, 0, nl0, 0))) = some y1_4_) (hy1_5 : (y1_4_.2.2.2.2.2.2.2) = x1_3) (hy1_6 : 0 ≤ x1_8 ∧ x1_8 < (Args.A.length : Int)) (y1_7_ : R8) (hy1_7 : (some ((Args.A).getD (x1_8).toNat (0, 0, 0, 0, 0, 0, nl0, 0))) = some y1_7_) (y1_8_ : Int) (hy1_8 : m_viewportref16Ownq1 n (y1_7_.1) (y1_7_.2.1) (y1_7_.2.2.1) (y1_7_.2.2.2.1) (y1_7_.2.2.2.2.1) (y1_7_.2.2.2.2.2.1) (y1_7_.2.2.2.2.2.2.1) (y1_7_.2.2.2.2.2.2.2) = some y1_8_) (y1_9_ : Bool) (hy1_9 : m_rMq1 n y1_8_ (y1_7_.2.2.2.2.2.1) x1_0 x1_1 x1_2 = some y1_9_) (hy1_10 : y1_9_ = true) (hy1_11 : ¬ ((y1_7_.2.1) = (1 : Int))) (hy1_12 : 0 ≤ x1_8 ∧ x1_8 < ((x1_7 : Nat) : Int)) (hy1_13 : (x1_8).toNat < (x1_6).length) (y1_14_ : Bool) (hy1_14 : (some ((x1_6).getD (x1_8).toNat (false))) = some y1_14_) (hy1_15 : y1_14_ = true) : Q_V_1 rnd x1_0 x1_1 x1_2 x1_3 x1_4 x1_5 x1_6 x1_7 x1_8 (.normal, S_V_1 x1_0 x1_1 x1_2 x1_3 x1_4 x1_5 x1_6 x1_7 (w64 (x1_8 + (1 : Int)))) :=
 runC2 hm (L := lT []) ⟨[0, 4, 7, 8, 9, 10], [(0, 0, false), (1, 1, true), (2, 2, true)], 3, 0, [], false, []⟩ (zz 5 (xdT hy1_1) <|
zz 13 (xk18 1 x1_5 hy1_2) <|
zz 15 (ok23 hy1_4 (hy1_3)) <|
zz 17 (xeT hy1_5) <|
zz 20 (xk1 0 Args.cA hy1_6) <|
zz 21 (lk2 hy1_7 (toNatLt hy1_6)) <|
yy 22 (.call (C_viewportref16Ownq1 (y1_7_.1) (y1_7_.2.1) (y1_7_.2.2.1) (y1_7_.2.2.2.1) (y1_7_.2.2.2.2.1) (y1_7_.2.2.2.2.2.1) (y1_7_.2.2.2.2.2.2.1) (y1_7_.2.2.2.2.2.2.2) y1_8_ [] [(3, 0, false)])) <|
ww (m_viewportref16Ownq1_ok n (y1_7_.1) (y1_7_.2.1) (y1_7_.2.2.1) (y1_7_.2.2.2.1) (y1_7_.2.2.2.2.1) (y1_7_.2.2.2.2.2.1) (y1_7_.2.2.2.2.2.2.1) (y1_7_.2.2.2.2.2.2.2) y1_8_ hy1_8) <|
yy 24 (.call (C_rMq1 y1_8_ (y1_7_.2.2.2.2.2.1) x1_0 x1_1 x1_2 y1_9_ [] [])) <|
ww (m_rMq1_ok n y1_8_ (y1_7_.2.2.2.2.2.1) x1_0 x1_1 x1_2 y1_9_ hy1_9) <|
yy 25 (vf) <|
ww (p := (Value.bool (!(true == y1_9_))) = (Value.bool false)) (vNeB rfl hy1_10) <|
zz 29 (xk18 1 x1_5 hy1_2) <|
zz 31 (ok23 hy1_4 (hy1_3)) <|
zz 33 (xnF hy1_5) <|
zz 48 (xk1 0 Args.cA hy1_6) <|
zz 49 (fk9 ((x1_8).toNat * 8)) <|
zz 50 (lk10 hy1_7 (toNatLt hy1_6)) <|
zz 51 (xeF hy1_11) <|
zz 55 (xk21 2 x1_7 hy1_12) <|
zz 56 (ok22 hy1_14 (hy1_13)) <|
zz 58 (xbT hy1_15) <|
ww (rows_flat rwf_iiiiiiLu x1_4 32) <|
ww (rows_flat rwf_b x1_6 4) <|
ee) (by kernel_rfl)
theorem q_V_1_2 (n : Nat) {rnd : Option Nat} (x1_0 x1_1 x1_2 x1_3 : Int) (x1_4 : List R8) (x1_5 : Nat) (x1_6 : List (Bool)) (x1_7 : Nat) (x1_8 : Int) (hy1_1 : x1_8 < (Args.A.length : Int)) (hy1_2 : 0 ≤ x1_8 ∧ x1_8 < ((x1_5 : Nat) : Int)) (hy1_3 : (x1_8).toNat < (x1_4).length) (y1_4_ : R8) (hy1_4 : (some ((x1_4).getD (x1_8).toNat (0, 0, 0, 0, 0, 0, nl0, 0))) = some y1_4_) (hy1_5 : (y1_4_.2.2.2.2.2.2.2) = x1_3) (hy1_6 : 0 ≤ x1_8 ∧ x1_8 < (Args.A.length : Int)) (y1_7_ : R8) (hy1_7 : (some ((Args.A).getD (x1_8).toNat (0, 0, 0, 0, 0, 0, nl0, 0))) = some y1_7_) (y1_8_ : Int) (hy1_8 : m_viewportref16Ownq1 n (y1_7_.1) (y1_7_.2.1) (y1_7_.2.2.1) (y1_7_.2.2.2.1) (y1_7_.2.2.2.2.1) (y1_7_.2.2.2.2.2.1) (y1_7_.2.2.2.2.2.2.1) (y1_7_.2.2.2.2.2.2.2) = some y1_8_) (y1_9_ : Bool) (hy1_9 : m_rMq1 n y1_8_ (y1_7_.2.2.2.2.2.1) x1_0 x1_1 x1_2 = some y1_9_) (hy1_10 : y1_9_ = true) (hy1_11 : ¬ ((y1_7_.2.1) = (1 : Int))) (hy1_12 : 0 ≤ x1_8 ∧ x1_8 < ((x1_7 : Nat) : Int)) (hy1_13 : (x1_8).toNat < (x1_6).length) (y1_14_ : Bool) (hy1_14 : (some ((x1_6).getD (x1_8).toNat (false))) = some y1_14_) (hy1_15 : ¬ (y1_14_ = true)) (y1_16_ : Int) (hy1_16 : (some (w64 ((y1_4_.2.2.2.2.1) - (y1_7_.2.2.2.2.1)))) = some y1_16_) (hy1_17 : y1_16_ = (w64 ((y1_4_.2.2.1) - (y1_7_.2.2.1)))) : Q_V_1 rnd x1_0 x1_1 x1_2 x1_3 x1_4 x1_5 x1_6 x1_7 x1_8 (.normal, S_V_1 x1_0 x1_1 x1_2 x1_3 x1_4 x1_5 x1_6 x1_7 (w64 (x1_8 + (1 : Int)))) :=
 runC2 hm (L := lT []) ⟨[0, 4, 7, 8, 9, 10], [(0, 0, false), (1, 1, true), (2, 2, true)], 3, 0, [], false, []⟩ (zz 5 (xdT hy1_1) <|
zz 13 (xk18 1 x1_5 hy1_2) <|
zz 15 (ok23 hy1_4 (hy1_3)) <|
zz 17 (xeT hy1_5) <|
zz 20 (xk1 0 Args.cA hy1_6) <|
zz 21 (lk2 hy1_7 (toNatLt hy1_6)) <|
yy 22 (.call (C_viewportref16Ownq1 (y1_7_.1) (y1_7_.2.1) (y1_7_.2.2.1) (y1_7_.2.2.2.1) (y1_7_.2.2.2.2.1) (y1_7_.2.2.2.2.2.1) (y1_7_.2.2.2.2.2.2.1) (y1_7_.2.2.2.2.2.2.2) y1_8_ [] [(3, 0, false)])) <|
ww (m_viewportref16Ownq1_ok n (y1_7_.1) (y1_7_.2.1) (y1_7_.2.2.1) (y1_7_.2.2.2.1) (y1_7_.2.2.2.2.1) (y1_7_.2.2.2.2.2.1) (y1_7_.2.2.2.2.2.2.1) (y1_7_.2.2.2.2.2.2.2) y1_8_ hy1_8) <|
yy 24 (.call (C_rMq1 y1_8_ (y1_7_.2.2.2.2.2.1) x1_0 x1_1 x1_2 y1_9_ [] [])) <|
ww (m_rMq1_ok n y1_8_ (y1_7_.2.2.2.2.2.1) x1_0 x1_1 x1_2 y1_9_ hy1_9) <|
yy 25 (vf) <|
ww (p := (Value.bool (!(true == y1_9_))) = (Value.bool false)) (vNeB rfl hy1_10) <|
zz 29 (xk18 1 x1_5 hy1_2) <|
zz 31 (ok23 hy1_4 (hy1_3)) <|
zz 33 (xnF hy1_5) <|
zz 48 (xk1 0 Args.cA hy1_6) <|
zz 49 (fk9 ((x1_8).toNat * 8)) <|
zz 50 (lk10 hy1_7 (toNatLt hy1_6)) <|
zz 51 (xeF hy1_11) <|
zz 55 (xk21 2 x1_7 hy1_12) <|
zz 56 (ok22 hy1_14 (hy1_13)) <|
zz 58 (xbF hy1_15) <|
zz 62 (xk18 1 x1_5 hy1_2) <|
zz 64 (ok20 hy1_4 (hy1_3)) <|
zz 67 (xk1 0 Args.cA hy1_6) <|
zz 68 (fk11 ((x1_8).toNat * 8)) <|
zz 69 (lk12 hy1_7 (toNatLt hy1_6)) <|
zz 75 (xk18 1 x1_5 hy1_2) <|
zz 77 (ok19 hy1_4 (hy1_3)) <|
zz 80 (xk1 0 Args.cA hy1_6) <|
zz 81 (fk15 ((x1_8).toNat * 8)) <|
zz 82 (lk16 hy1_7 (toNatLt hy1_6)) <|
zz 83 (xnm hy1_16) <|
zz 85 (xnF hy1_17) <|
ww (rows_flat rwf_iiiiiiLu x1_4 32) <|
ww (rows_flat rwf_b x1_6 4) <|
ee) (by kernel_rfl)
theorem q_V_1_3 (n : Nat) {rnd : Option Nat} (x1_0 x1_1 x1_2 x1_3 : Int) (x1_4 : List R8) (x1_5 : Nat) (x1_6 : List (Bool)) (x1_7 : Nat) (x1_8 : Int) (hy1_1 : x1_8 < (Args.A.length : Int)) (hy1_2 : 0 ≤ x1_8 ∧ x1_8 < ((x1_5 : Nat) : Int)) (hy1_3 : (x1_8).toNat < (x1_4).length) (y1_4_ : R8) (hy1_4 : (some ((x1_4).getD (x1_8).toNat (0, 0, 0, 0, 0, 0, nl0, 0))) = some y1_4_) (hy1_5 : (y1_4_.2.2.2.2.2.2.2) = x1_3) (hy1_6 : 0 ≤ x1_8 ∧ x1_8 < (Args.A.length : Int)) (y1_7_ : R8) (hy1_7 : (some ((Args.A).getD (x1_8).toNat (0, 0, 0, 0, 0, 0, nl0, 0))) = some y1_7_) (y1_8_ : Int) (hy1_8 : m_viewportref16Ownq1 n (y1_7_.1) (y1_7_.2.1) (y1_7_.2.2.1) (y1_7_.2.2.2.1) (y1_7_.2.2.2.2.1) (y1_7_.2.2.2.2.2.1) (y1_7_.2.2.2.2.2.2.1) (y1_7_.2.2.2.2.2.2.2) = some y1_8_) (y1_9_ : Bool) (hy1_9 : m_rMq1 n y1_8_ (y1_7_.2.2.2.2.2.1) x1_0 x1_1 x1_2 = some y1_9_) (hy1_10 : y1_9_ = true) (hy1_11 : ¬ ((y1_7_.2.1) = (1 : Int))) (hy1_12 : 0 ≤ x1_8 ∧ x1_8 < ((x1_7 : Nat) : Int)) (hy1_13 : (x1_8).toNat < (x1_6).length) (y1_14_ : Bool) (hy1_14 : (some ((x1_6).getD (x1_8).toNat (false))) = some y1_14_) (hy1_15 : ¬ (y1_14_ = true)) (y1_16_ : Int) (hy1_16 : (some (w64 ((y1_4_.2.2.2.2.1) - (y1_7_.2.2.2.2.1)))) = some y1_16_) (hy1_17 : ¬ (y1_16_ = (w64 ((y1_4_.2.2.1) - (y1_7_.2.2.1))))) (hy1_18 : (y1_7_.2.2.2.2.1) = x1_0) (hy1_19 : (y1_7_.2.2.1) = (y1_7_.2.2.2.2.1)) (hy1_20 : ¬ ((y1_7_.2.2.2.2.2.1) > (y1_7_.2.2.2.2.1))) : Q_V_1 rnd x1_0 x1_1 x1_2 x1_3 x1_4 x1_5 x1_6 x1_7 x1_8 (.normal, S_V_1 x1_0 x1_1 x1_2 x1_3 x1_4 x1_5 x1_6 x1_7 (w64 (x1_8 + (1 : Int)))) :=
 runC2 hm (L := lT []) ⟨[0, 4, 7, 8, 9, 10], [(0, 0, false), (1, 1, true), (2, 2, true)], 3, 0, [], false, []⟩ (zz 5 (xdT hy1_1) <|
zz 13 (xk18 1 x1_5 hy1_2) <|
zz 15 (ok23 hy1_4 (hy1_3)) <|
zz 17 (xeT hy1_5) <|
zz 20 (xk1 0 Args.cA hy1_6) <|
zz 21 (lk2 hy1_7 (toNatLt hy1_6)) <|
yy 22 (.call (C_viewportref16Ownq1 (y1_7_.1) (y1_7_.2.1) (y1_7_.2.2.1) (y1_7_.2.2.2.1) (y1_7_.2.2.2.2.1) (y1_7_.2.2.2.2.2.1) (y1_7_.2.2.2.2.2.2.1) (y1_7_.2.2.2.2.2.2.2) y1_8_ [] [(3, 0, false)])) <|
ww (m_viewportref16Ownq1_ok n (y1_7_.1) (y1_7_.2.1) (y1_7_.2.2.1) (y1_7_.2.2.2.1) (y1_7_.2.2.2.2.1) (y1_7_.2.2.2.2.2.1) (y1_7_.2.2.2.2.2.2.1) (y1_7_.2.2.2.2.2.2.2) y1_8_ hy1_8) <|
yy 24 (.call (C_rMq1 y1_8_ (y1_7_.2.2.2.2.2.1) x1_0 x1_1 x1_2 y1_9_ [] [])) <|
ww (m_rMq1_ok n y1_8_ (y1_7_.2.2.2.2.2.1) x1_0 x1_1 x1_2 y1_9_ hy1_9) <|
yy 25 (vf) <|
ww (p := (Value.bool (!(true == y1_9_))) = (Value.bool false)) (vNeB rfl hy1_10) <|
zz 29 (xk18 1 x1_5 hy1_2) <|
zz 31 (ok23 hy1_4 (hy1_3)) <|
zz 33 (xnF hy1_5) <|
zz 48 (xk1 0 Args.cA hy1_6) <|
zz 49 (fk9 ((x1_8).toNat * 8)) <|
zz 50 (lk10 hy1_7 (toNatLt hy1_6)) <|
zz 51 (xeF hy1_11) <|
zz 55 (xk21 2 x1_7 hy1_12) <|
zz 56 (ok22 hy1_14 (hy1_13)) <|
zz 58 (xbF hy1_15) <|
zz 62 (xk18 1 x1_5 hy1_2) <|
zz 64 (ok20 hy1_4 (hy1_3)) <|
zz 67 (xk1 0 Args.cA hy1_6) <|
zz 68 (fk11 ((x1_8).toNat * 8)) <|
zz 69 (lk12 hy1_7 (toNatLt hy1_6)) <|
zz 75 (xk18 1 x1_5 hy1_2) <|
zz 77 (ok19 hy1_4 (hy1_3)) <|
zz 80 (xk1 0 Args.cA hy1_6) <|
zz 81 (fk15 ((x1_8).toNat * 8)) <|
zz 82 (lk16 hy1_7 (toNatLt hy1_6)) <|
zz 83 (xnm hy1_16) <|
zz 85 (xnT hy1_17) <|
zz 89 (xk1 0 Args.cA hy1_6) <|
zz 90 (fk15 ((x1_8).toNat * 8)) <|
zz 91 (lk16 hy1_7 (toNatLt hy1_6)) <|
zz 94 (xnF hy1_18) <|
zz 98 (xk1 0 Args.cA hy1_6) <|
zz 99 (fk11 ((x1_8).toNat * 8)) <|
zz 100 (lk12 hy1_7 (toNatLt hy1_6)) <|
zz 103 (xk1 0 Args.cA hy1_6) <|
zz 104 (fk15 ((x1_8).toNat * 8)) <|
zz 105 (lk16 hy1_7 (toNatLt hy1_6)) <|
zz 106 (xeT hy1_19) <|
zz 112 (xk1 0 Args.cA hy1_6) <|
zz 113 (fk13 ((x1_8).toNat * 8)) <|
zz 114 (lk14 hy1_7 (toNatLt hy1_6)) <|
zz 117 (xk1 0 Args.cA hy1_6) <|
zz 118 (fk15 ((x1_8).toNat * 8)) <|
zz 119 (lk16 hy1_7 (toNatLt hy1_6)) <|
zz 120 (xdF hy1_20) <|
ww (rows_flat rwf_iiiiiiLu x1_4 32) <|
ww (rows_flat rwf_b x1_6 4) <|
ee) (by kernel_rfl)
theorem q_V_1_4 (n : Nat) {rnd : Option Nat} (x1_0 x1_1 x1_2 x1_3 : Int) (x1_4 : List R8) (x1_5 : Nat) (x1_6 : List (Bool)) (x1_7 : Nat) (x1_8 : Int) (hy1_1 : x1_8 < (Args.A.length : Int)) (hy1_2 : 0 ≤ x1_8 ∧ x1_8 < ((x1_5 : Nat) : Int)) (hy1_3 : (x1_8).toNat < (x1_4).length) (y1_4_ : R8) (hy1_4 : (some ((x1_4).getD (x1_8).toNat (0, 0, 0, 0, 0, 0, nl0, 0))) = some y1_4_) (hy1_5 : (y1_4_.2.2.2.2.2.2.2) = x1_3) (hy1_6 : 0 ≤ x1_8 ∧ x1_8 < (Args.A.length : Int)) (y1_7_ : R8) (hy1_7 : (some ((Args.A).getD (x1_8).toNat (0, 0, 0, 0, 0, 0, nl0, 0))) = some y1_7_) (y1_8_ : Int) (hy1_8 : m_viewportref16Ownq1 n (y1_7_.1) (y1_7_.2.1) (y1_7_.2.2.1) (y1_7_.2.2.2.1) (y1_7_.2.2.2.2.1) (y1_7_.2.2.2.2.2.1) (y1_7_.2.2.2.2.2.2.1) (y1_7_.2.2.2.2.2.2.2) = some y1_8_) (y1_9_ : Bool) (hy1_9 : m_rMq1 n y1_8_ (y1_7_.2.2.2.2.2.1) x1_0 x1_1 x1_2 = some y1_9_) (hy1_10 : y1_9_ = true) (hy1_11 : ¬ ((y1_7_.2.1) = (1 : Int))) (hy1_12 : 0 ≤ x1_8 ∧ x1_8 < ((x1_7 : Nat) : Int)) (hy1_13 : (x1_8).toNat < (x1_6).length) (y1_14_ : Bool) (hy1_14 : (some ((x1_6).getD (x1_8).toNat (false))) = some y1_14_) (hy1_15 : ¬ (y1_14_ = true)) (y1_16_ : Int) (hy1_16 : (some (w64 ((y1_4_.2.2.2.2.1) - (y1_7_.2.2.2.2.1)))) = some y1_16_) (hy1_17 : ¬ (y1_16_ = (w64 ((y1_4_.2.2.1) - (y1_7_.2.2.1))))) (hy1_18 : (y1_7_.2.2.2.2.1) = x1_0) (hy1_19 : ¬ ((y1_7_.2.2.1) = (y1_7_.2.2.2.2.1))) : Q_V_1 rnd x1_0 x1_1 x1_2 x1_3 x1_4 x1_5 x1_6 x1_7 x1_8 (.normal, S_V_1 x1_0 x1_1 x1_2 x1_3 x1_4 x1_5 x1_6 x1_7 (w64 (x1_8 + (1 : Int)))) :=
 runC2 hm (L := lT []) ⟨[0, 4, 7, 8, 9, 10], [(0, 0, false), (1, 1, true), (2, 2, true)], 3, 0, [], false, []⟩ (zz 5 (xdT hy1_1) <|
zz 13 (xk18 1 x1_5 hy1_2) <|
zz 15 (ok23 hy1_4 (hy1_3)) <|
zz 17 (xeT hy1_5) <|
zz 20 (xk1 0 Args.cA hy1_6) <|
zz 21 (lk2 hy1_7 (toNatLt hy1_6)) <|
yy 22 (.call (C_viewportref16Ownq1 (y1_7_.1) (y1_7_.2.1) (y1_7_.2.2.1) (y1_7_.2.2.2.1) (y1_7_.2.2.2.2.1) (y1_7_.2.2.2.2.2.1) (y1_7_.2.2.2.2.2.2.1) (y1_7_.2.2.2.2.2.2.2) y1_8_ [] [(3, 0, false)])) <|
ww (m_viewportref16Ownq1_ok n (y1_7_.1) (y1_7_.2.1) (y1_7_.2.2.1) (y1_7_.2.2.2.1) (y1_7_.2.2.2.2.1) (y1_7_.2.2.2.2.2.1) (y1_7_.2.2.2.2.2.2.1) (y1_7_.2.2.2.2.2.2.2) y1_8_ hy1_8) <|
yy 24 (.call (C_rMq1 y1_8_ (y1_7_.2.2.2.2.2.1) x1_0 x1_1 x1_2 y1_9_ [] [])) <|
ww (m_rMq1_ok n y1_8_ (y1_7_.2.2.2.2.2.1) x1_0 x1_1 x1_2 y1_9_ hy1_9) <|
yy 25 (vf) <|
ww (p := (Value.bool (!(true == y1_9_))) = (Value.bool false)) (vNeB rfl hy1_10) <|
zz 29 (xk18 1 x1_5 hy1_2) <|
zz 31 (ok23 hy1_4 (hy1_3)) <|
zz 33 (xnF hy1_5) <|
zz 48 (xk1 0 Args.cA hy1_6) <|
zz 49 (fk9 ((x1_8).toNat * 8)) <|
zz 50 (lk10 hy1_7 (toNatLt hy1_6)) <|
zz 51 (xeF hy1_11) <|
zz 55 (xk21 2 x1_7 hy1_12) <|
zz 56 (ok22 hy1_14 (hy1_13)) <|
zz 58 (xbF hy1_15) <|
zz 62 (xk18 1 x1_5 hy1_2) <|
zz 64 (ok20 hy1_4 (hy1_3)) <|
zz 67 (xk1 0 Args.cA hy1_6) <|
zz 68 (fk11 ((x1_8).toNat * 8)) <|
zz 69 (lk12 hy1_7 (toNatLt hy1_6)) <|
zz 75 (xk18 1 x1_5 hy1_2) <|
zz 77 (ok19 hy1_4 (hy1_3)) <|
zz 80 (xk1 0 Args.cA hy1_6) <|
zz 81 (fk15 ((x1_8).toNat * 8)) <|
zz 82 (lk16 hy1_7 (toNatLt hy1_6)) <|
zz 83 (xnm hy1_16) <|
zz 85 (xnT hy1_17) <|
zz 89 (xk1 0 Args.cA hy1_6) <|
zz 90 (fk15 ((x1_8).toNat * 8)) <|
zz 91 (lk16 hy1_7 (toNatLt hy1_6)) <|
zz 94 (xnF hy1_18) <|
zz 98 (xk1 0 Args.cA hy1_6) <|
zz 99 (fk11 ((x1_8).toNat * 8)) <|
zz 100 (lk12 hy1_7 (toNatLt hy1_6)) <|
zz 103 (xk1 0 Args.cA hy1_6) <|
zz 104 (fk15 ((x1_8).toNat * 8)) <|
zz 105 (lk16 hy1_7 (toNatLt hy1_6)) <|
zz 106 (xeF hy1_19) <|
ww (rows_flat rwf_iiiiiiLu x1_4 32) <|
ww (rows_flat rwf_b x1_6 4) <|
ee) (by kernel_rfl)
theorem q_V_1_5 (n : Nat) {rnd : Option Nat} (x1_0 x1_1 x1_2 x1_3 : Int) (x1_4 : List R8) (x1_5 : Nat) (x1_6 : List (Bool)) (x1_7 : Nat) (x1_8 : Int) (hy1_1 : x1_8 < (Args.A.length : Int)) (hy1_2 : 0 ≤ x1_8 ∧ x1_8 < ((x1_5 : Nat) : Int)) (hy1_3 : (x1_8).toNat < (x1_4).length) (y1_4_ : R8) (hy1_4 : (some ((x1_4).getD (x1_8).toNat (0, 0, 0, 0, 0, 0, nl0, 0))) = some y1_4_) (hy1_5 : (y1_4_.2.2.2.2.2.2.2) = x1_3) (hy1_6 : 0 ≤ x1_8 ∧ x1_8 < (Args.A.length : Int)) (y1_7_ : R8) (hy1_7 : (some ((Args.A).getD (x1_8).toNat (0, 0, 0, 0, 0, 0, nl0, 0))) = some y1_7_) (y1_8_ : Int) (hy1_8 : m_viewportref16Ownq1 n (y1_7_.1) (y1_7_.2.1) (y1_7_.2.2.1) (y1_7_.2.2.2.1) (y1_7_.2.2.2.2.1) (y1_7_.2.2.2.2.2.1) (y1_7_.2.2.2.2.2.2.1) (y1_7_.2.2.2.2.2.2.2) = some y1_8_) (y1_9_ : Bool) (hy1_9 : m_rMq1 n y1_8_ (y1_7_.2.2.2.2.2.1) x1_0 x1_1 x1_2 = some y1_9_) (hy1_10 : y1_9_ = true) (hy1_11 : ¬ ((y1_7_.2.1) = (1 : Int))) (hy1_12 : 0 ≤ x1_8 ∧ x1_8 < ((x1_7 : Nat) : Int)) (hy1_13 : (x1_8).toNat < (x1_6).length) (y1_14_ : Bool) (hy1_14 : (some ((x1_6).getD (x1_8).toNat (false))) = some y1_14_) (hy1_15 : ¬ (y1_14_ = true)) (y1_16_ : Int) (hy1_16 : (some (w64 ((y1_4_.2.2.2.2.1) - (y1_7_.2.2.2.2.1)))) = some y1_16_) (hy1_17 : ¬ (y1_16_ = (w64 ((y1_4_.2.2.1) - (y1_7_.2.2.1))))) (hy1_18 : ¬ ((y1_7_.2.2.2.2.1) = x1_0)) (hy1_19 : ¬ ((y1_7_.2.2.2.2.2.1) > (y1_7_.2.2.2.2.1))) : Q_V_1 rnd x1_0 x1_1 x1_2 x1_3 x1_4 x1_5 x1_6 x1_7 x1_8 (.normal, S_V_1 x1_0 x1_1 x1_2 x1_3 x1_4 x1_5 x1_6 x1_7 (w64 (x1_8 + (1 : Int)))) :=
 runC2 hm (L := lT []) ⟨[0, 4, 7, 8, 9, 10], [(0, 0, false), (1, 1, true), (2, 2, true)], 3, 0, [], false, []⟩ (zz 5 (xdT hy1_1) <|
zz 13 (xk18 1 x1_5 hy1_2) <|
zz 15 (ok23 hy1_4 (hy1_3)) <|
zz 17 (xeT hy1_5) <|
zz 20 (xk1 0 Args.cA hy1_6) <|
zz 21 (lk2 hy1_7 (toNatLt hy1_6)) <|
yy 22 (.call (C_viewportref16Ownq1 (y1_7_.1) (y1_7_.2.1) (y1_7_.2.2.1) (y1_7_.2.2.2.1) (y1_7_.2.2.2.2.1) (y1_7_.2.2.2.2.2.1) (y1_7_.2.2.2.2.2.2.1) (y1_7_.2.2.2.2.2.2.2) y1_8_ [] [(3, 0, false)])) <|
ww (m_viewportref16Ownq1_ok n (y1_7_.1) (y1_7_.2.1) (y1_7_.2.2.1) (y1_7_.2.2.2.1) (y1_7_.2.2.2.2.1) (y1_7_.2.2.2.2.2.1) (y1_7_.2.2.2.2.2.2.1) (y1_7_.2.2.2.2.2.2.2) y1_8_ hy1_8) <|
yy 24 (.call (C_rMq1 y1_8_ (y1_7_.2.2.2.2.2.1) x1_0 x1_1 x1_2 y1_9_ [] [])) <|
ww (m_rMq1_ok n y1_8_ (y1_7_.2.2.2.2.2.1) x1_0 x1_1 x1_2 y1_9_ hy1_9) <|
yy 25 (vf) <|
ww (p := (Value.bool (!(true == y1_9_))) = (Value.bool false)) (vNeB rfl hy1_10) <|
zz 29 (xk18 1 x1_5 hy1_2) <|
zz 31 (ok23 hy1_4 (hy1_3)) <|
zz 33 (xnF hy1_5) <|
zz 48 (xk1 0 Args.cA hy1_6) <|
zz 49 (fk9 ((x1_8).toNat * 8)) <|
zz 50 (lk10 hy1_7 (toNatLt hy1_6)) <|
zz 51 (xeF hy1_11) <|
zz 55 (xk21 2 x1_7 hy1_12) <|
zz 56 (ok22 hy1_14 (hy1_13)) <|
zz 58 (xbF hy1_15) <|
zz 62 (xk18 1 x1_5 hy1_2) <|
zz 64 (ok20 hy1_4 (hy1_3)) <|
zz 67 (xk1 0 Args.cA hy1_6) <|
zz 68 (fk11 ((x1_8).toNat * 8)) <|
zz 69 (lk12 hy1_7 (toNatLt hy1_6)) <|
zz 75 (xk18 1 x1_5 hy1_2) <|
zz 77 (ok19 hy1_4 (hy1_3)) <|
zz 80 (xk1 0 Args.cA hy1_6) <|
zz 81 (fk15 ((x1_8).toNat * 8)) <|
zz 82 (lk16 hy1_7 (toNatLt hy1_6)) <|
zz 83 (xnm hy1_16) <|
zz 85 (xnT hy1_17) <|
zz 89 (xk1 0 Args.cA hy1_6) <|
zz 90 (fk15 ((x1_8).toNat * 8)) <|
zz 91 (lk16 hy1_7 (toNatLt hy1_6)) <|
zz 94 (xnT hy1_18) <|
zz 112 (xk1 0 Args.cA hy1_6) <|
zz 113 (fk13 ((x1_8).toNat * 8)) <|
zz 114 (lk14 hy1_7 (toNatLt hy1_6)) <|
zz 117 (xk1 0 Args.cA hy1_6) <|
zz 118 (fk15 ((x1_8).toNat * 8)) <|
zz 119 (lk16 hy1_7 (toNatLt hy1_6)) <|
zz 120 (xdF hy1_19) <|
ww (rows_flat rwf_iiiiiiLu x1_4 32) <|
ww (rows_flat rwf_b x1_6 4) <|
ee) (by kernel_rfl)
theorem q_V_1_6 (n : Nat) {rnd : Option Nat} (x1_0 x1_1 x1_2 x1_3 : Int) (x1_4 : List R8) (x1_5 : Nat) (x1_6 : List (Bool)) (x1_7 : Nat) (x1_8 : Int) (hy1_1 : x1_8 < (Args.A.length : Int)) (hy1_2 : 0 ≤ x1_8 ∧ x1_8 < ((x1_5 : Nat) : Int)) (hy1_3 : (x1_8).toNat < (x1_4).length) (y1_4_ : R8) (hy1_4 : (some ((x1_4).getD (x1_8).toNat (0, 0, 0, 0, 0, 0, nl0, 0))) = some y1_4_) (hy1_5 : ¬ ((y1_4_.2.2.2.2.2.2.2) = x1_3)) (hy1_6 : 0 ≤ x1_8 ∧ x1_8 < (Args.A.length : Int)) (y1_7_ : R8) (hy1_7 : (some ((Args.A).getD (x1_8).toNat (0, 0, 0, 0, 0, 0, nl0, 0))) = some y1_7_) (y1_8_ : Int) (hy1_8 : m_viewportref16Ownq1 n (y1_7_.1) (y1_7_.2.1) (y1_7_.2.2.1) (y1_7_.2.2.2.1) (y1_7_.2.2.2.2.1) (y1_7_.2.2.2.2.2.1) (y1_7_.2.2.2.2.2.2.1) (y1_7_.2.2.2.2.2.2.2) = some y1_8_) (y1_9_ : Bool) (hy1_9 : m_rMq1 n y1_8_ (y1_7_.2.2.2.2.2.1) x1_0 x1_1 x1_2 = some y1_9_) (hy1_10 : ¬ (y1_9_ = true)) (hy1_11 : (y1_4_.2.2.2.2.2.2.2) = (0 : Int)) (hy1_12 : (y1_7_.2.1) = (1 : Int)) : Q_V_1 rnd x1_0 x1_1 x1_2 x1_3 x1_4 x1_5 x1_6 x1_7 x1_8 (.normal, S_V_1 x1_0 x1_1 x1_2 x1_3 x1_4 x1_5 x1_6 x1_7 (w64 (x1_8 + (1 : Int)))) :=
 runC2 hm (L := lT []) ⟨[0, 4, 7, 8, 9, 10], [(0, 0, false), (1, 1, true), (2, 2, true)], 3, 0, [], false, []⟩ (zz 5 (xdT hy1_1) <|
zz 13 (xk18 1 x1_5 hy1_2) <|
zz 15 (ok23 hy1_4 (hy1_3)) <|
zz 17 (xeF hy1_5) <|
zz 20 (xk1 0 Args.cA hy1_6) <|
zz 21 (lk2 hy1_7 (toNatLt hy1_6)) <|
yy 22 (.call (C_viewportref16Ownq1 (y1_7_.1) (y1_7_.2.1) (y1_7_.2.2.1) (y1_7_.2.2.2.1) (y1_7_.2.2.2.2.1) (y1_7_.2.2.2.2.2.1) (y1_7_.2.2.2.2.2.2.1) (y1_7_.2.2.2.2.2.2.2) y1_8_ [] [(3, 0, false)])) <|
ww (m_viewportref16Ownq1_ok n (y1_7_.1) (y1_7_.2.1) (y1_7_.2.2.1) (y1_7_.2.2.2.1) (y1_7_.2.2.2.2.1) (y1_7_.2.2.2.2.2.1) (y1_7_.2.2.2.2.2.2.1) (y1_7_.2.2.2.2.2.2.2) y1_8_ hy1_8) <|
yy 24 (.call (C_rMq1 y1_8_ (y1_7_.2.2.2.2.2.1) x1_0 x1_1 x1_2 y1_9_ [] [])) <|
ww (m_rMq1_ok n y1_8_ (y1_7_.2.2.2.2.2.1) x1_0 x1_1 x1_2 y1_9_ hy1_9) <|
yy 25 (vf) <|
ww (p := (Value.bool (!(false == y1_9_))) = (Value.bool false)) (vNeB rfl (Bool.eq_false_iff.2 hy1_10)) <|
zz 29 (xk18 1 x1_5 hy1_2) <|
zz 31 (ok23 hy1_4 (hy1_3)) <|
zz 33 (xnT hy1_5) <|
zz 37 (xk18 1 x1_5 hy1_2) <|
zz 39 (ok23 hy1_4 (hy1_3)) <|
zz 40 (xnF hy1_11) <|
zz 48 (xk1 0 Args.cA hy1_6) <|
zz 49 (fk9 ((x1_8).toNat * 8)) <|
zz 50 (lk10 hy1_7 (toNatLt hy1_6)) <|
zz 51 (xeT hy1_12) <|
ww (rows_flat rwf_iiiiiiLu x1_4 32) <|
ww (rows_flat rwf_b x1_6 4) <|
ee) (by kernel_rfl)
theorem q_V_1_7 (n : Nat) {rnd : Option Nat} (x1_0 x1_1 x1_2 x1_3 : Int) (x1_4 : List R8) (x1_5 : Nat) (x1_6 : List (Bool)) (x1_7 : Nat) (x1_8 : Int) (hy1_1 : x1_8 < (Args.A.length : Int)) (hy1_2 : 0 ≤ x1_8 ∧ x1_8 < ((x1_5 : Nat) : Int)) (hy1_3 : (x1_8).toNat < (x1_4).length) (y1_4_ : R8) (hy1_4 : (some ((x1_4).getD (x1_8).toNat (0, 0, 0, 0, 0, 0, nl0, 0))) = some y1_4_) (hy1_5 : ¬ ((y1_4_.2.2.2.2.2.2.2) = x1_3)) (hy1_6 : 0 ≤ x1_8 ∧ x1_8 < (Args.A.length : Int)) (y1_7_ : R8) (hy1_7 : (some ((Args.A).getD (x1_8).toNat (0, 0, 0, 0, 0, 0, nl0, 0))) = some y1_7_) (y1_8_ : Int) (hy1_8 : m_viewportref16Ownq1 n (y1_7_.1) (y1_7_.2.1) (y1_7_.2.2.1) (y1_7_.2.2.2.1) (y1_7_.2.2.2.2.1) (y1_7_.2.2.2.2.2.1) (y1_7_.2.2.2.2.2.2.1) (y1_7_.2.2.2.2.2.2.2) = some y1_8_) (y1_9_ : Bool) (hy1_9 : m_rMq1 n y1_8_ (y1_7_.2.2.2.2.2.1) x1_0 x1_1 x1_2 = some y1_9_) (hy1_10 : ¬ (y1_9_ = true)) (hy1_11 : (y1_4_.2.2.2.2.2.2.2) = (0 : Int)) (hy1_12 : ¬ ((y1_7_.2.1) = (1 : Int))) (hy1_13 : 0 ≤ x1_8 ∧ x1_8 < ((x1_7 : Nat) : Int)) (hy1_14 : (x1_8).toNat < (x1_6).length) (y1_15_ : Bool) (hy1_15 : (some ((x1_6).getD (x1_8).toNat (false))) = some y1_15_) (hy1_16 : y1_15_ = true) : Q_V_1 rnd x1_0 x1_1 x1_2 x1_3 x1_4 x1_5 x1_6 x1_7 x1_8 (.normal, S_V_1 x1_0 x1_1 x1_2 x1_3 x1_4 x1_5 x1_6 x1_7 (w64 (x1_8 + (1 : Int)))) :=
 runC2 hm (L := lT []) ⟨[0, 4, 7, 8, 9, 10], [(0, 0, false), (1, 1, true), (2, 2, true)], 3, 0, [], false, []⟩ (zz 5 (xdT hy1_1) <|
zz 13 (xk18 1 x1_5 hy1_2) <|
zz 15 (ok23 hy1_4 (hy1_3)) <|
zz 17 (xeF hy1_5) <|
zz 20 (xk1 0 Args.cA hy1_6) <|
zz 21 (lk2 hy1_7 (toNatLt hy1_6)) <|
yy 22 (.call (C_viewportref16Ownq1 (y1_7_.1) (y1_7_.2.1) (y1_7_.2.2.1) (y1_7_.2.2.2.1) (y1_7_.2.2.2.2.1) (y1_7_.2.2.2.2.2.1) (y1_7_.2.2.2.2.2.2.1) (y1_7_.2.2.2.2.2.2.2) y1_8_ [] [(3, 0, false)])) <|
ww (m_viewportref16Ownq1_ok n (y1_7_.1) (y1_7_.2.1) (y1_7_.2.2.1) (y1_7_.2.2.2.1) (y1_7_.2.2.2.2.1) (y1_7_.2.2.2.2.2.1) (y1_7_.2.2.2.2.2.2.1) (y1_7_.2.2.2.2.2.2.2) y1_8_ hy1_8) <|
yy 24 (.call (C_rMq1 y1_8_ (y1_7_.2.2.2.2.2.1) x1_0 x1_1 x1_2 y1_9_ [] [])) <|
ww (m_rMq1_ok n y1_8_ (y1_7_.2.2.2.2.2.1) x1_0 x1_1 x1_2 y1_9_ hy1_9) <|
yy 25 (vf) <|
ww (p := (Value.bool (!(false == y1_9_))) = (Value.bool false)) (vNeB rfl (Bool.eq_false_iff.2 hy1_10)) <|
zz 29 (xk18 1 x1_5 hy1_2) <|
zz 31 (ok23 hy1_4 (hy1_3)) <|
zz 33 (xnT hy1_5) <|
zz 37 (xk18 1 x1_5 hy1_2) <|
zz 39 (ok23 hy1_4 (hy1_3)) <|
zz 40 (xnF hy1_11) <|
zz 48 (xk1 0 Args.cA hy1_6) <|
zz 49 (fk9 ((x1_8).toNat * 8)) <|
zz 50 (lk10 hy1_7 (toNatLt hy1_6)) <|
zz 51 (xeF hy1_12) <|
zz 55 (xk21 2 x1_7 hy1_13) <|
zz 56 (ok22 hy1_15 (hy1_14)) <|
zz 58 (xbT hy1_16) <|
ww (rows_flat rwf_iiiiiiLu x1_4 32) <|
ww (rows_flat rwf_b x1_6 4) <|
ee) (by kernel_rfl)
theorem q_V_1_8 (n : Nat) {rnd : Option Nat} (x1_0 x1_1 x1_2 x1_3 : Int) (x1_4 : List R8) (x1_5 : Nat) (x1_6 : List (Bool)) (x1_7 : Nat) (x1_8 : Int) (hy1_1 : x1_8 < (Args.A.length : Int)) (hy1_2 : 0 ≤ x1_8 ∧ x1_8 < ((x1_5 : Nat) : Int)) (hy1_3 : (x1_8).toNat < (x1_4).length) (y1_4_ : R8) (hy1_4 : (some ((x1_4).getD (x1_8).toNat (0, 0, 0, 0, 0, 0, nl0, 0))) = some y1_4_) (hy1_5 : ¬ ((y1_4_.2.2.2.2.2.2.2) = x1_3)) (hy1_6 : 0 ≤ x1_8 ∧ x1_8 < (Args.A.length : Int)) (y1_7_ : R8) (hy1_7 : (some ((Args.A).getD (x1_8).toNat (0, 0, 0, 0, 0, 0, nl0, 0))) = some y1_7_) (y1_8_ : Int) (hy1_8 : m_viewportref16Ownq1 n (y1_7_.1) (y1_7_.2.1) (y1_7_.2.2.1) (y1_7_.2.2.2.1) (y1_7_.2.2.2.2.1) (y1_7_.2.2.2.2.2.1) (y1_7_.2.2.2.2.2.2.1) (y1_7_.2.2.2.2.2.2.2) = some y1_8_) (y1_9_ : Bool) (hy1_9 : m_rMq1 n y1_8_ (y1_7_.2.2.2.2.2.1) x1_0 x1_1 x1_2 = some y1_9_) (hy1_10 : ¬ (y1_9_ = true)) (hy1_11 : (y1_4_.2.2.2.2.2.2.2) = (0 : Int)) (hy1_12 : ¬ ((y1_7_.2.1) = (1 : Int))) (hy1_13 : 0 ≤ x1_8 ∧ x1_8 < ((x1_7 : Nat) : Int)) (hy1_14 : (x1_8).toNat < (x1_6).length) (y1_15_ : Bool) (hy1_15 : (some ((x1_6).getD (x1_8).toNat (false))) = some y1_15_) (hy1_16 : ¬ (y1_15_ = true)) (y1_17_ : Int) (hy1_17 : (some (w64 ((y1_4_.2.2.2.2.1) - (y1_7_.2.2.2.2.1)))) = some y1_17_) (hy1_18 : y1_17_ = (w64 ((y1_4_.2.2.1) - (y1_7_.2.2.1)))) : Q_V_1 rnd x1_0 x1_1 x1_2 x1_3 x1_4 x1_5 x1_6 x1_7 x1_8 (.normal, S_V_1 x1_0 x1_1 x1_2 x1_3 x1_4 x1_5 x1_6 x1_7 (w64 (x1_8 + (1 : Int)))) :=
 runC2 hm (L := lT []) ⟨[0, 4, 7, 8, 9, 10], [(0, 0, false), (1, 1, true), (2, 2, true)], 3, 0, [], false, []⟩ (zz 5 (xdT hy1_1) <|
zz 13 (xk18 1 x1_5 hy1_2) <|
zz 15 (ok23 hy1_4 (hy1_3)) <|
zz 17 (xeF hy1_5) <|
zz 20 (xk1 0 Args.cA hy1_6) <|
zz 21 (lk2 hy1_7 (toNatLt hy1_6)) <|
yy 22 (.call (C_viewportref16Ownq1 (y1_7_.1) (y1_7_.2.1) (y1_7_.2.2.1) (y1_7_.2.2.2.1) (y1_7_.2.2.2.2.1) (y1_7_.2.2.2.2.2.1) (y1_7_.2.2.2.2.2.2.1) (y1_7_.2.2.2.2.2.2.2) y1_8_ [] [(3, 0, false)])) <|
ww (m_viewportref16Ownq1_ok n (y1_7_.1) (y1_7_.2.1) (y1_7_.2.2.1) (y1_7_.2.2.2.1) (y1_7_.2.2.2.2.1) (y1_7_.2.2.2.2.2.1) (y1_7_.2.2.2.2.2.2.1) (y1_7_.2.2.2.2.2.2.2) y1_8_ hy1_8) <|
yy 24 (.call (C_rMq1 y1_8_ (y1_7_.2.2.2.2.2.1) x1_0 x1_1 x1_2 y1_9_ [] [])) <|
ww (m_rMq1_ok n y1_8_ (y1_7_.2.2.2.2.2.1) x1_0 x1_1 x1_2 y1_9_ hy1_9) <|
yy 25 (vf) <|
ww (p := (Value.bool (!(false == y1_9_))) = (Value.bool false)) (vNeB rfl (Bool.eq_false_iff.2 hy1_10)) <|
zz 29 (xk18 1 x1_5 hy1_2) <|
zz 31 (ok23 hy1_4 (hy1_3)) <|
zz 33 (xnT hy1_5) <|
zz 37 (xk18 1 x1_5 hy1_2) <|
zz 39 (ok23 hy1_4 (hy1_3)) <|
zz 40 (xnF hy1_11) <|
zz 48 (xk1 0 Args.cA hy1_6) <|
zz 49 (fk9 ((x1_8).toNat * 8)) <|
zz 50 (lk10 hy1_7 (toNatLt hy1_6)) <|
zz 51 (xeF hy1_12) <|
zz 55 (xk21 2 x1_7 hy1_13) <|
zz 56 (ok22 hy1_15 (hy1_14)) <|
zz 58 (xbF hy1_16) <|
zz 62 (xk18 1 x1_5 hy1_2) <|
zz 64 (ok20 hy1_4 (hy1_3)) <|
zz 67 (xk1 0 Args.cA hy1_6) <|
zz 68 (fk11 ((x1_8).toNat * 8)) <|
zz 69 (lk12 hy1_7 (toNatLt hy1_6)) <|
zz 75 (xk18 1 x1_5 hy1_2) <|
zz 77 (ok19 hy1_4 (hy1_3)) <|
zz 80 (xk1 0 Args.cA hy1_6) <|
zz 81 (fk15 ((x1_8).toNat * 8)) <|
zz 82 (lk16 hy1_7 (toNatLt hy1_6)) <|
zz 83 (xnm hy1_17) <|
zz 85 (xnF hy1_18) <|
ww (rows_flat rwf_iiiiiiLu x1_4 32) <|
ww (rows_flat rwf_b x1_6 4) <|
ee) (by kernel_rfl)
theorem q_V_1_9 (n : Nat) {rnd : Option Nat} (x1_0 x1_1 x1_2 x1_3 : Int) (x1_4 : List R8) (x1_5 : Nat) (x1_6 : List (Bool)) (x1_7 : Nat) (x1_8 : Int) (hy1_1 : x1_8 < (Args.A.length : Int)) (hy1_2 : 0 ≤ x1_8 ∧ x1_8 < ((x1_5 : Nat) : Int)) (hy1_3 : (x1_8).toNat < (x1_4).length) (y1_4_ : R8) (hy1_4 : (some ((x1_4).getD (x1_8).toNat (0, 0, 0, 0, 0, 0, nl0, 0))) = some y1_4_) (hy1_5 : ¬ ((y1_4_.2.2.2.2.2.2.2) = x1_3)) (hy1_6 : 0 ≤ x1_8 ∧ x1_8 < (Args.A.length : Int)) (y1_7_ : R8) (hy1_7 : (some ((Args.A).getD (x1_8).toNat (0, 0, 0, 0, 0, 0, nl0, 0))) = some y1_7_) (y1_8_ : Int) (hy1_8 : m_viewportref16Ownq1 n (y1_7_.1) (y1_7_.2.1) (y1_7_.2.2.1) (y1_7_.2.2.2.1) (y1_7_.2.2.2.2.1) (y1_7_.2.2.2.2.2.1) (y1_7_.2.2.2.2.2.2.1) (y1_7_.2.2.2.2.2.2.2) = some y1_8_) (y1_9_ : Bool) (hy1_9 : m_rMq1 n y1_8_ (y1_7_.2.2.2.2.2.1) x1_0 x1_1 x1_2 = some y1_9_) (hy1_10 : ¬ (y1_9_ = true)) (hy1_11 : (y1_4_.2.2.2.2.2.2.2) = (0 : Int)) (hy1_12 : ¬ ((y1_7_.2.1) = (1 : Int))) (hy1_13 : 0 ≤ x1_8 ∧ x1_8 < ((x1_7 : Nat) : Int)) (hy1_14 : (x1_8).toNat < (x1_6).length) (y1_15_ : Bool) (hy1_15 : (some ((x1_6).getD (x1_8).toNat (false))) = some y1_15_) (hy1_16 : ¬ (y1_15_ = true)) (y1_17_ : Int) (hy1_17 : (some (w64 ((y1_4_.2.2.2.2.1) - (y1_7_.2.2.2.2.1)))) = some y1_17_) (hy1_18 : ¬ (y1_17_ = (w64 ((y1_4_.2.2.1) - (y1_7_.2.2.1))))) (hy1_19 : (y1_7_.2.2.2.2.1) = x1_0) (hy1_20 : (y1_7_.2.2.1) = (y1_7_.2.2.2.2.1)) (hy1_21 : ¬ ((y1_7_.2.2.2.2.2.1) > (y1_7_.2.2.2.2.1))) : Q_V_1 rnd x1_0 x1_1 x1_2 x1_3 x1_4 x1_5 x1_6 x1_7 x1_8 (.normal, S_V_1 x1_0 x1_1 x1_2 x1_3 x1_4 x1_5 x1_6 x1_7 (w64 (x1_8 + (1 : Int)))) :=
 runC2 hm (L := lT []) ⟨[0, 4, 7, 8, 9, 10], [(0, 0, false), (1, 1, true), (2, 2, true)], 3, 0, [], false, []⟩ (zz 5 (xdT hy1_1) <|
zz 13 (xk18 1 x1_5 hy1_2) <|
zz 15 (ok23 hy1_4 (hy1_3)) <|
zz 17 (xeF hy1_5) <|
zz 20 (xk1 0 Args.cA hy1_6) <|
zz 21 (lk2 hy1_7 (toNatLt hy1_6)) <|
yy 22 (.call (C_viewportref16Ownq1 (y1_7_.1) (y1_7_.2.1) (y1_7_.2.2.1) (y1_7_.2.2.2.1) (y1_7_.2.2.2.2.1) (y1_7_.2.2.2.2.2.1) (y1_7_.2.2.2.2.2.2.1) (y1_7_.2.2.2.2.2.2.2) y1_8_ [] [(3, 0, false)])) <|
ww (m_viewportref16Ownq1_ok n (y1_7_.1) (y1_7_.2.1) (y1_7_.2.2.1) (y1_7_.2.2.2.1) (y1_7_.2.2.2.2.1) (y1_7_.2.2.2.2.2.1) (y1_7_.2.2.2.2.2.2.1) (y1_7_.2.2.2.2.2.2.2) y1_8_ hy1_8) <|
yy 24 (.call (C_rMq1 y1_8_ (y1_7_.2.2.2.2.2.1) x1_0 x1_1 x1_2 y1_9_ [] [])) <|
ww (m_rMq1_ok n y1_8_ (y1_7_.2.2.2.2.2.1) x1_0 x1_1 x1_2 y1_9_ hy1_9) <|
yy 25 (vf) <|
ww (p := (Value.bool (!(false == y1_9_))) = (Value.bool false)) (vNeB rfl (Bool.eq_false_iff.2 hy1_10)) <|
zz 29 (xk18 1 x1_5 hy1_2) <|
zz 31 (ok23 hy1_4 (hy1_3)) <|
zz 33 (xnT hy1_5) <|
zz 37 (xk18 1 x1_5 hy1_2) <|
zz 39 (ok23 hy1_4 (hy1_3)) <|
zz 40 (xnF hy1_11) <|
zz 48 (xk1 0 Args.cA hy1_6) <|
zz 49 (fk9 ((x1_8).toNat * 8)) <|
zz 50 (lk10 hy1_7 (toNatLt hy1_6)) <|
zz 51 (xeF hy1_12) <|
zz 55 (xk21 2 x1_7 hy1_13) <|
zz 56 (ok22 hy1_15 (hy1_14)) <|
zz 58 (xbF hy1_16) <|
zz 62 (xk18 1 x1_5 hy1_2) <|
zz 64 (ok20 hy1_4 (hy1_3)) <|
zz 67 (xk1 0 Args.cA hy1_6) <|
zz 68 (fk11 ((x1_8).toNat * 8)) <|
zz 69 (lk12 hy1_7 (toNatLt hy1_6)) <|
zz 75 (xk18 1 x1_5 hy1_2) <|
zz 77 (ok19 hy1_4 (hy1_3)) <|
zz 80 (xk1 0 Args.cA hy1_6) <|
zz 81 (fk15 ((x1_8).toNat * 8)) <|
zz 82 (lk16 hy1_7 (toNatLt hy1_6)) <|
zz 83 (xnm hy1_17) <|
zz 85 (xnT hy1_18) <|
zz 89 (xk1 0 Args.cA hy1_6) <|
zz 90 (fk15 ((x1_8).toNat * 8)) <|
zz 91 (lk16 hy1_7 (toNatLt hy1_6)) <|
zz 94 (xnF hy1_19) <|
zz 98 (xk1 0 Args.cA hy1_6) <|
zz 99 (fk11 ((x1_8).toNat * 8)) <|
zz 100 (lk12 hy1_7 (toNatLt hy1_6)) <|
zz 103 (xk1 0 Args.cA hy1_6) <|
zz 104 (fk15 ((x1_8).toNat * 8)) <|
zz 105 (lk16 hy1_7 (toNatLt hy1_6)) <|
zz 106 (xeT hy1_20) <|
zz 112 (xk1 0 Args.cA hy1_6) <|
zz 113 (fk13 ((x1_8).toNat * 8)) <|
zz 114 (lk14 hy1_7 (toNatLt hy1_6)) <|
zz 117 (xk1 0 Args.cA hy1_6) <|
zz 118 (fk15 ((x1_8).toNat * 8)) <|
zz 119 (lk16 hy1_7 (toNatLt hy1_6)) <|
zz 120 (xdF hy1_21) <|
ww (rows_flat rwf_iiiiiiLu x1_4 32) <|
ww (rows_flat rwf_b x1_6 4) <|
ee) (by kernel_rfl)
theorem q_V_1_10 (n : Nat) {rnd : Option Nat} (x1_0 x1_1 x1_2 x1_3 : Int) (x1_4 : List R8) (x1_5 : Nat) (x1_6 : List (Bool)) (x1_7 : Nat) (x1_8 : Int) (hy1_1 : x1_8 < (Args.A.length : Int)) (hy1_2 : 0 ≤ x1_8 ∧ x1_8 < ((x1_5 : Nat) : Int)) (hy1_3 : (x1_8).toNat < (x1_4).length) (y1_4_ : R8) (hy1_4 : (some ((x1_4).getD (x1_8).toNat (0, 0, 0, 0, 0, 0, nl0, 0))) = some y1_4_) (hy1_5 : ¬ ((y1_4_.2.2.2.2.2.2.2) = x1_3)) (hy1_6 : 0 ≤ x1_8 ∧ x1_8 < (Args.A.length : Int)) (y1_7_ : R8) (hy1_7 : (some ((Args.A).getD (x1_8).toNat (0, 0, 0, 0, 0, 0, nl0, 0))) = some y1_7_) (y1_8_ : Int) (hy1_8 : m_viewportref16Ownq1 n (y1_7_.1) (y1_7_.2.1) (y1_7_.2.2.1) (y1_7_.2.2.2.1) (y1_7_.2.2.2.2.1) (y1_7_.2.2.2.2.2.1) (y1_7_.2.2.2.2.2.2.1) (y1_7_.2.2.2.2.2.2.2) = some y1_8_) (y1_9_ : Bool) (hy1_9 : m_rMq1 n y1_8_ (y1_7_.2.2.2.2.2.1) x1_0 x1_1 x1_2 = some y1_9_) (hy1_10 : ¬ (y1_9_ = true)) (hy1_11 : (y1_4_.2.2.2.2.2.2.2) = (0 : Int)) (hy1_12 : ¬ ((y1_7_.2.1) = (1 : Int))) (hy1_13 : 0 ≤ x1_8 ∧ x1_8 < ((x1_7 : Nat) : Int)) (hy1_14 : (x1_8).toNat < (x1_6).length) (y1_15_ : Bool) (hy1_15 : (some ((x1_6).getD (x1_8).toNat (false))) = some y1_15_) (hy1_16 : ¬ (y1_15_ = true)) (y1_17_ : Int) (hy1_17 : (some (w64 ((y1_4_.2.2.2.2.1) - (y1_7_.2.2.2.2.1)))) = some y1_17_) (hy1_18 : ¬ (y1_17_ = (w64 ((y1_4_.2.2.1) - (y1_7_.2.2.1))))) (hy1_19 : (y1_7_.2.2.2.2.1) = x1_0) (hy1_20 : ¬ ((y1_7_.2.2.1) = (y1_7_.2.2.2.2.1))) : Q_V_1 rnd x1_0 x1_1 x1_2 x1_3 x1_4 x1_5 x1_6 x1_7 x1_8 (.normal, S_V_1 x1_0 x1_1 x1_2 x1_3 x1_4 x1_5 x1_6 x1_7 (w64 (x1_8 + (1 : Int)))) :=
 runC2 hm (L := lT []) ⟨[0, 4, 7, 8, 9, 10], [(0, 0, false), (1, 1, true), (2, 2, true)], 3, 0, [], false, []⟩ (zz 5 (xdT hy1_1) <|
zz 13 (xk18 1 x1_5 hy1_2) <|
zz 15 (ok23 hy1_4 (hy1_3)) <|
zz 17 (xeF hy1_5) <|
zz 20 (xk1 0 Args.cA hy1_6) <|
zz 21 (lk2 hy1_7 (toNatLt hy1_6)) <|
yy 22 (.call (C_viewportref16Ownq1 (y1_7_.1) (y1_7_.2.1) (y1_7_.2.2.1) (y1_7_.2.2.2.1) (y1_7_.2.2.2.2.1) (y1_7_.2.2.2.2.2.1) (y1_7_.2.2.2.2.2.2.1) (y1_7_.2.2.2.2.2.2.2) y1_8_ [] [(3, 0, false)])) <|
ww (m_viewportref16Ownq1_ok n (y1_7_.1) (y1_7_.2.1) (y1_7_.2.2.1) (y1_7_.2.2.2.1) (y1_7_.2.2.2.2.1) (y1_7_.2.2.2.2.2.1) (y1_7_.2.2.2.2.2.2.1) (y1_7_.2.2.2.2.2.2.2) y1_8_ hy1_8) <|
yy 24 (.call (C_rMq1 y1_8_ (y1_7_.2.2.2.2.2.1) x1_0 x1_1 x1_2 y1_9_ [] [])) <|
ww (m_rMq1_ok n y1_8_ (y1_7_.2.2.2.2.2.1) x1_0 x1_1 x1_2 y1_9_ hy1_9) <|
yy 25 (vf) <|
ww (p := (Value.bool (!(false == y1_9_))) = (Value.bool false)) (vNeB rfl (Bool.eq_false_iff.2 hy1_10)) <|
zz 29 (xk18 1 x1_5 hy1_2) <|
zz 31 (ok23 hy1_4 (hy1_3)) <|
zz 33 (xnT hy1_5) <|
zz 37 (xk18 1 x1_5 hy1_2) <|
zz 39 (ok23 hy1_4 (hy1_3)) <|
zz 40 (xnF hy1_11) <|
zz 48 (xk1 0 Args.cA hy1_6) <|
zz 49 (fk9 ((x1_8).toNat * 8)) <|
zz 50 (lk10 hy1_7 (toNatLt hy1_6)) <|
zz 51 (xeF hy1_12) <|
zz 55 (xk21 2 x1_7 hy1_13) <|
zz 56 (ok22 hy1_15 (hy1_14)) <|
zz 58 (xbF hy1_16) <|
zz 62 (xk18 1 x1_5 hy1_2) <|
zz 64 (ok20 hy1_4 (hy1_3)) <|
zz 67 (xk1 0 Args.cA hy1_6) <|
zz 68 (fk11 ((x1_8).toNat * 8)) <|
zz 69 (lk12 hy1_7 (toNatLt hy1_6)) <|
zz 75 (xk18 1 x1_5 hy1_2) <|
zz 77 (ok19 hy1_4 (hy1_3)) <|
zz 80 (xk1 0 Args.cA hy1_6) <|
zz 81 (fk15 ((x1_8).toNat * 8)) <|
zz 82 (lk16 hy1_7 (toNatLt hy1_6)) <|
zz 83 (xnm hy1_17) <|
zz 85 (xnT hy1_18) <|
zz 89 (xk1 0 Args.cA hy1_6) <|
zz 90 (fk15 ((x1_8).toNat * 8)) <|
zz 91 (lk16 hy1_7 (toNatLt hy1_6)) <|
zz 94 (xnF hy1_19) <|
zz 98 (xk1 0 Args.cA hy1_6) <|
zz 99 (fk11 ((x1_8).toNat * 8)) <|
zz 100 (lk12 hy1_7 (toNatLt hy1_6)) <|
zz 103 (xk1 0 Args.cA hy1_6) <|
zz 104 (fk15 ((x1_8).toNat * 8)) <|
zz 105 (lk16 hy1_7 (toNatLt hy1_6)) <|
zz 106 (xeF hy1_20) <|
ww (rows_flat rwf_iiiiiiLu x1_4 32) <|
ww (rows_flat rwf_b x1_6 4) <|
ee) (by kernel_rfl)
theorem q_V_1_11 (n : Nat) {rnd : Option Nat} (x1_0 x1_1 x1_2 x1_3 : Int) (x1_4 : List R8) (x1_5 : Nat) (x1_6 : List (Bool)) (x1_7 : Nat) (x1_8 : Int) (hy1_1 : x1_8 < (Args.A.length : Int)) (hy1_2 : 0 ≤ x1_8 ∧ x1_8 < ((x1_5 : Nat) : Int)) (hy1_3 : (x1_8).toNat < (x1_4).length) (y1_4_ : R8) (hy1_4 : (some ((x1_4).getD (x1_8).toNat (0, 0, 0, 0, 0, 0, nl0, 0))) = some y1_4_) (hy1_5 : ¬ ((y1_4_.2.2.2.2.2.2.2) = x1_3)) (hy1_6 : 0 ≤ x1_8 ∧ x1_8 < (Args.A.length : Int)) (y1_7_ : R8) (hy1_7 : (some ((Args.A).getD (x1_8).toNat (0, 0, 0, 0, 0, 0, nl0, 0))) = some y1_7_) (y1_8_ : Int) (hy1_8 : m_viewportref16Ownq1 n (y1_7_.1) (y1_7_.2.1) (y1_7_.2.2.1) (y1_7_.2.2.2.1) (y1_7_.2.2.2.2.1) (y1_7_.2.2.2.2.2.1) (y1_7_.2.2.2.2.2.2.1) (y1_7_.2.2.2.2.2.2.2) = some y1_8_) (y1_9_ : Bool) (hy1_9 : m_rMq1 n y1_8_ (y1_7_.2.2.2.2.2.1) x1_0 x1_1 x1_2 = some y1_9_) (hy1_10 : ¬ (y1_9_ = true)) (hy1_11 : (y1_4_.2.2.2.2.2.2.2) = (0 : Int)) (hy1_12 : ¬ ((y1_7_.2.1) = (1 : Int))) (hy1_13 : 0 ≤ x1_8 ∧ x1_8 < ((x1_7 : Nat) : Int)) (hy1_14 : (x1_8).toNat < (x1_6).length) (y1_15_ : Bool) (hy1_15 : (some ((x1_6).getD (x1_8).toNat (false))) = some y1_15_) (hy1_16 : ¬ (y1_15_ = true)) (y1_17_ : Int) (hy1_17 : (some (w64 ((y1_4_.2.2.2.2.1) - (y1_7_.2.2.2.2.1)))) = some y1_17_) (hy1_18 : ¬ (y1_17_ = (w64 ((y1_4_.2.2.1) - (y1_7_.2.2.1))))) (hy1_19 : ¬ ((y1_7_.2.2.2.2.1) = x1_0)) (hy1_20 : ¬ ((y1_7_.2.2.2.2.2.1) > (y1_7_.2.2.2.2.1))) : Q_V_1 rnd x1_0 x1_1 x1_2 x1_3 x1_4 x1_5 x1_6 x1_7 x1_8 (.normal, S_V_1 x1_0 x1_1 x1_2 x1_3 x1_4 x1_5 x1_6 x1_7 (w64 (x1_8 + (1 : Int)))) :=
 runC2 hm (L := lT []) ⟨[0, 4, 7, 8, 9, 10], [(0, 0, false), (1, 1, true), (2, 2, true)], 3, 0, [], false, []⟩ (zz 5 (xdT hy1_1) <|
zz 13 (xk18 1 x1_5 hy1_2) <|
zz 15 (ok23 hy1_4 (hy1_3)) <|
zz 17 (xeF hy1_5) <|
zz 20 (xk1 0 Args.cA hy1_6) <|
zz 21 (lk2 hy1_7 (toNatLt hy1_6)) <|
yy 22 (.call (C_viewportref16Ownq1 (y1_7_.1) (y1_7_.2.1) (y1_7_.2.2.1) (y1_7_.2.2.2.1) (y1_7_.2.2.2.2.1) (y1_7_.2.2.2.2.2.1) (y1_7_.2.2.2.2.2.2.1) (y1_7_.2.2.2.2.2.2.2) y1_8_ [] [(3, 0, false)])) <|
ww (m_viewportref16Ownq1_ok n (y1_7_.1) (y1_7_.2.1) (y1_7_.2.2.1) (y1_7_.2.2.2.1) (y1_7_.2.2.2.2.1) (y1_7_.2.2.2.2.2.1) (y1_7_.2.2.2.2.2.2.1) (y1_7_.2.2.2.2.2.2.2) y1_8_ hy1_8) <|
yy 24 (.call (C_rMq1 y1_8_ (y1_7_.2.2.2.2.2.1) x1_0 x1_1 x1_2 y1_9_ [] [])) <|
ww (m_rMq1_ok n y1_8_ (y1_7_.2.2.2.2.2.1) x1_0 x1_1 x1_2 y1_9_ hy1_9) <|
yy 25 (vf) <|
ww (p := (Value.bool (!(false == y1_9_))) = (Value.bool false)) (vNeB rfl (Bool.eq_false_iff.2 hy1_10)) <|
zz 29 (xk18 1 x1_5 hy1_2) <|
zz 31 (ok23 hy1_4 (hy1_3)) <|
zz 33 (xnT hy1_5) <|
zz 37 (xk18 1 x1_5 hy1_2) <|
zz 39 (ok23 hy1_4 (hy1_3)) <|
zz 40 (xnF hy1_11) <|
zz 48 (xk1 0 Args.cA hy1_6) <|
zz 49 (fk9 ((x1_8).toNat * 8)) <|
zz 50 (lk10 hy1_7 (toNatLt hy1_6)) <|
zz 51 (xeF hy1_12) <|
zz 55 (xk21 2 x1_7 hy1_13) <|
zz 56 (ok22 hy1_15 (hy1_14)) <|
zz 58 (xbF hy1_16) <|
zz 62 (xk18 1 x1_5 hy1_2) <|
zz 64 (ok20 hy1_4 (hy1_3)) <|
zz 67 (xk1 0 Args.cA hy1_6) <|
zz 68 (fk11 ((x1_8).toNat * 8)) <|
zz 69 (lk12 hy1_7 (toNatLt hy1_6)) <|
zz 75 (xk18 1 x1_5 hy1_2) <|
zz 77 (ok19 hy1_4 (hy1_3)) <|
zz 80 (xk1 0 Args.cA hy1_6) <|
zz 81 (fk15 ((x1_8).toNat * 8)) <|
zz 82 (lk16 hy1_7 (toNatLt hy1_6)) <|
zz 83 (xnm hy1_17) <|
zz 85 (xnT hy1_18) <|
zz 89 (xk1 0 Args.cA hy1_6) <|
zz 90 (fk15 ((x1_8).toNat * 8)) <|
zz 91 (lk16 hy1_7 (toNatLt hy1_6)) <|
zz 94 (xnT hy1_19) <|
zz 112 (xk1 0 Args.cA hy1_6) <|
zz 113 (fk13 ((x1_8).toNat * 8)) <|
zz 114 (lk14 hy1_7 (toNatLt hy1_6)) <|
zz 117 (xk1 0 Args.cA hy1_6) <|
zz 118 (fk15 ((x1_8).toNat * 8)) <|
zz 119 (lk16 hy1_7 (toNatLt hy1_6)) <|
zz 120 (xdF hy1_20) <|
ww (rows_flat rwf_iiiiiiLu x1_4 32) <|
ww (rows_flat rwf_b x1_6 4) <|
ee) (by kernel_rfl)
theorem q_V_1_12 (n : Nat) {rnd : Option Nat} (x1_0 x1_1 x1_2 x1_3 : Int) (x1_4 : List R8) (x1_5 : Nat) (x1_6 : List (Bool)) (x1_7 : Nat) (x1_8 : Int) (hy1_1 : ¬ (x1_8 < (Args.A.length : Int))) : Q_V_1 rnd x1_0 x1_1 x1_2 x1_3 x1_4 x1_5 x1_6 x1_7 x1_8 (X_V_1 x1_0 x1_1 x1_2 x1_3 x1_4 x1_5 x1_6 x1_7 ()) :=
 runC2 hm (L := lT []) ⟨[], [], 0, 0, [], false, []⟩ (zz 5 (xdF hy1_1) <|
ee) (by kernel_rfl)
theorem m_V_1_ok (n : Nat) {rnd : Option Nat} (x1_0 : Int) (x1_1 : Int) (x1_2 : Int) (x1_3 : Int) (x1_4 : List R8) (x1_5 : Nat) (x1_6 : List (Bool)) (x1_7 : Nat) (st : Int) (r : Unit) (h : m_V_1 n x1_0 x1_1 x1_2 x1_3 x1_4 x1_5 x1_6 x1_7 st = some r) : CG P rnd (fnN P 3) 0 (codeOf P 3 [false, true, false, true, true, true, true, true, true, true, true, true, true]) (S_V_1 x1_0 x1_1 x1_2 x1_3 x1_4 x1_5 x1_6 x1_7 st) (X_V_1 x1_0 x1_1 x1_2 x1_3 x1_4 x1_5 x1_6 x1_7 r) :=
 CG.iter (b := codeOf P 3 [false, false, true, false, true, true, true, true, true, true, true, true, true, true]) (by kernel_rfl) (body := B_V_1 n x1_0 x1_1 x1_2 x1_3 x1_4 x1_5 x1_6 x1_7) (S := S_V_1 x1_0 x1_1 x1_2 x1_3 x1_4 x1_5 x1_6 x1_7) (X := X_V_1 x1_0 x1_1 x1_2 x1_3 x1_4 x1_5 x1_6 x1_7)
  (fun x1_8 s' h => by
  unfold B_V_1 at h
  dsimp only at h
  by_cases hy1_1 : x1_8 < (Args.A.length : Int)
  ·rw [if_pos hy1_1] at h
   by_cases hy1_2 : 0 ≤ x1_8 ∧ x1_8 < ((x1_5 : Nat) : Int)
   ·rw [if_pos hy1_2] at h
    by_cases hy1_3 : (x1_8).toNat < (x1_4).length
    ·rw [if_pos hy1_3] at h
     obtain ⟨y1_4_, hy1_4, h⟩ := Option.bind_eq_some_iff.1 h
     by_cases hy1_5 : (y1_4_.2.2.2.2.2.2.2) = x1_3
     ·rw [if_pos hy1_5] at h
      by_cases hy1_6 : 0 ≤ x1_8 ∧ x1_8 < (Args.A.length : Int)
      ·rw [if_pos hy1_6] at h
       obtain ⟨y1_7_, hy1_7, h⟩ := Option.bind_eq_some_iff.1 h
       obtain ⟨y1_8_, hy1_8, h⟩ := Option.bind_eq_some_iff.1 h
       obtain ⟨y1_9_, hy1_9, h⟩ := Option.bind_eq_some_iff.1 h
       by_cases hy1_10 : y1_9_ = true
       ·rw [if_pos hy1_10] at h
        by_cases hy1_11 : (y1_7_.2.1) = (1 : Int)
        ·rw [if_pos hy1_11] at h
         obtain rfl := Sum.inl.inj (oI h); exact q_V_1_0 n x1_0 x1_1 x1_2 x1_3 x1_4 x1_5 x1_6 x1_7 x1_8 hy1_1 hy1_2 hy1_3 y1_4_ hy1_4 hy1_5 hy1_6 y1_7_ hy1_7 y1_8_ hy1_8 y1_9_ hy1_9 hy1_10 hy1_11
        ·rw [if_neg hy1_11] at h
         by_cases hy1_12 : 0 ≤ x1_8 ∧ x1_8 < ((x1_7 : Nat) : Int)
         ·rw [if_pos hy1_12] at h
          by_cases hy1_13 : (x1_8).toNat < (x1_6).length
          ·rw [if_pos hy1_13] at h
           obtain ⟨y1_14_, hy1_14, h⟩ := Option.bind_eq_some_iff.1 h
           by_cases hy1_15 : y1_14_ = true
           ·rw [if_pos hy1_15] at h
            obtain rfl := Sum.inl.inj (oI h); exact q_V_1_1 n x1_0 x1_1 x1_2 x1_3 x1_4 x1_5 x1_6 x1_7 x1_8 hy1_1 hy1_2 hy1_3 y1_4_ hy1_4 hy1_5 hy1_6 y1_7_ hy1_7 y1_8_ hy1_8 y1_9_ hy1_9 hy1_10 hy1_11 hy1_12 hy1_13 y1_14_ hy1_14 hy1_15
           ·rw [if_neg hy1_15] at h
            obtain ⟨y1_16_, hy1_16, h⟩ := Option.bind_eq_some_iff.1 h
            by_cases hy1_17 : y1_16_ = (w64 ((y1_4_.2.2.1) - (y1_7_.2.2.1)))
            ·rw [if_pos hy1_17] at h
             obtain rfl := Sum.inl.inj (oI h); exact q_V_1_2 n x1_0 x1_1 x1_2 x1_3 x1_4 x1_5 x1_6 x1_7 x1_8 hy1_1 hy1_2 hy1_3 y1_4_ hy1_4 hy1_5 hy1_6 y1_7_ hy1_7 y1_8_ hy1_8 y1_9_ hy1_9 hy1_10 hy1_11 hy1_12 hy1_13 y1_14_ hy1_14 hy1_15 y1_16_ hy1_16 hy1_17
            ·rw [if_neg hy1_17] at h
             by_cases hy1_18 : (y1_7_.2.2.2.2.1) = x1_0
             ·rw [if_pos hy1_18] at h
              by_cases hy1_19 : (y1_7_.2.2.1) = (y1_7_.2.2.2.2.1)
              ·rw [if_pos hy1_19] at h
               by_cases hy1_20 : (y1_7_.2.2.2.2.2.1) > (y1_7_.2.2.2.2.1)
               ·rw [if_pos hy1_20] at h
                cases h
               ·rw [if_neg hy1_20] at h
                obtain rfl := Sum.inl.inj (oI h); exact q_V_1_3 n x1_0 x1_1 x1_2 x1_3 x1_4 x1_5 x1_6 x1_7 x1_8 hy1_1 hy1_2 hy1_3 y1_4_ hy1_4 hy1_5 hy1_6 y1_7_ hy1_7 y1_8_ hy1_8 y1_9_ hy1_9 hy1_10 hy1_11 hy1_12 hy1_13 y1_14_ hy1_14 hy1_15 y1_16_ hy1_16 hy1_17 hy1_18 hy1_19 hy1_20
              ·rw [if_neg hy1_19] at h
               obtain rfl := Sum.inl.inj (oI h); exact q_V_1_4 n x1_0 x1_1 x1_2 x1_3 x1_4 x1_5 x1_6 x1_7 x1_8 hy1_1 hy1_2 hy1_3 y1_4_ hy1_4 hy1_5 hy1_6 y1_7_ hy1_7 y1_8_ hy1_8 y1_9_ hy1_9 hy1_10 hy1_11 hy1_12 hy1_13 y1_14_ hy1_14 hy1_15 y1_16_ hy1_16 hy1_17 hy1_18 hy1_19
             ·rw [if_neg hy1_18] at h
              by_cases hy1_19 : (y1_7_.2.2.2.2.2.1) > (y1_7_.2.2.2.2.1)
              ·rw [if_pos hy1_19] at h
               cases h
              ·rw [if_neg hy1_19] at h
               obtain rfl := Sum.inl.inj (oI h); exact q_V_1_5 n x1_0 x1_1 x1_2 x1_3 x1_4 x1_5 x1_6 x1_7 x1_8 hy1_1 hy1_2 hy1_3 y1_4_ hy1_4 hy1_5 hy1_6 y1_7_ hy1_7 y1_8_ hy1_8 y1_9_ hy1_9 hy1_10 hy1_11 hy1_12 hy1_13 y1_14_ hy1_14 hy1_15 y1_16_ hy1_16 hy1_17 hy1_18 hy1_19
          ·rw [if_neg hy1_13] at h; cases h
         ·rw [if_neg hy1_12] at h; cases h
       ·rw [if_neg hy1_10] at h
        cases h
      ·rw [if_neg hy1_6] at h; cases h
     ·rw [if_neg hy1_5] at h
      by_cases hy1_6 : 0 ≤ x1_8 ∧ x1_8 < (Args.A.length : Int)
      ·rw [if_pos hy1_6] at h
       obtain ⟨y1_7_, hy1_7, h⟩ := Option.bind_eq_some_iff.1 h
       obtain ⟨y1_8_, hy1_8, h⟩ := Option.bind_eq_some_iff.1 h
       obtain ⟨y1_9_, hy1_9, h⟩ := Option.bind_eq_some_iff.1 h
       by_cases hy1_10 : y1_9_ = true
       ·rw [if_pos hy1_10] at h
        cases h
       ·rw [if_neg hy1_10] at h
        by_cases hy1_11 : (y1_4_.2.2.2.2.2.2.2) = (0 : Int)
        ·rw [if_pos hy1_11] at h
         by_cases hy1_12 : (y1_7_.2.1) = (1 : Int)
         ·rw [if_pos hy1_12] at h
          obtain rfl := Sum.inl.inj (oI h); exact q_V_1_6 n x1_0 x1_1 x1_2 x1_3 x1_4 x1_5 x1_6 x1_7 x1_8 hy1_1 hy1_2 hy1_3 y1_4_ hy1_4 hy1_5 hy1_6 y1_7_ hy1_7 y1_8_ hy1_8 y1_9_ hy1_9 hy1_10 hy1_11 hy1_12
         ·rw [if_neg hy1_12] at h
          by_cases hy1_13 : 0 ≤ x1_8 ∧ x1_8 < ((x1_7 : Nat) : Int)
          ·rw [if_pos hy1_13] at h
           by_cases hy1_14 : (x1_8).toNat < (x1_6).length
           ·rw [if_pos hy1_14] at h
            obtain ⟨y1_15_, hy1_15, h⟩ := Option.bind_eq_some_iff.1 h
            by_cases hy1_16 : y1_15_ = true
            ·rw [if_pos hy1_16] at h
             obtain rfl := Sum.inl.inj (oI h); exact q_V_1_7 n x1_0 x1_1 x1_2 x1_3 x1_4 x1_5 x1_6 x1_7 x1_8 hy1_1 hy1_2 hy1_3 y1_4_ hy1_4 hy1_5 hy1_6 y1_7_ hy1_7 y1_8_ hy1_8 y1_9_ hy1_9 hy1_10 hy1_11 hy1_12 hy1_13 hy1_14 y1_15_ hy1_15 hy1_16
            ·rw [if_neg hy1_16] at h
             obtain ⟨y1_17_, hy1_17, h⟩ := Option.bind_eq_some_iff.1 h
             by_cases hy1_18 : y1_17_ = (w64 ((y1_4_.2.2.1) - (y1_7_.2.2.1)))
             ·rw [if_pos hy1_18] at h
              obtain rfl := Sum.inl.inj (oI h); exact q_V_1_8 n x1_0 x1_1 x1_2 x1_3 x1_4 x1_5 x1_6 x1_7 x1_8 hy1_1 hy1_2 hy1_3 y1_4_ hy1_4 hy1_5 hy1_6 y1_7_ hy1_7 y1_8_ hy1_8 y1_9_ hy1_9 hy1_10 hy1_11 hy1_12 hy1_13 hy1_14 y1_15_ hy1_15 hy1_16 y1_17_ hy1_17 hy1_18
             ·rw [if_neg hy1_18] at h
              by_cases hy1_19 : (y1_7_.2.2.2.2.1) = x1_0
              ·rw [if_pos hy1_19] at h
               by_cases hy1_20 : (y1_7_.2.2.1) = (y1_7_.2.2.2.2.1)
               ·rw [if_pos hy1_20] at h
                by_cases hy1_21 : (y1_7_.2.2.2.2.2.1) > (y1_7_.2.2.2.2.1)
                ·rw [if_pos hy1_21] at h
                 cases h
                ·rw [if_neg hy1_21] at h
                 obtain rfl := Sum.inl.inj (oI h); exact q_V_1_9 n x1_0 x1_1 x1_2 x1_3 x1_4 x1_5 x1_6 x1_7 x1_8 hy1_1 hy1_2 hy1_3 y1_4_ hy1_4 hy1_5 hy1_6 y1_7_ hy1_7 y1_8_ hy1_8 y1_9_ hy1_9 hy1_10 hy1_11 hy1_12 hy1_13 hy1_14 y1_15_ hy1_15 hy1_16 y1_17_ hy1_17 hy1_18 hy1_19 hy1_20 hy1_21
               ·rw [if_neg hy1_20] at h
                obtain rfl := Sum.inl.inj (oI h); exact q_V_1_10 n x1_0 x1_1 x1_2 x1_3 x1_4 x1_5 x1_6 x1_7 x1_8 hy1_1 hy1_2 hy1_3 y1_4_ hy1_4 hy1_5 hy1_6 y1_7_ hy1_7 y1_8_ hy1_8 y1_9_ hy1_9 hy1_10 hy1_11 hy1_12 hy1_13 hy1_14 y1_15_ hy1_15 hy1_16 y1_17_ hy1_17 hy1_18 hy1_19 hy1_20
              ·rw [if_neg hy1_19] at h
               by_cases hy1_20 : (y1_7_.2.2.2.2.2.1) > (y1_7_.2.2.2.2.1)
               ·rw [if_pos hy1_20] at h
                cases h
               ·rw [if_neg hy1_20] at h
                obtain rfl := Sum.inl.inj (oI h); exact q_V_1_11 n x1_0 x1_1 x1_2 x1_3 x1_4 x1_5 x1_6 x1_7 x1_8 hy1_1 hy1_2 hy1_3 y1_4_ hy1_4 hy1_5 hy1_6 y1_7_ hy1_7 y1_8_ hy1_8 y1_9_ hy1_9 hy1_10 hy1_11 hy1_12 hy1_13 hy1_14 y1_15_ hy1_15 hy1_16 y1_17_ hy1_17 hy1_18 hy1_19 hy1_20
           ·rw [if_neg hy1_14] at h; cases h
          ·rw [if_neg hy1_13] at h; cases h
        ·rw [if_neg hy1_11] at h
         cases h
      ·rw [if_neg hy1_6] at h; cases h
    ·rw [if_neg hy1_3] at h; cases h
   ·rw [if_neg hy1_2] at h; cases h
  ·rw [if_neg hy1_1] at h
   cases h)
  (fun x1_8 r h => by
  unfold B_V_1 at h
  dsimp only at h
  by_cases hy1_1 : x1_8 < (Args.A.length : Int)
  ·rw [if_pos hy1_1] at h
   by_cases hy1_2 : 0 ≤ x1_8 ∧ x1_8 < ((x1_5 : Nat) : Int)
   ·rw [if_pos hy1_2] at h
    by_cases hy1_3 : (x1_8).toNat < (x1_4).length
    ·rw [if_pos hy1_3] at h
     obtain ⟨y1_4_, hy1_4, h⟩ := Option.bind_eq_some_iff.1 h
     by_cases hy1_5 : (y1_4_.2.2.2.2.2.2.2) = x1_3
     ·rw [if_pos hy1_5] at h
      by_cases hy1_6 : 0 ≤ x1_8 ∧ x1_8 < (Args.A.length : Int)
      ·rw [if_pos hy1_6] at h
       obtain ⟨y1_7_, hy1_7, h⟩ := Option.bind_eq_some_iff.1 h
       obtain ⟨y1_8_, hy1_8, h⟩ := Option.bind_eq_some_iff.1 h
       obtain ⟨y1_9_, hy1_9, h⟩ := Option.bind_eq_some_iff.1 h
       by_cases hy1_10 : y1_9_ = true
       ·rw [if_pos hy1_10] at h
        by_cases hy1_11 : (y1_7_.2.1) = (1 : Int)
        ·rw [if_pos hy1_11] at h
         cases h
        ·rw [if_neg hy1_11] at h
         by_cases hy1_12 : 0 ≤ x1_8 ∧ x1_8 < ((x1_7 : Nat) : Int)
         ·rw [if_pos hy1_12] at h
          by_cases hy1_13 : (x1_8).toNat < (x1_6).length
          ·rw [if_pos hy1_13] at h
           obtain ⟨y1_14_, hy1_14, h⟩ := Option.bind_eq_some_iff.1 h
           by_cases hy1_15 : y1_14_ = true
           ·rw [if_pos hy1_15] at h
            cases h
           ·rw [if_neg hy1_15] at h
            obtain ⟨y1_16_, hy1_16, h⟩ := Option.bind_eq_some_iff.1 h
            by_cases hy1_17 : y1_16_ = (w64 ((y1_4_.2.2.1) - (y1_7_.2.2.1)))
            ·rw [if_pos hy1_17] at h
             cases h
            ·rw [if_neg hy1_17] at h
             by_cases hy1_18 : (y1_7_.2.2.2.2.1) = x1_0
             ·rw [if_pos hy1_18] at h
              by_cases hy1_19 : (y1_7_.2.2.1) = (y1_7_.2.2.2.2.1)
              ·rw [if_pos hy1_19] at h
               by_cases hy1_20 : (y1_7_.2.2.2.2.2.1) > (y1_7_.2.2.2.2.1)
               ·rw [if_pos hy1_20] at h
                cases h
               ·rw [if_neg hy1_20] at h
                cases h
              ·rw [if_neg hy1_19] at h
               cases h
             ·rw [if_neg hy1_18] at h
              by_cases hy1_19 : (y1_7_.2.2.2.2.2.1) > (y1_7_.2.2.2.2.1)
              ·rw [if_pos hy1_19] at h
               cases h
              ·rw [if_neg hy1_19] at h
               cases h
          ·rw [if_neg hy1_13] at h; cases h
         ·rw [if_neg hy1_12] at h; cases h
       ·rw [if_neg hy1_10] at h
        cases h
      ·rw [if_neg hy1_6] at h; cases h
     ·rw [if_neg hy1_5] at h
      by_cases hy1_6 : 0 ≤ x1_8 ∧ x1_8 < (Args.A.length : Int)
      ·rw [if_pos hy1_6] at h
       obtain ⟨y1_7_, hy1_7, h⟩ := Option.bind_eq_some_iff.1 h
       obtain ⟨y1_8_, hy1_8, h⟩ := Option.bind_eq_some_iff.1 h
       obtain ⟨y1_9_, hy1_9, h⟩ := Option.bind_eq_some_iff.1 h
       by_cases hy1_10 : y1_9_ = true
       ·rw [if_pos hy1_10] at h
        cases h
       ·rw [if_neg hy1_10] at h
        by_cases hy1_11 : (y1_4_.2.2.2.2.2.2.2) = (0 : Int)
        ·rw [if_pos hy1_11] at h
         by_cases hy1_12 : (y1_7_.2.1) = (1 : Int)
         ·rw [if_pos hy1_12] at h
          cases h
         ·rw [if_neg hy1_12] at h
          by_cases hy1_13 : 0 ≤ x1_8 ∧ x1_8 < ((x1_7 : Nat) : Int)
          ·rw [if_pos hy1_13] at h
           by_cases hy1_14 : (x1_8).toNat < (x1_6).length
           ·rw [if_pos hy1_14] at h
            obtain ⟨y1_15_, hy1_15, h⟩ := Option.bind_eq_some_iff.1 h
            by_cases hy1_16 : y1_15_ = true
            ·rw [if_pos hy1_16] at h
             cases h
            ·rw [if_neg hy1_16] at h
             obtain ⟨y1_17_, hy1_17, h⟩ := Option.bind_eq_some_iff.1 h
             by_cases hy1_18 : y1_17_ = (w64 ((y1_4_.2.2.1) - (y1_7_.2.2.1)))
             ·rw [if_pos hy1_18] at h
              cases h
             ·rw [if_neg hy1_18] at h
              by_cases hy1_19 : (y1_7_.2.2.2.2.1) = x1_0
              ·rw [if_pos hy1_19] at h
               by_cases hy1_20 : (y1_7_.2.2.1) = (y1_7_.2.2.2.2.1)
               ·rw [if_pos hy1_20] at h
                by_cases hy1_21 : (y1_7_.2.2.2.2.2.1) > (y1_7_.2.2.2.2.1)
                ·rw [if_pos hy1_21] at h
                 cases h
                ·rw [if_neg hy1_21] at h
                 cases h
               ·rw [if_neg hy1_20] at h
                cases h
              ·rw [if_neg hy1_19] at h
               by_cases hy1_20 : (y1_7_.2.2.2.2.2.1) > (y1_7_.2.2.2.2.1)
               ·rw [if_pos hy1_20] at h
                cases h
               ·rw [if_neg hy1_20] at h
                cases h
           ·rw [if_neg hy1_14] at h; cases h
          ·rw [if_neg hy1_13] at h; cases h
        ·rw [if_neg hy1_11] at h
         cases h
      ·rw [if_neg hy1_6] at h; cases h
    ·rw [if_neg hy1_3] at h; cases h
   ·rw [if_neg hy1_2] at h; cases h
  ·rw [if_neg hy1_1] at h
   obtain rfl := Sum.inr.inj (oI h); exact q_V_1_12 n x1_0 x1_1 x1_2 x1_3 x1_4 x1_5 x1_6 x1_7 x1_8 hy1_1)
  (fun r => by intro hx; cases hx) h
def m_V (n : Nat) (g10 : Int) (g11 : Int) (g12 : Int) (g2 : Int) : Option (Unit) :=
 (m_viewportlaw16lives n).bind fun _ =>
 (m_liq1 n g10 g11 g12).bind fun c2_ =>
 if c2_ = true then
  (m_tCq1 n).bind fun c4_ =>
  if c4_ = (0 : Int) then
   if (Args.A.length : Int) = (0 : Int) then
    none
   else
    if 0 ≤ (0 : Int) ∧ (0 : Int) < (Args.A.length : Int) then
     ((some ((Args.A).getD ((0 : Int)).toNat (0, 0, 0, 0, 0, 0, nl0, 0)))).bind fun c8_ =>
     if (c8_.2.1) = (1 : Int) then
      if (c8_.2.2.1) = (0 : Int) then
       if (c8_.2.2.2.2.2.1) = (1 : Int) then
        if g10 < (0 : Int) then
         some ()
        else
         if g11 < (0 : Int) then
          some ()
         else
          if g12 < (0 : Int) then
           some ()
          else
           if (w64 (g10 + g11)) > (c8_.2.2.2.2.1) then
            some ()
           else
            (m_viewportkitPickq1 n g2 64).bind fun c16_ =>
            if 0 ≤ (IntKind.u64.wrap c16_) then
             (m_treeBareq1 n).bind fun t => match t with
             | (c18_0, c18_1) =>
              (m_treeEditq1 n c18_0 c18_1 c18_1 g10 g11 g12 (shlV .u64 (1 : Int) (IntKind.u64.wrap c16_))).bind fun c19_ =>
              if ((((((c18_1 : Nat) : Int)).toNat) : Nat) : Int) = (Args.A.length : Int) then
               (m_tCq2 n c19_ ((((c18_1 : Nat) : Int)).toNat) ((((c18_1 : Nat) : Int)).toNat)).bind fun c21_ =>
               if c21_ = (0 : Int) then
                if 0 ≤ (0 : Int) ∧ (0 : Int) < ((((((c18_1 : Nat) : Int)).toNat) : Nat) : Int) then
                 if ((0 : Int)).toNat < (c19_).length then
                  ((some ((c19_).getD ((0 : Int)).toNat (0, 0, 0, 0, 0, 0, nl0, 0)))).bind fun c25_ =>
                  if (c25_.2.2.1) = (0 : Int) then
                   ((some (w64 ((w64 ((c8_.2.2.2.2.1) - g11)) + g12)))).bind fun c27_ =>
                   if (c25_.2.2.2.2.1) = c27_ then
                    (m_treeStaleq1 n c19_ ((((c18_1 : Nat) : Int)).toNat) ((((c18_1 : Nat) : Int)).toNat)).bind fun c29_ =>
                    if ((((((((((c18_1 : Nat) : Int)).toNat) : Nat) : Int)).toNat) : Nat) : Int) = (Args.A.length : Int) then
                     (m_V_1 n g10 g11 g12 (shlV .u64 (1 : Int) (IntKind.u64.wrap c16_)) c19_ ((((c18_1 : Nat) : Int)).toNat) c29_ ((((((((c18_1 : Nat) : Int)).toNat) : Nat) : Int)).toNat) 0).bind fun _ =>
                     some ()
                    else
                     none
                   else
                    none
                  else
                   none
                 else none
                else none
               else
                none
              else
               none
            else none
       else
        some ()
      else
       some ()
     else
      some ()
    else none
  else
   some ()
 else
  some ()
theorem m_V_ok (n : Nat) (g10 : Int) (g11 : Int) (g12 : Int) (g2 : Int) (r : Unit) (h : m_V n g10 g11 g12 g2 = some r) : Gv P (.func 3) (A_V g10 g11 g12 g2) (H_V g10 g11 g12 g2) (V_V g10 g11 g12 g2 r) (R_V g10 g11 g12 g2 r) := by
 unfold m_V at h
 obtain ⟨_, hc1, h⟩ := Option.bind_eq_some_iff.1 h
 obtain ⟨c2_, hc2, h⟩ := Option.bind_eq_some_iff.1 h
 by_cases hc3 : c2_ = true
 ·rw [if_pos hc3] at h
  obtain ⟨c4_, hc4, h⟩ := Option.bind_eq_some_iff.1 h
  by_cases hc5 : c4_ = (0 : Int)
  ·rw [if_pos hc5] at h
   by_cases hc6 : (Args.A.length : Int) = (0 : Int)
   ·rw [if_pos hc6] at h
    cases h
   ·rw [if_neg hc6] at h
    by_cases hc7 : 0 ≤ (0 : Int) ∧ (0 : Int) < (Args.A.length : Int)
    ·rw [if_pos hc7] at h
     obtain ⟨c8_, hc8, h⟩ := Option.bind_eq_some_iff.1 h
     by_cases hc9 : (c8_.2.1) = (1 : Int)
     ·rw [if_pos hc9] at h
      by_cases hc10 : (c8_.2.2.1) = (0 : Int)
      ·rw [if_pos hc10] at h
       by_cases hc11 : (c8_.2.2.2.2.2.1) = (1 : Int)
       ·rw [if_pos hc11] at h
        by_cases hc12 : g10 < (0 : Int)
        ·rw [if_pos hc12] at h
         obtain rfl := oI h; exact (runF2 hm (L := lT []) ⟨[6], [], 0, 0, [], false, []⟩ (yy 5 (.call ⟨0, [], (Value.bool true), Ax.h0, []⟩) <|
ww (m_viewportlaw16lives_ok n  () hc1) <|
yy 12 (.call (C_liq1 g10 g11 g12 c2_ [] [])) <|
ww (m_liq1_ok n g10 g11 g12 c2_ hc2) <|
yy 13 (vf) <|
ww (p := (Value.bool (!c2_)) = (Value.bool false)) (vBn hc3) <|
yy 16 (.call (C_tCq1  c4_ [] [])) <|
ww (m_tCq1_ok n  c4_ hc4) <|
zz 17 (xnF hc5) <|
zz 24 (xeF hc6) <|
zz 29 (xk1 0 Args.cA hc7) <|
zz 30 (fk9 (((0 : Int)).toNat * 8)) <|
zz 31 (lk10 hc8 (toNatLt hc7)) <|
zz 32 (xnF hc9) <|
zz 35 (xk1 0 Args.cA hc7) <|
zz 36 (fk11 (((0 : Int)).toNat * 8)) <|
zz 37 (lk12 hc8 (toNatLt hc7)) <|
zz 38 (xnF hc10) <|
zz 42 (xk1 0 Args.cA hc7) <|
zz 43 (fk13 (((0 : Int)).toNat * 8)) <|
zz 44 (lk14 hc8 (toNatLt hc7)) <|
zz 45 (xnF hc11) <|
zz 50 (xdT hc12) ee) (by kernel_rfl))
        ·rw [if_neg hc12] at h
         by_cases hc13 : g11 < (0 : Int)
         ·rw [if_pos hc13] at h
          obtain rfl := oI h; exact (runF2 hm (L := lT []) ⟨[6], [], 0, 0, [], false, []⟩ (yy 5 (.call ⟨0, [], (Value.bool true), Ax.h0, []⟩) <|
ww (m_viewportlaw16lives_ok n  () hc1) <|
yy 12 (.call (C_liq1 g10 g11 g12 c2_ [] [])) <|
ww (m_liq1_ok n g10 g11 g12 c2_ hc2) <|
yy 13 (vf) <|
ww (p := (Value.bool (!c2_)) = (Value.bool false)) (vBn hc3) <|
yy 16 (.call (C_tCq1  c4_ [] [])) <|
ww (m_tCq1_ok n  c4_ hc4) <|
zz 17 (xnF hc5) <|
zz 24 (xeF hc6) <|
zz 29 (xk1 0 Args.cA hc7) <|
zz 30 (fk9 (((0 : Int)).toNat * 8)) <|
zz 31 (lk10 hc8 (toNatLt hc7)) <|
zz 32 (xnF hc9) <|
zz 35 (xk1 0 Args.cA hc7) <|
zz 36 (fk11 (((0 : Int)).toNat * 8)) <|
zz 37 (lk12 hc8 (toNatLt hc7)) <|
zz 38 (xnF hc10) <|
zz 42 (xk1 0 Args.cA hc7) <|
zz 43 (fk13 (((0 : Int)).toNat * 8)) <|
zz 44 (lk14 hc8 (toNatLt hc7)) <|
zz 45 (xnF hc11) <|
zz 50 (xdF hc12) <|
zz 55 (xdT hc13) ee) (by kernel_rfl))
         ·rw [if_neg hc13] at h
          by_cases hc14 : g12 < (0 : Int)
          ·rw [if_pos hc14] at h
           obtain rfl := oI h; exact (runF2 hm (L := lT []) ⟨[6], [], 0, 0, [], false, []⟩ (yy 5 (.call ⟨0, [], (Value.bool true), Ax.h0, []⟩) <|
ww (m_viewportlaw16lives_ok n  () hc1) <|
yy 12 (.call (C_liq1 g10 g11 g12 c2_ [] [])) <|
ww (m_liq1_ok n g10 g11 g12 c2_ hc2) <|
yy 13 (vf) <|
ww (p := (Value.bool (!c2_)) = (Value.bool false)) (vBn hc3) <|
yy 16 (.call (C_tCq1  c4_ [] [])) <|
ww (m_tCq1_ok n  c4_ hc4) <|
zz 17 (xnF hc5) <|
zz 24 (xeF hc6) <|
zz 29 (xk1 0 Args.cA hc7) <|
zz 30 (fk9 (((0 : Int)).toNat * 8)) <|
zz 31 (lk10 hc8 (toNatLt hc7)) <|
zz 32 (xnF hc9) <|
zz 35 (xk1 0 Args.cA hc7) <|
zz 36 (fk11 (((0 : Int)).toNat * 8)) <|
zz 37 (lk12 hc8 (toNatLt hc7)) <|
zz 38 (xnF hc10) <|
zz 42 (xk1 0 Args.cA hc7) <|
zz 43 (fk13 (((0 : Int)).toNat * 8)) <|
zz 44 (lk14 hc8 (toNatLt hc7)) <|
zz 45 (xnF hc11) <|
zz 50 (xdF hc12) <|
zz 55 (xdF hc13) <|
zz 60 (xdT hc14) ee) (by kernel_rfl))
          ·rw [if_neg hc14] at h
           by_cases hc15 : (w64 (g10 + g11)) > (c8_.2.2.2.2.1)
           ·rw [if_pos hc15] at h
            obtain rfl := oI h; exact (runF2 hm (L := lT []) ⟨[6], [], 0, 0, [], false, []⟩ (yy 5 (.call ⟨0, [], (Value.bool true), Ax.h0, []⟩) <|
ww (m_viewportlaw16lives_ok n  () hc1) <|
yy 12 (.call (C_liq1 g10 g11 g12 c2_ [] [])) <|
ww (m_liq1_ok n g10 g11 g12 c2_ hc2) <|
yy 13 (vf) <|
ww (p := (Value.bool (!c2_)) = (Value.bool false)) (vBn hc3) <|
yy 16 (.call (C_tCq1  c4_ [] [])) <|
ww (m_tCq1_ok n  c4_ hc4) <|
zz 17 (xnF hc5) <|
zz 24 (xeF hc6) <|
zz 29 (xk1 0 Args.cA hc7) <|
zz 30 (fk9 (((0 : Int)).toNat * 8)) <|
zz 31 (lk10 hc8 (toNatLt hc7)) <|
zz 32 (xnF hc9) <|
zz 35 (xk1 0 Args.cA hc7) <|
zz 36 (fk11 (((0 : Int)).toNat * 8)) <|
zz 37 (lk12 hc8 (toNatLt hc7)) <|
zz 38 (xnF hc10) <|
zz 42 (xk1 0 Args.cA hc7) <|
zz 43 (fk13 (((0 : Int)).toNat * 8)) <|
zz 44 (lk14 hc8 (toNatLt hc7)) <|
zz 45 (xnF hc11) <|
zz 50 (xdF hc12) <|
zz 55 (xdF hc13) <|
zz 60 (xdF hc14) <|
zz 69 (xk1 0 Args.cA hc7) <|
zz 70 (fk15 (((0 : Int)).toNat * 8)) <|
zz 71 (lk16 hc8 (toNatLt hc7)) <|
zz 72 (xdT hc15) ee) (by kernel_rfl))
           ·rw [if_neg hc15] at h
            obtain ⟨c16_, hc16, h⟩ := Option.bind_eq_some_iff.1 h
            by_cases hc17 : 0 ≤ (IntKind.u64.wrap c16_)
            ·rw [if_pos hc17] at h
             obtain ⟨⟨c18_0, c18_1⟩, hc18, h⟩ := Option.bind_eq_some_iff.1 h
             dsimp only at h
             obtain ⟨c19_, hc19, h⟩ := Option.bind_eq_some_iff.1 h
             by_cases hc20 : ((((((c18_1 : Nat) : Int)).toNat) : Nat) : Int) = (Args.A.length : Int)
             ·rw [if_pos hc20] at h
              obtain ⟨c21_, hc21, h⟩ := Option.bind_eq_some_iff.1 h
              by_cases hc22 : c21_ = (0 : Int)
              ·rw [if_pos hc22] at h
               by_cases hc23 : 0 ≤ (0 : Int) ∧ (0 : Int) < ((((((c18_1 : Nat) : Int)).toNat) : Nat) : Int)
               ·rw [if_pos hc23] at h
                by_cases hc24 : ((0 : Int)).toNat < (c19_).length
                ·rw [if_pos hc24] at h
                 obtain ⟨c25_, hc25, h⟩ := Option.bind_eq_some_iff.1 h
                 by_cases hc26 : (c25_.2.2.1) = (0 : Int)
                 ·rw [if_pos hc26] at h
                  obtain ⟨c27_, hc27, h⟩ := Option.bind_eq_some_iff.1 h
                  by_cases hc28 : (c25_.2.2.2.2.1) = c27_
                  ·rw [if_pos hc28] at h
                   obtain ⟨c29_, hc29, h⟩ := Option.bind_eq_some_iff.1 h
                   by_cases hc30 : ((((((((((c18_1 : Nat) : Int)).toNat) : Nat) : Int)).toNat) : Nat) : Int) = (Args.A.length : Int)
                   ·rw [if_pos hc30] at h
                    obtain ⟨_, hc31, h⟩ := Option.bind_eq_some_iff.1 h
                    obtain rfl := oI h; exact (runF2 hm (L := lT [(141, ⟨⟨[0, 4, 7, 8, 9, 10], [(0, 0, false), (1, 3, true), (2, 5, true)], 3, 0, [], false, []⟩, (X_V_1 g10 g11 g12 (shlV .u64 (1 : Int) (IntKind.u64.wrap c16_)) c19_ ((((c18_1 : Nat) : Int)).toNat) c29_ ((((((((c18_1 : Nat) : Int)).toNat) : Nat) : Int)).toNat) ()).1, (X_V_1 g10 g11 g12 (shlV .u64 (1 : Int) (IntKind.u64.wrap c16_)) c19_ ((((c18_1 : Nat) : Int)).toNat) c29_ ((((((((c18_1 : Nat) : Int)).toNat) : Nat) : Int)).toNat) ()).2⟩)]) ⟨[6], [], 0, 0, [], false, []⟩ (yy 5 (.call ⟨0, [], (Value.bool true), Ax.h0, []⟩) <|
ww (m_viewportlaw16lives_ok n  () hc1) <|
yy 12 (.call (C_liq1 g10 g11 g12 c2_ [] [])) <|
ww (m_liq1_ok n g10 g11 g12 c2_ hc2) <|
yy 13 (vf) <|
ww (p := (Value.bool (!c2_)) = (Value.bool false)) (vBn hc3) <|
yy 16 (.call (C_tCq1  c4_ [] [])) <|
ww (m_tCq1_ok n  c4_ hc4) <|
zz 17 (xnF hc5) <|
zz 24 (xeF hc6) <|
zz 29 (xk1 0 Args.cA hc7) <|
zz 30 (fk9 (((0 : Int)).toNat * 8)) <|
zz 31 (lk10 hc8 (toNatLt hc7)) <|
zz 32 (xnF hc9) <|
zz 35 (xk1 0 Args.cA hc7) <|
zz 36 (fk11 (((0 : Int)).toNat * 8)) <|
zz 37 (lk12 hc8 (toNatLt hc7)) <|
zz 38 (xnF hc10) <|
zz 42 (xk1 0 Args.cA hc7) <|
zz 43 (fk13 (((0 : Int)).toNat * 8)) <|
zz 44 (lk14 hc8 (toNatLt hc7)) <|
zz 45 (xnF hc11) <|
zz 50 (xdF hc12) <|
zz 55 (xdF hc13) <|
zz 60 (xdF hc14) <|
zz 69 (xk1 0 Args.cA hc7) <|
zz 70 (fk15 (((0 : Int)).toNat * 8)) <|
zz 71 (lk16 hc8 (toNatLt hc7)) <|
zz 72 (xdF hc15) <|
yy 77 (.call (C_viewportkitPickq1 g2 64 c16_ [] [])) <|
ww (m_viewportkitPickq1_ok n g2 64 c16_ hc16) <|
yy 79 (.pur (Value.int .u64 (shlV .u64 (1 : Int) (IntKind.u64.wrap c16_)))) <|
ww (p := opBin P .shl 30 (.const (Value.int .u64 (1 : Int))) (.tmp 74) (Value.int .u64 (1 : Int)) (Value.int .u64 (IntKind.u64.wrap c16_)) Ax.h0 = some ((Value.int .u64 (shlV .u64 (1 : Int) (IntKind.u64.wrap c16_))), Ax.h0)) (shl_u64_u64 hc17) <|
yy 83 (.call (C_treeBareq1  (c18_0, c18_1) [] [(1, 0, true)])) <|
ww (m_treeBareq1_ok n  (c18_0, c18_1) hc18) <|
ww (rows_flat rwf_iiiiiiLu c18_0 32) <|
yy 86 (.call (C_treeEditq1 c18_0 c18_1 c18_1 g10 g11 g12 (shlV .u64 (1 : Int) (IntKind.u64.wrap c16_)) c19_ [(0, 1, true)] [(1, 0, true), (3, 2, true)])) <|
ww (m_treeEditq1_ok n c18_0 c18_1 c18_1 g10 g11 g12 (shlV .u64 (1 : Int) (IntKind.u64.wrap c16_)) c19_ hc19) <|
ww (rows_flat rwf_iiiiiiLu c18_0 32) <|
ww (rows_flat rwf_iiiiiiLu c18_0 32) <|
ww (rows_flat rwf_iiiiiiLu c19_ 32) <|
zz 94 (xnF hc20) <|
yy 97 (.call (C_tCq2 c19_ ((((c18_1 : Nat) : Int)).toNat) ((((c18_1 : Nat) : Int)).toNat) c21_ [(0, 3, true)] [])) <|
ww (m_tCq2_ok n c19_ ((((c18_1 : Nat) : Int)).toNat) ((((c18_1 : Nat) : Int)).toNat) c21_ hc21) <|
ww (rows_flat rwf_iiiiiiLu c19_ 32) <|
zz 98 (xnF hc22) <|
zz 102 (xk18 3 ((((c18_1 : Nat) : Int)).toNat) hc23) <|
zz 104 (ok20 hc25 (hc24)) <|
zz 105 (xnF hc26) <|
zz 109 (xk18 3 ((((c18_1 : Nat) : Int)).toNat) hc23) <|
zz 111 (ok19 hc25 (hc24)) <|
zz 113 (xk1 0 Args.cA hc7) <|
zz 114 (fk15 (((0 : Int)).toNat * 8)) <|
zz 115 (lk16 hc8 (toNatLt hc7)) <|
zz 121 (xnm hc27) <|
zz 122 (xnF hc28) <|
yy 127 (.call (C_treeStaleq1 c19_ ((((c18_1 : Nat) : Int)).toNat) ((((c18_1 : Nat) : Int)).toNat) c29_ [(0, 3, true)] [(3, 0, true), (5, 2, true)])) <|
ww (m_treeStaleq1_ok n c19_ ((((c18_1 : Nat) : Int)).toNat) ((((c18_1 : Nat) : Int)).toNat) c29_ hc29) <|
ww (rows_flat rwf_iiiiiiLu c19_ 32) <|
ww (rows_flat rwf_iiiiiiLu c19_ 32) <|
ww (rows_flat rwf_b c29_ 4) <|
zz 135 (xnF hc30) <|
ww (p := U_V_1 none g10 g11 g12 (shlV .u64 (1 : Int) (IntKind.u64.wrap c16_)) c19_ ((((c18_1 : Nat) : Int)).toNat) c29_ ((((((((c18_1 : Nat) : Int)).toNat) : Nat) : Int)).toNat) 0 ()) (m_V_1_ok n g10 g11 g12 (shlV .u64 (1 : Int) (IntKind.u64.wrap c16_)) c19_ ((((c18_1 : Nat) : Int)).toNat) c29_ ((((((((c18_1 : Nat) : Int)).toNat) : Nat) : Int)).toNat) 0 () hc31) <|
ww (rows_flat rwf_iiiiiiLu c19_ 32) <|
ww (rows_flat rwf_b c29_ 4) ee) (by kernel_rfl))
                   ·rw [if_neg hc30] at h
                    cases h
                  ·rw [if_neg hc28] at h
                   cases h
                 ·rw [if_neg hc26] at h
                  cases h
                ·rw [if_neg hc24] at h; cases h
               ·rw [if_neg hc23] at h; cases h
              ·rw [if_neg hc22] at h
               cases h
             ·rw [if_neg hc20] at h
              cases h
            ·rw [if_neg hc17] at h; cases h
       ·rw [if_neg hc11] at h
        obtain rfl := oI h; exact (runF2 hm (L := lT []) ⟨[6], [], 0, 0, [], false, []⟩ (yy 5 (.call ⟨0, [], (Value.bool true), Ax.h0, []⟩) <|
ww (m_viewportlaw16lives_ok n  () hc1) <|
yy 12 (.call (C_liq1 g10 g11 g12 c2_ [] [])) <|
ww (m_liq1_ok n g10 g11 g12 c2_ hc2) <|
yy 13 (vf) <|
ww (p := (Value.bool (!c2_)) = (Value.bool false)) (vBn hc3) <|
yy 16 (.call (C_tCq1  c4_ [] [])) <|
ww (m_tCq1_ok n  c4_ hc4) <|
zz 17 (xnF hc5) <|
zz 24 (xeF hc6) <|
zz 29 (xk1 0 Args.cA hc7) <|
zz 30 (fk9 (((0 : Int)).toNat * 8)) <|
zz 31 (lk10 hc8 (toNatLt hc7)) <|
zz 32 (xnF hc9) <|
zz 35 (xk1 0 Args.cA hc7) <|
zz 36 (fk11 (((0 : Int)).toNat * 8)) <|
zz 37 (lk12 hc8 (toNatLt hc7)) <|
zz 38 (xnF hc10) <|
zz 42 (xk1 0 Args.cA hc7) <|
zz 43 (fk13 (((0 : Int)).toNat * 8)) <|
zz 44 (lk14 hc8 (toNatLt hc7)) <|
zz 45 (xnT hc11) ee) (by kernel_rfl))
      ·rw [if_neg hc10] at h
       obtain rfl := oI h; exact (runF2 hm (L := lT []) ⟨[6], [], 0, 0, [], false, []⟩ (yy 5 (.call ⟨0, [], (Value.bool true), Ax.h0, []⟩) <|
ww (m_viewportlaw16lives_ok n  () hc1) <|
yy 12 (.call (C_liq1 g10 g11 g12 c2_ [] [])) <|
ww (m_liq1_ok n g10 g11 g12 c2_ hc2) <|
yy 13 (vf) <|
ww (p := (Value.bool (!c2_)) = (Value.bool false)) (vBn hc3) <|
yy 16 (.call (C_tCq1  c4_ [] [])) <|
ww (m_tCq1_ok n  c4_ hc4) <|
zz 17 (xnF hc5) <|
zz 24 (xeF hc6) <|
zz 29 (xk1 0 Args.cA hc7) <|
zz 30 (fk9 (((0 : Int)).toNat * 8)) <|
zz 31 (lk10 hc8 (toNatLt hc7)) <|
zz 32 (xnF hc9) <|
zz 35 (xk1 0 Args.cA hc7) <|
zz 36 (fk11 (((0 : Int)).toNat * 8)) <|
zz 37 (lk12 hc8 (toNatLt hc7)) <|
zz 38 (xnT hc10) ee) (by kernel_rfl))
     ·rw [if_neg hc9] at h
      obtain rfl := oI h; exact (runF2 hm (L := lT []) ⟨[6], [], 0, 0, [], false, []⟩ (yy 5 (.call ⟨0, [], (Value.bool true), Ax.h0, []⟩) <|
ww (m_viewportlaw16lives_ok n  () hc1) <|
yy 12 (.call (C_liq1 g10 g11 g12 c2_ [] [])) <|
ww (m_liq1_ok n g10 g11 g12 c2_ hc2) <|
yy 13 (vf) <|
ww (p := (Value.bool (!c2_)) = (Value.bool false)) (vBn hc3) <|
yy 16 (.call (C_tCq1  c4_ [] [])) <|
ww (m_tCq1_ok n  c4_ hc4) <|
zz 17 (xnF hc5) <|
zz 24 (xeF hc6) <|
zz 29 (xk1 0 Args.cA hc7) <|
zz 30 (fk9 (((0 : Int)).toNat * 8)) <|
zz 31 (lk10 hc8 (toNatLt hc7)) <|
zz 32 (xnT hc9) ee) (by kernel_rfl))
    ·rw [if_neg hc7] at h; cases h
  ·rw [if_neg hc5] at h
   obtain rfl := oI h; exact (runF2 hm (L := lT []) ⟨[6], [], 0, 0, [], false, []⟩ (yy 5 (.call ⟨0, [], (Value.bool true), Ax.h0, []⟩) <|
ww (m_viewportlaw16lives_ok n  () hc1) <|
yy 12 (.call (C_liq1 g10 g11 g12 c2_ [] [])) <|
ww (m_liq1_ok n g10 g11 g12 c2_ hc2) <|
yy 13 (vf) <|
ww (p := (Value.bool (!c2_)) = (Value.bool false)) (vBn hc3) <|
yy 16 (.call (C_tCq1  c4_ [] [])) <|
ww (m_tCq1_ok n  c4_ hc4) <|
zz 17 (xnT hc5) ee) (by kernel_rfl))
 ·rw [if_neg hc3] at h
  obtain rfl := oI h; exact (runF2 hm (L := lT []) ⟨[6], [], 0, 0, [], false, []⟩ (yy 5 (.call ⟨0, [], (Value.bool true), Ax.h0, []⟩) <|
ww (m_viewportlaw16lives_ok n  () hc1) <|
yy 12 (.call (C_liq1 g10 g11 g12 c2_ [] [])) <|
ww (m_liq1_ok n g10 g11 g12 c2_ hc2) <|
yy 13 (vt) <|
ww (p := (Value.bool (!c2_)) = (Value.bool true)) (vBn (Bool.eq_false_iff.2 hc3)) ee) (by kernel_rfl))

end Go.Proofs.Ytggbmhhikafdhaa.ted16
