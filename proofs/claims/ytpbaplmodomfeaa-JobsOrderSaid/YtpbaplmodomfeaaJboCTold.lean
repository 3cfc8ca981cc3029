/-
  What functions do, told by pure functions. No condition.
-/
import Derived.Test.YtpbaplmodomfeaaJboBTold
set_option linter.unusedSimpArgs false
set_option linter.unusedVariables false
set_option linter.unusedSectionVars false
set_option linter.unnecessarySimpa false
set_option maxRecDepth 100000
noncomputable section
namespace Go.Proofs.Ytpbaplmodomfeaa.jbo24
open Go Go.Proofs.Ytpbaplmodomfeaa Ax
variable [Args]
def A_jobsOrder_11010y2 (a0 : List Int) (a1 : Int) (a2 : Int) (a3 : Int) (a4 : List R6) (a5 : Nat) (a6 : Int) (a7 : Int) (a8 : Int) (a9 : Int) (a10 : Int) (a11 : Int) : List Value := [(Value.agg #[(i6 a7), (i6 a8), (i6 a9), (i6 a10), (i6 a11)])]
def H_jobsOrder_11010y2 (a0 : List Int) (a1 : Int) (a2 : Int) (a3 : Int) (a4 : List R6) (a5 : Nat) (a6 : Int) (a7 : Int) (a8 : Int) (a9 : Int) (a10 : Int) (a11 : Int) : AH := ⟨sB [(0, (some (rblk P 6 [false, true, false, true, true] .ready none [(7, (pN 2 0)), (13, (Value.func (.func 19) #[] #[(pN 4 0)]))] 1))), (1, (some (.marks true))), (2, (some (.cells (layT [(sN 3 0 (a0).length (Nat.add big 1))]) 28))), (3, (some (.cells (layT (iv a0)) 3))), (4, (some (.cells (layT [(pN 5 0)]) 40))), (5, (some (.cells (layT [(pN 5 0), (Value.func (.func 24) #[] #[(pN 6 0), (pN 7 0)]), (sN 8 0 a5 (Nat.add big 6)), (i6 a6)]) 53))), (6, (some (.cells (layT [(i6 a1)]) 3))), (7, (some (.cells (layT [(i6 a2), (i6 a3)]) 24))), (8, (some (.cells (layT (rows rw_iiiiii a4)) 58)))], 9, 9⟩
def V_jobsOrder_11010y2 (a0 : List Int) (a1 : Int) (a2 : Int) (a3 : Int) (a4 : List R6) (a5 : Nat) (a6 : Int) (a7 : Int) (a8 : Int) (a9 : Int) (a10 : Int) (a11 : Int) (r : Unit) : Value := match r with
 | _ => (bO true)
def R_jobsOrder_11010y2 (a0 : List Int) (a1 : Int) (a2 : Int) (a3 : Int) (a4 : List R6) (a5 : Nat) (a6 : Int) (a7 : Int) (a8 : Int) (a9 : Int) (a10 : Int) (a11 : Int) (r : Unit) : AH := match r with
 | _ => ⟨sB [(0, (some (rblk P 6 [false, true, false, true, true] .ready none [(7, (pN 2 0)), (13, (Value.func (.func 19) #[] #[(pN 4 0)]))] 1))), (1, (some (.marks true))), (2, (some (.cells (layT [(sN 9 0 ((a0 ++ [a7])).length (Nat.add big 1))]) 28))), (4, (some (.cells (layT [(pN 5 0)]) 40))), (5, (some (.cells (layT [(pN 5 0), (Value.func (.func 24) #[] #[(pN 6 0), (pN 7 0)]), (sN 8 0 a5 (Nat.add big 6)), (i6 a6)]) 53))), (6, (some (.cells (layT [(i6 a1)]) 3))), (7, (some (.cells (layT [(i6 a2), (i6 a3)]) 24))), (8, (some (.cells (layT (rows rw_iiiiii a4)) 58))), (9, (some (.cells (layT (iv (a0 ++ [a7]))) 3)))], 10, 0⟩
abbrev G_jobsOrder_11010y2 (a0 : List Int) (a1 : Int) (a2 : Int) (a3 : Int) (a4 : List R6) (a5 : Nat) (a6 : Int) (a7 : Int) (a8 : Int) (a9 : Int) (a10 : Int) (a11 : Int) (r : Unit) : Prop := Gv P (.yield 0) (A_jobsOrder_11010y2 a0 a1 a2 a3 a4 a5 a6 a7 a8 a9 a10 a11) (H_jobsOrder_11010y2 a0 a1 a2 a3 a4 a5 a6 a7 a8 a9 a10 a11) (V_jobsOrder_11010y2 a0 a1 a2 a3 a4 a5 a6 a7 a8 a9 a10 a11 r) (R_jobsOrder_11010y2 a0 a1 a2 a3 a4 a5 a6 a7 a8 a9 a10 a11 r)
abbrev C_jobsOrder_11010y2 (a0 : List Int) (a1 : Int) (a2 : Int) (a3 : Int) (a4 : List R6) (a5 : Nat) (a6 : Int) (a7 : Int) (a8 : Int) (a9 : Int) (a10 : Int) (a11 : Int) (r : Unit) (ins outs : BL) : CallA := ⟨9, ins, V_jobsOrder_11010y2 a0 a1 a2 a3 a4 a5 a6 a7 a8 a9 a10 a11 r, R_jobsOrder_11010y2 a0 a1 a2 a3 a4 a5 a6 a7 a8 a9 a10 a11 r, outs⟩
def m_jobsOrder_11010y2 (n : Nat) (a0 : List Int) (a1 : Int) (a2 : Int) (a3 : Int) (a4 : List R6) (a5 : Nat) (a6 : Int) (a7 : Int) (a8 : Int) (a9 : Int) (a10 : Int) (a11 : Int) : Option (Unit) :=
 if ((a0).length + 1) * 8 ≤ 140737488355328 then
  some ()
 else none
theorem m_jobsOrder_11010y2_ok (n : Nat) (a0 : List Int) (a1 : Int) (a2 : Int) (a3 : Int) (a4 : List R6) (a5 : Nat) (a6 : Int) (a7 : Int) (a8 : Int) (a9 : Int) (a10 : Int) (a11 : Int) (r : Unit) (h : m_jobsOrder_11010y2 n a0 a1 a2 a3 a4 a5 a6 a7 a8 a9 a10 a11 = some r) : Gv P (.yield 0) (A_jobsOrder_11010y2 a0 a1 a2 a3 a4 a5 a6 a7 a8 a9 a10 a11) (H_jobsOrder_11010y2 a0 a1 a2 a3 a4 a5 a6 a7 a8 a9 a10 a11) (V_jobsOrder_11010y2 a0 a1 a2 a3 a4 a5 a6 a7 a8 a9 a10 a11 r) (R_jobsOrder_11010y2 a0 a1 a2 a3 a4 a5 a6 a7 a8 a9 a10 a11 r) := by
 unfold m_jobsOrder_11010y2 at h
 by_cases hc1 : ((a0).length + 1) * 8 ≤ 140737488355328
 ·rw [if_pos hc1] at h
  obtain rfl := oI h; exact (runY_ok hm (A1 := aT []) (L1 := lT []) (A2 := aT [(5, .app ⟨none, iv a0, (iv (a0 ++ [a7])), ((a0 ++ [a7])).length, false⟩)]) (L2 := lT []) (wk := ⟨[], [(0, 0, false), (1, 1, false), (2, 2, false), (4, 4, false), (5, 5, false), (6, 6, false), (7, 7, false), (8, 8, true), (9, 11, true)], 10, 0⟩) (ps := [0 < 1, rdT (layT (iv a0)) (Nat.mul (a0).length 1) 0 = some (iv a0), fits (Nat.add (a0).length 1) 8 = true, allCells [(i6 a7)] = true, allCells (iv a0) = true, iv a0 ++ [(i6 a7)] = (iv (a0 ++ [a7])), Nat.add (a0).length 1 = ((a0 ++ [a7])).length, FlatB (.cells (layT (rows rw_iiiiii a4)) 58), FlatB (.cells (layT (iv (a0 ++ [a7]))) 3)]) (by kernel_rfl) ⟨((by decide)), (iv_rd _), (fits_ok hc1 (by have := hc1; show (_ : Nat) + _ ≤ _; omega)), (rfl), (iv_cells _), (by simp [iv]), (by simp), (rows_flat rwf_iiiiii a4 58), (iv_flat (a0 ++ [a7]) 3), trivial⟩)
 ·rw [if_neg hc1] at h; cases h

def A_heapHeapapiDirtyAll1_111110y2 (a0 : List Int) (a1 : Int) (a2 : Int) (a3 : Int) (a4 : List R6) (a5 : Nat) (a6 : Int) (a7 : List R6) (a8 : Nat) (a9 : Int) (a10 : Int) (a11 : Int) (a12 : Int) (a13 : Int) (a14 : Int) : List Value := [(Value.agg #[(i6 a10), (i6 a11), (i6 a12), (i6 a13), (i6 a14)])]
def H_heapHeapapiDirtyAll1_111110y2 (a0 : List Int) (a1 : Int) (a2 : Int) (a3 : Int) (a4 : List R6) (a5 : Nat) (a6 : Int) (a7 : List R6) (a8 : Nat) (a9 : Int) (a10 : Int) (a11 : Int) (a12 : Int) (a13 : Int) (a14 : Int) : AH := ⟨sB [(0, (some (rblk P 19 [false, true, true, true, true, true] .ready none [(2, (pN 2 0)), (22, (Value.func (.func 30) #[] #[(pN 12 0)]))] 1))), (1, (some (.marks true))), (2, (some (.cells (layT [(Value.func (.yield 3) #[] #[])]) 50))), (3, (some (rblk P 6 [false, true, false, true, true] .ready none [(7, (pN 5 0)), (13, (Value.func (.func 19) #[] #[(pN 7 0)]))] 4))), (4, (some (.marks true))), (5, (some (.cells (layT [(sN 6 0 (a0).length (Nat.add big 1))]) 28))), (6, (some (.cells (layT (iv a0)) 3))), (7, (some (.cells (layT [(pN 8 0)]) 40))), (8, (some (.cells (layT [(pN 8 0), (Value.func (.func 24) #[] #[(pN 9 0), (pN 10 0)]), (sN 11 0 a5 (Nat.add big 6)), (i6 a6)]) 53))), (9, (some (.cells (layT [(i6 a1)]) 3))), (10, (some (.cells (layT [(i6 a2), (i6 a3)]) 24))), (11, (some (.cells (layT (rows rw_iiiiii a4)) 58))), (12, (some (.cells (layT [(pN 13 0)]) 40))), (13, (some (.cells (layT [(pN 13 0), (Value.func (.func 24) #[] #[(pN 9 0), (pN 10 0)]), (sN 14 0 a8 (Nat.add big 6)), (i6 a9)]) 53))), (14, (some (.cells (layT (rows rw_iiiiii a7)) 58)))], 15, 15⟩
def V_heapHeapapiDirtyAll1_111110y2 (a0 : List Int) (a1 : Int) (a2 : Int) (a3 : Int) (a4 : List R6) (a5 : Nat) (a6 : Int) (a7 : List R6) (a8 : Nat) (a9 : Int) (a10 : Int) (a11 : Int) (a12 : Int) (a13 : Int) (a14 : Int) (r : Unit) : Value := match r with
 | _ => (bO true)
def R_heapHeapapiDirtyAll1_111110y2 (a0 : List Int) (a1 : Int) (a2 : Int) (a3 : Int) (a4 : List R6) (a5 : Nat) (a6 : Int) (a7 : List R6) (a8 : Nat) (a9 : Int) (a10 : Int) (a11 : Int) (a12 : Int) (a13 : Int) (a14 : Int) (r : Unit) : AH := match r with
 | _ => ⟨sB [(0, (some (rblk P 19 [false, true, true, true, true, true] .ready none [(2, (pN 2 0)), (22, (Value.func (.func 30) #[] #[(pN 12 0)]))] 1))), (1, (some (.marks true))), (2, (some (.cells (layT [(Value.func (.yield 3) #[] #[])]) 50))), (3, (some (rblk P 6 [false, true, false, true, true] .ready none [(7, (pN 5 0)), (13, (Value.func (.func 19) #[] #[(pN 7 0)]))] 4))), (4, (some (.marks true))), (5, (some (.cells (layT [(sN 15 0 ((a0 ++ [a10])).length (Nat.add big 1))]) 28))), (7, (some (.cells (layT [(pN 8 0)]) 40))), (8, (some (.cells (layT [(pN 8 0), (Value.func (.func 24) #[] #[(pN 9 0), (pN 10 0)]), (sN 11 0 a5 (Nat.add big 6)), (i6 a6)]) 53))), (9, (some (.cells (layT [(i6 a1)]) 3))), (10, (some (.cells (layT [(i6 a2), (i6 a3)]) 24))), (11, (some (.cells (layT (rows rw_iiiiii a4)) 58))), (12, (some (.cells (layT [(pN 13 0)]) 40))), (13, (some (.cells (layT [(pN 13 0), (Value.func (.func 24) #[] #[(pN 9 0), (pN 10 0)]), (sN 14 0 a8 (Nat.add big 6)), (i6 a9)]) 53))), (14, (some (.cells (layT (rows rw_iiiiii a7)) 58))), (15, (some (.cells (layT (iv (a0 ++ [a10]))) 3)))], 16, 0⟩
abbrev G_heapHeapapiDirtyAll1_111110y2 (a0 : List Int) (a1 : Int) (a2 : Int) (a3 : Int) (a4 : List R6) (a5 : Nat) (a6 : Int) (a7 : List R6) (a8 : Nat) (a9 : Int) (a10 : Int) (a11 : Int) (a12 : Int) (a13 : Int) (a14 : Int) (r : Unit) : Prop := Gv P (.yield 0) (A_heapHeapapiDirtyAll1_111110y2 a0 a1 a2 a3 a4 a5 a6 a7 a8 a9 a10 a11 a12 a13 a14) (H_heapHeapapiDirtyAll1_111110y2 a0 a1 a2 a3 a4 a5 a6 a7 a8 a9 a10 a11 a12 a13 a14) (V_heapHeapapiDirtyAll1_111110y2 a0 a1 a2 a3 a4 a5 a6 a7 a8 a9 a10 a11 a12 a13 a14 r) (R_heapHeapapiDirtyAll1_111110y2 a0 a1 a2 a3 a4 a5 a6 a7 a8 a9 a10 a11 a12 a13 a14 r)
abbrev C_heapHeapapiDirtyAll1_111110y2 (a0 : List Int) (a1 : Int) (a2 : Int) (a3 : Int) (a4 : List R6) (a5 : Nat) (a6 : Int) (a7 : List R6) (a8 : Nat) (a9 : Int) (a10 : Int) (a11 : Int) (a12 : Int) (a13 : Int) (a14 : Int) (r : Unit) (ins outs : BL) : CallA := ⟨15, ins, V_heapHeapapiDirtyAll1_111110y2 a0 a1 a2 a3 a4 a5 a6 a7 a8 a9 a10 a11 a12 a13 a14 r, R_heapHeapapiDirtyAll1_111110y2 a0 a1 a2 a3 a4 a5 a6 a7 a8 a9 a10 a11 a12 a13 a14 r, outs⟩
def m_heapHeapapiDirtyAll1_111110y2 (n : Nat) (a0 : List Int) (a1 : Int) (a2 : Int) (a3 : Int) (a4 : List R6) (a5 : Nat) (a6 : Int) (a7 : List R6) (a8 : Nat) (a9 : Int) (a10 : Int) (a11 : Int) (a12 : Int) (a13 : Int) (a14 : Int) : Option (Unit) :=
 (m_jobsOrder_11010y2 n a0 a1 a2 a3 a4 a5 a6 a10 a11 a12 a13 a14).bind fun _ =>
 some ()
theorem m_heapHeapapiDirtyAll1_111110y2_ok (n : Nat) (a0 : List Int) (a1 : Int) (a2 : Int) (a3 : Int) (a4 : List R6) (a5 : Nat) (a6 : Int) (a7 : List R6) (a8 : Nat) (a9 : Int) (a10 : Int) (a11 : Int) (a12 : Int) (a13 : Int) (a14 : Int) (r : Unit) (h : m_heapHeapapiDirtyAll1_111110y2 n a0 a1 a2 a3 a4 a5 a6 a7 a8 a9 a10 a11 a12 a13 a14 = some r) : Gv P (.yield 0) (A_heapHeapapiDirtyAll1_111110y2 a0 a1 a2 a3 a4 a5 a6 a7 a8 a9 a10 a11 a12 a13 a14) (H_heapHeapapiDirtyAll1_111110y2 a0 a1 a2 a3 a4 a5 a6 a7 a8 a9 a10 a11 a12 a13 a14) (V_heapHeapapiDirtyAll1_111110y2 a0 a1 a2 a3 a4 a5 a6 a7 a8 a9 a10 a11 a12 a13 a14 r) (R_heapHeapapiDirtyAll1_111110y2 a0 a1 a2 a3 a4 a5 a6 a7 a8 a9 a10 a11 a12 a13 a14 r) := by
 unfold m_heapHeapapiDirtyAll1_111110y2 at h
 obtain ⟨_, hc1, h⟩ := Option.bind_eq_some_iff.1 h
 obtain rfl := oI h; exact (runY_ok hm (A1 := aT []) (L1 := lT []) (A2 := aT [(4, .call (C_jobsOrder_11010y2 a0 a1 a2 a3 a4 a5 a6 a10 a11 a12 a13 a14 () [(0, 3, false), (1, 4, false), (2, 5, false), (3, 6, true), (4, 7, false), (5, 8, false), (6, 9, false), (7, 10, false), (8, 11, true)] [(3, 0, false), (4, 1, false), (5, 2, false), (7, 4, false), (8, 5, false), (9, 6, false), (10, 7, false), (11, 8, true), (16, 9, true)]))]) (L2 := lT []) (wk := ⟨[], [(0, 0, false), (1, 1, false), (2, 2, false), (3, 3, false), (4, 4, false), (5, 5, false), (7, 7, false), (8, 8, false), (9, 9, false), (10, 10, false), (11, 11, true), (12, 12, false), (13, 13, false), (14, 14, true), (15, 16, true)], 16, 0⟩) (ps := [G_jobsOrder_11010y2 a0 a1 a2 a3 a4 a5 a6 a10 a11 a12 a13 a14 (), FlatB (.cells (layT (iv a0)) 3), FlatB (.cells (layT (rows rw_iiiiii a4)) 58), FlatB (.cells (layT (rows rw_iiiiii a4)) 58), FlatB (.cells (layT (iv (a0 ++ [a10]))) 3), FlatB (.cells (layT (rows rw_iiiiii a4)) 58), FlatB (.cells (layT (rows rw_iiiiii a7)) 58), FlatB (.cells (layT (iv (a0 ++ [a10]))) 3)]) (by kernel_rfl) ⟨(m_jobsOrder_11010y2_ok n a0 a1 a2 a3 a4 a5 a6 a10 a11 a12 a13 a14 () hc1), (iv_flat a0 3), (rows_flat rwf_iiiiii a4 58), (rows_flat rwf_iiiiii a4 58), (iv_flat (a0 ++ [a10]) 3), (rows_flat rwf_iiiiii a4 58), (rows_flat rwf_iiiiii a7 58), (iv_flat (a0 ++ [a10]) 3), trivial⟩)

def A_heapHeapapiDirtydrain1q2 (a0 : Int) (a1 : Int) (a2 : Int) (a3 : List R6) (a4 : Nat) (a5 : Int) (a6 : List R6) (a7 : Int) : List Value := [(Value.func (.yield 0) #[] #[]), (pN 11 0)]
def H_heapHeapapiDirtydrain1q2 (a0 : Int) (a1 : Int) (a2 : Int) (a3 : List R6) (a4 : Nat) (a5 : Int) (a6 : List R6) (a7 : Int) : AH := ⟨sB [(0, (some (rblk P 19 [false, true, true, true, true, true] .ready none [(2, (pN 2 0)), (22, (Value.func (.func 30) #[] #[(pN 11 0)]))] 1))), (1, (some (.marks true))), (2, (some (.cells (layT [(Value.func (.yield 3) #[] #[])]) 50))), (3, (some (rblk P 6 [false, true, false, true, true] .ready none [(7, (pN 5 0)), (13, (Value.func (.func 19) #[] #[(pN 6 0)]))] 4))), (4, (some (.marks true))), (5, (some (.cells (layT [(Value.slice none 0 0)]) 28))), (6, (some (.cells (layT [(pN 7 0)]) 40))), (7, (some (.cells (layT [(pN 7 0), (Value.func (.func 24) #[] #[(pN 8 0), (pN 9 0)]), (sN 10 0 a4 (Nat.add big 6)), (i6 a5)]) 53))), (8, (some (.cells (layT [(i6 a0)]) 3))), (9, (some (.cells (layT [(i6 a1), (i6 a2)]) 24))), (10, (some (.cells (layT (rows rw_iiiiii a3)) 58))), (11, (some (.cells (layT [(pN 12 0)]) 40))), (12, (some (.cells (layT [(pN 12 0), (Value.func (.func 24) #[] #[(pN 8 0), (pN 9 0)]), (sN 13 0 (a6).length (Nat.add big 6)), (i6 a7)]) 53))), (13, (some (.cells (layT (rows rw_iiiiii a6)) 58)))], 14, 14⟩
def V_heapHeapapiDirtydrain1q2 (a0 : Int) (a1 : Int) (a2 : Int) (a3 : List R6) (a4 : Nat) (a5 : Int) (a6 : List R6) (a7 : Int) (r : List Int × List R6 × Nat) : Value := match r with
 | (o0, o1, o2) => (Value.tuple #[])
def R_heapHeapapiDirtydrain1q2 (a0 : Int) (a1 : Int) (a2 : Int) (a3 : List R6) (a4 : Nat) (a5 : Int) (a6 : List R6) (a7 : Int) (r : List Int × List R6 × Nat) : AH := match r with
 | (o0, o1, o2) => ⟨sB [(0, (some (rblk P 19 [false, true, true, true, true, true] .ready none [(2, (pN 2 0)), (22, (Value.func (.func 30) #[] #[(pN 11 0)]))] 1))), (1, (some (.marks true))), (2, (some (.cells (layT [(Value.func (.yield 3) #[] #[])]) 50))), (3, (some (rblk P 6 [false, true, false, true, true] .ready none [(7, (pN 5 0)), (13, (Value.func (.func 19) #[] #[(pN 6 0)]))] 4))), (4, (some (.marks true))), (5, (some (.cells (layT [(slN o0 14)]) 28))), (6, (some (.cells (layT [(pN 7 0)]) 40))), (7, (some (.cells (layT [(pN 7 0), (Value.func (.func 24) #[] #[(pN 8 0), (pN 9 0)]), (sN 10 0 a4 (Nat.add big 6)), (i6 a5)]) 53))), (8, (some (.cells (layT [(i6 a0)]) 3))), (9, (some (.cells (layT [(i6 a1), (i6 a2)]) 24))), (10, (some (.cells (layT (rows rw_iiiiii a3)) 58))), (11, (some (.cells (layT [(pN 12 0)]) 40))), (12, (some (.cells (layT [(pN 12 0), (Value.func (.func 24) #[] #[(pN 8 0), (pN 9 0)]), (sN 13 0 o2 (Nat.add big 6)), (i6 a7)]) 53))), (13, (some (.cells (layT (rows rw_iiiiii o1)) 58))), (14, (nblk o0 3))], 15, 0⟩
abbrev G_heapHeapapiDirtydrain1q2 (a0 : Int) (a1 : Int) (a2 : Int) (a3 : List R6) (a4 : Nat) (a5 : Int) (a6 : List R6) (a7 : Int) (r : List Int × List R6 × Nat) : Prop := Gv P (.func 30) (A_heapHeapapiDirtydrain1q2 a0 a1 a2 a3 a4 a5 a6 a7) (H_heapHeapapiDirtydrain1q2 a0 a1 a2 a3 a4 a5 a6 a7) (V_heapHeapapiDirtydrain1q2 a0 a1 a2 a3 a4 a5 a6 a7 r) (R_heapHeapapiDirtydrain1q2 a0 a1 a2 a3 a4 a5 a6 a7 r)
abbrev C_heapHeapapiDirtydrain1q2 (a0 : Int) (a1 : Int) (a2 : Int) (a3 : List R6) (a4 : Nat) (a5 : Int) (a6 : List R6) (a7 : Int) (r : List Int × List R6 × Nat) (ins outs : BL) : CallA := ⟨14, ins, V_heapHeapapiDirtydrain1q2 a0 a1 a2 a3 a4 a5 a6 a7 r, R_heapHeapapiDirtydrain1q2 a0 a1 a2 a3 a4 a5 a6 a7 r, outs⟩
def S_heapHeapapiDirtydrain1q2_1 (x1_1 : Int) (x1_2 : Int) (x1_3 : Int) (x1_4 : List R6) (x1_5 : Nat) (x1_6 : Int) (x1_9 : Int) (st : List Int × List R6 × Nat) : XSt := match st with
 | (x1_0, x1_7, x1_8) => (sT 17 [(0, (Value.func (.yield 0) #[] #[])), (1, (pN 11 0))], [], ⟨sB [(0, (some (rblk P 19 [false, true, true, true, true, true] .ready none [(2, (pN 2 0)), (22, (Value.func (.func 30) #[] #[(pN 11 0)]))] 1))), (1, (some (.marks true))), (2, (some (.cells (layT [(Value.func (.yield 3) #[] #[])]) 50))), (3, (some (rblk P 6 [false, true, false, true, true] .ready none [(7, (pN 5 0)), (13, (Value.func (.func 19) #[] #[(pN 6 0)]))] 4))), (4, (some (.marks true))), (5, (some (.cells (layT [(slN x1_0 14)]) 28))), (6, (some (.cells (layT [(pN 7 0)]) 40))), (7, (some (.cells (layT [(pN 7 0), (Value.func (.func 24) #[] #[(pN 8 0), (pN 9 0)]), (sN 10 0 x1_5 (Nat.add big 6)), (i6 x1_6)]) 53))), (8, (some (.cells (layT [(i6 x1_1)]) 3))), (9, (some (.cells (layT [(i6 x1_2), (i6 x1_3)]) 24))), (10, (some (.cells (layT (rows rw_iiiiii x1_4)) 58))), (11, (some (.cells (layT [(pN 12 0)]) 40))), (12, (some (.cells (layT [(pN 12 0), (Value.func (.func 24) #[] #[(pN 8 0), (pN 9 0)]), (sN 13 0 x1_8 (Nat.add big 6)), (i6 x1_9)]) 53))), (13, (some (.cells (layT (rows rw_iiiiii x1_7)) 58))), (14, (nblk x1_0 3))], 15, 0⟩)
def X_heapHeapapiDirtydrain1q2_1 (x1_1 : Int) (x1_2 : Int) (x1_3 : Int) (x1_4 : List R6) (x1_5 : Nat) (x1_6 : Int) (x1_9 : Int) (r : List Int × List R6 × Nat) : Ex × XSt := match r with
 | (z1_0, z1_1, z1_2) => (.exit 0, (sT 17 [], [], ⟨sB [(0, (some (rblk P 19 [false, true, true, true, true, true] .ready none [(2, (pN 2 0)), (22, (Value.func (.func 30) #[] #[(pN 11 0)]))] 1))), (1, (some (.marks true))), (2, (some (.cells (layT [(Value.func (.yield 3) #[] #[])]) 50))), (3, (some (rblk P 6 [false, true, false, true, true] .ready none [(7, (pN 5 0)), (13, (Value.func (.func 19) #[] #[(pN 6 0)]))] 4))), (4, (some (.marks true))), (5, (some (.cells (layT [(slN z1_0 14)]) 28))), (6, (some (.cells (layT [(pN 7 0)]) 40))), (7, (some (.cells (layT [(pN 7 0), (Value.func (.func 24) #[] #[(pN 8 0), (pN 9 0)]), (sN 10 0 x1_5 (Nat.add big 6)), (i6 x1_6)]) 53))), (8, (some (.cells (layT [(i6 x1_1)]) 3))), (9, (some (.cells (layT [(i6 x1_2), (i6 x1_3)]) 24))), (10, (some (.cells (layT (rows rw_iiiiii x1_4)) 58))), (11, (some (.cells (layT [(pN 12 0)]) 40))), (12, (some (.cells (layT [(pN 12 0), (Value.func (.func 24) #[] #[(pN 8 0), (pN 9 0)]), (sN 13 0 z1_2 (Nat.add big 6)), (i6 x1_9)]) 53))), (13, (some (.cells (layT (rows rw_iiiiii z1_1)) 58))), (14, (nblk z1_0 3))], 15, 0⟩))
abbrev Q_heapHeapapiDirtydrain1q2_1 (rnd : Option Nat) (x1_1 : Int) (x1_2 : Int) (x1_3 : Int) (x1_4 : List R6) (x1_5 : Nat) (x1_6 : Int) (x1_9 : Int) (st : List Int × List R6 × Nat) (c : Ex × XSt) : Prop := CG P rnd (fnN P 30) 14 (codeOf P 30 [false, false]) (S_heapHeapapiDirtydrain1q2_1 x1_1 x1_2 x1_3 x1_4 x1_5 x1_6 x1_9 st) c
abbrev U_heapHeapapiDirtydrain1q2_1 (rd : Option Nat) (x1_1 : Int) (x1_2 : Int) (x1_3 : Int) (x1_4 : List R6) (x1_5 : Nat) (x1_6 : Int) (x1_9 : Int) (st : List Int × List R6 × Nat) (r : List Int × List R6 × Nat) : Prop := CG P rd (fnN P 30) 14 (codeOf P 30 [false]) (S_heapHeapapiDirtydrain1q2_1 x1_1 x1_2 x1_3 x1_4 x1_5 x1_6 x1_9 st) (X_heapHeapapiDirtydrain1q2_1 x1_1 x1_2 x1_3 x1_4 x1_5 x1_6 x1_9 r)
def B_heapHeapapiDirtydrain1q2_1 (n : Nat) (x1_1 : Int) (x1_2 : Int) (x1_3 : Int) (x1_4 : List R6) (x1_5 : Nat) (x1_6 : Int) (x1_9 : Int) (st : List Int × List R6 × Nat) : Option ((List Int × List R6 × Nat) ⊕ (List Int × List R6 × Nat)) := match st with
 | (x1_0, x1_7, x1_8) =>
  match x1_0 with
  | [] =>
   (m_heapHeapapiDirtyLenq3 n x1_1 x1_2 x1_3 x1_7 x1_8 x1_9).bind fun _ =>
   if ((x1_8 : Nat) : Int) > (0 : Int) then
    (m_heapHeapapiDirtyTakeq2 n x1_1 x1_2 x1_3 x1_7 x1_8 x1_9).bind fun t => match t with
    | (y1_3_0, y1_3_1, y1_3_2, y1_3_3, y1_3_4, y1_3_5, y1_3_6, y1_3_7) =>
     (m_heapHeapapiDirtyAll1_111110y1 n x1_1 x1_2 x1_3 x1_4 x1_5 x1_6 y1_3_0 y1_3_1 x1_9 y1_3_2 y1_3_3 y1_3_4 y1_3_5 y1_3_6).bind fun _ =>
     some (.inl ([y1_3_2], y1_3_0, y1_3_1))
   else
    some (.inr (([] : List Int), x1_7, x1_8))
  | x1_0a :: x1_0t =>
   (m_heapHeapapiDirtyLenq3 n x1_1 x1_2 x1_3 x1_7 x1_8 x1_9).bind fun _ =>
   if ((x1_8 : Nat) : Int) > (0 : Int) then
    (m_heapHeapapiDirtyTakeq2 n x1_1 x1_2 x1_3 x1_7 x1_8 x1_9).bind fun t => match t with
    | (y1_3_0, y1_3_1, y1_3_2, y1_3_3, y1_3_4, y1_3_5, y1_3_6, y1_3_7) =>
     (m_heapHeapapiDirtyAll1_111110y2 n (x1_0a :: x1_0t) x1_1 x1_2 x1_3 x1_4 x1_5 x1_6 y1_3_0 y1_3_1 x1_9 y1_3_2 y1_3_3 y1_3_4 y1_3_5 y1_3_6).bind fun _ =>
     some (.inl (((x1_0a :: x1_0t) ++ [y1_3_2]), y1_3_0, y1_3_1))
   else
    some (.inr ((x1_0a :: x1_0t), x1_7, x1_8))
def m_heapHeapapiDirtydrain1q2_1 (n : Nat) (x1_1 : Int) (x1_2 : Int) (x1_3 : Int) (x1_4 : List R6) (x1_5 : Nat) (x1_6 : Int) (x1_9 : Int) (st : List Int × List R6 × Nat) : Option (List Int × List R6 × Nat) := iterM (B_heapHeapapiDirtydrain1q2_1 n x1_1 x1_2 x1_3 x1_4 x1_5 x1_6 x1_9) n st
theorem q_heapHeapapiDirtydrain1q2_1_0 (n : Nat) {rnd : Option Nat} (x1_1 x1_2 x1_3 : Int) (x1_4 : List R6) (x1_5 : Nat) (x1_6 : Int) (x1_7 : List R6) (x1_8 : Nat) (x1_9 : Int) (hy1_1 : m_heapHeapapiDirtyLenq3 n x1_1 x1_2 x1_3 x1_7 x1_8 x1_9 = some ()) (hy1_2 : ((x1_8 : Nat) : Int) > (0 : Int)) (y1_3_0 : List R6) (y1_3_1 : Nat) (y1_3_2 y1_3_3 y1_3_4 y1_3_5 y1_3_6 : Int) (y1_3_7 : Bool) (hy1_3 : m_heapHeapapiDirtyTakeq2 n x1_1 x1_2 x1_3 x1_7 x1_8 x1_9 = some (y1_3_0, y1_3_1, y1_3_2, y1_3_3, y1_3_4, y1_3_5, y1_3_6, y1_3_7)) (hy1_4 : m_heapHeapapiDirtyAll1_111110y1 n x1_1 x1_2 x1_3 x1_4 x1_5 x1_6 y1_3_0 y1_3_1 x1_9 y1_3_2 y1_3_3 y1_3_4 y1_3_5 y1_3_6 = some ()) : Q_heapHeapapiDirtydrain1q2_1 rnd x1_1 x1_2 x1_3 x1_4 x1_5 x1_6 x1_9 (([] : List Int), x1_7, x1_8) (.normal, S_heapHeapapiDirtydrain1q2_1 x1_1 x1_2 x1_3 x1_4 x1_5 x1_6 x1_9 ([y1_3_2], y1_3_0, y1_3_1)) :=
 runC2 hm (L := lT []) ⟨[0, 1], [(0, 0, false), (1, 1, false), (2, 2, false), (3, 3, false), (4, 4, false), (5, 5, false), (6, 6, false), (7, 7, false), (8, 8, false), (9, 9, false), (10, 10, true), (11, 11, false), (12, 12, false), (13, 13, true), (14, 17, false)], 15, 0⟩ (yy 3 (.call (C_heapHeapapiDirtyLenq3 x1_1 x1_2 x1_3 x1_7 x1_8 x1_9 () [(0, 12, false), (1, 8, false), (2, 9, false), (3, 13, true)] [])) <|
ww (m_heapHeapapiDirtyLenq3_ok n x1_1 x1_2 x1_3 x1_7 x1_8 x1_9 () hy1_1) <|
ww (rows_flat rwf_iiiiii x1_7 58) <|
zz 4 (xdT hy1_2) <|
yy 9 (.call (C_heapHeapapiDirtyTakeq2 x1_1 x1_2 x1_3 x1_7 x1_8 x1_9 (y1_3_0, y1_3_1, y1_3_2, y1_3_3, y1_3_4, y1_3_5, y1_3_6, y1_3_7) [(0, 12, false), (1, 8, false), (2, 9, false), (3, 13, true)] [(12, 0, false), (8, 1, false), (9, 2, false), (13, 3, true), (15, 4, false)])) <|
ww (m_heapHeapapiDirtyTakeq2_ok n x1_1 x1_2 x1_3 x1_7 x1_8 x1_9 (y1_3_0, y1_3_1, y1_3_2, y1_3_3, y1_3_4, y1_3_5, y1_3_6, y1_3_7) hy1_3) <|
ww (rows_flat rwf_iiiiii x1_7 58) <|
ww (rows_flat rwf_iiiiii y1_3_0 58) <|
yy 19 (.call (C_heapHeapapiDirtyAll1_111110y1 x1_1 x1_2 x1_3 x1_4 x1_5 x1_6 y1_3_0 y1_3_1 x1_9 y1_3_2 y1_3_3 y1_3_4 y1_3_5 y1_3_6 () [(0, 0, false), (1, 1, false), (2, 2, false), (3, 3, false), (4, 4, false), (5, 5, false), (6, 6, false), (7, 7, false), (8, 8, false), (9, 9, false), (10, 10, true), (11, 11, false), (12, 12, false), (13, 13, true)] [(0, 0, false), (1, 1, false), (2, 2, false), (3, 3, false), (4, 4, false), (5, 5, false), (6, 6, false), (7, 7, false), (8, 8, false), (9, 9, false), (10, 10, true), (11, 11, false), (12, 12, false), (13, 13, true), (17, 14, false)])) <|
ww (m_heapHeapapiDirtyAll1_111110y1_ok n x1_1 x1_2 x1_3 x1_4 x1_5 x1_6 y1_3_0 y1_3_1 x1_9 y1_3_2 y1_3_3 y1_3_4 y1_3_5 y1_3_6 () hy1_4) <|
ww (rows_flat rwf_iiiiii x1_4 58) <|
ww (rows_flat rwf_iiiiii y1_3_0 58) <|
ww (rows_flat rwf_iiiiii x1_4 58) <|
ww (rows_flat rwf_iiiiii y1_3_0 58) <|
ww (rows_flat rwf_iiiiii x1_4 58) <|
ww (rows_flat rwf_iiiiii y1_3_0 58) <|
ee) (by kernel_rfl)
theorem q_heapHeapapiDirtydrain1q2_1_1 (n : Nat) {rnd : Option Nat} (x1_1 x1_2 x1_3 : Int) (x1_4 : List R6) (x1_5 : Nat) (x1_6 : Int) (x1_7 : List R6) (x1_8 : Nat) (x1_9 : Int) (hy1_1 : m_heapHeapapiDirtyLenq3 n x1_1 x1_2 x1_3 x1_7 x1_8 x1_9 = some ()) (hy1_2 : ¬ (((x1_8 : Nat) : Int) > (0 : Int))) : Q_heapHeapapiDirtydrain1q2_1 rnd x1_1 x1_2 x1_3 x1_4 x1_5 x1_6 x1_9 (([] : List Int), x1_7, x1_8) (X_heapHeapapiDirtydrain1q2_1 x1_1 x1_2 x1_3 x1_4 x1_5 x1_6 x1_9 (([] : List Int), x1_7, x1_8)) :=
 runC2 hm (L := lT []) ⟨[], [(0, 0, false), (1, 1, false), (2, 2, false), (3, 3, false), (4, 4, false), (5, 5, false), (6, 6, false), (7, 7, false), (8, 8, false), (9, 9, false), (10, 10, true), (11, 11, false), (12, 12, false), (13, 13, true)], 15, 0⟩ (yy 3 (.call (C_heapHeapapiDirtyLenq3 x1_1 x1_2 x1_3 x1_7 x1_8 x1_9 () [(0, 12, false), (1, 8, false), (2, 9, false), (3, 13, true)] [])) <|
ww (m_heapHeapapiDirtyLenq3_ok n x1_1 x1_2 x1_3 x1_7 x1_8 x1_9 () hy1_1) <|
ww (rows_flat rwf_iiiiii x1_7 58) <|
zz 4 (xdF hy1_2) <|
ww (rows_flat rwf_iiiiii x1_4 58) <|
ww (rows_flat rwf_iiiiii x1_7 58) <|
ee) (by kernel_rfl)
theorem q_heapHeapapiDirtydrain1q2_1_2 (n : Nat) {rnd : Option Nat} (x1_0a : Int) (x1_0t : List (Int)) (x1_1 x1_2 x1_3 : Int) (x1_4 : List R6) (x1_5 : Nat) (x1_6 : Int) (x1_7 : List R6) (x1_8 : Nat) (x1_9 : Int) (hy1_1 : m_heapHeapapiDirtyLenq3 n x1_1 x1_2 x1_3 x1_7 x1_8 x1_9 = some ()) (hy1_2 : ((x1_8 : Nat) : Int) > (0 : Int)) (y1_3_0 : List R6) (y1_3_1 : Nat) (y1_3_2 y1_3_3 y1_3_4 y1_3_5 y1_3_6 : Int) (y1_3_7 : Bool) (hy1_3 : m_heapHeapapiDirtyTakeq2 n x1_1 x1_2 x1_3 x1_7 x1_8 x1_9 = some (y1_3_0, y1_3_1, y1_3_2, y1_3_3, y1_3_4, y1_3_5, y1_3_6, y1_3_7)) (hy1_4 : m_heapHeapapiDirtyAll1_111110y2 n (x1_0a :: x1_0t) x1_1 x1_2 x1_3 x1_4 x1_5 x1_6 y1_3_0 y1_3_1 x1_9 y1_3_2 y1_3_3 y1_3_4 y1_3_5 y1_3_6 = some ()) : Q_heapHeapapiDirtydrain1q2_1 rnd x1_1 x1_2 x1_3 x1_4 x1_5 x1_6 x1_9 ((x1_0a :: x1_0t), x1_7, x1_8) (.normal, S_heapHeapapiDirtydrain1q2_1 x1_1 x1_2 x1_3 x1_4 x1_5 x1_6 x1_9 (((x1_0a :: x1_0t) ++ [y1_3_2]), y1_3_0, y1_3_1)) :=
 runC2 hm (L := lT []) ⟨[0, 1], [(0, 0, false), (1, 1, false), (2, 2, false), (3, 3, false), (4, 4, false), (5, 5, false), (6, 6, false), (7, 7, false), (8, 8, false), (9, 9, false), (10, 10, true), (11, 11, false), (12, 12, false), (13, 13, true), (14, 17, true)], 15, 0⟩ (yy 3 (.call (C_heapHeapapiDirtyLenq3 x1_1 x1_2 x1_3 x1_7 x1_8 x1_9 () [(0, 12, false), (1, 8, false), (2, 9, false), (3, 13, true)] [])) <|
ww (m_heapHeapapiDirtyLenq3_ok n x1_1 x1_2 x1_3 x1_7 x1_8 x1_9 () hy1_1) <|
ww (rows_flat rwf_iiiiii x1_7 58) <|
zz 4 (xdT hy1_2) <|
yy 9 (.call (C_heapHeapapiDirtyTakeq2 x1_1 x1_2 x1_3 x1_7 x1_8 x1_9 (y1_3_0, y1_3_1, y1_3_2, y1_3_3, y1_3_4, y1_3_5, y1_3_6, y1_3_7) [(0, 12, false), (1, 8, false), (2, 9, false), (3, 13, true)] [(12, 0, false), (8, 1, false), (9, 2, false), (13, 3, true), (15, 4, false)])) <|
ww (m_heapHeapapiDirtyTakeq2_ok n x1_1 x1_2 x1_3 x1_7 x1_8 x1_9 (y1_3_0, y1_3_1, y1_3_2, y1_3_3, y1_3_4, y1_3_5, y1_3_6, y1_3_7) hy1_3) <|
ww (rows_flat rwf_iiiiii x1_7 58) <|
ww (rows_flat rwf_iiiiii y1_3_0 58) <|
yy 19 (.call (C_heapHeapapiDirtyAll1_111110y2 (x1_0a :: x1_0t) x1_1 x1_2 x1_3 x1_4 x1_5 x1_6 y1_3_0 y1_3_1 x1_9 y1_3_2 y1_3_3 y1_3_4 y1_3_5 y1_3_6 () [(0, 0, false), (1, 1, false), (2, 2, false), (3, 3, false), (4, 4, false), (5, 5, false), (6, 14, true), (7, 6, false), (8, 7, false), (9, 8, false), (10, 9, false), (11, 10, true), (12, 11, false), (13, 12, false), (14, 13, true)] [(0, 0, false), (1, 1, false), (2, 2, false), (3, 3, false), (4, 4, false), (5, 5, false), (6, 7, false), (7, 8, false), (8, 9, false), (9, 10, false), (10, 11, true), (11, 12, false), (12, 13, false), (13, 14, true), (17, 15, true)])) <|
ww (m_heapHeapapiDirtyAll1_111110y2_ok n (x1_0a :: x1_0t) x1_1 x1_2 x1_3 x1_4 x1_5 x1_6 y1_3_0 y1_3_1 x1_9 y1_3_2 y1_3_3 y1_3_4 y1_3_5 y1_3_6 () hy1_4) <|
ww (iv_flat (x1_0a :: x1_0t) 3) <|
ww (rows_flat rwf_iiiiii x1_4 58) <|
ww (rows_flat rwf_iiiiii y1_3_0 58) <|
ww (rows_flat rwf_iiiiii x1_4 58) <|
ww (rows_flat rwf_iiiiii y1_3_0 58) <|
ww (iv_flat ((x1_0a :: x1_0t) ++ [y1_3_2]) 3) <|
ww (rows_flat rwf_iiiiii x1_4 58) <|
ww (rows_flat rwf_iiiiii y1_3_0 58) <|
ww (iv_flat ((x1_0a :: x1_0t) ++ [y1_3_2]) 3) <|
ee) (by kernel_rfl)
theorem q_heapHeapapiDirtydrain1q2_1_3 (n : Nat) {rnd : Option Nat} (x1_0a : Int) (x1_0t : List (Int)) (x1_1 x1_2 x1_3 : Int) (x1_4 : List R6) (x1_5 : Nat) (x1_6 : Int) (x1_7 : List R6) (x1_8 : Nat) (x1_9 : Int) (hy1_1 : m_heapHeapapiDirtyLenq3 n x1_1 x1_2 x1_3 x1_7 x1_8 x1_9 = some ()) (hy1_2 : ¬ (((x1_8 : Nat) : Int) > (0 : Int))) : Q_heapHeapapiDirtydrain1q2_1 rnd x1_1 x1_2 x1_3 x1_4 x1_5 x1_6 x1_9 ((x1_0a :: x1_0t), x1_7, x1_8) (X_heapHeapapiDirtydrain1q2_1 x1_1 x1_2 x1_3 x1_4 x1_5 x1_6 x1_9 ((x1_0a :: x1_0t), x1_7, x1_8)) :=
 runC2 hm (L := lT []) ⟨[], [(0, 0, false), (1, 1, false), (2, 2, false), (3, 3, false), (4, 4, false), (5, 5, false), (6, 6, false), (7, 7, false), (8, 8, false), (9, 9, false), (10, 10, true), (11, 11, false), (12, 12, false), (13, 13, true), (14, 14, true)], 15, 0⟩ (yy 3 (.call (C_heapHeapapiDirtyLenq3 x1_1 x1_2 x1_3 x1_7 x1_8 x1_9 () [(0, 12, false), (1, 8, false), (2, 9, false), (3, 13, true)] [])) <|
ww (m_heapHeapapiDirtyLenq3_ok n x1_1 x1_2 x1_3 x1_7 x1_8 x1_9 () hy1_1) <|
ww (rows_flat rwf_iiiiii x1_7 58) <|
zz 4 (xdF hy1_2) <|
ww (rows_flat rwf_iiiiii x1_4 58) <|
ww (rows_flat rwf_iiiiii x1_7 58) <|
ww (iv_flat (x1_0a :: x1_0t) 3) <|
ee) (by kernel_rfl)
theorem m_heapHeapapiDirtydrain1q2_1_ok (n : Nat) {rnd : Option Nat} (x1_1 : Int) (x1_2 : Int) (x1_3 : Int) (x1_4 : List R6) (x1_5 : Nat) (x1_6 : Int) (x1_9 : Int) (st : List Int × List R6 × Nat) (r : List Int × List R6 × Nat) (h : m_heapHeapapiDirtydrain1q2_1 n x1_1 x1_2 x1_3 x1_4 x1_5 x1_6 x1_9 st = some r) : CG P rnd (fnN P 30) 14 (codeOf P 30 [false]) (S_heapHeapapiDirtydrain1q2_1 x1_1 x1_2 x1_3 x1_4 x1_5 x1_6 x1_9 st) (X_heapHeapapiDirtydrain1q2_1 x1_1 x1_2 x1_3 x1_4 x1_5 x1_6 x1_9 r) :=
 CG.iter (b := codeOf P 30 [false, false]) (by kernel_rfl) (body := B_heapHeapapiDirtydrain1q2_1 n x1_1 x1_2 x1_3 x1_4 x1_5 x1_6 x1_9) (S := S_heapHeapapiDirtydrain1q2_1 x1_1 x1_2 x1_3 x1_4 x1_5 x1_6 x1_9) (X := X_heapHeapapiDirtydrain1q2_1 x1_1 x1_2 x1_3 x1_4 x1_5 x1_6 x1_9)
  (fun s s' h => by
  obtain ⟨x1_0, x1_7, x1_8⟩ := s
  unfold B_heapHeapapiDirtydrain1q2_1 at h
  dsimp only at h
  cases x1_0 with
  | nil =>
   dsimp only at h
   obtain ⟨_, hy1_1, h⟩ := Option.bind_eq_some_iff.1 h
   by_cases hy1_2 : ((x1_8 : Nat) : Int) > (0 : Int)
   ·rw [if_pos hy1_2] at h
    obtain ⟨⟨y1_3_0, y1_3_1, y1_3_2, y1_3_3, y1_3_4, y1_3_5, y1_3_6, y1_3_7⟩, hy1_3, h⟩ := Option.bind_eq_some_iff.1 h
    dsimp only at h
    obtain ⟨_, hy1_4, h⟩ := Option.bind_eq_some_iff.1 h
    obtain rfl := Sum.inl.inj (oI h); exact q_heapHeapapiDirtydrain1q2_1_0 n x1_1 x1_2 x1_3 x1_4 x1_5 x1_6 x1_7 x1_8 x1_9 hy1_1 hy1_2 y1_3_0 y1_3_1 y1_3_2 y1_3_3 y1_3_4 y1_3_5 y1_3_6 y1_3_7 hy1_3 hy1_4
   ·rw [if_neg hy1_2] at h
    cases h
  | cons x1_0a x1_0t =>
   dsimp only at h
   obtain ⟨_, hy1_1, h⟩ := Option.bind_eq_some_iff.1 h
   by_cases hy1_2 : ((x1_8 : Nat) : Int) > (0 : Int)
   ·rw [if_pos hy1_2] at h
    obtain ⟨⟨y1_3_0, y1_3_1, y1_3_2, y1_3_3, y1_3_4, y1_3_5, y1_3_6, y1_3_7⟩, hy1_3, h⟩ := Option.bind_eq_some_iff.1 h
    dsimp only at h
    obtain ⟨_, hy1_4, h⟩ := Option.bind_eq_some_iff.1 h
    obtain rfl := Sum.inl.inj (oI h); exact q_heapHeapapiDirtydrain1q2_1_2 n x1_0a x1_0t x1_1 x1_2 x1_3 x1_4 x1_5 x1_6 x1_7 x1_8 x1_9 hy1_1 hy1_2 y1_3_0 y1_3_1 y1_3_2 y1_3_3 y1_3_4 y1_3_5 y1_3_6 y1_3_7 hy1_3 hy1_4
   ·rw [if_neg hy1_2] at h
    cases h)
  (fun s r h => by
  obtain ⟨x1_0, x1_7, x1_8⟩ := s
  unfold B_heapHeapapiDirtydrain1q2_1 at h
  dsimp only at h
  cases x1_0 with
  | nil =>
   dsimp only at h
   obtain ⟨_, hy1_1, h⟩ := Option.bind_eq_some_iff.1 h
   by_cases hy1_2 : ((x1_8 : Nat) : Int) > (0 : Int)
   ·rw [if_pos hy1_2] at h
    obtain ⟨⟨y1_3_0, y1_3_1, y1_3_2, y1_3_3, y1_3_4, y1_3_5, y1_3_6, y1_3_7⟩, hy1_3, h⟩ := Option.bind_eq_some_iff.1 h
    dsimp only at h
    obtain ⟨_, hy1_4, h⟩ := Option.bind_eq_some_iff.1 h
    cases h
   ·rw [if_neg hy1_2] at h
    obtain rfl := Sum.inr.inj (oI h); exact q_heapHeapapiDirtydrain1q2_1_1 n x1_1 x1_2 x1_3 x1_4 x1_5 x1_6 x1_7 x1_8 x1_9 hy1_1 hy1_2
  | cons x1_0a x1_0t =>
   dsimp only at h
   obtain ⟨_, hy1_1, h⟩ := Option.bind_eq_some_iff.1 h
   by_cases hy1_2 : ((x1_8 : Nat) : Int) > (0 : Int)
   ·rw [if_pos hy1_2] at h
    obtain ⟨⟨y1_3_0, y1_3_1, y1_3_2, y1_3_3, y1_3_4, y1_3_5, y1_3_6, y1_3_7⟩, hy1_3, h⟩ := Option.bind_eq_some_iff.1 h
    dsimp only at h
    obtain ⟨_, hy1_4, h⟩ := Option.bind_eq_some_iff.1 h
    cases h
   ·rw [if_neg hy1_2] at h
    obtain rfl := Sum.inr.inj (oI h); exact q_heapHeapapiDirtydrain1q2_1_3 n x1_0a x1_0t x1_1 x1_2 x1_3 x1_4 x1_5 x1_6 x1_7 x1_8 x1_9 hy1_1 hy1_2)
  (fun r => by intro hx; cases hx) h
def m_heapHeapapiDirtydrain1q2 (n : Nat) (a0 : Int) (a1 : Int) (a2 : Int) (a3 : List R6) (a4 : Nat) (a5 : Int) (a6 : List R6) (a7 : Int) : Option (List Int × List R6 × Nat) :=
 (m_heapHeapapiDirtydrain1q2_1 n a0 a1 a2 a3 a4 a5 a7 (([] : List Int), a6, ((a6).length))).bind fun t => match t with
 | (c1_0, c1_1, c1_2) =>
  match c1_0 with
  | [] =>
   some (([] : List Int), c1_1, c1_2)
  | c1_0a :: c1_0t =>
   some ((c1_0a :: c1_0t), c1_1, c1_2)
theorem m_heapHeapapiDirtydrain1q2_ok (n : Nat) (a0 : Int) (a1 : Int) (a2 : Int) (a3 : List R6) (a4 : Nat) (a5 : Int) (a6 : List R6) (a7 : Int) (r : List Int × List R6 × Nat) (h : m_heapHeapapiDirtydrain1q2 n a0 a1 a2 a3 a4 a5 a6 a7 = some r) : Gv P (.func 30) (A_heapHeapapiDirtydrain1q2 a0 a1 a2 a3 a4 a5 a6 a7) (H_heapHeapapiDirtydrain1q2 a0 a1 a2 a3 a4 a5 a6 a7) (V_heapHeapapiDirtydrain1q2 a0 a1 a2 a3 a4 a5 a6 a7 r) (R_heapHeapapiDirtydrain1q2 a0 a1 a2 a3 a4 a5 a6 a7 r) := by
 unfold m_heapHeapapiDirtydrain1q2 at h
 obtain ⟨⟨c1_0, c1_1, c1_2⟩, hc1, h⟩ := Option.bind_eq_some_iff.1 h
 dsimp only at h
 cases c1_0 with
 | nil =>
  dsimp only at h
  obtain rfl := oI h; exact (runF2 hm (L := lT [(1, ⟨⟨[0, 1], [(0, 0, false), (1, 1, false), (2, 2, false), (3, 3, false), (4, 4, false), (5, 5, false), (6, 6, false), (7, 7, false), (8, 8, false), (9, 9, false), (10, 10, true), (11, 11, false), (12, 12, false), (13, 13, true)], 15, 0⟩, (X_heapHeapapiDirtydrain1q2_1 a0 a1 a2 a3 a4 a5 a7 (([] : List Int), c1_1, c1_2)).1, (X_heapHeapapiDirtydrain1q2_1 a0 a1 a2 a3 a4 a5 a7 (([] : List Int), c1_1, c1_2)).2⟩)]) ⟨[], [(0, 0, false), (1, 1, false), (2, 2, false), (3, 3, false), (4, 4, false), (5, 5, false), (6, 6, false), (7, 7, false), (8, 8, false), (9, 9, false), (10, 10, true), (11, 11, false), (12, 12, false), (13, 13, true)], 15, 0⟩ (ww (p := U_heapHeapapiDirtydrain1q2_1 none a0 a1 a2 a3 a4 a5 a7 (([] : List Int), a6, ((a6).length)) (([] : List Int), c1_1, c1_2)) (m_heapHeapapiDirtydrain1q2_1_ok n a0 a1 a2 a3 a4 a5 a7 (([] : List Int), a6, ((a6).length)) (([] : List Int), c1_1, c1_2) hc1) <|
ww (rows_flat rwf_iiiiii a3 58) <|
ww (rows_flat rwf_iiiiii a6 58) <|
ww (rows_flat rwf_iiiiii a3 58) <|
ww (rows_flat rwf_iiiiii c1_1 58) ee) (by kernel_rfl))
 | cons c1_0a c1_0t =>
  dsimp only at h
  obtain rfl := oI h; exact (runF2 hm (L := lT [(1, ⟨⟨[0, 1], [(0, 0, false), (1, 1, false), (2, 2, false), (3, 3, false), (4, 4, false), (5, 5, false), (6, 6, false), (7, 7, false), (8, 8, false), (9, 9, false), (10, 10, true), (11, 11, false), (12, 12, false), (13, 13, true)], 15, 0⟩, (X_heapHeapapiDirtydrain1q2_1 a0 a1 a2 a3 a4 a5 a7 ((c1_0a :: c1_0t), c1_1, c1_2)).1, (X_heapHeapapiDirtydrain1q2_1 a0 a1 a2 a3 a4 a5 a7 ((c1_0a :: c1_0t), c1_1, c1_2)).2⟩)]) ⟨[], [(0, 0, false), (1, 1, false), (2, 2, false), (3, 3, false), (4, 4, false), (5, 5, false), (6, 6, false), (7, 7, false), (8, 8, false), (9, 9, false), (10, 10, true), (11, 11, false), (12, 12, false), (13, 13, true), (14, 14, true)], 15, 0⟩ (ww (p := U_heapHeapapiDirtydrain1q2_1 none a0 a1 a2 a3 a4 a5 a7 (([] : List Int), a6, ((a6).length)) ((c1_0a :: c1_0t), c1_1, c1_2)) (m_heapHeapapiDirtydrain1q2_1_ok n a0 a1 a2 a3 a4 a5 a7 (([] : List Int), a6, ((a6).length)) ((c1_0a :: c1_0t), c1_1, c1_2) hc1) <|
ww (rows_flat rwf_iiiiii a3 58) <|
ww (rows_flat rwf_iiiiii a6 58) <|
ww (rows_flat rwf_iiiiii a3 58) <|
ww (rows_flat rwf_iiiiii c1_1 58) <|
ww (iv_flat (c1_0a :: c1_0t) 3) ee) (by kernel_rfl))

def A_heapHeapapiDirtydrainq3 (a0 : Int) (a1 : Int) (a2 : Int) (a3 : Int) : List Value := [(pN 0 0)]
def H_heapHeapapiDirtydrainq3 (a0 : Int) (a1 : Int) (a2 : Int) (a3 : Int) : AH := ⟨sB [(0, (some (.cells (layT [(pN 0 0), (Value.func (.func 24) #[] #[(pN 1 0), (pN 2 0)]), (sN 3 0 0 0), (i6 a3)]) 53))), (1, (some (.cells (layT [(i6 a0)]) 3))), (2, (some (.cells (layT [(i6 a1), (i6 a2)]) 24))), (3, (some (.cells (layT []) 58)))], 4, 4⟩
def V_heapHeapapiDirtydrainq3 (a0 : Int) (a1 : Int) (a2 : Int) (a3 : Int) (r : Unit) : Value := match r with
 | _ => (Value.func (.func 30) #[] #[(pN 4 0)])
def R_heapHeapapiDirtydrainq3 (a0 : Int) (a1 : Int) (a2 : Int) (a3 : Int) (r : Unit) : AH := match r with
 | _ => ⟨sB [(0, (some (.cells (layT [(pN 0 0), (Value.func (.func 24) #[] #[(pN 1 0), (pN 2 0)]), (sN 3 0 0 0), (i6 a3)]) 53))), (1, (some (.cells (layT [(i6 a0)]) 3))), (2, (some (.cells (layT [(i6 a1), (i6 a2)]) 24))), (3, (some (.cells (layT []) 58))), (4, (some (.cells (layT [(pN 0 0)]) 40)))], 5, 4⟩
abbrev G_heapHeapapiDirtydrainq3 (a0 : Int) (a1 : Int) (a2 : Int) (a3 : Int) (r : Unit) : Prop := Gv P (.func 22) (A_heapHeapapiDirtydrainq3 a0 a1 a2 a3) (H_heapHeapapiDirtydrainq3 a0 a1 a2 a3) (V_heapHeapapiDirtydrainq3 a0 a1 a2 a3 r) (R_heapHeapapiDirtydrainq3 a0 a1 a2 a3 r)
abbrev C_heapHeapapiDirtydrainq3 (a0 : Int) (a1 : Int) (a2 : Int) (a3 : Int) (r : Unit) (ins outs : BL) : CallA := ⟨4, ins, V_heapHeapapiDirtydrainq3 a0 a1 a2 a3 r, R_heapHeapapiDirtydrainq3 a0 a1 a2 a3 r, outs⟩
def m_heapHeapapiDirtydrainq3 (n : Nat) (a0 : Int) (a1 : Int) (a2 : Int) (a3 : Int) : Option (Unit) :=
 some ()
theorem m_heapHeapapiDirtydrainq3_ok (n : Nat) (a0 : Int) (a1 : Int) (a2 : Int) (a3 : Int) (r : Unit) (h : m_heapHeapapiDirtydrainq3 n a0 a1 a2 a3 = some r) : Gv P (.func 22) (A_heapHeapapiDirtydrainq3 a0 a1 a2 a3) (H_heapHeapapiDirtydrainq3 a0 a1 a2 a3) (V_heapHeapapiDirtydrainq3 a0 a1 a2 a3 r) (R_heapHeapapiDirtydrainq3 a0 a1 a2 a3 r) := by
 unfold m_heapHeapapiDirtydrainq3 at h
 obtain rfl := oI h; exact (runF2 hm (L := lT []) ⟨[2], [(0, 0, false), (1, 1, false), (2, 2, false), (3, 3, false), (4, 4, false)], 5, 4⟩ (ee) (by kernel_rfl))

def A_heapHeapapiDirtyvalidq4 (a0 : Int) (a1 : Int) (a2 : Int) (a3 : Int) : List Value := [(pN 0 0)]
def H_heapHeapapiDirtyvalidq4 (a0 : Int) (a1 : Int) (a2 : Int) (a3 : Int) : AH := ⟨sB [(0, (some (.cells (layT [(pN 0 0), (Value.func (.func 24) #[] #[(pN 1 0), (pN 2 0)]), (sN 3 0 0 0), (i6 a3)]) 53))), (1, (some (.cells (layT [(i6 a0)]) 3))), (2, (some (.cells (layT [(i6 a1), (i6 a2)]) 24))), (3, (some (.cells (layT []) 58)))], 4, 4⟩
def V_heapHeapapiDirtyvalidq4 (a0 : Int) (a1 : Int) (a2 : Int) (a3 : Int) (r : Unit) : Value := match r with
 | _ => (bO true)
def R_heapHeapapiDirtyvalidq4 (a0 : Int) (a1 : Int) (a2 : Int) (a3 : Int) (r : Unit) : AH := match r with
 | _ => ⟨sB [], 4, 4⟩
abbrev G_heapHeapapiDirtyvalidq4 (a0 : Int) (a1 : Int) (a2 : Int) (a3 : Int) (r : Unit) : Prop := Gv P (.func 20) (A_heapHeapapiDirtyvalidq4 a0 a1 a2 a3) (H_heapHeapapiDirtyvalidq4 a0 a1 a2 a3) (V_heapHeapapiDirtyvalidq4 a0 a1 a2 a3 r) (R_heapHeapapiDirtyvalidq4 a0 a1 a2 a3 r)
abbrev C_heapHeapapiDirtyvalidq4 (a0 : Int) (a1 : Int) (a2 : Int) (a3 : Int) (r : Unit) (ins outs : BL) : CallA := ⟨4, ins, V_heapHeapapiDirtyvalidq4 a0 a1 a2 a3 r, R_heapHeapapiDirtyvalidq4 a0 a1 a2 a3 r, outs⟩
def m_heapHeapapiDirtyvalidq4 (n : Nat) (a0 : Int) (a1 : Int) (a2 : Int) (a3 : Int) : Option (Unit) :=
 some ()
theorem m_heapHeapapiDirtyvalidq4_ok (n : Nat) (a0 : Int) (a1 : Int) (a2 : Int) (a3 : Int) (r : Unit) (h : m_heapHeapapiDirtyvalidq4 n a0 a1 a2 a3 = some r) : Gv P (.func 20) (A_heapHeapapiDirtyvalidq4 a0 a1 a2 a3) (H_heapHeapapiDirtyvalidq4 a0 a1 a2 a3) (V_heapHeapapiDirtyvalidq4 a0 a1 a2 a3 r) (R_heapHeapapiDirtyvalidq4 a0 a1 a2 a3 r) := by
 unfold m_heapHeapapiDirtyvalidq4 at h
 obtain rfl := oI h; exact (runF2 hm (L := lT []) ⟨[2], [], 4, 4⟩ (ee) (by kernel_rfl))

def A_heapHeapapiDirtyLenq4 (a0 : Int) (a1 : Int) (a2 : Int) (a3 : Int) : List Value := [(pN 0 0)]
def H_heapHeapapiDirtyLenq4 (a0 : Int) (a1 : Int) (a2 : Int) (a3 : Int) : AH := ⟨sB [(0, (some (.cells (layT [(pN 0 0), (Value.func (.func 24) #[] #[(pN 1 0), (pN 2 0)]), (sN 3 0 0 0), (i6 a3)]) 53))), (1, (some (.cells (layT [(i6 a0)]) 3))), (2, (some (.cells (layT [(i6 a1), (i6 a2)]) 24))), (3, (some (.cells (layT []) 58)))], 4, 4⟩
def V_heapHeapapiDirtyLenq4 (a0 : Int) (a1 : Int) (a2 : Int) (a3 : Int) (r : Unit) : Value := match r with
 | _ => (i6 (0 : Int))
def R_heapHeapapiDirtyLenq4 (a0 : Int) (a1 : Int) (a2 : Int) (a3 : Int) (r : Unit) : AH := match r with
 | _ => ⟨sB [], 4, 4⟩
abbrev G_heapHeapapiDirtyLenq4 (a0 : Int) (a1 : Int) (a2 : Int) (a3 : Int) (r : Unit) : Prop := Gv P (.func 23) (A_heapHeapapiDirtyLenq4 a0 a1 a2 a3) (H_heapHeapapiDirtyLenq4 a0 a1 a2 a3) (V_heapHeapapiDirtyLenq4 a0 a1 a2 a3 r) (R_heapHeapapiDirtyLenq4 a0 a1 a2 a3 r)
abbrev C_heapHeapapiDirtyLenq4 (a0 : Int) (a1 : Int) (a2 : Int) (a3 : Int) (r : Unit) (ins outs : BL) : CallA := ⟨4, ins, V_heapHeapapiDirtyLenq4 a0 a1 a2 a3 r, R_heapHeapapiDirtyLenq4 a0 a1 a2 a3 r, outs⟩
def m_heapHeapapiDirtyLenq4 (n : Nat) (a0 : Int) (a1 : Int) (a2 : Int) (a3 : Int) : Option (Unit) :=
 (m_heapHeapapiDirtyvalidq4 n a0 a1 a2 a3).bind fun _ =>
 some ()
theorem m_heapHeapapiDirtyLenq4_ok (n : Nat) (a0 : Int) (a1 : Int) (a2 : Int) (a3 : Int) (r : Unit) (h : m_heapHeapapiDirtyLenq4 n a0 a1 a2 a3 = some r) : Gv P (.func 23) (A_heapHeapapiDirtyLenq4 a0 a1 a2 a3) (H_heapHeapapiDirtyLenq4 a0 a1 a2 a3) (V_heapHeapapiDirtyLenq4 a0 a1 a2 a3 r) (R_heapHeapapiDirtyLenq4 a0 a1 a2 a3 r) := by
 unfold m_heapHeapapiDirtyLenq4 at h
 obtain ⟨_, hc1, h⟩ := Option.bind_eq_some_iff.1 h
 obtain rfl := oI h; exact (runF2 hm (L := lT []) ⟨[2], [], 4, 4⟩ (yy 5 (.call (C_heapHeapapiDirtyvalidq4 a0 a1 a2 a3 () [(0, 0, false), (1, 1, false), (2, 2, false), (3, 3, false)] [])) <|
ww (m_heapHeapapiDirtyvalidq4_ok n a0 a1 a2 a3 () hc1) ee) (by kernel_rfl))

def A_heapHeapapiDirtydrain1q3 (a0 : Int) (a1 : Int) (a2 : Int) (a3 : List R6) (a4 : Nat) (a5 : Int) (a6 : Int) : List Value := [(Value.func (.yield 0) #[] #[]), (pN 11 0)]
def H_heapHeapapiDirtydrain1q3 (a0 : Int) (a1 : Int) (a2 : Int) (a3 : List R6) (a4 : Nat) (a5 : Int) (a6 : Int) : AH := ⟨sB [(0, (some (rblk P 19 [false, true, true, true, true, true] .ready none [(2, (pN 2 0)), (22, (Value.func (.func 30) #[] #[(pN 11 0)]))] 1))), (1, (some (.marks true))), (2, (some (.cells (layT [(Value.func (.yield 3) #[] #[])]) 50))), (3, (some (rblk P 6 [false, true, false, true, true] .ready none [(7, (pN 5 0)), (13, (Value.func (.func 19) #[] #[(pN 6 0)]))] 4))), (4, (some (.marks true))), (5, (some (.cells (layT [(Value.slice none 0 0)]) 28))), (6, (some (.cells (layT [(pN 7 0)]) 40))), (7, (some (.cells (layT [(pN 7 0), (Value.func (.func 24) #[] #[(pN 8 0), (pN 9 0)]), (sN 10 0 a4 (Nat.add big 6)), (i6 a5)]) 53))), (8, (some (.cells (layT [(i6 a0)]) 3))), (9, (some (.cells (layT [(i6 a1), (i6 a2)]) 24))), (10, (some (.cells (layT (rows rw_iiiiii a3)) 58))), (11, (some (.cells (layT [(pN 12 0)]) 40))), (12, (some (.cells (layT [(pN 12 0), (Value.func (.func 24) #[] #[(pN 8 0), (pN 9 0)]), (sN 13 0 0 0), (i6 a6)]) 53))), (13, (some (.cells (layT []) 58)))], 14, 14⟩
def V_heapHeapapiDirtydrain1q3 (a0 : Int) (a1 : Int) (a2 : Int) (a3 : List R6) (a4 : Nat) (a5 : Int) (a6 : Int) (r : Unit) : Value := match r with
 | _ => (Value.tuple #[])
def R_heapHeapapiDirtydrain1q3 (a0 : Int) (a1 : Int) (a2 : Int) (a3 : List R6) (a4 : Nat) (a5 : Int) (a6 : Int) (r : Unit) : AH := match r with
 | _ => ⟨sB [], 14, 14⟩
abbrev G_heapHeapapiDirtydrain1q3 (a0 : Int) (a1 : Int) (a2 : Int) (a3 : List R6) (a4 : Nat) (a5 : Int) (a6 : Int) (r : Unit) : Prop := Gv P (.func 30) (A_heapHeapapiDirtydrain1q3 a0 a1 a2 a3 a4 a5 a6) (H_heapHeapapiDirtydrain1q3 a0 a1 a2 a3 a4 a5 a6) (V_heapHeapapiDirtydrain1q3 a0 a1 a2 a3 a4 a5 a6 r) (R_heapHeapapiDirtydrain1q3 a0 a1 a2 a3 a4 a5 a6 r)
abbrev C_heapHeapapiDirtydrain1q3 (a0 : Int) (a1 : Int) (a2 : Int) (a3 : List R6) (a4 : Nat) (a5 : Int) (a6 : Int) (r : Unit) (ins outs : BL) : CallA := ⟨14, ins, V_heapHeapapiDirtydrain1q3 a0 a1 a2 a3 a4 a5 a6 r, R_heapHeapapiDirtydrain1q3 a0 a1 a2 a3 a4 a5 a6 r, outs⟩
def S_heapHeapapiDirtydrain1q3_1 (x1_0 : Int) (x1_1 : Int) (x1_2 : Int) (x1_3 : List R6) (x1_4 : Nat) (x1_5 : Int) (x1_6 : Int) (st : Unit) : XSt := match st with
 | _ => (sT 17 [(0, (Value.func (.yield 0) #[] #[])), (1, (pN 11 0))], [], ⟨sB [(0, (some (rblk P 19 [false, true, true, true, true, true] .ready none [(2, (pN 2 0)), (22, (Value.func (.func 30) #[] #[(pN 11 0)]))] 1))), (1, (some (.marks true))), (2, (some (.cells (layT [(Value.func (.yield 3) #[] #[])]) 50))), (3, (some (rblk P 6 [false, true, false, true, true] .ready none [(7, (pN 5 0)), (13, (Value.func (.func 19) #[] #[(pN 6 0)]))] 4))), (4, (some (.marks true))), (5, (some (.cells (layT [(Value.slice none 0 0)]) 28))), (6, (some (.cells (layT [(pN 7 0)]) 40))), (7, (some (.cells (layT [(pN 7 0), (Value.func (.func 24) #[] #[(pN 8 0), (pN 9 0)]), (sN 10 0 x1_4 (Nat.add big 6)), (i6 x1_5)]) 53))), (8, (some (.cells (layT [(i6 x1_0)]) 3))), (9, (some (.cells (layT [(i6 x1_1), (i6 x1_2)]) 24))), (10, (some (.cells (layT (rows rw_iiiiii x1_3)) 58))), (11, (some (.cells (layT [(pN 12 0)]) 40))), (12, (some (.cells (layT [(pN 12 0), (Value.func (.func 24) #[] #[(pN 8 0), (pN 9 0)]), (sN 13 0 0 0), (i6 x1_6)]) 53))), (13, (some (.cells (layT []) 58)))], 14, 14⟩)
def X_heapHeapapiDirtydrain1q3_1 (x1_0 : Int) (x1_1 : Int) (x1_2 : Int) (x1_3 : List R6) (x1_4 : Nat) (x1_5 : Int) (x1_6 : Int) (r : Unit) : Ex × XSt := match r with
 | _ => (.exit 0, (sT 17 [], [], ⟨sB [(0, (some (rblk P 19 [false, true, true, true, true, true] .ready none [(2, (pN 2 0)), (22, (Value.func (.func 30) #[] #[(pN 11 0)]))] 1))), (1, (some (.marks true))), (2, (some (.cells (layT [(Value.func (.yield 3) #[] #[])]) 50))), (3, (some (rblk P 6 [false, true, false, true, true] .ready none [(7, (pN 5 0)), (13, (Value.func (.func 19) #[] #[(pN 6 0)]))] 4))), (4, (some (.marks true))), (5, (some (.cells (layT [(Value.slice none 0 0)]) 28))), (6, (some (.cells (layT [(pN 7 0)]) 40))), (7, (some (.cells (layT [(pN 7 0), (Value.func (.func 24) #[] #[(pN 8 0), (pN 9 0)]), (sN 10 0 x1_4 (Nat.add big 6)), (i6 x1_5)]) 53))), (8, (some (.cells (layT [(i6 x1_0)]) 3))), (9, (some (.cells (layT [(i6 x1_1), (i6 x1_2)]) 24))), (10, (some (.cells (layT (rows rw_iiiiii x1_3)) 58))), (11, (some (.cells (layT [(pN 12 0)]) 40))), (12, (some (.cells (layT [(pN 12 0), (Value.func (.func 24) #[] #[(pN 8 0), (pN 9 0)]), (sN 13 0 0 0), (i6 x1_6)]) 53))), (13, (some (.cells (layT []) 58)))], 14, 14⟩))
abbrev Q_heapHeapapiDirtydrain1q3_1 (rnd : Option Nat) (x1_0 : Int) (x1_1 : Int) (x1_2 : Int) (x1_3 : List R6) (x1_4 : Nat) (x1_5 : Int) (x1_6 : Int) (st : Unit) (c : Ex × XSt) : Prop := CG P rnd (fnN P 30) 14 (codeOf P 30 [false, false]) (S_heapHeapapiDirtydrain1q3_1 x1_0 x1_1 x1_2 x1_3 x1_4 x1_5 x1_6 st) c
abbrev U_heapHeapapiDirtydrain1q3_1 (rd : Option Nat) (x1_0 : Int) (x1_1 : Int) (x1_2 : Int) (x1_3 : List R6) (x1_4 : Nat) (x1_5 : Int) (x1_6 : Int) (st : Unit) (r : Unit) : Prop := CG P rd (fnN P 30) 14 (codeOf P 30 [false]) (S_heapHeapapiDirtydrain1q3_1 x1_0 x1_1 x1_2 x1_3 x1_4 x1_5 x1_6 st) (X_heapHeapapiDirtydrain1q3_1 x1_0 x1_1 x1_2 x1_3 x1_4 x1_5 x1_6 r)
def B_heapHeapapiDirtydrain1q3_1 (n : Nat) (x1_0 : Int) (x1_1 : Int) (x1_2 : Int) (x1_3 : List R6) (x1_4 : Nat) (x1_5 : Int) (x1_6 : Int) (st : Unit) : Option ((Unit) ⊕ (Unit)) := match st with
 | _ =>
  (m_heapHeapapiDirtyLenq4 n x1_0 x1_1 x1_2 x1_6).bind fun _ =>
  some (.inr ())
def m_heapHeapapiDirtydrain1q3_1 (n : Nat) (x1_0 : Int) (x1_1 : Int) (x1_2 : Int) (x1_3 : List R6) (x1_4 : Nat) (x1_5 : Int) (x1_6 : Int) (st : Unit) : Option (Unit) := iterM (B_heapHeapapiDirtydrain1q3_1 n x1_0 x1_1 x1_2 x1_3 x1_4 x1_5 x1_6) n st
theorem q_heapHeapapiDirtydrain1q3_1_0 (n : Nat) {rnd : Option Nat} (x1_0 x1_1 x1_2 : Int) (x1_3 : List R6) (x1_4 : Nat) (x1_5 x1_6 : Int) (hy1_1 : m_heapHeapapiDirtyLenq4 n x1_0 x1_1 x1_2 x1_6 = some ()) : Q_heapHeapapiDirtydrain1q3_1 rnd x1_0 x1_1 x1_2 x1_3 x1_4 x1_5 x1_6 () (X_heapHeapapiDirtydrain1q3_1 x1_0 x1_1 x1_2 x1_3 x1_4 x1_5 x1_6 ()) :=
 runC2 hm (L := lT []) ⟨[], [(0, 0, false), (1, 1, false), (2, 2, false), (3, 3, false), (4, 4, false), (5, 5, false), (6, 6, false), (7, 7, false), (8, 8, false), (9, 9, false), (10, 10, true), (11, 11, false), (12, 12, false), (13, 13, false)], 14, 14⟩ (yy 3 (.call (C_heapHeapapiDirtyLenq4 x1_0 x1_1 x1_2 x1_6 () [(0, 12, false), (1, 8, false), (2, 9, false), (3, 13, false)] [])) <|
ww (m_heapHeapapiDirtyLenq4_ok n x1_0 x1_1 x1_2 x1_6 () hy1_1) <|
ww (rows_flat rwf_iiiiii x1_3 58) <|
ee) (by kernel_rfl)
theorem m_heapHeapapiDirtydrain1q3_1_ok (n : Nat) {rnd : Option Nat} (x1_0 : Int) (x1_1 : Int) (x1_2 : Int) (x1_3 : List R6) (x1_4 : Nat) (x1_5 : Int) (x1_6 : Int) (st : Unit) (r : Unit) (h : m_heapHeapapiDirtydrain1q3_1 n x1_0 x1_1 x1_2 x1_3 x1_4 x1_5 x1_6 st = some r) : CG P rnd (fnN P 30) 14 (codeOf P 30 [false]) (S_heapHeapapiDirtydrain1q3_1 x1_0 x1_1 x1_2 x1_3 x1_4 x1_5 x1_6 st) (X_heapHeapapiDirtydrain1q3_1 x1_0 x1_1 x1_2 x1_3 x1_4 x1_5 x1_6 r) :=
 CG.iter (b := codeOf P 30 [false, false]) (by kernel_rfl) (body := B_heapHeapapiDirtydrain1q3_1 n x1_0 x1_1 x1_2 x1_3 x1_4 x1_5 x1_6) (S := S_heapHeapapiDirtydrain1q3_1 x1_0 x1_1 x1_2 x1_3 x1_4 x1_5 x1_6) (X := X_heapHeapapiDirtydrain1q3_1 x1_0 x1_1 x1_2 x1_3 x1_4 x1_5 x1_6)
  (fun s s' h => by
  unfold B_heapHeapapiDirtydrain1q3_1 at h
  dsimp only at h
  obtain ⟨_, hy1_1, h⟩ := Option.bind_eq_some_iff.1 h
  cases h)
  (fun s r h => by
  unfold B_heapHeapapiDirtydrain1q3_1 at h
  dsimp only at h
  obtain ⟨_, hy1_1, h⟩ := Option.bind_eq_some_iff.1 h
  obtain rfl := Sum.inr.inj (oI h); exact q_heapHeapapiDirtydrain1q3_1_0 n x1_0 x1_1 x1_2 x1_3 x1_4 x1_5 x1_6 hy1_1)
  (fun r => by intro hx; cases hx) h
def m_heapHeapapiDirtydrain1q3 (n : Nat) (a0 : Int) (a1 : Int) (a2 : Int) (a3 : List R6) (a4 : Nat) (a5 : Int) (a6 : Int) : Option (Unit) :=
 (m_heapHeapapiDirtydrain1q3_1 n a0 a1 a2 a3 a4 a5 a6 ()).bind fun _ =>
 some ()
theorem m_heapHeapapiDirtydrain1q3_ok (n : Nat) (a0 : Int) (a1 : Int) (a2 : Int) (a3 : List R6) (a4 : Nat) (a5 : Int) (a6 : Int) (r : Unit) (h : m_heapHeapapiDirtydrain1q3 n a0 a1 a2 a3 a4 a5 a6 = some r) : Gv P (.func 30) (A_heapHeapapiDirtydrain1q3 a0 a1 a2 a3 a4 a5 a6) (H_heapHeapapiDirtydrain1q3 a0 a1 a2 a3 a4 a5 a6) (V_heapHeapapiDirtydrain1q3 a0 a1 a2 a3 a4 a5 a6 r) (R_heapHeapapiDirtydrain1q3 a0 a1 a2 a3 a4 a5 a6 r) := by
 unfold m_heapHeapapiDirtydrain1q3 at h
 obtain ⟨_, hc1, h⟩ := Option.bind_eq_some_iff.1 h
 obtain rfl := oI h; exact (runF2 hm (L := lT [(1, ⟨⟨[0, 1], [(0, 0, false), (1, 1, false), (2, 2, false), (3, 3, false), (4, 4, false), (5, 5, false), (6, 6, false), (7, 7, false), (8, 8, false), (9, 9, false), (10, 10, true), (11, 11, false), (12, 12, false), (13, 13, false)], 14, 14⟩, (X_heapHeapapiDirtydrain1q3_1 a0 a1 a2 a3 a4 a5 a6 ()).1, (X_heapHeapapiDirtydrain1q3_1 a0 a1 a2 a3 a4 a5 a6 ()).2⟩)]) ⟨[], [], 14, 14⟩ (ww (p := U_heapHeapapiDirtydrain1q3_1 none a0 a1 a2 a3 a4 a5 a6 () ()) (m_heapHeapapiDirtydrain1q3_1_ok n a0 a1 a2 a3 a4 a5 a6 () () hc1) <|
ww (rows_flat rwf_iiiiii a3 58) ee) (by kernel_rfl))

def A_heapHeapapiDirtyAll1q2 (a0 : Int) (a1 : Int) (a2 : Int) (a3 : List R6) (a4 : Nat) (a5 : Int) : List Value := [(Value.func (.yield 0) #[] #[]), (pN 3 0)]
def H_heapHeapapiDirtyAll1q2 (a0 : Int) (a1 : Int) (a2 : Int) (a3 : List R6) (a4 : Nat) (a5 : Int) : AH := ⟨sB [(0, (some (rblk P 6 [false, true, false, true, true] .ready none [(7, (pN 2 0)), (13, (Value.func (.func 19) #[] #[(pN 3 0)]))] 1))), (1, (some (.marks true))), (2, (some (.cells (layT [(Value.slice none 0 0)]) 28))), (3, (some (.cells (layT [(pN 4 0)]) 40))), (4, (some (.cells (layT [(pN 4 0), (Value.func (.func 24) #[] #[(pN 5 0), (pN 6 0)]), (sN 7 0 a4 (Nat.add big 6)), (i6 a5)]) 53))), (5, (some (.cells (layT [(i6 a0)]) 3))), (6, (some (.cells (layT [(i6 a1), (i6 a2)]) 24))), (7, (some (.cells (layT (rows rw_iiiiii a3)) 58)))], 8, 8⟩
def V_heapHeapapiDirtyAll1q2 (a0 : Int) (a1 : Int) (a2 : Int) (a3 : List R6) (a4 : Nat) (a5 : Int) (r : List Int) : Value := match r with
 | o0 => (Value.tuple #[])
def R_heapHeapapiDirtyAll1q2 (a0 : Int) (a1 : Int) (a2 : Int) (a3 : List R6) (a4 : Nat) (a5 : Int) (r : List Int) : AH := match r with
 | o0 => ⟨sB [(0, (some (rblk P 6 [false, true, false, true, true] .ready none [(7, (pN 2 0)), (13, (Value.func (.func 19) #[] #[(pN 3 0)]))] 1))), (1, (some (.marks true))), (2, (some (.cells (layT [(slN o0 8)]) 28))), (3, (some (.cells (layT [(pN 4 0)]) 40))), (4, (some (.cells (layT [(pN 4 0), (Value.func (.func 24) #[] #[(pN 5 0), (pN 6 0)]), (sN 7 0 a4 (Nat.add big 6)), (i6 a5)]) 53))), (5, (some (.cells (layT [(i6 a0)]) 3))), (6, (some (.cells (layT [(i6 a1), (i6 a2)]) 24))), (7, (some (.cells (layT (rows rw_iiiiii a3)) 58))), (8, (nblk o0 3)), (9, (some (.marks false)))], 10, 0⟩
abbrev G_heapHeapapiDirtyAll1q2 (a0 : Int) (a1 : Int) (a2 : Int) (a3 : List R6) (a4 : Nat) (a5 : Int) (r : List Int) : Prop := Gv P (.func 19) (A_heapHeapapiDirtyAll1q2 a0 a1 a2 a3 a4 a5) (H_heapHeapapiDirtyAll1q2 a0 a1 a2 a3 a4 a5) (V_heapHeapapiDirtyAll1q2 a0 a1 a2 a3 a4 a5 r) (R_heapHeapapiDirtyAll1q2 a0 a1 a2 a3 a4 a5 r)
abbrev C_heapHeapapiDirtyAll1q2 (a0 : Int) (a1 : Int) (a2 : Int) (a3 : List R6) (a4 : Nat) (a5 : Int) (r : List Int) (ins outs : BL) : CallA := ⟨8, ins, V_heapHeapapiDirtyAll1q2 a0 a1 a2 a3 a4 a5 r, R_heapHeapapiDirtyAll1q2 a0 a1 a2 a3 a4 a5 r, outs⟩
def m_heapHeapapiDirtyAll1q2 (n : Nat) (a0 : Int) (a1 : Int) (a2 : Int) (a3 : List R6) (a4 : Nat) (a5 : Int) : Option (List Int) :=
 (m_heapHeapapiDirtyvalidq3 n a0 a1 a2 a3 a4 a5).bind fun _ =>
 (m_heapNewapiDirtyq1 n a0 a1 a2).bind fun _ =>
 match m_slicesCloneapiDirtyq2 n a3 a4 with
 | none => none
 | some (.inl c3_) =>
  (m_heapHeapapiDirtydrainq2 n a0 a1 a2 c3_ 0).bind fun _ =>
  (m_heapHeapapiDirtydrain1q2 n a0 a1 a2 a3 a4 a5 c3_ 0).bind fun t => match t with
  | (c5_0, c5_1, c5_2) =>
   match c5_0 with
   | [] =>
    some ([] : List Int)
   | c5_0a :: c5_0t =>
    some (c5_0a :: c5_0t)
 | some (.inr _) =>
  (m_heapHeapapiDirtydrainq3 n a0 a1 a2 0).bind fun _ =>
  (m_heapHeapapiDirtydrain1q3 n a0 a1 a2 a3 a4 a5 0).bind fun _ =>
  some ([] : List Int)
theorem m_heapHeapapiDirtyAll1q2_ok (n : Nat) (a0 : Int) (a1 : Int) (a2 : Int) (a3 : List R6) (a4 : Nat) (a5 : Int) (r : List Int) (h : m_heapHeapapiDirtyAll1q2 n a0 a1 a2 a3 a4 a5 = some r) : Gv P (.func 19) (A_heapHeapapiDirtyAll1q2 a0 a1 a2 a3 a4 a5) (H_heapHeapapiDirtyAll1q2 a0 a1 a2 a3 a4 a5) (V_heapHeapapiDirtyAll1q2 a0 a1 a2 a3 a4 a5 r) (R_heapHeapapiDirtyAll1q2 a0 a1 a2 a3 a4 a5 r) := by
 unfold m_heapHeapapiDirtyAll1q2 at h
 obtain ⟨_, hc1, h⟩ := Option.bind_eq_some_iff.1 h
 obtain ⟨_, hc2, h⟩ := Option.bind_eq_some_iff.1 h
 rcases hc3 : m_slicesCloneapiDirtyq2 n a3 a4 with _ | (c3_ | ⟨⟩)
 ·rw [hc3] at h; cases h
 ·rw [hc3] at h
  dsimp only at h
  obtain ⟨_, hc4, h⟩ := Option.bind_eq_some_iff.1 h
  obtain ⟨⟨c5_0, c5_1, c5_2⟩, hc5, h⟩ := Option.bind_eq_some_iff.1 h
  dsimp only at h
  cases c5_0 with
  | nil =>
   dsimp only at h
   obtain rfl := oI h; exact (runF2 hm (L := lT []) ⟨[], [(0, 0, false), (1, 1, false), (2, 2, false), (3, 3, false), (4, 4, false), (5, 5, false), (6, 6, false), (7, 7, true), (9, 12, false)], 10, 0⟩ (yy 5 (.call (C_heapHeapapiDirtyvalidq3 a0 a1 a2 a3 a4 a5 () [(0, 4, false), (1, 5, false), (2, 6, false), (3, 7, true)] [])) <|
ww (m_heapHeapapiDirtyvalidq3_ok n a0 a1 a2 a3 a4 a5 () hc1) <|
ww (rows_flat rwf_iiiiii a3 58) <|
yy 13 (.call (C_heapNewapiDirtyq1 a0 a1 a2 () [(0, 5, false), (1, 6, false)] [(5, 0, false), (6, 1, false), (9, 2, false)])) <|
ww (m_heapNewapiDirtyq1_ok n a0 a1 a2 () hc2) <|
yy 21 (.call (C_slicesCloneapiDirtyq2 a3 a4 (.inl c3_) [(0, 7, true)] [(10, 1, true)])) <|
ww (m_slicesCloneapiDirtyq2_ok n a3 a4 (.inl c3_) hc3) <|
ww (rows_flat rwf_iiiiii a3 58) <|
ww (rows_flat rwf_iiiiii c3_ 58) <|
yy 27 (.call (C_heapHeapapiDirtydrainq2 a0 a1 a2 c3_ 0 () [(0, 9, false), (1, 5, false), (2, 6, false), (3, 10, true)] [(9, 0, false), (5, 1, false), (6, 2, false), (10, 3, true), (11, 4, false)])) <|
ww (m_heapHeapapiDirtydrainq2_ok n a0 a1 a2 c3_ 0 () hc4) <|
ww (rows_flat rwf_iiiiii c3_ 58) <|
ww (rows_flat rwf_iiiiii c3_ 58) <|
yy 29 (.rng (C_heapHeapapiDirtydrain1q2 a0 a1 a2 a3 a4 a5 c3_ 0 (([] : List Int), c5_1, c5_2) [(0, 13, false), (1, 12, false), (2, 8, false), (3, 0, false), (4, 1, false), (5, 2, false), (6, 3, false), (7, 4, false), (8, 5, false), (9, 6, false), (10, 7, true), (11, 11, false), (12, 9, false), (13, 10, true)] [(13, 0, false), (12, 1, false), (8, 2, false), (0, 3, false), (1, 4, false), (2, 5, false), (3, 6, false), (4, 7, false), (5, 8, false), (6, 9, false), (7, 10, true), (11, 11, false), (9, 12, false), (10, 13, true)]) [2, 22]) <|
ww (m_heapHeapapiDirtydrain1q2_ok n a0 a1 a2 a3 a4 a5 c3_ 0 (([] : List Int), c5_1, c5_2) hc5) <|
ww (rows_flat rwf_iiiiii a3 58) <|
ww (rows_flat rwf_iiiiii c3_ 58) <|
ww (rows_flat rwf_iiiiii a3 58) <|
ww (rows_flat rwf_iiiiii c5_1 58) <|
ww (rows_flat rwf_iiiiii a3 58) ee) (by kernel_rfl))
  | cons c5_0a c5_0t =>
   dsimp only at h
   obtain rfl := oI h; exact (runF2 hm (L := lT []) ⟨[], [(0, 0, false), (1, 1, false), (2, 2, false), (3, 3, false), (4, 4, false), (5, 5, false), (6, 6, false), (7, 7, true), (8, 14, true), (9, 12, false)], 10, 0⟩ (yy 5 (.call (C_heapHeapapiDirtyvalidq3 a0 a1 a2 a3 a4 a5 () [(0, 4, false), (1, 5, false), (2, 6, false), (3, 7, true)] [])) <|
ww (m_heapHeapapiDirtyvalidq3_ok n a0 a1 a2 a3 a4 a5 () hc1) <|
ww (rows_flat rwf_iiiiii a3 58) <|
yy 13 (.call (C_heapNewapiDirtyq1 a0 a1 a2 () [(0, 5, false), (1, 6, false)] [(5, 0, false), (6, 1, false), (9, 2, false)])) <|
ww (m_heapNewapiDirtyq1_ok n a0 a1 a2 () hc2) <|
yy 21 (.call (C_slicesCloneapiDirtyq2 a3 a4 (.inl c3_) [(0, 7, true)] [(10, 1, true)])) <|
ww (m_slicesCloneapiDirtyq2_ok n a3 a4 (.inl c3_) hc3) <|
ww (rows_flat rwf_iiiiii a3 58) <|
ww (rows_flat rwf_iiiiii c3_ 58) <|
yy 27 (.call (C_heapHeapapiDirtydrainq2 a0 a1 a2 c3_ 0 () [(0, 9, false), (1, 5, false), (2, 6, false), (3, 10, true)] [(9, 0, false), (5, 1, false), (6, 2, false), (10, 3, true), (11, 4, false)])) <|
ww (m_heapHeapapiDirtydrainq2_ok n a0 a1 a2 c3_ 0 () hc4) <|
ww (rows_flat rwf_iiiiii c3_ 58) <|
ww (rows_flat rwf_iiiiii c3_ 58) <|
yy 29 (.rng (C_heapHeapapiDirtydrain1q2 a0 a1 a2 a3 a4 a5 c3_ 0 ((c5_0a :: c5_0t), c5_1, c5_2) [(0, 13, false), (1, 12, false), (2, 8, false), (3, 0, false), (4, 1, false), (5, 2, false), (6, 3, false), (7, 4, false), (8, 5, false), (9, 6, false), (10, 7, true), (11, 11, false), (12, 9, false), (13, 10, true)] [(13, 0, false), (12, 1, false), (8, 2, false), (0, 3, false), (1, 4, false), (2, 5, false), (3, 6, false), (4, 7, false), (5, 8, false), (6, 9, false), (7, 10, true), (11, 11, false), (9, 12, false), (10, 13, true), (14, 14, true)]) [2, 22]) <|
ww (m_heapHeapapiDirtydrain1q2_ok n a0 a1 a2 a3 a4 a5 c3_ 0 ((c5_0a :: c5_0t), c5_1, c5_2) hc5) <|
ww (rows_flat rwf_iiiiii a3 58) <|
ww (rows_flat rwf_iiiiii c3_ 58) <|
ww (rows_flat rwf_iiiiii a3 58) <|
ww (rows_flat rwf_iiiiii c5_1 58) <|
ww (iv_flat (c5_0a :: c5_0t) 3) <|
ww (rows_flat rwf_iiiiii a3 58) <|
ww (iv_flat (c5_0a :: c5_0t) 3) ee) (by kernel_rfl))
 ·rw [hc3] at h
  dsimp only at h
  obtain ⟨_, hc4, h⟩ := Option.bind_eq_some_iff.1 h
  obtain ⟨_, hc5, h⟩ := Option.bind_eq_some_iff.1 h
  obtain rfl := oI h; exact (runF2 hm (L := lT []) ⟨[], [(0, 0, false), (1, 1, false), (2, 2, false), (3, 3, false), (4, 4, false), (5, 5, false), (6, 6, false), (7, 7, true), (9, 12, false)], 10, 0⟩ (yy 5 (.call (C_heapHeapapiDirtyvalidq3 a0 a1 a2 a3 a4 a5 () [(0, 4, false), (1, 5, false), (2, 6, false), (3, 7, true)] [])) <|
ww (m_heapHeapapiDirtyvalidq3_ok n a0 a1 a2 a3 a4 a5 () hc1) <|
ww (rows_flat rwf_iiiiii a3 58) <|
yy 13 (.call (C_heapNewapiDirtyq1 a0 a1 a2 () [(0, 5, false), (1, 6, false)] [(5, 0, false), (6, 1, false), (9, 2, false)])) <|
ww (m_heapNewapiDirtyq1_ok n a0 a1 a2 () hc2) <|
yy 21 (.call (C_slicesCloneapiDirtyq2 a3 a4 (.inr ()) [(0, 7, true)] [(10, 1, false)])) <|
ww (m_slicesCloneapiDirtyq2_ok n a3 a4 (.inr ()) hc3) <|
ww (rows_flat rwf_iiiiii a3 58) <|
yy 27 (.call (C_heapHeapapiDirtydrainq3 a0 a1 a2 0 () [(0, 9, false), (1, 5, false), (2, 6, false), (3, 10, false)] [(9, 0, false), (5, 1, false), (6, 2, false), (10, 3, false), (11, 4, false)])) <|
ww (m_heapHeapapiDirtydrainq3_ok n a0 a1 a2 0 () hc4) <|
yy 29 (.rng (C_heapHeapapiDirtydrain1q3 a0 a1 a2 a3 a4 a5 0 () [(0, 13, false), (1, 12, false), (2, 8, false), (3, 0, false), (4, 1, false), (5, 2, false), (6, 3, false), (7, 4, false), (8, 5, false), (9, 6, false), (10, 7, true), (11, 11, false), (12, 9, false), (13, 10, false)] []) [2, 22]) <|
ww (m_heapHeapapiDirtydrain1q3_ok n a0 a1 a2 a3 a4 a5 0 () hc5) <|
ww (rows_flat rwf_iiiiii a3 58) <|
ww (rows_flat rwf_iiiiii a3 58) ee) (by kernel_rfl))

def A_jobsOrderq1 (a0 : Int) (a1 : Int) (a2 : Int) : List Value := [(sW 0 0 (Args.A).length Args.cA), (Value.agg #[(i6 a0), (i6 a1)]), (i6 a2)]
def H_jobsOrderq1 (a0 : Int) (a1 : Int) (a2 : Int) : AH := ⟨sB [], 0, 0⟩
def V_jobsOrderq1 (a0 : Int) (a1 : Int) (a2 : Int) (r : List Int) : Value := match r with
 | o0 => (slN o0 1)
def R_jobsOrderq1 (a0 : Int) (a1 : Int) (a2 : Int) (r : List Int) : AH := match r with
 | o0 => ⟨sB [(0, (some (.marks false))), (1, (nblk o0 3))], 2, 0⟩
abbrev G_jobsOrderq1 (a0 : Int) (a1 : Int) (a2 : Int) (r : List Int) : Prop := Gv P (.func 6) (A_jobsOrderq1 a0 a1 a2) (H_jobsOrderq1 a0 a1 a2) (V_jobsOrderq1 a0 a1 a2 r) (R_jobsOrderq1 a0 a1 a2 r)
abbrev C_jobsOrderq1 (a0 : Int) (a1 : Int) (a2 : Int) (r : List Int) (ins outs : BL) : CallA := ⟨0, ins, V_jobsOrderq1 a0 a1 a2 r, R_jobsOrderq1 a0 a1 a2 r, outs⟩
def m_jobsOrderq1 (n : Nat) (a0 : Int) (a1 : Int) (a2 : Int) : Option (List Int) :=
 (m_jobsqueueq1 n a0 a1 a2).bind fun t => match t with
 | (c1_0, c1_1, c1_2) =>
  match c1_0 with
  | [] =>
   (m_heapHeapapiDirtyAllq1 n a2 a0 a1 c1_2).bind fun _ =>
   (m_heapHeapapiDirtyAll1q1 n a2 a0 a1 c1_2).bind fun _ =>
   some ([] : List Int)
  | c1_0a :: c1_0t =>
   (m_heapHeapapiDirtyAllq2 n a2 a0 a1 (c1_0a :: c1_0t) c1_1 c1_2).bind fun _ =>
   (m_heapHeapapiDirtyAll1q2 n a2 a0 a1 (c1_0a :: c1_0t) c1_1 c1_2).bind fun c3_ =>
   match c3_ with
   | [] =>
    some ([] : List Int)
   | c3_a :: c3_t =>
    some (c3_a :: c3_t)
theorem m_jobsOrderq1_ok (n : Nat) (a0 : Int) (a1 : Int) (a2 : Int) (r : List Int) (h : m_jobsOrderq1 n a0 a1 a2 = some r) : Gv P (.func 6) (A_jobsOrderq1 a0 a1 a2) (H_jobsOrderq1 a0 a1 a2) (V_jobsOrderq1 a0 a1 a2 r) (R_jobsOrderq1 a0 a1 a2 r) := by
 unfold m_jobsOrderq1 at h
 obtain ⟨⟨c1_0, c1_1, c1_2⟩, hc1, h⟩ := Option.bind_eq_some_iff.1 h
 dsimp only at h
 cases c1_0 with
 | nil =>
  dsimp only at h
  obtain ⟨_, hc2, h⟩ := Option.bind_eq_some_iff.1 h
  obtain ⟨_, hc3, h⟩ := Option.bind_eq_some_iff.1 h
  obtain rfl := oI h; exact (runF2 hm (L := lT []) ⟨[6], [(0, 7, false)], 2, 0⟩ (yy 10 (.call (C_jobsqueueq1 a0 a1 a2 (([] : List R6), c1_1, c1_2) [] [(2, 0, false), (3, 1, false), (4, 2, false)])) <|
ww (m_jobsqueueq1_ok n a0 a1 a2 (([] : List R6), c1_1, c1_2) hc1) <|
yy 11 (.call (C_heapHeapapiDirtyAllq1 a2 a0 a1 c1_2 () [(0, 2, false), (1, 3, false), (2, 4, false)] [(2, 0, false), (3, 1, false), (4, 2, false), (6, 3, false)])) <|
ww (m_heapHeapapiDirtyAllq1_ok n a2 a0 a1 c1_2 () hc2) <|
yy 13 (.rng (C_heapHeapapiDirtyAll1q1 a2 a0 a1 c1_2 () [(0, 8, false), (1, 7, false), (2, 1, false), (3, 6, false), (4, 2, false), (5, 3, false), (6, 4, false)] []) [7, 13]) <|
ww (m_heapHeapapiDirtyAll1q1_ok n a2 a0 a1 c1_2 () hc3) ee) (by kernel_rfl))
 | cons c1_0a c1_0t =>
  dsimp only at h
  obtain ⟨_, hc2, h⟩ := Option.bind_eq_some_iff.1 h
  obtain ⟨c3_, hc3, h⟩ := Option.bind_eq_some_iff.1 h
  cases c3_ with
  | nil =>
   dsimp only at h
   obtain rfl := oI h; exact (runF2 hm (L := lT []) ⟨[6], [(0, 7, false)], 2, 0⟩ (yy 10 (.call (C_jobsqueueq1 a0 a1 a2 ((c1_0a :: c1_0t), c1_1, c1_2) [] [(2, 0, false), (3, 1, false), (4, 2, false), (5, 3, true)])) <|
ww (m_jobsqueueq1_ok n a0 a1 a2 ((c1_0a :: c1_0t), c1_1, c1_2) hc1) <|
ww (rows_flat rwf_iiiiii (c1_0a :: c1_0t) 58) <|
yy 11 (.call (C_heapHeapapiDirtyAllq2 a2 a0 a1 (c1_0a :: c1_0t) c1_1 c1_2 () [(0, 2, false), (1, 3, false), (2, 4, false), (3, 5, true)] [(2, 0, false), (3, 1, false), (4, 2, false), (5, 3, true), (6, 4, false)])) <|
ww (m_heapHeapapiDirtyAllq2_ok n a2 a0 a1 (c1_0a :: c1_0t) c1_1 c1_2 () hc2) <|
ww (rows_flat rwf_iiiiii (c1_0a :: c1_0t) 58) <|
ww (rows_flat rwf_iiiiii (c1_0a :: c1_0t) 58) <|
yy 13 (.rng (C_heapHeapapiDirtyAll1q2 a2 a0 a1 (c1_0a :: c1_0t) c1_1 c1_2 ([] : List Int) [(0, 8, false), (1, 7, false), (2, 1, false), (3, 6, false), (4, 2, false), (5, 3, false), (6, 4, false), (7, 5, true)] [(8, 0, false), (7, 1, false), (1, 2, false), (6, 3, false), (2, 4, false), (3, 5, false), (4, 6, false), (5, 7, true)]) [7, 13]) <|
ww (m_heapHeapapiDirtyAll1q2_ok n a2 a0 a1 (c1_0a :: c1_0t) c1_1 c1_2 ([] : List Int) hc3) <|
ww (rows_flat rwf_iiiiii (c1_0a :: c1_0t) 58) <|
ww (rows_flat rwf_iiiiii (c1_0a :: c1_0t) 58) ee) (by kernel_rfl))
  | cons c3_a c3_t =>
   dsimp only at h
   obtain rfl := oI h; exact (runF2 hm (L := lT []) ⟨[6], [(0, 7, false), (1, 9, true)], 2, 0⟩ (yy 10 (.call (C_jobsqueueq1 a0 a1 a2 ((c1_0a :: c1_0t), c1_1, c1_2) [] [(2, 0, false), (3, 1, false), (4, 2, false), (5, 3, true)])) <|
ww (m_jobsqueueq1_ok n a0 a1 a2 ((c1_0a :: c1_0t), c1_1, c1_2) hc1) <|
ww (rows_flat rwf_iiiiii (c1_0a :: c1_0t) 58) <|
yy 11 (.call (C_heapHeapapiDirtyAllq2 a2 a0 a1 (c1_0a :: c1_0t) c1_1 c1_2 () [(0, 2, false), (1, 3, false), (2, 4, false), (3, 5, true)] [(2, 0, false), (3, 1, false), (4, 2, false), (5, 3, true), (6, 4, false)])) <|
ww (m_heapHeapapiDirtyAllq2_ok n a2 a0 a1 (c1_0a :: c1_0t) c1_1 c1_2 () hc2) <|
ww (rows_flat rwf_iiiiii (c1_0a :: c1_0t) 58) <|
ww (rows_flat rwf_iiiiii (c1_0a :: c1_0t) 58) <|
yy 13 (.rng (C_heapHeapapiDirtyAll1q2 a2 a0 a1 (c1_0a :: c1_0t) c1_1 c1_2 (c3_a :: c3_t) [(0, 8, false), (1, 7, false), (2, 1, false), (3, 6, false), (4, 2, false), (5, 3, false), (6, 4, false), (7, 5, true)] [(8, 0, false), (7, 1, false), (1, 2, false), (6, 3, false), (2, 4, false), (3, 5, false), (4, 6, false), (5, 7, true), (9, 8, true)]) [7, 13]) <|
ww (m_heapHeapapiDirtyAll1q2_ok n a2 a0 a1 (c1_0a :: c1_0t) c1_1 c1_2 (c3_a :: c3_t) hc3) <|
ww (rows_flat rwf_iiiiii (c1_0a :: c1_0t) 58) <|
ww (rows_flat rwf_iiiiii (c1_0a :: c1_0t) 58) <|
ww (iv_flat (c3_a :: c3_t) 3) <|
ww (iv_flat (c3_a :: c3_t) 3) ee) (by kernel_rfl))

def A_heapHeapapiDirtyLeastq3 (a0 : Int) (a1 : Int) (a2 : Int) (a3 : Int) : List Value := [(pN 0 0)]
def H_heapHeapapiDirtyLeastq3 (a0 : Int) (a1 : Int) (a2 : Int) (a3 : Int) : AH := ⟨sB [(0, (some (.cells (layT [(pN 0 0), (Value.func (.func 24) #[] #[(pN 1 0), (pN 2 0)]), (Value.slice none 0 0), (i6 a3)]) 53))), (1, (some (.cells (layT [(i6 a0)]) 3))), (2, (some (.cells (layT [(i6 a1), (i6 a2)]) 24)))], 3, 3⟩
def V_heapHeapapiDirtyLeastq3 (a0 : Int) (a1 : Int) (a2 : Int) (a3 : Int) (r : Unit) : Value := match r with
 | _ => (Value.tuple #[(Value.agg #[(i6 (0 : Int)), (i6 (0 : Int)), (i6 (0 : Int)), (i6 (0 : Int)), (i6 (0 : Int))]), (bO false)])
def R_heapHeapapiDirtyLeastq3 (a0 : Int) (a1 : Int) (a2 : Int) (a3 : Int) (r : Unit) : AH := match r with
 | _ => ⟨sB [(3, (some (.cells (layT [(i6 (0 : Int)), (i6 (0 : Int)), (i6 (0 : Int)), (i6 (0 : Int)), (i6 (0 : Int))]) 37)))], 4, 3⟩
abbrev G_heapHeapapiDirtyLeastq3 (a0 : Int) (a1 : Int) (a2 : Int) (a3 : Int) (r : Unit) : Prop := Gv P (.func 13) (A_heapHeapapiDirtyLeastq3 a0 a1 a2 a3) (H_heapHeapapiDirtyLeastq3 a0 a1 a2 a3) (V_heapHeapapiDirtyLeastq3 a0 a1 a2 a3 r) (R_heapHeapapiDirtyLeastq3 a0 a1 a2 a3 r)
abbrev C_heapHeapapiDirtyLeastq3 (a0 : Int) (a1 : Int) (a2 : Int) (a3 : Int) (r : Unit) (ins outs : BL) : CallA := ⟨3, ins, V_heapHeapapiDirtyLeastq3 a0 a1 a2 a3 r, R_heapHeapapiDirtyLeastq3 a0 a1 a2 a3 r, outs⟩
def m_heapHeapapiDirtyLeastq3 (n : Nat) (a0 : Int) (a1 : Int) (a2 : Int) (a3 : Int) : Option (Unit) :=
 (m_heapHeapapiDirtyLenq1 n a0 a1 a2 a3).bind fun _ =>
 some ()
theorem m_heapHeapapiDirtyLeastq3_ok (n : Nat) (a0 : Int) (a1 : Int) (a2 : Int) (a3 : Int) (r : Unit) (h : m_heapHeapapiDirtyLeastq3 n a0 a1 a2 a3 = some r) : Gv P (.func 13) (A_heapHeapapiDirtyLeastq3 a0 a1 a2 a3) (H_heapHeapapiDirtyLeastq3 a0 a1 a2 a3) (V_heapHeapapiDirtyLeastq3 a0 a1 a2 a3 r) (R_heapHeapapiDirtyLeastq3 a0 a1 a2 a3 r) := by
 unfold m_heapHeapapiDirtyLeastq3 at h
 obtain ⟨_, hc1, h⟩ := Option.bind_eq_some_iff.1 h
 obtain rfl := oI h; exact (runF2 hm (L := lT []) ⟨[2, 3], [(3, 3, false)], 4, 3⟩ (yy 6 (.call (C_heapHeapapiDirtyLenq1 a0 a1 a2 a3 () [(0, 0, false), (1, 1, false), (2, 2, false)] [])) <|
ww (m_heapHeapapiDirtyLenq1_ok n a0 a1 a2 a3 () hc1) ee) (by kernel_rfl))

def A_jobsNextq1 (a0 : Int) (a1 : Int) (a2 : Int) : List Value := [(sW 0 0 (Args.A).length Args.cA), (Value.agg #[(i6 a0), (i6 a1)]), (i6 a2)]
def H_jobsNextq1 (a0 : Int) (a1 : Int) (a2 : Int) : AH := ⟨sB [], 0, 0⟩
def V_jobsNextq1 (a0 : Int) (a1 : Int) (a2 : Int) (r : Int × Bool) : Value := match r with
 | (o0, o1) => (Value.tuple #[(i6 o0), (bO o1)])
def R_jobsNextq1 (a0 : Int) (a1 : Int) (a2 : Int) (r : Int × Bool) : AH := match r with
 | (o0, o1) => ⟨sB [], 0, 0⟩
abbrev G_jobsNextq1 (a0 : Int) (a1 : Int) (a2 : Int) (r : Int × Bool) : Prop := Gv P (.func 7) (A_jobsNextq1 a0 a1 a2) (H_jobsNextq1 a0 a1 a2) (V_jobsNextq1 a0 a1 a2 r) (R_jobsNextq1 a0 a1 a2 r)
abbrev C_jobsNextq1 (a0 : Int) (a1 : Int) (a2 : Int) (r : Int × Bool) (ins outs : BL) : CallA := ⟨0, ins, V_jobsNextq1 a0 a1 a2 r, R_jobsNextq1 a0 a1 a2 r, outs⟩
def m_jobsNextq1 (n : Nat) (a0 : Int) (a1 : Int) (a2 : Int) : Option (Int × Bool) :=
 (m_jobsqueueq1 n a0 a1 a2).bind fun t => match t with
 | (c1_0, c1_1, c1_2) =>
  match c1_0 with
  | [] =>
   (m_heapHeapapiDirtyLeastq3 n a2 a0 a1 c1_2).bind fun _ =>
   some (0, false)
  | c1_0a :: c1_0t =>
   (m_heapHeapapiDirtyLeastq2 n a2 a0 a1 (c1_0a :: c1_0t) c1_1 c1_2).bind fun t => match t with
   | (c2_0, c2_1, c2_2, c2_3, c2_4, c2_5) =>
    some (c2_0, c2_5)
theorem m_jobsNextq1_ok (n : Nat) (a0 : Int) (a1 : Int) (a2 : Int) (r : Int × Bool) (h : m_jobsNextq1 n a0 a1 a2 = some r) : Gv P (.func 7) (A_jobsNextq1 a0 a1 a2) (H_jobsNextq1 a0 a1 a2) (V_jobsNextq1 a0 a1 a2 r) (R_jobsNextq1 a0 a1 a2 r) := by
 unfold m_jobsNextq1 at h
 obtain ⟨⟨c1_0, c1_1, c1_2⟩, hc1, h⟩ := Option.bind_eq_some_iff.1 h
 dsimp only at h
 cases c1_0 with
 | nil =>
  dsimp only at h
  obtain ⟨_, hc2, h⟩ := Option.bind_eq_some_iff.1 h
  obtain rfl := oI h; exact (runF2 hm (L := lT []) ⟨[6, 7], [], 0, 0⟩ (yy 8 (.call (C_jobsqueueq1 a0 a1 a2 (([] : List R6), c1_1, c1_2) [] [(1, 0, false), (2, 1, false), (3, 2, false)])) <|
ww (m_jobsqueueq1_ok n a0 a1 a2 (([] : List R6), c1_1, c1_2) hc1) <|
yy 9 (.call (C_heapHeapapiDirtyLeastq3 a2 a0 a1 c1_2 () [(0, 1, false), (1, 2, false), (2, 3, false)] [(5, 3, false)])) <|
ww (m_heapHeapapiDirtyLeastq3_ok n a2 a0 a1 c1_2 () hc2) ee) (by kernel_rfl))
 | cons c1_0a c1_0t =>
  dsimp only at h
  obtain ⟨⟨c2_0, c2_1, c2_2, c2_3, c2_4, c2_5⟩, hc2, h⟩ := Option.bind_eq_some_iff.1 h
  dsimp only at h
  obtain rfl := oI h; exact (runF2 hm (L := lT []) ⟨[6, 7], [], 0, 0⟩ (yy 8 (.call (C_jobsqueueq1 a0 a1 a2 ((c1_0a :: c1_0t), c1_1, c1_2) [] [(1, 0, false), (2, 1, false), (3, 2, false), (4, 3, true)])) <|
ww (m_jobsqueueq1_ok n a0 a1 a2 ((c1_0a :: c1_0t), c1_1, c1_2) hc1) <|
ww (rows_flat rwf_iiiiii (c1_0a :: c1_0t) 58) <|
yy 9 (.call (C_heapHeapapiDirtyLeastq2 a2 a0 a1 (c1_0a :: c1_0t) c1_1 c1_2 (c2_0, c2_1, c2_2, c2_3, c2_4, c2_5) [(0, 1, false), (1, 2, false), (2, 3, false), (3, 4, true)] [(5, 4, false)])) <|
ww (m_heapHeapapiDirtyLeastq2_ok n a2 a0 a1 (c1_0a :: c1_0t) c1_1 c1_2 (c2_0, c2_1, c2_2, c2_3, c2_4, c2_5) hc2) <|
ww (rows_flat rwf_iiiiii (c1_0a :: c1_0t) 58) ee) (by kernel_rfl))

def A_viewportkitSameintq1 (a0 : List Int) (a1 : Nat) (a2 : Nat) : List Value := [(Value.slice none 0 0), (sN 0 (a1 * 1) a2 (Nat.add big 1))]
def H_viewportkitSameintq1 (a0 : List Int) (a1 : Nat) (a2 : Nat) : AH := ⟨sB [(0, (some (.cells (layT (iv a0)) 3)))], 1, 1⟩
def V_viewportkitSameintq1 (a0 : List Int) (a1 : Nat) (a2 : Nat) (r : Bool) : Value := match r with
 | o0 => (bO o0)
def R_viewportkitSameintq1 (a0 : List Int) (a1 : Nat) (a2 : Nat) (r : Bool) : AH := match r with
 | o0 => ⟨sB [], 1, 1⟩
abbrev G_viewportkitSameintq1 (a0 : List Int) (a1 : Nat) (a2 : Nat) (r : Bool) : Prop := Gv P (.func 8) (A_viewportkitSameintq1 a0 a1 a2) (H_viewportkitSameintq1 a0 a1 a2) (V_viewportkitSameintq1 a0 a1 a2 r) (R_viewportkitSameintq1 a0 a1 a2 r)
abbrev C_viewportkitSameintq1 (a0 : List Int) (a1 : Nat) (a2 : Nat) (r : Bool) (ins outs : BL) : CallA := ⟨1, ins, V_viewportkitSameintq1 a0 a1 a2 r, R_viewportkitSameintq1 a0 a1 a2 r, outs⟩
def S_viewportkitSameintq1_1 (x1_0 : List Int) (x1_1 : Nat) (x1_2 : Nat) (st : Unit) : XSt := match st with
 | _ => (sT 26 [(0, (Value.slice none 0 0)), (1, (sN 0 (x1_1 * 1) x1_2 (Nat.add big 1))), (5, (i6 (0 : Int)))], [], ⟨sB [(0, (some (.cells (layT (iv x1_0)) 3)))], 1, 1⟩)
def X_viewportkitSameintq1_1 (x1_0 : List Int) (x1_1 : Nat) (x1_2 : Nat) (r : Unit) : Ex × XSt := match r with
 | _ => (.exit 0, (sT 26 [], [], ⟨sB [(0, (some (.cells (layT (iv x1_0)) 3)))], 1, 1⟩))
abbrev Q_viewportkitSameintq1_1 (rnd : Option Nat) (x1_0 : List Int) (x1_1 : Nat) (x1_2 : Nat) (st : Unit) (c : Ex × XSt) : Prop := CG P rnd (fnN P 8) 1 (codeOf P 8 [false, false, true, false, true, true]) (S_viewportkitSameintq1_1 x1_0 x1_1 x1_2 st) c
abbrev U_viewportkitSameintq1_1 (rd : Option Nat) (x1_0 : List Int) (x1_1 : Nat) (x1_2 : Nat) (st : Unit) (r : Unit) : Prop := CG P rd (fnN P 8) 1 (codeOf P 8 [false, true, false, true, true]) (S_viewportkitSameintq1_1 x1_0 x1_1 x1_2 st) (X_viewportkitSameintq1_1 x1_0 x1_1 x1_2 r)
def B_viewportkitSameintq1_1 (n : Nat) (x1_0 : List Int) (x1_1 : Nat) (x1_2 : Nat) (st : Unit) : Option ((Unit) ⊕ (Unit)) := match st with
 | _ =>
  some (.inr ())
def m_viewportkitSameintq1_1 (n : Nat) (x1_0 : List Int) (x1_1 : Nat) (x1_2 : Nat) (st : Unit) : Option (Unit) := iterM (B_viewportkitSameintq1_1 n x1_0 x1_1 x1_2) n st
theorem q_viewportkitSameintq1_1_0 (n : Nat) {rnd : Option Nat} (x1_0 : List Int) (x1_1 x1_2 : Nat) : Q_viewportkitSameintq1_1 rnd x1_0 x1_1 x1_2 () (X_viewportkitSameintq1_1 x1_0 x1_1 x1_2 ()) :=
 runC2 hm (L := lT []) ⟨[], [(0, 0, true)], 1, 1⟩ (ww (iv_flat x1_0 3) <|
ee) (by kernel_rfl)
theorem m_viewportkitSameintq1_1_ok (n : Nat) {rnd : Option Nat} (x1_0 : List Int) (x1_1 : Nat) (x1_2 : Nat) (st : Unit) (r : Unit) (h : m_viewportkitSameintq1_1 n x1_0 x1_1 x1_2 st = some r) : CG P rnd (fnN P 8) 1 (codeOf P 8 [false, true, false, true, true]) (S_viewportkitSameintq1_1 x1_0 x1_1 x1_2 st) (X_viewportkitSameintq1_1 x1_0 x1_1 x1_2 r) :=
 CG.iter (b := codeOf P 8 [false, false, true, false, true, true]) (by kernel_rfl) (body := B_viewportkitSameintq1_1 n x1_0 x1_1 x1_2) (S := S_viewportkitSameintq1_1 x1_0 x1_1 x1_2) (X := X_viewportkitSameintq1_1 x1_0 x1_1 x1_2)
  (fun s s' h => by
  unfold B_viewportkitSameintq1_1 at h
  dsimp only at h
  cases h)
  (fun s r h => by
  unfold B_viewportkitSameintq1_1 at h
  dsimp only at h
  obtain rfl := Sum.inr.inj (oI h); exact q_viewportkitSameintq1_1_0 n x1_0 x1_1 x1_2)
  (fun r => by intro hx; cases hx) h
def m_viewportkitSameintq1 (n : Nat) (a0 : List Int) (a1 : Nat) (a2 : Nat) : Option (Bool) :=
 if (0 : Int) = ((a2 : Nat) : Int) then
  (m_viewportkitSameintq1_1 n a0 a1 a2 ()).bind fun _ =>
  some true
 else
  some false
theorem m_viewportkitSameintq1_ok (n : Nat) (a0 : List Int) (a1 : Nat) (a2 : Nat) (r : Bool) (h : m_viewportkitSameintq1 n a0 a1 a2 = some r) : Gv P (.func 8) (A_viewportkitSameintq1 a0 a1 a2) (H_viewportkitSameintq1 a0 a1 a2) (V_viewportkitSameintq1 a0 a1 a2 r) (R_viewportkitSameintq1 a0 a1 a2 r) := by
 unfold m_viewportkitSameintq1 at h
 by_cases hc1 : (0 : Int) = ((a2 : Nat) : Int)
 ·rw [if_pos hc1] at h
  obtain ⟨_, hc2, h⟩ := Option.bind_eq_some_iff.1 h
  obtain rfl := oI h; exact (runF2 hm (L := lT [(14, ⟨⟨[0, 1, 5], [(0, 0, true)], 1, 1⟩, (X_viewportkitSameintq1_1 a0 a1 a2 ()).1, (X_viewportkitSameintq1_1 a0 a1 a2 ()).2⟩)]) ⟨[4], [], 1, 1⟩ (zz 8 (xnF hc1) <|
ww (p := U_viewportkitSameintq1_1 none a0 a1 a2 () ()) (m_viewportkitSameintq1_1_ok n a0 a1 a2 () () hc2) <|
ww (iv_flat a0 3) ee) (by kernel_rfl))
 ·rw [if_neg hc1] at h
  obtain rfl := oI h; exact (runF2 hm (L := lT []) ⟨[4], [], 1, 1⟩ (zz 8 (xnT hc1) ee) (by kernel_rfl))

def A_viewportref22Dropq1 (a0 : Int) : List Value := [(sW 0 0 (Args.A).length Args.cA), (i6 a0)]
def H_viewportref22Dropq1 (a0 : Int) : AH := ⟨sB [], 0, 0⟩
def V_viewportref22Dropq1 (a0 : Int) (r : List (Int × Int × Int × Int × Int)) : Value := match r with
 | o0 => (slR o0 0 5)
def R_viewportref22Dropq1 (a0 : Int) (r : List (Int × Int × Int × Int × Int)) : AH := match r with
 | o0 => ⟨sB [(0, (nblkR rw_iiiii o0 37))], 1, 0⟩
abbrev G_viewportref22Dropq1 (a0 : Int) (r : List (Int × Int × Int × Int × Int)) : Prop := Gv P (.func 9) (A_viewportref22Dropq1 a0) (H_viewportref22Dropq1 a0) (V_viewportref22Dropq1 a0 r) (R_viewportref22Dropq1 a0 r)
abbrev C_viewportref22Dropq1 (a0 : Int) (r : List (Int × Int × Int × Int × Int)) (ins outs : BL) : CallA := ⟨0, ins, V_viewportref22Dropq1 a0 r, R_viewportref22Dropq1 a0 r, outs⟩
def S_viewportref22Dropq1_1 (x1_0 : Int) (st : List (Int × Int × Int × Int × Int) × Int) : XSt := match st with
 | (x1_1, x1_2) => (sT 28 [(0, (sW 0 0 (Args.A).length Args.cA)), (1, (i6 x1_0)), (5, (slR x1_1 0 5)), (6, (i6 x1_2))], [], ⟨sB [(0, (nblkR rw_iiiii x1_1 37))], 1, 0⟩)
def X_viewportref22Dropq1_1 (x1_0 : Int) (r : List (Int × Int × Int × Int × Int)) : Ex × XSt := match r with
 | z1_0 => (.exit 0, (sT 28 [(5, (slR z1_0 0 5))], [], ⟨sB [(0, (nblkR rw_iiiii z1_0 37))], 1, 0⟩))
abbrev Q_viewportref22Dropq1_1 (rnd : Option Nat) (x1_0 : Int) (st : List (Int × Int × Int × Int × Int) × Int) (c : Ex × XSt) : Prop := CG P rnd (fnN P 9) 0 (codeOf P 9 [false, false, true, false, true, true]) (S_viewportref22Dropq1_1 x1_0 st) c
abbrev U_viewportref22Dropq1_1 (rd : Option Nat) (x1_0 : Int) (st : List (Int × Int × Int × Int × Int) × Int) (r : List (Int × Int × Int × Int × Int)) : Prop := CG P rd (fnN P 9) 0 (codeOf P 9 [false, true, false, true, true]) (S_viewportref22Dropq1_1 x1_0 st) (X_viewportref22Dropq1_1 x1_0 r)
def B_viewportref22Dropq1_1 (n : Nat) (x1_0 : Int) (st : List (Int × Int × Int × Int × Int) × Int) : Option ((List (Int × Int × Int × Int × Int) × Int) ⊕ (List (Int × Int × Int × Int × Int))) := match st with
 | (x1_1, x1_2) =>
  match x1_1 with
  | [] =>
   if x1_2 < (Args.A.length : Int) then
    if 0 ≤ x1_2 ∧ x1_2 < (Args.A.length : Int) then
     ((some ((Args.A).getD (x1_2).toNat (0, 0, 0, 0, 0)))).bind fun y1_3_ =>
     if (y1_3_.1) = x1_0 then
      some (.inl (([] : List (Int × Int × Int × Int × Int)), (w64 (x1_2 + (1 : Int)))))
     else
      some (.inl ([((y1_3_.1), (y1_3_.2.1), (y1_3_.2.2.1), (y1_3_.2.2.2.1), (y1_3_.2.2.2.2))], (w64 (x1_2 + (1 : Int)))))
    else none
   else
    some (.inr ([] : List (Int × Int × Int × Int × Int)))
  | x1_1a :: x1_1t =>
   if x1_2 < (Args.A.length : Int) then
    if 0 ≤ x1_2 ∧ x1_2 < (Args.A.length : Int) then
     ((some ((Args.A).getD (x1_2).toNat (0, 0, 0, 0, 0)))).bind fun y1_3_ =>
     if (y1_3_.1) = x1_0 then
      some (.inl ((x1_1a :: x1_1t), (w64 (x1_2 + (1 : Int)))))
     else
      if (((x1_1a :: x1_1t)).length + 1) * 40 ≤ 140737488355328 then
       some (.inl (((x1_1a :: x1_1t) ++ [((y1_3_.1), (y1_3_.2.1), (y1_3_.2.2.1), (y1_3_.2.2.2.1), (y1_3_.2.2.2.2))]), (w64 (x1_2 + (1 : Int)))))
      else none
    else none
   else
    some (.inr (x1_1a :: x1_1t))
def m_viewportref22Dropq1_1 (n : Nat) (x1_0 : Int) (st : List (Int × Int × Int × Int × Int) × Int) : Option (List (Int × Int × Int × Int × Int)) := iterM (B_viewportref22Dropq1_1 n x1_0) n st
theorem q_viewportref22Dropq1_1_0 (n : Nat) {rnd : Option Nat} (x1_0 x1_2 : Int) (hy1_1 : x1_2 < (Args.A.length : Int)) (hy1_2 : 0 ≤ x1_2 ∧ x1_2 < (Args.A.length : Int)) (y1_3_ : Int × Int × Int × Int × Int) (hy1_3 : (some ((Args.A).getD (x1_2).toNat (0, 0, 0, 0, 0))) = some y1_3_) (hy1_4 : (y1_3_.1) = x1_0) : Q_viewportref22Dropq1_1 rnd x1_0 (([] : List (Int × Int × Int × Int × Int)), x1_2) (.normal, S_viewportref22Dropq1_1 x1_0 (([] : List (Int × Int × Int × Int × Int)), (w64 (x1_2 + (1 : Int))))) :=
 runC2 hm (L := lT []) ⟨[0, 1, 5, 6], [], 1, 0⟩ (zz 5 (xdT hy1_1) <|
zz 12 (xk1 0 Args.cA hy1_2) <|
zz 13 (fk3 ((x1_2).toNat * 5)) <|
zz 14 (lk4 hy1_3 (toNatLt hy1_2)) <|
zz 16 (xnF hy1_4) <|
ee) (by kernel_rfl)
theorem q_viewportref22Dropq1_1_1 (n : Nat) {rnd : Option Nat} (x1_0 x1_2 : Int) (hy1_1 : x1_2 < (Args.A.length : Int)) (hy1_2 : 0 ≤ x1_2 ∧ x1_2 < (Args.A.length : Int)) (y1_3_ : Int × Int × Int × Int × Int) (hy1_3 : (some ((Args.A).getD (x1_2).toNat (0, 0, 0, 0, 0))) = some y1_3_) (hy1_4 : ¬ ((y1_3_.1) = x1_0)) : Q_viewportref22Dropq1_1 rnd x1_0 (([] : List (Int × Int × Int × Int × Int)), x1_2) (.normal, S_viewportref22Dropq1_1 x1_0 ([((y1_3_.1), (y1_3_.2.1), (y1_3_.2.2.1), (y1_3_.2.2.2.1), (y1_3_.2.2.2.2))], (w64 (x1_2 + (1 : Int))))) :=
 runC2 hm (L := lT []) ⟨[0, 1, 5, 6], [(0, 2, false)], 1, 0⟩ (zz 5 (xdT hy1_1) <|
zz 12 (xk1 0 Args.cA hy1_2) <|
zz 13 (fk3 ((x1_2).toNat * 5)) <|
zz 14 (lk4 hy1_3 (toNatLt hy1_2)) <|
zz 16 (xnT hy1_4) <|
zz 21 (xk1 0 Args.cA hy1_2) <|
zz 22 (lk2 hy1_3 (toNatLt hy1_2)) <|
ee) (by kernel_rfl)
theorem q_viewportref22Dropq1_1_2 (n : Nat) {rnd : Option Nat} (x1_0 x1_2 : Int) (hy1_1 : ¬ (x1_2 < (Args.A.length : Int))) : Q_viewportref22Dropq1_1 rnd x1_0 (([] : List (Int × Int × Int × Int × Int)), x1_2) (X_viewportref22Dropq1_1 x1_0 ([] : List (Int × Int × Int × Int × Int))) :=
 runC2 hm (L := lT []) ⟨[5], [], 1, 0⟩ (zz 5 (xdF hy1_1) <|
ee) (by kernel_rfl)
theorem q_viewportref22Dropq1_1_3 (n : Nat) {rnd : Option Nat} (x1_0 : Int) (x1_1a : Int × Int × Int × Int × Int) (x1_1t : List (Int × Int × Int × Int × Int)) (x1_2 : Int) (hy1_1 : x1_2 < (Args.A.length : Int)) (hy1_2 : 0 ≤ x1_2 ∧ x1_2 < (Args.A.length : Int)) (y1_3_ : Int × Int × Int × Int × Int) (hy1_3 : (some ((Args.A).getD (x1_2).toNat (0, 0, 0, 0, 0))) = some y1_3_) (hy1_4 : (y1_3_.1) = x1_0) : Q_viewportref22Dropq1_1 rnd x1_0 ((x1_1a :: x1_1t), x1_2) (.normal, S_viewportref22Dropq1_1 x1_0 ((x1_1a :: x1_1t), (w64 (x1_2 + (1 : Int))))) :=
 runC2 hm (L := lT []) ⟨[0, 1, 5, 6], [(0, 0, true)], 1, 0⟩ (zz 5 (xdT hy1_1) <|
zz 12 (xk1 0 Args.cA hy1_2) <|
zz 13 (fk3 ((x1_2).toNat * 5)) <|
zz 14 (lk4 hy1_3 (toNatLt hy1_2)) <|
zz 16 (xnF hy1_4) <|
ww (rows_flat rwf_iiiii (x1_1a :: x1_1t) 37) <|
ee) (by kernel_rfl)
theorem q_viewportref22Dropq1_1_4 (n : Nat) {rnd : Option Nat} (x1_0 : Int) (x1_1a : Int × Int × Int × Int × Int) (x1_1t : List (Int × Int × Int × Int × Int)) (x1_2 : Int) (hy1_1 : x1_2 < (Args.A.length : Int)) (hy1_2 : 0 ≤ x1_2 ∧ x1_2 < (Args.A.length : Int)) (y1_3_ : Int × Int × Int × Int × Int) (hy1_3 : (some ((Args.A).getD (x1_2).toNat (0, 0, 0, 0, 0))) = some y1_3_) (hy1_4 : ¬ ((y1_3_.1) = x1_0)) (hy1_5 : (((x1_1a :: x1_1t)).length + 1) * 40 ≤ 140737488355328) : Q_viewportref22Dropq1_1 rnd x1_0 ((x1_1a :: x1_1t), x1_2) (.normal, S_viewportref22Dropq1_1 x1_0 (((x1_1a :: x1_1t) ++ [((y1_3_.1), (y1_3_.2.1), (y1_3_.2.2.1), (y1_3_.2.2.2.1), (y1_3_.2.2.2.2))]), (w64 (x1_2 + (1 : Int))))) :=
 runC2 hm (L := lT []) ⟨[0, 1, 5, 6], [(0, 2, true)], 1, 0⟩ (zz 5 (xdT hy1_1) <|
zz 12 (xk1 0 Args.cA hy1_2) <|
zz 13 (fk3 ((x1_2).toNat * 5)) <|
zz 14 (lk4 hy1_3 (toNatLt hy1_2)) <|
zz 16 (xnT hy1_4) <|
zz 21 (xk1 0 Args.cA hy1_2) <|
zz 22 (lk2 hy1_3 (toNatLt hy1_2)) <|
yy 24 (.app ⟨none, rows rw_iiiii (x1_1a :: x1_1t), (rows rw_iiiii ((x1_1a :: x1_1t) ++ [((y1_3_.1), (y1_3_.2.1), (y1_3_.2.2.1), (y1_3_.2.2.2.1), (y1_3_.2.2.2.2))])), (((x1_1a :: x1_1t) ++ [((y1_3_.1), (y1_3_.2.1), (y1_3_.2.2.1), (y1_3_.2.2.2.1), (y1_3_.2.2.2.2))])).length, false⟩) <|
ww (p := 0 < 1) ((by decide)) <|
ww (p := rdT (layT (rows rw_iiiii (x1_1a :: x1_1t))) (Nat.mul ((x1_1a :: x1_1t)).length 5) 0 = some (rows rw_iiiii (x1_1a :: x1_1t))) (rows_rd rwf_iiiii _ _ rfl) <|
ww (p := fits (Nat.add ((x1_1a :: x1_1t)).length 1) 40 = true) (fits_ok hy1_5 (by have := hy1_5; show (_ : Nat) + _ ≤ _; omega)) <|
ww (p := allCells [(i6 (y1_3_.1)), (i6 (y1_3_.2.1)), (i6 (y1_3_.2.2.1)), (i6 (y1_3_.2.2.2.1)), (i6 (y1_3_.2.2.2.2))] = true) (rfl) <|
ww (p := allCells (rows rw_iiiii (x1_1a :: x1_1t)) = true) (rows_cells rwf_iiiii _) <|
ww (p := rows rw_iiiii (x1_1a :: x1_1t) ++ [(i6 (y1_3_.1)), (i6 (y1_3_.2.1)), (i6 (y1_3_.2.2.1)), (i6 (y1_3_.2.2.2.1)), (i6 (y1_3_.2.2.2.2))] = (rows rw_iiiii ((x1_1a :: x1_1t) ++ [((y1_3_.1), (y1_3_.2.1), (y1_3_.2.2.1), (y1_3_.2.2.2.1), (y1_3_.2.2.2.2))]))) (rows_app rw_iiiii (x1_1a :: x1_1t) [((y1_3_.1), (y1_3_.2.1), (y1_3_.2.2.1), (y1_3_.2.2.2.1), (y1_3_.2.2.2.2))]) <|
ww (p := Nat.add ((x1_1a :: x1_1t)).length 1 = (((x1_1a :: x1_1t) ++ [((y1_3_.1), (y1_3_.2.1), (y1_3_.2.2.1), (y1_3_.2.2.2.1), (y1_3_.2.2.2.2))])).length) (by simp) <|
ww (rows_flat rwf_iiiii ((x1_1a :: x1_1t) ++ [((y1_3_.1), (y1_3_.2.1), (y1_3_.2.2.1), (y1_3_.2.2.2.1), (y1_3_.2.2.2.2))]) 37) <|
ee) (by kernel_rfl)
theorem q_viewportref22Dropq1_1_5 (n : Nat) {rnd : Option Nat} (x1_0 : Int) (x1_1a : Int × Int × Int × Int × Int) (x1_1t : List (Int × Int × Int × Int × Int)) (x1_2 : Int) (hy1_1 : ¬ (x1_2 < (Args.A.length : Int))) : Q_viewportref22Dropq1_1 rnd x1_0 ((x1_1a :: x1_1t), x1_2) (X_viewportref22Dropq1_1 x1_0 (x1_1a :: x1_1t)) :=
 runC2 hm (L := lT []) ⟨[5], [(0, 0, true)], 1, 0⟩ (zz 5 (xdF hy1_1) <|
ww (rows_flat rwf_iiiii (x1_1a :: x1_1t) 37) <|
ee) (by kernel_rfl)
theorem m_viewportref22Dropq1_1_ok (n : Nat) {rnd : Option Nat} (x1_0 : Int) (st : List (Int × Int × Int × Int × Int) × Int) (r : List (Int × Int × Int × Int × Int)) (h : m_viewportref22Dropq1_1 n x1_0 st = some r) : CG P rnd (fnN P 9) 0 (codeOf P 9 [false, true, false, true, true]) (S_viewportref22Dropq1_1 x1_0 st) (X_viewportref22Dropq1_1 x1_0 r) :=
 CG.iter (b := codeOf P 9 [false, false, true, false, true, true]) (by kernel_rfl) (body := B_viewportref22Dropq1_1 n x1_0) (S := S_viewportref22Dropq1_1 x1_0) (X := X_viewportref22Dropq1_1 x1_0)
  (fun s s' h => by
  obtain ⟨x1_1, x1_2⟩ := s
  unfold B_viewportref22Dropq1_1 at h
  dsimp only at h
  cases x1_1 with
  | nil =>
   dsimp only at h
   by_cases hy1_1 : x1_2 < (Args.A.length : Int)
   ·rw [if_pos hy1_1] at h
    by_cases hy1_2 : 0 ≤ x1_2 ∧ x1_2 < (Args.A.length : Int)
    ·rw [if_pos hy1_2] at h
     obtain ⟨y1_3_, hy1_3, h⟩ := Option.bind_eq_some_iff.1 h
     by_cases hy1_4 : (y1_3_.1) = x1_0
     ·rw [if_pos hy1_4] at h
      obtain rfl := Sum.inl.inj (oI h); exact q_viewportref22Dropq1_1_0 n x1_0 x1_2 hy1_1 hy1_2 y1_3_ hy1_3 hy1_4
     ·rw [if_neg hy1_4] at h
      obtain rfl := Sum.inl.inj (oI h); exact q_viewportref22Dropq1_1_1 n x1_0 x1_2 hy1_1 hy1_2 y1_3_ hy1_3 hy1_4
    ·rw [if_neg hy1_2] at h; cases h
   ·rw [if_neg hy1_1] at h
    cases h
  | cons x1_1a x1_1t =>
   dsimp only at h
   by_cases hy1_1 : x1_2 < (Args.A.length : Int)
   ·rw [if_pos hy1_1] at h
    by_cases hy1_2 : 0 ≤ x1_2 ∧ x1_2 < (Args.A.length : Int)
    ·rw [if_pos hy1_2] at h
     obtain ⟨y1_3_, hy1_3, h⟩ := Option.bind_eq_some_iff.1 h
     by_cases hy1_4 : (y1_3_.1) = x1_0
     ·rw [if_pos hy1_4] at h
      obtain rfl := Sum.inl.inj (oI h); exact q_viewportref22Dropq1_1_3 n x1_0 x1_1a x1_1t x1_2 hy1_1 hy1_2 y1_3_ hy1_3 hy1_4
     ·rw [if_neg hy1_4] at h
      by_cases hy1_5 : (((x1_1a :: x1_1t)).length + 1) * 40 ≤ 140737488355328
      ·rw [if_pos hy1_5] at h
       obtain rfl := Sum.inl.inj (oI h); exact q_viewportref22Dropq1_1_4 n x1_0 x1_1a x1_1t x1_2 hy1_1 hy1_2 y1_3_ hy1_3 hy1_4 hy1_5
      ·rw [if_neg hy1_5] at h; cases h
    ·rw [if_neg hy1_2] at h; cases h
   ·rw [if_neg hy1_1] at h
    cases h)
  (fun s r h => by
  obtain ⟨x1_1, x1_2⟩ := s
  unfold B_viewportref22Dropq1_1 at h
  dsimp only at h
  cases x1_1 with
  | nil =>
   dsimp only at h
   by_cases hy1_1 : x1_2 < (Args.A.length : Int)
   ·rw [if_pos hy1_1] at h
    by_cases hy1_2 : 0 ≤ x1_2 ∧ x1_2 < (Args.A.length : Int)
    ·rw [if_pos hy1_2] at h
     obtain ⟨y1_3_, hy1_3, h⟩ := Option.bind_eq_some_iff.1 h
     by_cases hy1_4 : (y1_3_.1) = x1_0
     ·rw [if_pos hy1_4] at h
      cases h
     ·rw [if_neg hy1_4] at h
      cases h
    ·rw [if_neg hy1_2] at h; cases h
   ·rw [if_neg hy1_1] at h
    obtain rfl := Sum.inr.inj (oI h); exact q_viewportref22Dropq1_1_2 n x1_0 x1_2 hy1_1
  | cons x1_1a x1_1t =>
   dsimp only at h
   by_cases hy1_1 : x1_2 < (Args.A.length : Int)
   ·rw [if_pos hy1_1] at h
    by_cases hy1_2 : 0 ≤ x1_2 ∧ x1_2 < (Args.A.length : Int)
    ·rw [if_pos hy1_2] at h
     obtain ⟨y1_3_, hy1_3, h⟩ := Option.bind_eq_some_iff.1 h
     by_cases hy1_4 : (y1_3_.1) = x1_0
     ·rw [if_pos hy1_4] at h
      cases h
     ·rw [if_neg hy1_4] at h
      by_cases hy1_5 : (((x1_1a :: x1_1t)).length + 1) * 40 ≤ 140737488355328
      ·rw [if_pos hy1_5] at h
       cases h
      ·rw [if_neg hy1_5] at h; cases h
    ·rw [if_neg hy1_2] at h; cases h
   ·rw [if_neg hy1_1] at h
    obtain rfl := Sum.inr.inj (oI h); exact q_viewportref22Dropq1_1_5 n x1_0 x1_1a x1_1t x1_2 hy1_1)
  (fun r => by intro hx; cases hx) h
def m_viewportref22Dropq1 (n : Nat) (a0 : Int) : Option (List (Int × Int × Int × Int × Int)) :=
 (m_viewportref22Dropq1_1 n a0 (([] : List (Int × Int × Int × Int × Int)), 0)).bind fun c1_ =>
 match c1_ with
 | [] =>
  some ([] : List (Int × Int × Int × Int × Int))
 | c1_a :: c1_t =>
  some (c1_a :: c1_t)
theorem m_viewportref22Dropq1_ok (n : Nat) (a0 : Int) (r : List (Int × Int × Int × Int × Int)) (h : m_viewportref22Dropq1 n a0 = some r) : Gv P (.func 9) (A_viewportref22Dropq1 a0) (H_viewportref22Dropq1 a0) (V_viewportref22Dropq1 a0 r) (R_viewportref22Dropq1 a0 r) := by
 unfold m_viewportref22Dropq1 at h
 obtain ⟨c1_, hc1, h⟩ := Option.bind_eq_some_iff.1 h
 cases c1_ with
 | nil =>
  dsimp only at h
  obtain rfl := oI h; exact (runF2 hm (L := lT [(8, ⟨⟨[0, 1, 5, 6], [], 1, 0⟩, (X_viewportref22Dropq1_1 a0 ([] : List (Int × Int × Int × Int × Int))).1, (X_viewportref22Dropq1_1 a0 ([] : List (Int × Int × Int × Int × Int))).2⟩)]) ⟨[4], [], 1, 0⟩ (ww (p := U_viewportref22Dropq1_1 none a0 (([] : List (Int × Int × Int × Int × Int)), 0) ([] : List (Int × Int × Int × Int × Int))) (m_viewportref22Dropq1_1_ok n a0 (([] : List (Int × Int × Int × Int × Int)), 0) ([] : List (Int × Int × Int × Int × Int)) hc1) ee) (by kernel_rfl))
 | cons c1_a c1_t =>
  dsimp only at h
  obtain rfl := oI h; exact (runF2 hm (L := lT [(8, ⟨⟨[0, 1, 5, 6], [], 1, 0⟩, (X_viewportref22Dropq1_1 a0 (c1_a :: c1_t)).1, (X_viewportref22Dropq1_1 a0 (c1_a :: c1_t)).2⟩)]) ⟨[4], [(0, 0, true)], 1, 0⟩ (ww (p := U_viewportref22Dropq1_1 none a0 (([] : List (Int × Int × Int × Int × Int)), 0) (c1_a :: c1_t)) (m_viewportref22Dropq1_1_ok n a0 (([] : List (Int × Int × Int × Int × Int)), 0) (c1_a :: c1_t) hc1) <|
ww (rows_flat rwf_iiiii (c1_a :: c1_t) 37) ee) (by kernel_rfl))

def A_dirtyCheckq2 : List Value := [(Value.slice none 0 0)]
def H_dirtyCheckq2 : AH := ⟨sB [], 0, 0⟩
def V_dirtyCheckq2 (r : Unit) : Value := match r with
 | _ => (i6 (0 : Int))
def R_dirtyCheckq2 (r : Unit) : AH := match r with
 | _ => ⟨sB [], 0, 0⟩
abbrev G_dirtyCheckq2 (r : Unit) : Prop := Gv P (.func 17) A_dirtyCheckq2 H_dirtyCheckq2 (V_dirtyCheckq2  r) (R_dirtyCheckq2  r)
abbrev C_dirtyCheckq2 (r : Unit) (ins outs : BL) : CallA := ⟨0, ins, V_dirtyCheckq2  r, R_dirtyCheckq2  r, outs⟩
def S_dirtyCheckq2_1 (st : Unit) : XSt := match st with
 | _ => (sT 52 [(3, (i6 (-1 : Int))), (9, (Value.slice none 0 0)), (10, (i6 (0 : Int))), (11, (i6 (0 : Int)))], [], ⟨sB [], 0, 0⟩)
def X_dirtyCheckq2_1 (r : Unit) : Ex × XSt := match r with
 | _ => (.exit 0, (sT 52 [], [], ⟨sB [], 0, 0⟩))
abbrev Q_dirtyCheckq2_1 (rnd : Option Nat) (st : Unit) (c : Ex × XSt) : Prop := CG P rnd (fnN P 17) 0 (codeOf P 17 [false, false, true, false, true, true, true]) (S_dirtyCheckq2_1 st) c
abbrev U_dirtyCheckq2_1 (rd : Option Nat) (st : Unit) (r : Unit) : Prop := CG P rd (fnN P 17) 0 (codeOf P 17 [false, true, false, true, true, true]) (S_dirtyCheckq2_1 st) (X_dirtyCheckq2_1 r)
def B_dirtyCheckq2_1 (n : Nat) (st : Unit) : Option ((Unit) ⊕ (Unit)) := match st with
 | _ =>
  some (.inr ())
def m_dirtyCheckq2_1 (n : Nat) (st : Unit) : Option (Unit) := iterM (B_dirtyCheckq2_1 n) n st
theorem q_dirtyCheckq2_1_0 (n : Nat) {rnd : Option Nat}  : Q_dirtyCheckq2_1 rnd () (X_dirtyCheckq2_1 ()) :=
 runC2 hm (L := lT []) ⟨[], [], 0, 0⟩ (ee) (by kernel_rfl)
theorem m_dirtyCheckq2_1_ok (n : Nat) {rnd : Option Nat} (st : Unit) (r : Unit) (h : m_dirtyCheckq2_1 n st = some r) : CG P rnd (fnN P 17) 0 (codeOf P 17 [false, true, false, true, true, true]) (S_dirtyCheckq2_1 st) (X_dirtyCheckq2_1 r) :=
 CG.iter (b := codeOf P 17 [false, false, true, false, true, true, true]) (by kernel_rfl) (body := B_dirtyCheckq2_1 n) (S := S_dirtyCheckq2_1) (X := X_dirtyCheckq2_1)
  (fun s s' h => by
  unfold B_dirtyCheckq2_1 at h
  dsimp only at h
  cases h)
  (fun s r h => by
  unfold B_dirtyCheckq2_1 at h
  dsimp only at h
  obtain rfl := Sum.inr.inj (oI h); exact q_dirtyCheckq2_1_0 n)
  (fun r => by intro hx; cases hx) h
def m_dirtyCheckq2 (n : Nat) : Option (Unit) :=
 (m_dirtyCheckq2_1 n ()).bind fun _ =>
 some ()
theorem m_dirtyCheckq2_ok (n : Nat) (r : Unit) (h : m_dirtyCheckq2 n = some r) : Gv P (.func 17) A_dirtyCheckq2 H_dirtyCheckq2 (V_dirtyCheckq2  r) (R_dirtyCheckq2  r) := by
 unfold m_dirtyCheckq2 at h
 obtain ⟨_, hc1, h⟩ := Option.bind_eq_some_iff.1 h
 obtain rfl := oI h; exact (runF2 hm (L := lT [(16, ⟨⟨[3, 9, 10, 11], [], 0, 0⟩, (X_dirtyCheckq2_1 ()).1, (X_dirtyCheckq2_1 ()).2⟩)]) ⟨[2], [], 0, 0⟩ (ww (p := U_dirtyCheckq2_1 none () ()) (m_dirtyCheckq2_1_ok n () () hc1) ee) (by kernel_rfl))

def A_jobsqueueq2 (a0 : Int) (a1 : Int) (a2 : Int) : List Value := [(Value.slice none 0 0), (Value.agg #[(i6 a0), (i6 a1)]), (i6 a2)]
def H_jobsqueueq2 (a0 : Int) (a1 : Int) (a2 : Int) : AH := ⟨sB [], 0, 0⟩
def V_jobsqueueq2 (a0 : Int) (a1 : Int) (a2 : Int) (r : Unit) : Value := match r with
 | _ => (pN 0 0)
def R_jobsqueueq2 (a0 : Int) (a1 : Int) (a2 : Int) (r : Unit) : AH := match r with
 | _ => ⟨sB [(0, (some (.cells (layT [(pN 0 0), (Value.func (.func 24) #[] #[(pN 1 0), (pN 2 0)]), (Value.slice none 0 0), (i6 (0 : Int))]) 53))), (1, (some (.cells (layT [(i6 a2)]) 3))), (2, (some (.cells (layT [(i6 a0), (i6 a1)]) 24)))], 3, 0⟩
abbrev G_jobsqueueq2 (a0 : Int) (a1 : Int) (a2 : Int) (r : Unit) : Prop := Gv P (.func 11) (A_jobsqueueq2 a0 a1 a2) (H_jobsqueueq2 a0 a1 a2) (V_jobsqueueq2 a0 a1 a2 r) (R_jobsqueueq2 a0 a1 a2 r)
abbrev C_jobsqueueq2 (a0 : Int) (a1 : Int) (a2 : Int) (r : Unit) (ins outs : BL) : CallA := ⟨0, ins, V_jobsqueueq2 a0 a1 a2 r, R_jobsqueueq2 a0 a1 a2 r, outs⟩
def S_jobsqueueq2_1 (x1_0 : Int) (x1_1 : Int) (x1_2 : Int) (st : Unit) : XSt := match st with
 | _ => (sT 29 [(7, (pN 0 0)), (18, (Value.slice none 0 0)), (19, (i6 (0 : Int))), (20, (i6 (0 : Int)))], [], ⟨sB [(0, (some (.cells (layT [(pN 0 0), (Value.func (.func 24) #[] #[(pN 1 0), (pN 2 0)]), (Value.slice none 0 0), (i6 (0 : Int))]) 53))), (1, (some (.cells (layT [(i6 x1_0)]) 3))), (2, (some (.cells (layT [(i6 x1_1), (i6 x1_2)]) 24)))], 3, 0⟩)
def X_jobsqueueq2_1 (x1_0 : Int) (x1_1 : Int) (x1_2 : Int) (r : Unit) : Ex × XSt := match r with
 | _ => (.exit 0, (sT 29 [(7, (pN 0 0))], [], ⟨sB [(0, (some (.cells (layT [(pN 0 0), (Value.func (.func 24) #[] #[(pN 1 0), (pN 2 0)]), (Value.slice none 0 0), (i6 (0 : Int))]) 53))), (1, (some (.cells (layT [(i6 x1_0)]) 3))), (2, (some (.cells (layT [(i6 x1_1), (i6 x1_2)]) 24)))], 3, 0⟩))
abbrev Q_jobsqueueq2_1 (rnd : Option Nat) (x1_0 : Int) (x1_1 : Int) (x1_2 : Int) (st : Unit) (c : Ex × XSt) : Prop := CG P rnd (fnN P 11) 0 (codeOf P 11 [false, false, true, false, true, true, true]) (S_jobsqueueq2_1 x1_0 x1_1 x1_2 st) c
abbrev U_jobsqueueq2_1 (rd : Option Nat) (x1_0 : Int) (x1_1 : Int) (x1_2 : Int) (st : Unit) (r : Unit) : Prop := CG P rd (fnN P 11) 0 (codeOf P 11 [false, true, false, true, true, true]) (S_jobsqueueq2_1 x1_0 x1_1 x1_2 st) (X_jobsqueueq2_1 x1_0 x1_1 x1_2 r)
def B_jobsqueueq2_1 (n : Nat) (x1_0 : Int) (x1_1 : Int) (x1_2 : Int) (st : Unit) : Option ((Unit) ⊕ (Unit)) := match st with
 | _ =>
  some (.inr ())
def m_jobsqueueq2_1 (n : Nat) (x1_0 : Int) (x1_1 : Int) (x1_2 : Int) (st : Unit) : Option (Unit) := iterM (B_jobsqueueq2_1 n x1_0 x1_1 x1_2) n st
theorem q_jobsqueueq2_1_0 (n : Nat) {rnd : Option Nat} (x1_0 x1_1 x1_2 : Int) : Q_jobsqueueq2_1 rnd x1_0 x1_1 x1_2 () (X_jobsqueueq2_1 x1_0 x1_1 x1_2 ()) :=
 runC2 hm (L := lT []) ⟨[7], [(0, 0, false), (1, 1, false), (2, 2, false)], 3, 0⟩ (ee) (by kernel_rfl)
theorem m_jobsqueueq2_1_ok (n : Nat) {rnd : Option Nat} (x1_0 : Int) (x1_1 : Int) (x1_2 : Int) (st : Unit) (r : Unit) (h : m_jobsqueueq2_1 n x1_0 x1_1 x1_2 st = some r) : CG P rnd (fnN P 11) 0 (codeOf P 11 [false, true, false, true, true, true]) (S_jobsqueueq2_1 x1_0 x1_1 x1_2 st) (X_jobsqueueq2_1 x1_0 x1_1 x1_2 r) :=
 CG.iter (b := codeOf P 11 [false, false, true, false, true, true, true]) (by kernel_rfl) (body := B_jobsqueueq2_1 n x1_0 x1_1 x1_2) (S := S_jobsqueueq2_1 x1_0 x1_1 x1_2) (X := X_jobsqueueq2_1 x1_0 x1_1 x1_2)
  (fun s s' h => by
  unfold B_jobsqueueq2_1 at h
  dsimp only at h
  cases h)
  (fun s r h => by
  unfold B_jobsqueueq2_1 at h
  dsimp only at h
  obtain rfl := Sum.inr.inj (oI h); exact q_jobsqueueq2_1_0 n x1_0 x1_1 x1_2)
  (fun r => by intro hx; cases hx) h
def m_jobsqueueq2 (n : Nat) (a0 : Int) (a1 : Int) (a2 : Int) : Option (Unit) :=
 (m_jobsorderq1 n a0 a1 a2).bind fun _ =>
 (m_heapNewapiDirtyq1 n a2 a0 a1).bind fun _ =>
 (m_dirtyCheckq2 n).bind fun _ =>
 (m_jobsqueueq2_1 n a2 a0 a1 ()).bind fun _ =>
 some ()
theorem m_jobsqueueq2_ok (n : Nat) (a0 : Int) (a1 : Int) (a2 : Int) (r : Unit) (h : m_jobsqueueq2 n a0 a1 a2 = some r) : Gv P (.func 11) (A_jobsqueueq2 a0 a1 a2) (H_jobsqueueq2 a0 a1 a2) (V_jobsqueueq2 a0 a1 a2 r) (R_jobsqueueq2 a0 a1 a2 r) := by
 unfold m_jobsqueueq2 at h
 obtain ⟨_, hc1, h⟩ := Option.bind_eq_some_iff.1 h
 obtain ⟨_, hc2, h⟩ := Option.bind_eq_some_iff.1 h
 obtain ⟨_, hc3, h⟩ := Option.bind_eq_some_iff.1 h
 obtain ⟨_, hc4, h⟩ := Option.bind_eq_some_iff.1 h
 obtain rfl := oI h; exact (runF2 hm (L := lT [(21, ⟨⟨[7, 18, 19, 20], [(0, 3, false), (1, 1, false), (2, 2, false)], 3, 0⟩, (X_jobsqueueq2_1 a2 a0 a1 ()).1, (X_jobsqueueq2_1 a2 a0 a1 ()).2⟩)]) ⟨[6], [(0, 0, false), (1, 1, false), (2, 2, false)], 3, 0⟩ (yy 6 (.call (C_jobsorderq1 a0 a1 a2 () [] [(1, 0, false), (2, 1, false)])) <|
ww (m_jobsorderq1_ok n a0 a1 a2 () hc1) <|
yy 7 (.call (C_heapNewapiDirtyq1 a2 a0 a1 () [(0, 1, false), (1, 2, false)] [(1, 0, false), (2, 1, false), (3, 2, false)])) <|
ww (m_heapNewapiDirtyq1_ok n a2 a0 a1 () hc2) <|
yy 12 (.call (C_dirtyCheckq2  () [] [])) <|
ww (m_dirtyCheckq2_ok n  () hc3) <|
ww (p := U_jobsqueueq2_1 none a2 a0 a1 () ()) (m_jobsqueueq2_1_ok n a2 a0 a1 () () hc4) ee) (by kernel_rfl))

def A_jobsNextq2 (a0 : Int) (a1 : Int) (a2 : Int) : List Value := [(Value.slice none 0 0), (Value.agg #[(i6 a0), (i6 a1)]), (i6 a2)]
def H_jobsNextq2 (a0 : Int) (a1 : Int) (a2 : Int) : AH := ⟨sB [], 0, 0⟩
def V_jobsNextq2 (a0 : Int) (a1 : Int) (a2 : Int) (r : Unit) : Value := match r with
 | _ => (Value.tuple #[(i6 (0 : Int)), (bO false)])
def R_jobsNextq2 (a0 : Int) (a1 : Int) (a2 : Int) (r : Unit) : AH := match r with
 | _ => ⟨sB [], 0, 0⟩
abbrev G_jobsNextq2 (a0 : Int) (a1 : Int) (a2 : Int) (r : Unit) : Prop := Gv P (.func 7) (A_jobsNextq2 a0 a1 a2) (H_jobsNextq2 a0 a1 a2) (V_jobsNextq2 a0 a1 a2 r) (R_jobsNextq2 a0 a1 a2 r)
abbrev C_jobsNextq2 (a0 : Int) (a1 : Int) (a2 : Int) (r : Unit) (ins outs : BL) : CallA := ⟨0, ins, V_jobsNextq2 a0 a1 a2 r, R_jobsNextq2 a0 a1 a2 r, outs⟩
def m_jobsNextq2 (n : Nat) (a0 : Int) (a1 : Int) (a2 : Int) : Option (Unit) :=
 (m_jobsqueueq2 n a0 a1 a2).bind fun _ =>
 (m_heapHeapapiDirtyLeastq3 n a2 a0 a1 0).bind fun _ =>
 some ()
theorem m_jobsNextq2_ok (n : Nat) (a0 : Int) (a1 : Int) (a2 : Int) (r : Unit) (h : m_jobsNextq2 n a0 a1 a2 = some r) : Gv P (.func 7) (A_jobsNextq2 a0 a1 a2) (H_jobsNextq2 a0 a1 a2) (V_jobsNextq2 a0 a1 a2 r) (R_jobsNextq2 a0 a1 a2 r) := by
 unfold m_jobsNextq2 at h
 obtain ⟨_, hc1, h⟩ := Option.bind_eq_some_iff.1 h
 obtain ⟨_, hc2, h⟩ := Option.bind_eq_some_iff.1 h
 obtain rfl := oI h; exact (runF2 hm (L := lT []) ⟨[6, 7], [], 0, 0⟩ (yy 8 (.call (C_jobsqueueq2 a0 a1 a2 () [] [(1, 0, false), (2, 1, false), (3, 2, false)])) <|
ww (m_jobsqueueq2_ok n a0 a1 a2 () hc1) <|
yy 9 (.call (C_heapHeapapiDirtyLeastq3 a2 a0 a1 0 () [(0, 1, false), (1, 2, false), (2, 3, false)] [(4, 3, false)])) <|
ww (m_heapHeapapiDirtyLeastq3_ok n a2 a0 a1 0 () hc2) ee) (by kernel_rfl))

def A_dirtyCheckq3 (a0 : List (Int × Int × Int × Int × Int)) : List Value := [(sN 0 0 (a0).length (Nat.add big 5))]
def H_dirtyCheckq3 (a0 : List (Int × Int × Int × Int × Int)) : AH := ⟨sB [(0, (some (.cells (layT (rows rw_iiiii a0)) 37)))], 1, 1⟩
def V_dirtyCheckq3 (a0 : List (Int × Int × Int × Int × Int)) (r : Int) : Value := match r with
 | o0 => (i6 o0)
def R_dirtyCheckq3 (a0 : List (Int × Int × Int × Int × Int)) (r : Int) : AH := match r with
 | o0 => ⟨sB [], 1, 1⟩
abbrev G_dirtyCheckq3 (a0 : List (Int × Int × Int × Int × Int)) (r : Int) : Prop := Gv P (.func 17) (A_dirtyCheckq3 a0) (H_dirtyCheckq3 a0) (V_dirtyCheckq3 a0 r) (R_dirtyCheckq3 a0 r)
abbrev C_dirtyCheckq3 (a0 : List (Int × Int × Int × Int × Int)) (r : Int) (ins outs : BL) : CallA := ⟨1, ins, V_dirtyCheckq3 a0 r, R_dirtyCheckq3 a0 r, outs⟩
def S_dirtyCheckq3_1 (x1_0 : List (Int × Int × Int × Int × Int)) (x1_2 : Int) (st : Int × Int) : XSt := match st with
 | (x1_1, x1_3) => (sT 52 [(3, (i6 x1_1)), (9, (sN 0 0 (x1_0).length (Nat.add big 5))), (10, (i6 x1_2)), (11, (i6 x1_3))], [], ⟨sB [(0, (some (.cells (layT (rows rw_iiiii x1_0)) 37)))], 1, 1⟩)
def X_dirtyCheckq3_1 (x1_0 : List (Int × Int × Int × Int × Int)) (x1_2 : Int) (r : (Unit) ⊕ (Unit)) : Ex × XSt := match r with
 | .inl _ => (.ret, (sT 52 [(2, (i6 (2 : Int)))], [], ⟨sB [(0, (some (.cells (layT (rows rw_iiiii x1_0)) 37)))], 1, 1⟩))
 | .inr _ => (.exit 0, (sT 52 [], [], ⟨sB [(0, (some (.cells (layT (rows rw_iiiii x1_0)) 37)))], 1, 1⟩))
abbrev Q_dirtyCheckq3_1 (rnd : Option Nat) (x1_0 : List (Int × Int × Int × Int × Int)) (x1_2 : Int) (st : Int × Int) (c : Ex × XSt) : Prop := CG P rnd (fnN P 17) 1 (codeOf P 17 [false, false, true, false, true, true, true]) (S_dirtyCheckq3_1 x1_0 x1_2 st) c
abbrev U_dirtyCheckq3_1 (rd : Option Nat) (x1_0 : List (Int × Int × Int × Int × Int)) (x1_2 : Int) (st : Int × Int) (r : (Unit) ⊕ (Unit)) : Prop := CG P rd (fnN P 17) 1 (codeOf P 17 [false, true, false, true, true, true]) (S_dirtyCheckq3_1 x1_0 x1_2 st) (X_dirtyCheckq3_1 x1_0 x1_2 r)
def B_dirtyCheckq3_1 (n : Nat) (x1_0 : List (Int × Int × Int × Int × Int)) (x1_2 : Int) (st : Int × Int) : Option ((Int × Int) ⊕ ((Unit) ⊕ (Unit))) := match st with
 | (x1_1, x1_3) =>
  if x1_3 < x1_2 then
   if 0 ≤ x1_3 ∧ x1_3 < (x1_0.length : Int) then
    ((some ((x1_0).getD (x1_3).toNat (0, 0, 0, 0, 0)))).bind fun y1_3_ =>
    if (y1_3_.1) ≤ x1_1 then
     some (.inr (.inl ()))
    else
     if (y1_3_.1) > (63 : Int) then
      some (.inr (.inl ()))
     else
      if (y1_3_.2.1) < (0 : Int) then
       some (.inr (.inl ()))
      else
       if (y1_3_.2.1) > (y1_3_.2.2.1) then
        some (.inr (.inl ()))
       else
        if (y1_3_.2.2.2.1) < (0 : Int) then
         some (.inr (.inl ()))
        else
         if (y1_3_.2.2.2.2) < (0 : Int) then
          some (.inr (.inl ()))
         else
          some (.inl ((y1_3_.1), (w64 (x1_3 + (1 : Int)))))
   else none
  else
   some (.inr (.inr ()))
def m_dirtyCheckq3_1 (n : Nat) (x1_0 : List (Int × Int × Int × Int × Int)) (x1_2 : Int) (st : Int × Int) : Option ((Unit) ⊕ (Unit)) := iterM (B_dirtyCheckq3_1 n x1_0 x1_2) n st
theorem q_dirtyCheckq3_1_0 (n : Nat) {rnd : Option Nat} (x1_0 : List (Int × Int × Int × Int × Int)) (x1_1 x1_2 x1_3 : Int) (hy1_1 : x1_3 < x1_2) (hy1_2 : 0 ≤ x1_3 ∧ x1_3 < (x1_0.length : Int)) (y1_3_ : Int × Int × Int × Int × Int) (hy1_3 : (some ((x1_0).getD (x1_3).toNat (0, 0, 0, 0, 0))) = some y1_3_) (hy1_4 : (y1_3_.1) ≤ x1_1) : Q_dirtyCheckq3_1 rnd x1_0 x1_2 (x1_1, x1_3) (X_dirtyCheckq3_1 x1_0 x1_2 (.inl ())) :=
 runC2 hm (L := lT []) ⟨[2], [(0, 0, true)], 1, 1⟩ (zz 1 (xdT hy1_1) <|
zz 7 (xk7 0 U5 hy1_2) <|
yy 8 (.ld (Value.agg #[(i6 (y1_3_.1)), (i6 (y1_3_.2.1)), (i6 (y1_3_.2.2.1)), (i6 (y1_3_.2.2.2.1)), (i6 (y1_3_.2.2.2.2))])) <|
ww (p := rdT (layT (rows rw_iiiii x1_0)) 5 ((x1_3).toNat * 5) = some [(i6 (y1_3_.1)), (i6 (y1_3_.2.1)), (i6 (y1_3_.2.2.1)), (i6 (y1_3_.2.2.2.1)), (i6 (y1_3_.2.2.2.2))]) (rows_rdpN rwf_iiiii (0, 0, 0, 0, 0) (hr := hy1_3) (i := (x1_3).toNat) (j := 0) ((x1_3).toNat * 5) rfl (toNatLt hy1_2) (by decide) rfl) <|
zz 16 (xdT hy1_4) <|
ww (rows_flat rwf_iiiii x1_0 37) <|
ee) (by kernel_rfl)
theorem q_dirtyCheckq3_1_1 (n : Nat) {rnd : Option Nat} (x1_0 : List (Int × Int × Int × Int × Int)) (x1_1 x1_2 x1_3 : Int) (hy1_1 : x1_3 < x1_2) (hy1_2 : 0 ≤ x1_3 ∧ x1_3 < (x1_0.length : Int)) (y1_3_ : Int × Int × Int × Int × Int) (hy1_3 : (some ((x1_0).getD (x1_3).toNat (0, 0, 0, 0, 0))) = some y1_3_) (hy1_4 : ¬ ((y1_3_.1) ≤ x1_1)) (hy1_5 : (y1_3_.1) > (63 : Int)) : Q_dirtyCheckq3_1 rnd x1_0 x1_2 (x1_1, x1_3) (X_dirtyCheckq3_1 x1_0 x1_2 (.inl ())) :=
 runC2 hm (L := lT []) ⟨[2], [(0, 0, true)], 1, 1⟩ (zz 1 (xdT hy1_1) <|
zz 7 (xk7 0 U5 hy1_2) <|
yy 8 (.ld (Value.agg #[(i6 (y1_3_.1)), (i6 (y1_3_.2.1)), (i6 (y1_3_.2.2.1)), (i6 (y1_3_.2.2.2.1)), (i6 (y1_3_.2.2.2.2))])) <|
ww (p := rdT (layT (rows rw_iiiii x1_0)) 5 ((x1_3).toNat * 5) = some [(i6 (y1_3_.1)), (i6 (y1_3_.2.1)), (i6 (y1_3_.2.2.1)), (i6 (y1_3_.2.2.2.1)), (i6 (y1_3_.2.2.2.2))]) (rows_rdpN rwf_iiiii (0, 0, 0, 0, 0) (hr := hy1_3) (i := (x1_3).toNat) (j := 0) ((x1_3).toNat * 5) rfl (toNatLt hy1_2) (by decide) rfl) <|
zz 16 (xdF hy1_4) <|
zz 20 (xdT hy1_5) <|
ww (rows_flat rwf_iiiii x1_0 37) <|
ee) (by kernel_rfl)
theorem q_dirtyCheckq3_1_2 (n : Nat) {rnd : Option Nat} (x1_0 : List (Int × Int × Int × Int × Int)) (x1_1 x1_2 x1_3 : Int) (hy1_1 : x1_3 < x1_2) (hy1_2 : 0 ≤ x1_3 ∧ x1_3 < (x1_0.length : Int)) (y1_3_ : Int × Int × Int × Int × Int) (hy1_3 : (some ((x1_0).getD (x1_3).toNat (0, 0, 0, 0, 0))) = some y1_3_) (hy1_4 : ¬ ((y1_3_.1) ≤ x1_1)) (hy1_5 : ¬ ((y1_3_.1) > (63 : Int))) (hy1_6 : (y1_3_.2.1) < (0 : Int)) : Q_dirtyCheckq3_1 rnd x1_0 x1_2 (x1_1, x1_3) (X_dirtyCheckq3_1 x1_0 x1_2 (.inl ())) :=
 runC2 hm (L := lT []) ⟨[2], [(0, 0, true)], 1, 1⟩ (zz 1 (xdT hy1_1) <|
zz 7 (xk7 0 U5 hy1_2) <|
yy 8 (.ld (Value.agg #[(i6 (y1_3_.1)), (i6 (y1_3_.2.1)), (i6 (y1_3_.2.2.1)), (i6 (y1_3_.2.2.2.1)), (i6 (y1_3_.2.2.2.2))])) <|
ww (p := rdT (layT (rows rw_iiiii x1_0)) 5 ((x1_3).toNat * 5) = some [(i6 (y1_3_.1)), (i6 (y1_3_.2.1)), (i6 (y1_3_.2.2.1)), (i6 (y1_3_.2.2.2.1)), (i6 (y1_3_.2.2.2.2))]) (rows_rdpN rwf_iiiii (0, 0, 0, 0, 0) (hr := hy1_3) (i := (x1_3).toNat) (j := 0) ((x1_3).toNat * 5) rfl (toNatLt hy1_2) (by decide) rfl) <|
zz 16 (xdF hy1_4) <|
zz 20 (xdF hy1_5) <|
zz 26 (xdT hy1_6) <|
ww (rows_flat rwf_iiiii x1_0 37) <|
ee) (by kernel_rfl)
theorem q_dirtyCheckq3_1_3 (n : Nat) {rnd : Option Nat} (x1_0 : List (Int × Int × Int × Int × Int)) (x1_1 x1_2 x1_3 : Int) (hy1_1 : x1_3 < x1_2) (hy1_2 : 0 ≤ x1_3 ∧ x1_3 < (x1_0.length : Int)) (y1_3_ : Int × Int × Int × Int × Int) (hy1_3 : (some ((x1_0).getD (x1_3).toNat (0, 0, 0, 0, 0))) = some y1_3_) (hy1_4 : ¬ ((y1_3_.1) ≤ x1_1)) (hy1_5 : ¬ ((y1_3_.1) > (63 : Int))) (hy1_6 : ¬ ((y1_3_.2.1) < (0 : Int))) (hy1_7 : (y1_3_.2.1) > (y1_3_.2.2.1)) : Q_dirtyCheckq3_1 rnd x1_0 x1_2 (x1_1, x1_3) (X_dirtyCheckq3_1 x1_0 x1_2 (.inl ())) :=
 runC2 hm (L := lT []) ⟨[2], [(0, 0, true)], 1, 1⟩ (zz 1 (xdT hy1_1) <|
zz 7 (xk7 0 U5 hy1_2) <|
yy 8 (.ld (Value.agg #[(i6 (y1_3_.1)), (i6 (y1_3_.2.1)), (i6 (y1_3_.2.2.1)), (i6 (y1_3_.2.2.2.1)), (i6 (y1_3_.2.2.2.2))])) <|
ww (p := rdT (layT (rows rw_iiiii x1_0)) 5 ((x1_3).toNat * 5) = some [(i6 (y1_3_.1)), (i6 (y1_3_.2.1)), (i6 (y1_3_.2.2.1)), (i6 (y1_3_.2.2.2.1)), (i6 (y1_3_.2.2.2.2))]) (rows_rdpN rwf_iiiii (0, 0, 0, 0, 0) (hr := hy1_3) (i := (x1_3).toNat) (j := 0) ((x1_3).toNat * 5) rfl (toNatLt hy1_2) (by decide) rfl) <|
zz 16 (xdF hy1_4) <|
zz 20 (xdF hy1_5) <|
zz 26 (xdF hy1_6) <|
zz 35 (xdT hy1_7) <|
ww (rows_flat rwf_iiiii x1_0 37) <|
ee) (by kernel_rfl)
theorem q_dirtyCheckq3_1_4 (n : Nat) {rnd : Option Nat} (x1_0 : List (Int × Int × Int × Int × Int)) (x1_1 x1_2 x1_3 : Int) (hy1_1 : x1_3 < x1_2) (hy1_2 : 0 ≤ x1_3 ∧ x1_3 < (x1_0.length : Int)) (y1_3_ : Int × Int × Int × Int × Int) (hy1_3 : (some ((x1_0).getD (x1_3).toNat (0, 0, 0, 0, 0))) = some y1_3_) (hy1_4 : ¬ ((y1_3_.1) ≤ x1_1)) (hy1_5 : ¬ ((y1_3_.1) > (63 : Int))) (hy1_6 : ¬ ((y1_3_.2.1) < (0 : Int))) (hy1_7 : ¬ ((y1_3_.2.1) > (y1_3_.2.2.1))) (hy1_8 : (y1_3_.2.2.2.1) < (0 : Int)) : Q_dirtyCheckq3_1 rnd x1_0 x1_2 (x1_1, x1_3) (X_dirtyCheckq3_1 x1_0 x1_2 (.inl ())) :=
 runC2 hm (L := lT []) ⟨[2], [(0, 0, true)], 1, 1⟩ (zz 1 (xdT hy1_1) <|
zz 7 (xk7 0 U5 hy1_2) <|
yy 8 (.ld (Value.agg #[(i6 (y1_3_.1)), (i6 (y1_3_.2.1)), (i6 (y1_3_.2.2.1)), (i6 (y1_3_.2.2.2.1)), (i6 (y1_3_.2.2.2.2))])) <|
ww (p := rdT (layT (rows rw_iiiii x1_0)) 5 ((x1_3).toNat * 5) = some [(i6 (y1_3_.1)), (i6 (y1_3_.2.1)), (i6 (y1_3_.2.2.1)), (i6 (y1_3_.2.2.2.1)), (i6 (y1_3_.2.2.2.2))]) (rows_rdpN rwf_iiiii (0, 0, 0, 0, 0) (hr := hy1_3) (i := (x1_3).toNat) (j := 0) ((x1_3).toNat * 5) rfl (toNatLt hy1_2) (by decide) rfl) <|
zz 16 (xdF hy1_4) <|
zz 20 (xdF hy1_5) <|
zz 26 (xdF hy1_6) <|
zz 35 (xdF hy1_7) <|
zz 40 (xdT hy1_8) <|
ww (rows_flat rwf_iiiii x1_0 37) <|
ee) (by kernel_rfl)
theorem q_dirtyCheckq3_1_5 (n : Nat) {rnd : Option Nat} (x1_0 : List (Int × Int × Int × Int × Int)) (x1_1 x1_2 x1_3 : Int) (hy1_1 : x1_3 < x1_2) (hy1_2 : 0 ≤ x1_3 ∧ x1_3 < (x1_0.length : Int)) (y1_3_ : Int × Int × Int × Int × Int) (hy1_3 : (some ((x1_0).getD (x1_3).toNat (0, 0, 0, 0, 0))) = some y1_3_) (hy1_4 : ¬ ((y1_3_.1) ≤ x1_1)) (hy1_5 : ¬ ((y1_3_.1) > (63 : Int))) (hy1_6 : ¬ ((y1_3_.2.1) < (0 : Int))) (hy1_7 : ¬ ((y1_3_.2.1) > (y1_3_.2.2.1))) (hy1_8 : ¬ ((y1_3_.2.2.2.1) < (0 : Int))) (hy1_9 : (y1_3_.2.2.2.2) < (0 : Int)) : Q_dirtyCheckq3_1 rnd x1_0 x1_2 (x1_1, x1_3) (X_dirtyCheckq3_1 x1_0 x1_2 (.inl ())) :=
 runC2 hm (L := lT []) ⟨[2], [(0, 0, true)], 1, 1⟩ (zz 1 (xdT hy1_1) <|
zz 7 (xk7 0 U5 hy1_2) <|
yy 8 (.ld (Value.agg #[(i6 (y1_3_.1)), (i6 (y1_3_.2.1)), (i6 (y1_3_.2.2.1)), (i6 (y1_3_.2.2.2.1)), (i6 (y1_3_.2.2.2.2))])) <|
ww (p := rdT (layT (rows rw_iiiii x1_0)) 5 ((x1_3).toNat * 5) = some [(i6 (y1_3_.1)), (i6 (y1_3_.2.1)), (i6 (y1_3_.2.2.1)), (i6 (y1_3_.2.2.2.1)), (i6 (y1_3_.2.2.2.2))]) (rows_rdpN rwf_iiiii (0, 0, 0, 0, 0) (hr := hy1_3) (i := (x1_3).toNat) (j := 0) ((x1_3).toNat * 5) rfl (toNatLt hy1_2) (by decide) rfl) <|
zz 16 (xdF hy1_4) <|
zz 20 (xdF hy1_5) <|
zz 26 (xdF hy1_6) <|
zz 35 (xdF hy1_7) <|
zz 40 (xdF hy1_8) <|
zz 45 (xdT hy1_9) <|
ww (rows_flat rwf_iiiii x1_0 37) <|
ee) (by kernel_rfl)
theorem q_dirtyCheckq3_1_6 (n : Nat) {rnd : Option Nat} (x1_0 : List (Int × Int × Int × Int × Int)) (x1_1 x1_2 x1_3 : Int) (hy1_1 : x1_3 < x1_2) (hy1_2 : 0 ≤ x1_3 ∧ x1_3 < (x1_0.length : Int)) (y1_3_ : Int × Int × Int × Int × Int) (hy1_3 : (some ((x1_0).getD (x1_3).toNat (0, 0, 0, 0, 0))) = some y1_3_) (hy1_4 : ¬ ((y1_3_.1) ≤ x1_1)) (hy1_5 : ¬ ((y1_3_.1) > (63 : Int))) (hy1_6 : ¬ ((y1_3_.2.1) < (0 : Int))) (hy1_7 : ¬ ((y1_3_.2.1) > (y1_3_.2.2.1))) (hy1_8 : ¬ ((y1_3_.2.2.2.1) < (0 : Int))) (hy1_9 : ¬ ((y1_3_.2.2.2.2) < (0 : Int))) : Q_dirtyCheckq3_1 rnd x1_0 x1_2 (x1_1, x1_3) (.normal, S_dirtyCheckq3_1 x1_0 x1_2 ((y1_3_.1), (w64 (x1_3 + (1 : Int))))) :=
 runC2 hm (L := lT []) ⟨[3, 9, 10, 11], [(0, 0, true)], 1, 1⟩ (zz 1 (xdT hy1_1) <|
zz 7 (xk7 0 U5 hy1_2) <|
yy 8 (.ld (Value.agg #[(i6 (y1_3_.1)), (i6 (y1_3_.2.1)), (i6 (y1_3_.2.2.1)), (i6 (y1_3_.2.2.2.1)), (i6 (y1_3_.2.2.2.2))])) <|
ww (p := rdT (layT (rows rw_iiiii x1_0)) 5 ((x1_3).toNat * 5) = some [(i6 (y1_3_.1)), (i6 (y1_3_.2.1)), (i6 (y1_3_.2.2.1)), (i6 (y1_3_.2.2.2.1)), (i6 (y1_3_.2.2.2.2))]) (rows_rdpN rwf_iiiii (0, 0, 0, 0, 0) (hr := hy1_3) (i := (x1_3).toNat) (j := 0) ((x1_3).toNat * 5) rfl (toNatLt hy1_2) (by decide) rfl) <|
zz 16 (xdF hy1_4) <|
zz 20 (xdF hy1_5) <|
zz 26 (xdF hy1_6) <|
zz 35 (xdF hy1_7) <|
zz 40 (xdF hy1_8) <|
zz 45 (xdF hy1_9) <|
ww (rows_flat rwf_iiiii x1_0 37) <|
ee) (by kernel_rfl)
theorem q_dirtyCheckq3_1_7 (n : Nat) {rnd : Option Nat} (x1_0 : List (Int × Int × Int × Int × Int)) (x1_1 x1_2 x1_3 : Int) (hy1_1 : ¬ (x1_3 < x1_2)) : Q_dirtyCheckq3_1 rnd x1_0 x1_2 (x1_1, x1_3) (X_dirtyCheckq3_1 x1_0 x1_2 (.inr ())) :=
 runC2 hm (L := lT []) ⟨[], [(0, 0, true)], 1, 1⟩ (zz 1 (xdF hy1_1) <|
ww (rows_flat rwf_iiiii x1_0 37) <|
ee) (by kernel_rfl)
theorem m_dirtyCheckq3_1_ok (n : Nat) {rnd : Option Nat} (x1_0 : List (Int × Int × Int × Int × Int)) (x1_2 : Int) (st : Int × Int) (r : (Unit) ⊕ (Unit)) (h : m_dirtyCheckq3_1 n x1_0 x1_2 st = some r) : CG P rnd (fnN P 17) 1 (codeOf P 17 [false, true, false, true, true, true]) (S_dirtyCheckq3_1 x1_0 x1_2 st) (X_dirtyCheckq3_1 x1_0 x1_2 r) :=
 CG.iter (b := codeOf P 17 [false, false, true, false, true, true, true]) (by kernel_rfl) (body := B_dirtyCheckq3_1 n x1_0 x1_2) (S := S_dirtyCheckq3_1 x1_0 x1_2) (X := X_dirtyCheckq3_1 x1_0 x1_2)
  (fun s s' h => by
  obtain ⟨x1_1, x1_3⟩ := s
  unfold B_dirtyCheckq3_1 at h
  dsimp only at h
  by_cases hy1_1 : x1_3 < x1_2
  ·rw [if_pos hy1_1] at h
   by_cases hy1_2 : 0 ≤ x1_3 ∧ x1_3 < (x1_0.length : Int)
   ·rw [if_pos hy1_2] at h
    obtain ⟨y1_3_, hy1_3, h⟩ := Option.bind_eq_some_iff.1 h
    by_cases hy1_4 : (y1_3_.1) ≤ x1_1
    ·rw [if_pos hy1_4] at h
     cases h
    ·rw [if_neg hy1_4] at h
     by_cases hy1_5 : (y1_3_.1) > (63 : Int)
     ·rw [if_pos hy1_5] at h
      cases h
     ·rw [if_neg hy1_5] at h
      by_cases hy1_6 : (y1_3_.2.1) < (0 : Int)
      ·rw [if_pos hy1_6] at h
       cases h
      ·rw [if_neg hy1_6] at h
       by_cases hy1_7 : (y1_3_.2.1) > (y1_3_.2.2.1)
       ·rw [if_pos hy1_7] at h
        cases h
       ·rw [if_neg hy1_7] at h
        by_cases hy1_8 : (y1_3_.2.2.2.1) < (0 : Int)
        ·rw [if_pos hy1_8] at h
         cases h
        ·rw [if_neg hy1_8] at h
         by_cases hy1_9 : (y1_3_.2.2.2.2) < (0 : Int)
         ·rw [if_pos hy1_9] at h
          cases h
         ·rw [if_neg hy1_9] at h
          obtain rfl := Sum.inl.inj (oI h); exact q_dirtyCheckq3_1_6 n x1_0 x1_1 x1_2 x1_3 hy1_1 hy1_2 y1_3_ hy1_3 hy1_4 hy1_5 hy1_6 hy1_7 hy1_8 hy1_9
   ·rw [if_neg hy1_2] at h; cases h
  ·rw [if_neg hy1_1] at h
   cases h)
  (fun s r h => by
  obtain ⟨x1_1, x1_3⟩ := s
  unfold B_dirtyCheckq3_1 at h
  dsimp only at h
  by_cases hy1_1 : x1_3 < x1_2
  ·rw [if_pos hy1_1] at h
   by_cases hy1_2 : 0 ≤ x1_3 ∧ x1_3 < (x1_0.length : Int)
   ·rw [if_pos hy1_2] at h
    obtain ⟨y1_3_, hy1_3, h⟩ := Option.bind_eq_some_iff.1 h
    by_cases hy1_4 : (y1_3_.1) ≤ x1_1
    ·rw [if_pos hy1_4] at h
     obtain rfl := Sum.inr.inj (oI h); exact q_dirtyCheckq3_1_0 n x1_0 x1_1 x1_2 x1_3 hy1_1 hy1_2 y1_3_ hy1_3 hy1_4
    ·rw [if_neg hy1_4] at h
     by_cases hy1_5 : (y1_3_.1) > (63 : Int)
     ·rw [if_pos hy1_5] at h
      obtain rfl := Sum.inr.inj (oI h); exact q_dirtyCheckq3_1_1 n x1_0 x1_1 x1_2 x1_3 hy1_1 hy1_2 y1_3_ hy1_3 hy1_4 hy1_5
     ·rw [if_neg hy1_5] at h
      by_cases hy1_6 : (y1_3_.2.1) < (0 : Int)
      ·rw [if_pos hy1_6] at h
       obtain rfl := Sum.inr.inj (oI h); exact q_dirtyCheckq3_1_2 n x1_0 x1_1 x1_2 x1_3 hy1_1 hy1_2 y1_3_ hy1_3 hy1_4 hy1_5 hy1_6
      ·rw [if_neg hy1_6] at h
       by_cases hy1_7 : (y1_3_.2.1) > (y1_3_.2.2.1)
       ·rw [if_pos hy1_7] at h
        obtain rfl := Sum.inr.inj (oI h); exact q_dirtyCheckq3_1_3 n x1_0 x1_1 x1_2 x1_3 hy1_1 hy1_2 y1_3_ hy1_3 hy1_4 hy1_5 hy1_6 hy1_7
       ·rw [if_neg hy1_7] at h
        by_cases hy1_8 : (y1_3_.2.2.2.1) < (0 : Int)
        ·rw [if_pos hy1_8] at h
         obtain rfl := Sum.inr.inj (oI h); exact q_dirtyCheckq3_1_4 n x1_0 x1_1 x1_2 x1_3 hy1_1 hy1_2 y1_3_ hy1_3 hy1_4 hy1_5 hy1_6 hy1_7 hy1_8
        ·rw [if_neg hy1_8] at h
         by_cases hy1_9 : (y1_3_.2.2.2.2) < (0 : Int)
         ·rw [if_pos hy1_9] at h
          obtain rfl := Sum.inr.inj (oI h); exact q_dirtyCheckq3_1_5 n x1_0 x1_1 x1_2 x1_3 hy1_1 hy1_2 y1_3_ hy1_3 hy1_4 hy1_5 hy1_6 hy1_7 hy1_8 hy1_9
         ·rw [if_neg hy1_9] at h
          cases h
   ·rw [if_neg hy1_2] at h; cases h
  ·rw [if_neg hy1_1] at h
   obtain rfl := Sum.inr.inj (oI h); exact q_dirtyCheckq3_1_7 n x1_0 x1_1 x1_2 x1_3 hy1_1)
  (fun r => by intro hx; rcases r with _ | _ <;> cases hx) h
def m_dirtyCheckq3 (n : Nat) (a0 : List (Int × Int × Int × Int × Int)) : Option (Int) :=
 if (a0.length : Int) > (32 : Int) then
  some 2
 else
  match m_dirtyCheckq3_1 n a0 (a0.length : Int) ((-1), 0) with
  | none => none
  | some (.inl _) =>
   some 2
  | some (.inr _) =>
   some 0
theorem m_dirtyCheckq3_ok (n : Nat) (a0 : List (Int × Int × Int × Int × Int)) (r : Int) (h : m_dirtyCheckq3 n a0 = some r) : Gv P (.func 17) (A_dirtyCheckq3 a0) (H_dirtyCheckq3 a0) (V_dirtyCheckq3 a0 r) (R_dirtyCheckq3 a0 r) := by
 unfold m_dirtyCheckq3 at h
 by_cases hc1 : (a0.length : Int) > (32 : Int)
 ·rw [if_pos hc1] at h
  obtain rfl := oI h; exact (runF2 hm (L := lT []) ⟨[2], [], 1, 1⟩ (zz 6 (xdT hc1) ee) (by kernel_rfl))
 ·rw [if_neg hc1] at h
  rcases hc2 : m_dirtyCheckq3_1 n a0 (a0.length : Int) ((-1), 0) with _ | (⟨⟩ | ⟨⟩)
  ·rw [hc2] at h; cases h
  ·rw [hc2] at h
   dsimp only at h
   obtain rfl := oI h; exact (runF2 hm (L := lT [(16, ⟨⟨[3, 9, 10, 11], [(0, 0, true)], 1, 1⟩, (X_dirtyCheckq3_1 a0 (a0.length : Int) (.inl ())).1, (X_dirtyCheckq3_1 a0 (a0.length : Int) (.inl ())).2⟩)]) ⟨[2], [], 1, 1⟩ (zz 6 (xdF hc1) <|
ww (p := U_dirtyCheckq3_1 none a0 (a0.length : Int) ((-1), 0) (.inl ())) (m_dirtyCheckq3_1_ok n a0 (a0.length : Int) ((-1), 0) (.inl ()) hc2) <|
ww (rows_flat rwf_iiiii a0 37) ee) (by kernel_rfl))
  ·rw [hc2] at h
   dsimp only at h
   obtain rfl := oI h; exact (runF2 hm (L := lT [(16, ⟨⟨[3, 9, 10, 11], [(0, 0, true)], 1, 1⟩, (X_dirtyCheckq3_1 a0 (a0.length : Int) (.inr ())).1, (X_dirtyCheckq3_1 a0 (a0.length : Int) (.inr ())).2⟩)]) ⟨[2], [], 1, 1⟩ (zz 6 (xdF hc1) <|
ww (p := U_dirtyCheckq3_1 none a0 (a0.length : Int) ((-1), 0) (.inr ())) (m_dirtyCheckq3_1_ok n a0 (a0.length : Int) ((-1), 0) (.inr ()) hc2) <|
ww (rows_flat rwf_iiiii a0 37) ee) (by kernel_rfl))


end Go.Proofs.Ytpbaplmodomfeaa.jbo24
