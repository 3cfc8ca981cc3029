/-
  What functions do, told by pure functions. No condition.
-/
import Derived.Test.YtfanipihhgbahaaJbsATold
set_option linter.unusedSimpArgs false
set_option linter.unusedVariables false
set_option linter.unusedSectionVars false
set_option linter.unnecessarySimpa false
set_option maxRecDepth 100000
noncomputable section
namespace Go.Proofs.Ytfanipihhgbahaa.jbs24
open Go Go.Proofs.Ytfanipihhgbahaa Ax
variable [Args]
def A_heapHeapapiDirtyPutq1 (a0 : Int) (a1 : Int) (a2 : Int) (a3 : Int) (a4 : Int) (a5 : Int) (a6 : Int) (a7 : Int) (a8 : Int) : List Value := [(pN 0 0), (Value.agg #[(i6 a4), (i6 a5), (i6 a6), (i6 a7), (i6 a8)])]
def H_heapHeapapiDirtyPutq1 (a0 : Int) (a1 : Int) (a2 : Int) (a3 : Int) (a4 : Int) (a5 : Int) (a6 : Int) (a7 : Int) (a8 : Int) : AH := ⟨sB [(0, (some (.cells (layT [(pN 0 0), (Value.func (.func 21) #[] #[(pN 1 0), (pN 2 0)]), (Value.slice none 0 0), (i6 a3)]) 61))), (1, (some (.cells (layT [(i6 a0)]) 3))), (2, (some (.cells (layT [(i6 a1), (i6 a2)]) 29)))], 3, 3⟩
def V_heapHeapapiDirtyPutq1 (a0 : Int) (a1 : Int) (a2 : Int) (a3 : Int) (a4 : Int) (a5 : Int) (a6 : Int) (a7 : Int) (a8 : Int) (r : List R6) : Value := match r with
 | o0 => (Value.tuple #[])
def R_heapHeapapiDirtyPutq1 (a0 : Int) (a1 : Int) (a2 : Int) (a3 : Int) (a4 : Int) (a5 : Int) (a6 : Int) (a7 : Int) (a8 : Int) (r : List R6) : AH := match r with
 | o0 => ⟨sB [(0, (some (.cells (layT [(pN 0 0), (Value.func (.func 21) #[] #[(pN 1 0), (pN 2 0)]), (sN 3 0 1 (Nat.add big 6)), (i6 (w64 (a3 + (1 : Int))))]) 61))), (1, (some (.cells (layT [(i6 a0)]) 3))), (2, (some (.cells (layT [(i6 a1), (i6 a2)]) 29))), (3, (some (.cells (layT (rows rw_iiiiii o0)) 58)))], 4, 0⟩
abbrev G_heapHeapapiDirtyPutq1 (a0 : Int) (a1 : Int) (a2 : Int) (a3 : Int) (a4 : Int) (a5 : Int) (a6 : Int) (a7 : Int) (a8 : Int) (r : List R6) : Prop := Gv P (.func 19) (A_heapHeapapiDirtyPutq1 a0 a1 a2 a3 a4 a5 a6 a7 a8) (H_heapHeapapiDirtyPutq1 a0 a1 a2 a3 a4 a5 a6 a7 a8) (V_heapHeapapiDirtyPutq1 a0 a1 a2 a3 a4 a5 a6 a7 a8 r) (R_heapHeapapiDirtyPutq1 a0 a1 a2 a3 a4 a5 a6 a7 a8 r)
abbrev C_heapHeapapiDirtyPutq1 (a0 : Int) (a1 : Int) (a2 : Int) (a3 : Int) (a4 : Int) (a5 : Int) (a6 : Int) (a7 : Int) (a8 : Int) (r : List R6) (ins outs : BL) : CallA := ⟨3, ins, V_heapHeapapiDirtyPutq1 a0 a1 a2 a3 a4 a5 a6 a7 a8 r, R_heapHeapapiDirtyPutq1 a0 a1 a2 a3 a4 a5 a6 a7 a8 r, outs⟩
def m_heapHeapapiDirtyPutq1 (n : Nat) (a0 : Int) (a1 : Int) (a2 : Int) (a3 : Int) (a4 : Int) (a5 : Int) (a6 : Int) (a7 : Int) (a8 : Int) : Option (List R6) :=
 (m_heapHeapapiDirtyvalidq1 n a0 a1 a2 a3).bind fun _ =>
 (m_heapHeapapiDirtyupq1 n a0 a1 a2 [(a3, a4, a5, a6, a7, a8)] (w64 (a3 + (1 : Int))) 0).bind fun c2_ =>
 some c2_
theorem m_heapHeapapiDirtyPutq1_ok (n : Nat) (a0 : Int) (a1 : Int) (a2 : Int) (a3 : Int) (a4 : Int) (a5 : Int) (a6 : Int) (a7 : Int) (a8 : Int) (r : List R6) (h : m_heapHeapapiDirtyPutq1 n a0 a1 a2 a3 a4 a5 a6 a7 a8 = some r) : Gv P (.func 19) (A_heapHeapapiDirtyPutq1 a0 a1 a2 a3 a4 a5 a6 a7 a8) (H_heapHeapapiDirtyPutq1 a0 a1 a2 a3 a4 a5 a6 a7 a8) (V_heapHeapapiDirtyPutq1 a0 a1 a2 a3 a4 a5 a6 a7 a8 r) (R_heapHeapapiDirtyPutq1 a0 a1 a2 a3 a4 a5 a6 a7 a8 r) := by
 unfold m_heapHeapapiDirtyPutq1 at h
 obtain ⟨_, hc1, h⟩ := Option.bind_eq_some_iff.1 h
 obtain ⟨c2_, hc2, h⟩ := Option.bind_eq_some_iff.1 h
 obtain rfl := oI h; exact (runF2 hm (L := lT []) ⟨[], [(0, 0, false), (1, 1, false), (2, 2, false), (3, 17, true)], 4, 0⟩ (yy 5 (.call (C_heapHeapapiDirtyvalidq1 a0 a1 a2 a3 () [(0, 0, false), (1, 1, false), (2, 2, false)] [])) <|
ww (m_heapHeapapiDirtyvalidq1_ok n a0 a1 a2 a3 () hc1) <|
yy 42 (.call (C_heapHeapapiDirtyupq1 a0 a1 a2 [(a3, a4, a5, a6, a7, a8)] (w64 (a3 + (1 : Int))) 0 c2_ [(0, 0, false), (1, 1, false), (2, 2, false), (3, 17, false)] [(17, 3, true)])) <|
ww (m_heapHeapapiDirtyupq1_ok n a0 a1 a2 [(a3, a4, a5, a6, a7, a8)] (w64 (a3 + (1 : Int))) 0 c2_ hc2) <|
ww (rows_flat rwf_iiiiii c2_ 58) <|
ww (rows_flat rwf_iiiiii c2_ 58) ee) (by kernel_rfl))

def A_heapHeapapiDirtyvalidq2 (a0 : Int) (a1 : Int) (a2 : Int) (a3 : List R6) (a4 : Int) : List Value := [(pN 0 0)]
def H_heapHeapapiDirtyvalidq2 (a0 : Int) (a1 : Int) (a2 : Int) (a3 : List R6) (a4 : Int) : AH := ⟨sB [(0, (some (.cells (layT [(pN 0 0), (Value.func (.func 21) #[] #[(pN 1 0), (pN 2 0)]), (sN 3 0 (a3).length (Nat.add big 6)), (i6 a4)]) 61))), (1, (some (.cells (layT [(i6 a0)]) 3))), (2, (some (.cells (layT [(i6 a1), (i6 a2)]) 29))), (3, (some (.cells (layT (rows rw_iiiiii a3)) 58)))], 4, 4⟩
def V_heapHeapapiDirtyvalidq2 (a0 : Int) (a1 : Int) (a2 : Int) (a3 : List R6) (a4 : Int) (r : Unit) : Value := match r with
 | _ => (bO true)
def R_heapHeapapiDirtyvalidq2 (a0 : Int) (a1 : Int) (a2 : Int) (a3 : List R6) (a4 : Int) (r : Unit) : AH := match r with
 | _ => ⟨sB [], 4, 4⟩
abbrev G_heapHeapapiDirtyvalidq2 (a0 : Int) (a1 : Int) (a2 : Int) (a3 : List R6) (a4 : Int) (r : Unit) : Prop := Gv P (.func 26) (A_heapHeapapiDirtyvalidq2 a0 a1 a2 a3 a4) (H_heapHeapapiDirtyvalidq2 a0 a1 a2 a3 a4) (V_heapHeapapiDirtyvalidq2 a0 a1 a2 a3 a4 r) (R_heapHeapapiDirtyvalidq2 a0 a1 a2 a3 a4 r)
abbrev C_heapHeapapiDirtyvalidq2 (a0 : Int) (a1 : Int) (a2 : Int) (a3 : List R6) (a4 : Int) (r : Unit) (ins outs : BL) : CallA := ⟨4, ins, V_heapHeapapiDirtyvalidq2 a0 a1 a2 a3 a4 r, R_heapHeapapiDirtyvalidq2 a0 a1 a2 a3 a4 r, outs⟩
def m_heapHeapapiDirtyvalidq2 (n : Nat) (a0 : Int) (a1 : Int) (a2 : Int) (a3 : List R6) (a4 : Int) : Option (Unit) :=
 some ()
theorem m_heapHeapapiDirtyvalidq2_ok (n : Nat) (a0 : Int) (a1 : Int) (a2 : Int) (a3 : List R6) (a4 : Int) (r : Unit) (h : m_heapHeapapiDirtyvalidq2 n a0 a1 a2 a3 a4 = some r) : Gv P (.func 26) (A_heapHeapapiDirtyvalidq2 a0 a1 a2 a3 a4) (H_heapHeapapiDirtyvalidq2 a0 a1 a2 a3 a4) (V_heapHeapapiDirtyvalidq2 a0 a1 a2 a3 a4 r) (R_heapHeapapiDirtyvalidq2 a0 a1 a2 a3 a4 r) := by
 unfold m_heapHeapapiDirtyvalidq2 at h
 obtain rfl := oI h; exact (runF2 hm (L := lT []) ⟨[2], [], 4, 4⟩ (ee) (by kernel_rfl))

def A_heapHeapapiDirtyPutq2 (a0 : Int) (a1 : Int) (a2 : Int) (a3 : List R6) (a4 : Int) (a5 : Int) (a6 : Int) (a7 : Int) (a8 : Int) (a9 : Int) : List Value := [(pN 0 0), (Value.agg #[(i6 a5), (i6 a6), (i6 a7), (i6 a8), (i6 a9)])]
def H_heapHeapapiDirtyPutq2 (a0 : Int) (a1 : Int) (a2 : Int) (a3 : List R6) (a4 : Int) (a5 : Int) (a6 : Int) (a7 : Int) (a8 : Int) (a9 : Int) : AH := ⟨sB [(0, (some (.cells (layT [(pN 0 0), (Value.func (.func 21) #[] #[(pN 1 0), (pN 2 0)]), (sN 3 0 (a3).length (Nat.add big 6)), (i6 a4)]) 61))), (1, (some (.cells (layT [(i6 a0)]) 3))), (2, (some (.cells (layT [(i6 a1), (i6 a2)]) 29))), (3, (some (.cells (layT (rows rw_iiiiii a3)) 58)))], 4, 4⟩
def V_heapHeapapiDirtyPutq2 (a0 : Int) (a1 : Int) (a2 : Int) (a3 : List R6) (a4 : Int) (a5 : Int) (a6 : Int) (a7 : Int) (a8 : Int) (a9 : Int) (r : List R6) : Value := match r with
 | o0 => (Value.tuple #[])
def R_heapHeapapiDirtyPutq2 (a0 : Int) (a1 : Int) (a2 : Int) (a3 : List R6) (a4 : Int) (a5 : Int) (a6 : Int) (a7 : Int) (a8 : Int) (a9 : Int) (r : List R6) : AH := match r with
 | o0 => ⟨sB [(0, (some (.cells (layT [(pN 0 0), (Value.func (.func 21) #[] #[(pN 1 0), (pN 2 0)]), (sN 4 0 ((a3 ++ [(a4, a5, a6, a7, a8, a9)])).length (Nat.add big 6)), (i6 (w64 (a4 + (1 : Int))))]) 61))), (1, (some (.cells (layT [(i6 a0)]) 3))), (2, (some (.cells (layT [(i6 a1), (i6 a2)]) 29))), (4, (some (.cells (layT (rows rw_iiiiii o0)) 58)))], 5, 0⟩
abbrev G_heapHeapapiDirtyPutq2 (a0 : Int) (a1 : Int) (a2 : Int) (a3 : List R6) (a4 : Int) (a5 : Int) (a6 : Int) (a7 : Int) (a8 : Int) (a9 : Int) (r : List R6) : Prop := Gv P (.func 19) (A_heapHeapapiDirtyPutq2 a0 a1 a2 a3 a4 a5 a6 a7 a8 a9) (H_heapHeapapiDirtyPutq2 a0 a1 a2 a3 a4 a5 a6 a7 a8 a9) (V_heapHeapapiDirtyPutq2 a0 a1 a2 a3 a4 a5 a6 a7 a8 a9 r) (R_heapHeapapiDirtyPutq2 a0 a1 a2 a3 a4 a5 a6 a7 a8 a9 r)
abbrev C_heapHeapapiDirtyPutq2 (a0 : Int) (a1 : Int) (a2 : Int) (a3 : List R6) (a4 : Int) (a5 : Int) (a6 : Int) (a7 : Int) (a8 : Int) (a9 : Int) (r : List R6) (ins outs : BL) : CallA := ⟨4, ins, V_heapHeapapiDirtyPutq2 a0 a1 a2 a3 a4 a5 a6 a7 a8 a9 r, R_heapHeapapiDirtyPutq2 a0 a1 a2 a3 a4 a5 a6 a7 a8 a9 r, outs⟩
def m_heapHeapapiDirtyPutq2 (n : Nat) (a0 : Int) (a1 : Int) (a2 : Int) (a3 : List R6) (a4 : Int) (a5 : Int) (a6 : Int) (a7 : Int) (a8 : Int) (a9 : Int) : Option (List R6) :=
 (m_heapHeapapiDirtyvalidq2 n a0 a1 a2 a3 a4).bind fun _ =>
 if ((a3).length + 1) * 48 ≤ 140737488355328 then
  ((some (w64 (((((a3 ++ [(a4, a5, a6, a7, a8, a9)])).length : Nat) : Int) - (1 : Int))))).bind fun c3_ =>
  (m_heapHeapapiDirtyupq1 n a0 a1 a2 (a3 ++ [(a4, a5, a6, a7, a8, a9)]) (w64 (a4 + (1 : Int))) c3_).bind fun c4_ =>
  some c4_
 else none
theorem m_heapHeapapiDirtyPutq2_ok (n : Nat) (a0 : Int) (a1 : Int) (a2 : Int) (a3 : List R6) (a4 : Int) (a5 : Int) (a6 : Int) (a7 : Int) (a8 : Int) (a9 : Int) (r : List R6) (h : m_heapHeapapiDirtyPutq2 n a0 a1 a2 a3 a4 a5 a6 a7 a8 a9 = some r) : Gv P (.func 19) (A_heapHeapapiDirtyPutq2 a0 a1 a2 a3 a4 a5 a6 a7 a8 a9) (H_heapHeapapiDirtyPutq2 a0 a1 a2 a3 a4 a5 a6 a7 a8 a9) (V_heapHeapapiDirtyPutq2 a0 a1 a2 a3 a4 a5 a6 a7 a8 a9 r) (R_heapHeapapiDirtyPutq2 a0 a1 a2 a3 a4 a5 a6 a7 a8 a9 r) := by
 unfold m_heapHeapapiDirtyPutq2 at h
 obtain ⟨_, hc1, h⟩ := Option.bind_eq_some_iff.1 h
 by_cases hc2 : ((a3).length + 1) * 48 ≤ 140737488355328
 ·rw [if_pos hc2] at h
  obtain ⟨c3_, hc3, h⟩ := Option.bind_eq_some_iff.1 h
  obtain ⟨c4_, hc4, h⟩ := Option.bind_eq_some_iff.1 h
  obtain rfl := oI h; exact (runF2 hm (L := lT []) ⟨[], [(0, 0, false), (1, 1, false), (2, 2, false), (4, 18, true)], 5, 0⟩ (yy 5 (.call (C_heapHeapapiDirtyvalidq2 a0 a1 a2 a3 a4 () [(0, 0, false), (1, 1, false), (2, 2, false), (3, 3, true)] [])) <|
ww (m_heapHeapapiDirtyvalidq2_ok n a0 a1 a2 a3 a4 () hc1) <|
ww (rows_flat rwf_iiiiii a3 58) <|
yy 22 (.app ⟨none, rows rw_iiiiii a3, (rows rw_iiiiii (a3 ++ [(a4, a5, a6, a7, a8, a9)])), ((a3 ++ [(a4, a5, a6, a7, a8, a9)])).length, false⟩) <|
ww (p := 0 < 1) ((by decide)) <|
ww (p := rdT (layT (rows rw_iiiiii a3)) (Nat.mul (a3).length 6) 0 = some (rows rw_iiiiii a3)) (rows_rd rwf_iiiiii _ _ rfl) <|
ww (p := fits (Nat.add (a3).length 1) 48 = true) (fits_ok hc2 (by have := hc2; show (_ : Nat) + _ ≤ _; omega)) <|
ww (p := allCells [(i6 a4), (i6 a5), (i6 a6), (i6 a7), (i6 a8), (i6 a9)] = true) (rfl) <|
ww (p := allCells (rows rw_iiiiii a3) = true) (rows_cells rwf_iiiiii _) <|
ww (p := rows rw_iiiiii a3 ++ [(i6 a4), (i6 a5), (i6 a6), (i6 a7), (i6 a8), (i6 a9)] = (rows rw_iiiiii (a3 ++ [(a4, a5, a6, a7, a8, a9)]))) (rows_app rw_iiiiii a3 [(a4, a5, a6, a7, a8, a9)]) <|
ww (p := Nat.add (a3).length 1 = ((a3 ++ [(a4, a5, a6, a7, a8, a9)])).length) (by simp) <|
zz 41 (xnm hc3) <|
yy 42 (.call (C_heapHeapapiDirtyupq1 a0 a1 a2 (a3 ++ [(a4, a5, a6, a7, a8, a9)]) (w64 (a4 + (1 : Int))) c3_ c4_ [(0, 0, false), (1, 1, false), (2, 2, false), (3, 18, true)] [(18, 3, true)])) <|
ww (m_heapHeapapiDirtyupq1_ok n a0 a1 a2 (a3 ++ [(a4, a5, a6, a7, a8, a9)]) (w64 (a4 + (1 : Int))) c3_ c4_ hc4) <|
ww (rows_flat rwf_iiiiii (a3 ++ [(a4, a5, a6, a7, a8, a9)]) 58) <|
ww (rows_flat rwf_iiiiii c4_ 58) <|
ww (rows_flat rwf_iiiiii c4_ 58) ee) (by kernel_rfl))
 ·rw [if_neg hc2] at h; cases h

def A_heapHeapapiDirtyvalidq3 (a0 : Int) (a1 : Int) (a2 : Int) (a3 : List R6) (a4 : Nat) (a5 : Int) : List Value := [(pN 0 0)]
def H_heapHeapapiDirtyvalidq3 (a0 : Int) (a1 : Int) (a2 : Int) (a3 : List R6) (a4 : Nat) (a5 : Int) : AH := ⟨sB [(0, (some (.cells (layT [(pN 0 0), (Value.func (.func 21) #[] #[(pN 1 0), (pN 2 0)]), (sN 3 0 a4 (Nat.add big 6)), (i6 a5)]) 61))), (1, (some (.cells (layT [(i6 a0)]) 3))), (2, (some (.cells (layT [(i6 a1), (i6 a2)]) 29))), (3, (some (.cells (layT (rows rw_iiiiii a3)) 58)))], 4, 4⟩
def V_heapHeapapiDirtyvalidq3 (a0 : Int) (a1 : Int) (a2 : Int) (a3 : List R6) (a4 : Nat) (a5 : Int) (r : Unit) : Value := match r with
 | _ => (bO true)
def R_heapHeapapiDirtyvalidq3 (a0 : Int) (a1 : Int) (a2 : Int) (a3 : List R6) (a4 : Nat) (a5 : Int) (r : Unit) : AH := match r with
 | _ => ⟨sB [], 4, 4⟩
abbrev G_heapHeapapiDirtyvalidq3 (a0 : Int) (a1 : Int) (a2 : Int) (a3 : List R6) (a4 : Nat) (a5 : Int) (r : Unit) : Prop := Gv P (.func 26) (A_heapHeapapiDirtyvalidq3 a0 a1 a2 a3 a4 a5) (H_heapHeapapiDirtyvalidq3 a0 a1 a2 a3 a4 a5) (V_heapHeapapiDirtyvalidq3 a0 a1 a2 a3 a4 a5 r) (R_heapHeapapiDirtyvalidq3 a0 a1 a2 a3 a4 a5 r)
abbrev C_heapHeapapiDirtyvalidq3 (a0 : Int) (a1 : Int) (a2 : Int) (a3 : List R6) (a4 : Nat) (a5 : Int) (r : Unit) (ins outs : BL) : CallA := ⟨4, ins, V_heapHeapapiDirtyvalidq3 a0 a1 a2 a3 a4 a5 r, R_heapHeapapiDirtyvalidq3 a0 a1 a2 a3 a4 a5 r, outs⟩
def m_heapHeapapiDirtyvalidq3 (n : Nat) (a0 : Int) (a1 : Int) (a2 : Int) (a3 : List R6) (a4 : Nat) (a5 : Int) : Option (Unit) :=
 some ()
theorem m_heapHeapapiDirtyvalidq3_ok (n : Nat) (a0 : Int) (a1 : Int) (a2 : Int) (a3 : List R6) (a4 : Nat) (a5 : Int) (r : Unit) (h : m_heapHeapapiDirtyvalidq3 n a0 a1 a2 a3 a4 a5 = some r) : Gv P (.func 26) (A_heapHeapapiDirtyvalidq3 a0 a1 a2 a3 a4 a5) (H_heapHeapapiDirtyvalidq3 a0 a1 a2 a3 a4 a5) (V_heapHeapapiDirtyvalidq3 a0 a1 a2 a3 a4 a5 r) (R_heapHeapapiDirtyvalidq3 a0 a1 a2 a3 a4 a5 r) := by
 unfold m_heapHeapapiDirtyvalidq3 at h
 obtain rfl := oI h; exact (runF2 hm (L := lT []) ⟨[2], [], 4, 4⟩ (ee) (by kernel_rfl))

def A_heapHeapapiDirtyPutq3 (a0 : Int) (a1 : Int) (a2 : Int) (a3 : List R6) (a4 : Nat) (a5 : Int) (a6 : Int) (a7 : Int) (a8 : Int) (a9 : Int) (a10 : Int) : List Value := [(pN 0 0), (Value.agg #[(i6 a6), (i6 a7), (i6 a8), (i6 a9), (i6 a10)])]
def H_heapHeapapiDirtyPutq3 (a0 : Int) (a1 : Int) (a2 : Int) (a3 : List R6) (a4 : Nat) (a5 : Int) (a6 : Int) (a7 : Int) (a8 : Int) (a9 : Int) (a10 : Int) : AH := ⟨sB [(0, (some (.cells (layT [(pN 0 0), (Value.func (.func 21) #[] #[(pN 1 0), (pN 2 0)]), (sN 3 0 a4 (Nat.add big 6)), (i6 a5)]) 61))), (1, (some (.cells (layT [(i6 a0)]) 3))), (2, (some (.cells (layT [(i6 a1), (i6 a2)]) 29))), (3, (some (.cells (layT (rows rw_iiiiii a3)) 58)))], 4, 4⟩
def V_heapHeapapiDirtyPutq3 (a0 : Int) (a1 : Int) (a2 : Int) (a3 : List R6) (a4 : Nat) (a5 : Int) (a6 : Int) (a7 : Int) (a8 : Int) (a9 : Int) (a10 : Int) (r : List R6 × Nat) : Value := match r with
 | (o0, o1) => (Value.tuple #[])
def R_heapHeapapiDirtyPutq3 (a0 : Int) (a1 : Int) (a2 : Int) (a3 : List R6) (a4 : Nat) (a5 : Int) (a6 : Int) (a7 : Int) (a8 : Int) (a9 : Int) (a10 : Int) (r : List R6 × Nat) : AH := match r with
 | (o0, o1) => ⟨sB [(0, (some (.cells (layT [(pN 0 0), (Value.func (.func 21) #[] #[(pN 1 0), (pN 2 0)]), (sN 4 0 o1 (Nat.add big 6)), (i6 (w64 (a5 + (1 : Int))))]) 61))), (1, (some (.cells (layT [(i6 a0)]) 3))), (2, (some (.cells (layT [(i6 a1), (i6 a2)]) 29))), (4, (some (.cells (layT (rows rw_iiiiii o0)) 58)))], 5, 0⟩
abbrev G_heapHeapapiDirtyPutq3 (a0 : Int) (a1 : Int) (a2 : Int) (a3 : List R6) (a4 : Nat) (a5 : Int) (a6 : Int) (a7 : Int) (a8 : Int) (a9 : Int) (a10 : Int) (r : List R6 × Nat) : Prop := Gv P (.func 19) (A_heapHeapapiDirtyPutq3 a0 a1 a2 a3 a4 a5 a6 a7 a8 a9 a10) (H_heapHeapapiDirtyPutq3 a0 a1 a2 a3 a4 a5 a6 a7 a8 a9 a10) (V_heapHeapapiDirtyPutq3 a0 a1 a2 a3 a4 a5 a6 a7 a8 a9 a10 r) (R_heapHeapapiDirtyPutq3 a0 a1 a2 a3 a4 a5 a6 a7 a8 a9 a10 r)
abbrev C_heapHeapapiDirtyPutq3 (a0 : Int) (a1 : Int) (a2 : Int) (a3 : List R6) (a4 : Nat) (a5 : Int) (a6 : Int) (a7 : Int) (a8 : Int) (a9 : Int) (a10 : Int) (r : List R6 × Nat) (ins outs : BL) : CallA := ⟨4, ins, V_heapHeapapiDirtyPutq3 a0 a1 a2 a3 a4 a5 a6 a7 a8 a9 a10 r, R_heapHeapapiDirtyPutq3 a0 a1 a2 a3 a4 a5 a6 a7 a8 a9 a10 r, outs⟩
def m_heapHeapapiDirtyPutq3 (n : Nat) (a0 : Int) (a1 : Int) (a2 : Int) (a3 : List R6) (a4 : Nat) (a5 : Int) (a6 : Int) (a7 : Int) (a8 : Int) (a9 : Int) (a10 : Int) : Option (List R6 × Nat) :=
 (m_heapHeapapiDirtyvalidq3 n a0 a1 a2 a3 a4 a5).bind fun _ =>
 if a4 ≤ (a3).length then
  if (a4 + 1) * 48 ≤ 140737488355328 then
   ((some (w64 ((((((List.take a4 a3) ++ [(a5, a6, a7, a8, a9, a10)])).length : Nat) : Int) - (1 : Int))))).bind fun c4_ =>
   (m_heapHeapapiDirtyupq1 n a0 a1 a2 ((List.take a4 a3) ++ [(a5, a6, a7, a8, a9, a10)]) (w64 (a5 + (1 : Int))) c4_).bind fun c5_ =>
   some (c5_, ((((List.take a4 a3) ++ [(a5, a6, a7, a8, a9, a10)])).length))
  else none
 else none
theorem p_heapHeapapiDirtyPutq3_0 (n : Nat) (a0 a1 a2 : Int) (a3 : List R6) (a4 : Nat) (a5 a6 a7 a8 a9 a10 : Int) (hc1 : m_heapHeapapiDirtyvalidq3 n a0 a1 a2 a3 a4 a5 = some ()) (hc2 : a4 ≤ (a3).length) (hc3 : (a4 + 1) * 48 ≤ 140737488355328) (c4_ : Int) (hc4 : (some (w64 ((((((List.take a4 a3) ++ [(a5, a6, a7, a8, a9, a10)])).length : Nat) : Int) - (1 : Int)))) = some c4_) (c5_ : List R6) (hc5 : m_heapHeapapiDirtyupq1 n a0 a1 a2 ((List.take a4 a3) ++ [(a5, a6, a7, a8, a9, a10)]) (w64 (a5 + (1 : Int))) c4_ = some c5_) : G_heapHeapapiDirtyPutq3 a0 a1 a2 a3 a4 a5 a6 a7 a8 a9 a10 (c5_, ((((List.take a4 a3) ++ [(a5, a6, a7, a8, a9, a10)])).length)) :=
 by
 obtain ⟨za, zt, hz⟩ : ∃ a t, ((List.take a4 a3) ++ [(a5, a6, a7, a8, a9, a10)]) = a :: t := snoc_cons (List.take a4 a3) (a5, a6, a7, a8, a9, a10)
 rw [hz]
 rw [hz] at hc4 hc5
 exact runF2 hm (L := lT []) ⟨[], [(0, 0, false), (1, 1, false), (2, 2, false), (4, 18, true)], 5, 0⟩ (yy 5 (.call (C_heapHeapapiDirtyvalidq3 a0 a1 a2 a3 a4 a5 () [(0, 0, false), (1, 1, false), (2, 2, false), (3, 3, true)] [])) <|
ww (m_heapHeapapiDirtyvalidq3_ok n a0 a1 a2 a3 a4 a5 () hc1) <|
ww (rows_flat rwf_iiiiii a3 58) <|
yy 22 (.app ⟨none, rows rw_iiiiii (List.take a4 a3), (rows rw_iiiiii (za :: zt)), ((za :: zt)).length, false⟩) <|
ww (p := 0 < 1) ((by decide)) <|
ww (p := rdT (layT (rows rw_iiiiii a3)) (Nat.mul a4 6) 0 = some (rows rw_iiiiii (List.take a4 a3))) (rows_rdTake rwf_iiiiii _ _ hc2) <|
ww (p := fits (Nat.add a4 1) 48 = true) (fits_ok hc3 (by have := hc3; show (_ : Nat) + _ ≤ _; omega)) <|
ww (p := allCells [(i6 a5), (i6 a6), (i6 a7), (i6 a8), (i6 a9), (i6 a10)] = true) (rfl) <|
ww (p := allCells (rows rw_iiiiii (List.take a4 a3)) = true) (rows_cells rwf_iiiiii _) <|
ww (p := rows rw_iiiiii (List.take a4 a3) ++ [(i6 a5), (i6 a6), (i6 a7), (i6 a8), (i6 a9), (i6 a10)] = (rows rw_iiiiii (za :: zt))) (by rw [← hz]; exact (rows_app rw_iiiiii (List.take a4 a3) [(a5, a6, a7, a8, a9, a10)])) <|
ww (p := Nat.add a4 1 = ((za :: zt)).length) (by rw [← hz]; exact (take_len hc2 rfl)) <|
zz 41 (xnm hc4) <|
yy 42 (.call (C_heapHeapapiDirtyupq1 a0 a1 a2 (za :: zt) (w64 (a5 + (1 : Int))) c4_ c5_ [(0, 0, false), (1, 1, false), (2, 2, false), (3, 18, true)] [(18, 3, true)])) <|
ww (m_heapHeapapiDirtyupq1_ok n a0 a1 a2 (za :: zt) (w64 (a5 + (1 : Int))) c4_ c5_ hc5) <|
ww (rows_flat rwf_iiiiii (za :: zt) 58) <|
ww (rows_flat rwf_iiiiii c5_ 58) <|
ww (rows_flat rwf_iiiiii c5_ 58) <|
ee) (by kernel_rfl)
theorem m_heapHeapapiDirtyPutq3_ok (n : Nat) (a0 : Int) (a1 : Int) (a2 : Int) (a3 : List R6) (a4 : Nat) (a5 : Int) (a6 : Int) (a7 : Int) (a8 : Int) (a9 : Int) (a10 : Int) (r : List R6 × Nat) (h : m_heapHeapapiDirtyPutq3 n a0 a1 a2 a3 a4 a5 a6 a7 a8 a9 a10 = some r) : Gv P (.func 19) (A_heapHeapapiDirtyPutq3 a0 a1 a2 a3 a4 a5 a6 a7 a8 a9 a10) (H_heapHeapapiDirtyPutq3 a0 a1 a2 a3 a4 a5 a6 a7 a8 a9 a10) (V_heapHeapapiDirtyPutq3 a0 a1 a2 a3 a4 a5 a6 a7 a8 a9 a10 r) (R_heapHeapapiDirtyPutq3 a0 a1 a2 a3 a4 a5 a6 a7 a8 a9 a10 r) := by
 unfold m_heapHeapapiDirtyPutq3 at h
 obtain ⟨_, hc1, h⟩ := Option.bind_eq_some_iff.1 h
 by_cases hc2 : a4 ≤ (a3).length
 ·rw [if_pos hc2] at h
  by_cases hc3 : (a4 + 1) * 48 ≤ 140737488355328
  ·rw [if_pos hc3] at h
   obtain ⟨c4_, hc4, h⟩ := Option.bind_eq_some_iff.1 h
   obtain ⟨c5_, hc5, h⟩ := Option.bind_eq_some_iff.1 h
   obtain rfl := oI h; exact p_heapHeapapiDirtyPutq3_0 n a0 a1 a2 a3 a4 a5 a6 a7 a8 a9 a10 hc1 hc2 hc3 c4_ hc4 c5_ hc5
  ·rw [if_neg hc3] at h; cases h
 ·rw [if_neg hc2] at h; cases h

def A_jobsqueueq1 (a0 : List (Int × Int × Int × Int × Int)) (a1 : Nat) (a2 : Int) (a3 : Int) (a4 : Int) : List Value := [(sN 0 0 a1 (Nat.add big 5)), (Value.agg #[(i6 a2), (i6 a3)]), (i6 a4)]
def H_jobsqueueq1 (a0 : List (Int × Int × Int × Int × Int)) (a1 : Nat) (a2 : Int) (a3 : Int) (a4 : Int) : AH := ⟨sB [(0, (some (.cells (layT (rows rw_iiiii a0)) 31)))], 1, 1⟩
def V_jobsqueueq1 (a0 : List (Int × Int × Int × Int × Int)) (a1 : Nat) (a2 : Int) (a3 : Int) (a4 : Int) (r : List R6 × Nat × Int) : Value := match r with
 | (o0, o1, o2) => (pN 1 0)
def R_jobsqueueq1 (a0 : List (Int × Int × Int × Int × Int)) (a1 : Nat) (a2 : Int) (a3 : Int) (a4 : Int) (r : List R6 × Nat × Int) : AH := match r with
 | (o0, o1, o2) => ⟨sB [(1, (some (.cells (layT [(pN 1 0), (Value.func (.func 21) #[] #[(pN 2 0), (pN 3 0)]), (slQ o0 4 o1 6), (i6 o2)]) 61))), (2, (some (.cells (layT [(i6 a4)]) 3))), (3, (some (.cells (layT [(i6 a2), (i6 a3)]) 29))), (4, (nblkR rw_iiiiii o0 58))], 5, 1⟩
abbrev G_jobsqueueq1 (a0 : List (Int × Int × Int × Int × Int)) (a1 : Nat) (a2 : Int) (a3 : Int) (a4 : Int) (r : List R6 × Nat × Int) : Prop := Gv P (.func 12) (A_jobsqueueq1 a0 a1 a2 a3 a4) (H_jobsqueueq1 a0 a1 a2 a3 a4) (V_jobsqueueq1 a0 a1 a2 a3 a4 r) (R_jobsqueueq1 a0 a1 a2 a3 a4 r)
abbrev C_jobsqueueq1 (a0 : List (Int × Int × Int × Int × Int)) (a1 : Nat) (a2 : Int) (a3 : Int) (a4 : Int) (r : List R6 × Nat × Int) (ins outs : BL) : CallA := ⟨1, ins, V_jobsqueueq1 a0 a1 a2 a3 a4 r, R_jobsqueueq1 a0 a1 a2 a3 a4 r, outs⟩
def S_jobsqueueq1_1 (x1_0 : List (Int × Int × Int × Int × Int)) (x1_1 : Int) (x1_2 : Int) (x1_3 : Int) (x1_7 : Nat) (x1_8 : Int) (st : List R6 × Nat × Int × Int) : XSt := match st with
 | (x1_4, x1_5, x1_6, x1_9) => (sT 29 [(7, (pN 1 0)), (18, (sN 0 0 x1_7 (Nat.add big 5))), (19, (i6 x1_8)), (20, (i6 x1_9))], [], ⟨sB [(0, (some (.cells (layT (rows rw_iiiii x1_0)) 31))), (1, (some (.cells (layT [(pN 1 0), (Value.func (.func 21) #[] #[(pN 2 0), (pN 3 0)]), (slQ x1_4 4 x1_5 6), (i6 x1_6)]) 61))), (2, (some (.cells (layT [(i6 x1_1)]) 3))), (3, (some (.cells (layT [(i6 x1_2), (i6 x1_3)]) 29))), (4, (nblkR rw_iiiiii x1_4 58))], 5, 1⟩)
def X_jobsqueueq1_1 (x1_0 : List (Int × Int × Int × Int × Int)) (x1_1 : Int) (x1_2 : Int) (x1_3 : Int) (x1_7 : Nat) (x1_8 : Int) (r : List R6 × Nat × Int) : Ex × XSt := match r with
 | (z1_0, z1_1, z1_2) => (.exit 0, (sT 29 [(7, (pN 1 0))], [], ⟨sB [(0, (some (.cells (layT (rows rw_iiiii x1_0)) 31))), (1, (some (.cells (layT [(pN 1 0), (Value.func (.func 21) #[] #[(pN 2 0), (pN 3 0)]), (slQ z1_0 4 z1_1 6), (i6 z1_2)]) 61))), (2, (some (.cells (layT [(i6 x1_1)]) 3))), (3, (some (.cells (layT [(i6 x1_2), (i6 x1_3)]) 29))), (4, (nblkR rw_iiiiii z1_0 58))], 5, 1⟩))
abbrev Q_jobsqueueq1_1 (rnd : Option Nat) (x1_0 : List (Int × Int × Int × Int × Int)) (x1_1 : Int) (x1_2 : Int) (x1_3 : Int) (x1_7 : Nat) (x1_8 : Int) (st : List R6 × Nat × Int × Int) (c : Ex × XSt) : Prop := CG P rnd (fnN P 12) 1 (codeOf P 12 [false, false, true, false, true, true, true]) (S_jobsqueueq1_1 x1_0 x1_1 x1_2 x1_3 x1_7 x1_8 st) c
abbrev U_jobsqueueq1_1 (rd : Option Nat) (x1_0 : List (Int × Int × Int × Int × Int)) (x1_1 : Int) (x1_2 : Int) (x1_3 : Int) (x1_7 : Nat) (x1_8 : Int) (st : List R6 × Nat × Int × Int) (r : List R6 × Nat × Int) : Prop := CG P rd (fnN P 12) 1 (codeOf P 12 [false, true, false, true, true, true]) (S_jobsqueueq1_1 x1_0 x1_1 x1_2 x1_3 x1_7 x1_8 st) (X_jobsqueueq1_1 x1_0 x1_1 x1_2 x1_3 x1_7 x1_8 r)
def B_jobsqueueq1_1 (n : Nat) (x1_0 : List (Int × Int × Int × Int × Int)) (x1_1 : Int) (x1_2 : Int) (x1_3 : Int) (x1_7 : Nat) (x1_8 : Int) (st : List R6 × Nat × Int × Int) : Option ((List R6 × Nat × Int × Int) ⊕ (List R6 × Nat × Int)) := match st with
 | (x1_4, x1_5, x1_6, x1_9) =>
  match x1_4 with
  | [] =>
   if x1_9 < x1_8 then
    if 0 ≤ x1_9 ∧ x1_9 < ((x1_7 : Nat) : Int) then
     if (x1_9).toNat < (x1_0).length then
      ((some ((x1_0).getD (x1_9).toNat (0, 0, 0, 0, 0)))).bind fun y1_4_ =>
      (m_heapHeapapiDirtyPutq1 n x1_1 x1_2 x1_3 x1_6 (y1_4_.1) (y1_4_.2.1) (y1_4_.2.2.1) (y1_4_.2.2.2.1) (y1_4_.2.2.2.2)).bind fun y1_5_ =>
      match y1_5_ with
      | [] =>
       none
      | y1_5_a :: y1_5_t =>
       some (.inl ((y1_5_a :: y1_5_t), 1, (w64 (x1_6 + (1 : Int))), (w64 (x1_9 + (1 : Int)))))
     else none
    else none
   else
    some (.inr (([] : List R6), 0, x1_6))
  | x1_4a :: x1_4t =>
   if x1_9 < x1_8 then
    if 0 ≤ x1_9 ∧ x1_9 < ((x1_7 : Nat) : Int) then
     if (x1_9).toNat < (x1_0).length then
      ((some ((x1_0).getD (x1_9).toNat (0, 0, 0, 0, 0)))).bind fun y1_4_ =>
      (m_heapHeapapiDirtyPutq3 n x1_1 x1_2 x1_3 (x1_4a :: x1_4t) x1_5 x1_6 (y1_4_.1) (y1_4_.2.1) (y1_4_.2.2.1) (y1_4_.2.2.2.1) (y1_4_.2.2.2.2)).bind fun t => match t with
      | (y1_5_0, y1_5_1) =>
       match y1_5_0 with
       | [] =>
        none
       | y1_5_0a :: y1_5_0t =>
        some (.inl ((y1_5_0a :: y1_5_0t), y1_5_1, (w64 (x1_6 + (1 : Int))), (w64 (x1_9 + (1 : Int)))))
     else none
    else none
   else
    some (.inr ((x1_4a :: x1_4t), x1_5, x1_6))
def m_jobsqueueq1_1 (n : Nat) (x1_0 : List (Int × Int × Int × Int × Int)) (x1_1 : Int) (x1_2 : Int) (x1_3 : Int) (x1_7 : Nat) (x1_8 : Int) (st : List R6 × Nat × Int × Int) : Option (List R6 × Nat × Int) := iterM (B_jobsqueueq1_1 n x1_0 x1_1 x1_2 x1_3 x1_7 x1_8) n st
theorem q_jobsqueueq1_1_0 (n : Nat) {rnd : Option Nat} (x1_0 : List (Int × Int × Int × Int × Int)) (x1_1 x1_2 x1_3 : Int) (x1_5 : Nat) (x1_6 : Int) (x1_7 : Nat) (x1_8 x1_9 : Int) (hy1_1 : x1_9 < x1_8) (hy1_2 : 0 ≤ x1_9 ∧ x1_9 < ((x1_7 : Nat) : Int)) (hy1_3 : (x1_9).toNat < (x1_0).length) (y1_4_ : Int × Int × Int × Int × Int) (hy1_4 : (some ((x1_0).getD (x1_9).toNat (0, 0, 0, 0, 0))) = some y1_4_) (y1_5_a : R6) (y1_5_t : List R6) (hy1_5 : m_heapHeapapiDirtyPutq1 n x1_1 x1_2 x1_3 x1_6 (y1_4_.1) (y1_4_.2.1) (y1_4_.2.2.1) (y1_4_.2.2.2.1) (y1_4_.2.2.2.2) = some (y1_5_a :: y1_5_t)) : Q_jobsqueueq1_1 rnd x1_0 x1_1 x1_2 x1_3 x1_7 x1_8 (([] : List R6), x1_5, x1_6, x1_9) (.normal, S_jobsqueueq1_1 x1_0 x1_1 x1_2 x1_3 x1_7 x1_8 ((y1_5_a :: y1_5_t), 1, (w64 (x1_6 + (1 : Int))), (w64 (x1_9 + (1 : Int))))) :=
 runC2 hm (L := lT []) ⟨[7, 18, 19, 20], [(0, 0, true), (1, 1, false), (2, 2, false), (3, 3, false), (4, 6, true)], 5, 1⟩ (zz 1 (xdT hy1_1) <|
zz 7 (xk5 0 U5 hy1_2) <|
yy 8 (.ld (Value.agg #[(i6 (y1_4_.1)), (i6 (y1_4_.2.1)), (i6 (y1_4_.2.2.1)), (i6 (y1_4_.2.2.2.1)), (i6 (y1_4_.2.2.2.2))])) <|
ww (p := rdT (layT (rows rw_iiiii x1_0)) 5 ((x1_9).toNat * 5) = some [(i6 (y1_4_.1)), (i6 (y1_4_.2.1)), (i6 (y1_4_.2.2.1)), (i6 (y1_4_.2.2.2.1)), (i6 (y1_4_.2.2.2.2))]) (rows_rdpN rwf_iiiii (0, 0, 0, 0, 0) (hr := hy1_4) (i := (x1_9).toNat) (j := 0) ((x1_9).toNat * 5) rfl (hy1_3) (by decide) rfl) <|
yy 13 (.call (C_heapHeapapiDirtyPutq1 x1_1 x1_2 x1_3 x1_6 (y1_4_.1) (y1_4_.2.1) (y1_4_.2.2.1) (y1_4_.2.2.2.1) (y1_4_.2.2.2.2) (y1_5_a :: y1_5_t) [(0, 1, false), (1, 2, false), (2, 3, false)] [(1, 0, false), (2, 1, false), (3, 2, false), (6, 3, true)])) <|
ww (m_heapHeapapiDirtyPutq1_ok n x1_1 x1_2 x1_3 x1_6 (y1_4_.1) (y1_4_.2.1) (y1_4_.2.2.1) (y1_4_.2.2.2.1) (y1_4_.2.2.2.2) (y1_5_a :: y1_5_t) hy1_5) <|
ww (rows_flat rwf_iiiiii (y1_5_a :: y1_5_t) 58) <|
ww (rows_flat rwf_iiiii x1_0 31) <|
ww (rows_flat rwf_iiiiii (y1_5_a :: y1_5_t) 58) <|
ee) (by kernel_rfl)
theorem q_jobsqueueq1_1_1 (n : Nat) {rnd : Option Nat} (x1_0 : List (Int × Int × Int × Int × Int)) (x1_1 x1_2 x1_3 : Int) (x1_5 : Nat) (x1_6 : Int) (x1_7 : Nat) (x1_8 x1_9 : Int) (hy1_1 : ¬ (x1_9 < x1_8)) : Q_jobsqueueq1_1 rnd x1_0 x1_1 x1_2 x1_3 x1_7 x1_8 (([] : List R6), x1_5, x1_6, x1_9) (X_jobsqueueq1_1 x1_0 x1_1 x1_2 x1_3 x1_7 x1_8 (([] : List R6), 0, x1_6)) :=
 runC2 hm (L := lT []) ⟨[7], [(0, 0, true), (1, 1, false), (2, 2, false), (3, 3, false)], 5, 1⟩ (zz 1 (xdF hy1_1) <|
ww (rows_flat rwf_iiiii x1_0 31) <|
ee) (by kernel_rfl)
theorem q_jobsqueueq1_1_2 (n : Nat) {rnd : Option Nat} (x1_0 : List (Int × Int × Int × Int × Int)) (x1_1 x1_2 x1_3 : Int) (x1_4a : R6) (x1_4t : List R6) (x1_5 : Nat) (x1_6 : Int) (x1_7 : Nat) (x1_8 x1_9 : Int) (hy1_1 : x1_9 < x1_8) (hy1_2 : 0 ≤ x1_9 ∧ x1_9 < ((x1_7 : Nat) : Int)) (hy1_3 : (x1_9).toNat < (x1_0).length) (y1_4_ : Int × Int × Int × Int × Int) (hy1_4 : (some ((x1_0).getD (x1_9).toNat (0, 0, 0, 0, 0))) = some y1_4_) (y1_5_0a : R6) (y1_5_0t : List R6) (y1_5_1 : Nat) (hy1_5 : m_heapHeapapiDirtyPutq3 n x1_1 x1_2 x1_3 (x1_4a :: x1_4t) x1_5 x1_6 (y1_4_.1) (y1_4_.2.1) (y1_4_.2.2.1) (y1_4_.2.2.2.1) (y1_4_.2.2.2.2) = some ((y1_5_0a :: y1_5_0t), y1_5_1)) : Q_jobsqueueq1_1 rnd x1_0 x1_1 x1_2 x1_3 x1_7 x1_8 ((x1_4a :: x1_4t), x1_5, x1_6, x1_9) (.normal, S_jobsqueueq1_1 x1_0 x1_1 x1_2 x1_3 x1_7 x1_8 ((y1_5_0a :: y1_5_0t), y1_5_1, (w64 (x1_6 + (1 : Int))), (w64 (x1_9 + (1 : Int))))) :=
 runC2 hm (L := lT []) ⟨[7, 18, 19, 20], [(0, 0, true), (1, 1, false), (2, 2, false), (3, 3, false), (4, 6, true)], 5, 1⟩ (zz 1 (xdT hy1_1) <|
zz 7 (xk5 0 U5 hy1_2) <|
yy 8 (.ld (Value.agg #[(i6 (y1_4_.1)), (i6 (y1_4_.2.1)), (i6 (y1_4_.2.2.1)), (i6 (y1_4_.2.2.2.1)), (i6 (y1_4_.2.2.2.2))])) <|
ww (p := rdT (layT (rows rw_iiiii x1_0)) 5 ((x1_9).toNat * 5) = some [(i6 (y1_4_.1)), (i6 (y1_4_.2.1)), (i6 (y1_4_.2.2.1)), (i6 (y1_4_.2.2.2.1)), (i6 (y1_4_.2.2.2.2))]) (rows_rdpN rwf_iiiii (0, 0, 0, 0, 0) (hr := hy1_4) (i := (x1_9).toNat) (j := 0) ((x1_9).toNat * 5) rfl (hy1_3) (by decide) rfl) <|
yy 13 (.call (C_heapHeapapiDirtyPutq3 x1_1 x1_2 x1_3 (x1_4a :: x1_4t) x1_5 x1_6 (y1_4_.1) (y1_4_.2.1) (y1_4_.2.2.1) (y1_4_.2.2.2.1) (y1_4_.2.2.2.2) ((y1_5_0a :: y1_5_0t), y1_5_1) [(0, 1, false), (1, 2, false), (2, 3, false), (3, 4, true)] [(1, 0, false), (2, 1, false), (3, 2, false), (6, 4, true)])) <|
ww (m_heapHeapapiDirtyPutq3_ok n x1_1 x1_2 x1_3 (x1_4a :: x1_4t) x1_5 x1_6 (y1_4_.1) (y1_4_.2.1) (y1_4_.2.2.1) (y1_4_.2.2.2.1) (y1_4_.2.2.2.2) ((y1_5_0a :: y1_5_0t), y1_5_1) hy1_5) <|
ww (rows_flat rwf_iiiiii (x1_4a :: x1_4t) 58) <|
ww (rows_flat rwf_iiiiii (y1_5_0a :: y1_5_0t) 58) <|
ww (rows_flat rwf_iiiii x1_0 31) <|
ww (rows_flat rwf_iiiiii (y1_5_0a :: y1_5_0t) 58) <|
ee) (by kernel_rfl)
theorem q_jobsqueueq1_1_3 (n : Nat) {rnd : Option Nat} (x1_0 : List (Int × Int × Int × Int × Int)) (x1_1 x1_2 x1_3 : Int) (x1_4a : R6) (x1_4t : List R6) (x1_5 : Nat) (x1_6 : Int) (x1_7 : Nat) (x1_8 x1_9 : Int) (hy1_1 : ¬ (x1_9 < x1_8)) : Q_jobsqueueq1_1 rnd x1_0 x1_1 x1_2 x1_3 x1_7 x1_8 ((x1_4a :: x1_4t), x1_5, x1_6, x1_9) (X_jobsqueueq1_1 x1_0 x1_1 x1_2 x1_3 x1_7 x1_8 ((x1_4a :: x1_4t), x1_5, x1_6)) :=
 runC2 hm (L := lT []) ⟨[7], [(0, 0, true), (1, 1, false), (2, 2, false), (3, 3, false), (4, 4, true)], 5, 1⟩ (zz 1 (xdF hy1_1) <|
ww (rows_flat rwf_iiiii x1_0 31) <|
ww (rows_flat rwf_iiiiii (x1_4a :: x1_4t) 58) <|
ee) (by kernel_rfl)
theorem m_jobsqueueq1_1_ok (n : Nat) {rnd : Option Nat} (x1_0 : List (Int × Int × Int × Int × Int)) (x1_1 : Int) (x1_2 : Int) (x1_3 : Int) (x1_7 : Nat) (x1_8 : Int) (st : List R6 × Nat × Int × Int) (r : List R6 × Nat × Int) (h : m_jobsqueueq1_1 n x1_0 x1_1 x1_2 x1_3 x1_7 x1_8 st = some r) : CG P rnd (fnN P 12) 1 (codeOf P 12 [false, true, false, true, true, true]) (S_jobsqueueq1_1 x1_0 x1_1 x1_2 x1_3 x1_7 x1_8 st) (X_jobsqueueq1_1 x1_0 x1_1 x1_2 x1_3 x1_7 x1_8 r) :=
 CG.iter (b := codeOf P 12 [false, false, true, false, true, true, true]) (by kernel_rfl) (body := B_jobsqueueq1_1 n x1_0 x1_1 x1_2 x1_3 x1_7 x1_8) (S := S_jobsqueueq1_1 x1_0 x1_1 x1_2 x1_3 x1_7 x1_8) (X := X_jobsqueueq1_1 x1_0 x1_1 x1_2 x1_3 x1_7 x1_8)
  (fun s s' h => by
  obtain ⟨x1_4, x1_5, x1_6, x1_9⟩ := s
  unfold B_jobsqueueq1_1 at h
  dsimp only at h
  cases x1_4 with
  | nil =>
   dsimp only at h
   by_cases hy1_1 : x1_9 < x1_8
   ·rw [if_pos hy1_1] at h
    by_cases hy1_2 : 0 ≤ x1_9 ∧ x1_9 < ((x1_7 : Nat) : Int)
    ·rw [if_pos hy1_2] at h
     by_cases hy1_3 : (x1_9).toNat < (x1_0).length
     ·rw [if_pos hy1_3] at h
      obtain ⟨y1_4_, hy1_4, h⟩ := Option.bind_eq_some_iff.1 h
      obtain ⟨y1_5_, hy1_5, h⟩ := Option.bind_eq_some_iff.1 h
      cases y1_5_ with
      | nil =>
       dsimp only at h
       cases h
      | cons y1_5_a y1_5_t =>
       dsimp only at h
       obtain rfl := Sum.inl.inj (oI h); exact q_jobsqueueq1_1_0 n x1_0 x1_1 x1_2 x1_3 x1_5 x1_6 x1_7 x1_8 x1_9 hy1_1 hy1_2 hy1_3 y1_4_ hy1_4 y1_5_a y1_5_t hy1_5
     ·rw [if_neg hy1_3] at h; cases h
    ·rw [if_neg hy1_2] at h; cases h
   ·rw [if_neg hy1_1] at h
    cases h
  | cons x1_4a x1_4t =>
   dsimp only at h
   by_cases hy1_1 : x1_9 < x1_8
   ·rw [if_pos hy1_1] at h
    by_cases hy1_2 : 0 ≤ x1_9 ∧ x1_9 < ((x1_7 : Nat) : Int)
    ·rw [if_pos hy1_2] at h
     by_cases hy1_3 : (x1_9).toNat < (x1_0).length
     ·rw [if_pos hy1_3] at h
      obtain ⟨y1_4_, hy1_4, h⟩ := Option.bind_eq_some_iff.1 h
      obtain ⟨⟨y1_5_0, y1_5_1⟩, hy1_5, h⟩ := Option.bind_eq_some_iff.1 h
      dsimp only at h
      cases y1_5_0 with
      | nil =>
       dsimp only at h
       cases h
      | cons y1_5_0a y1_5_0t =>
       dsimp only at h
       obtain rfl := Sum.inl.inj (oI h); exact q_jobsqueueq1_1_2 n x1_0 x1_1 x1_2 x1_3 x1_4a x1_4t x1_5 x1_6 x1_7 x1_8 x1_9 hy1_1 hy1_2 hy1_3 y1_4_ hy1_4 y1_5_0a y1_5_0t y1_5_1 hy1_5
     ·rw [if_neg hy1_3] at h; cases h
    ·rw [if_neg hy1_2] at h; cases h
   ·rw [if_neg hy1_1] at h
    cases h)
  (fun s r h => by
  obtain ⟨x1_4, x1_5, x1_6, x1_9⟩ := s
  unfold B_jobsqueueq1_1 at h
  dsimp only at h
  cases x1_4 with
  | nil =>
   dsimp only at h
   by_cases hy1_1 : x1_9 < x1_8
   ·rw [if_pos hy1_1] at h
    by_cases hy1_2 : 0 ≤ x1_9 ∧ x1_9 < ((x1_7 : Nat) : Int)
    ·rw [if_pos hy1_2] at h
     by_cases hy1_3 : (x1_9).toNat < (x1_0).length
     ·rw [if_pos hy1_3] at h
      obtain ⟨y1_4_, hy1_4, h⟩ := Option.bind_eq_some_iff.1 h
      obtain ⟨y1_5_, hy1_5, h⟩ := Option.bind_eq_some_iff.1 h
      cases y1_5_ with
      | nil =>
       dsimp only at h
       cases h
      | cons y1_5_a y1_5_t =>
       dsimp only at h
       cases h
     ·rw [if_neg hy1_3] at h; cases h
    ·rw [if_neg hy1_2] at h; cases h
   ·rw [if_neg hy1_1] at h
    obtain rfl := Sum.inr.inj (oI h); exact q_jobsqueueq1_1_1 n x1_0 x1_1 x1_2 x1_3 x1_5 x1_6 x1_7 x1_8 x1_9 hy1_1
  | cons x1_4a x1_4t =>
   dsimp only at h
   by_cases hy1_1 : x1_9 < x1_8
   ·rw [if_pos hy1_1] at h
    by_cases hy1_2 : 0 ≤ x1_9 ∧ x1_9 < ((x1_7 : Nat) : Int)
    ·rw [if_pos hy1_2] at h
     by_cases hy1_3 : (x1_9).toNat < (x1_0).length
     ·rw [if_pos hy1_3] at h
      obtain ⟨y1_4_, hy1_4, h⟩ := Option.bind_eq_some_iff.1 h
      obtain ⟨⟨y1_5_0, y1_5_1⟩, hy1_5, h⟩ := Option.bind_eq_some_iff.1 h
      dsimp only at h
      cases y1_5_0 with
      | nil =>
       dsimp only at h
       cases h
      | cons y1_5_0a y1_5_0t =>
       dsimp only at h
       cases h
     ·rw [if_neg hy1_3] at h; cases h
    ·rw [if_neg hy1_2] at h; cases h
   ·rw [if_neg hy1_1] at h
    obtain rfl := Sum.inr.inj (oI h); exact q_jobsqueueq1_1_3 n x1_0 x1_1 x1_2 x1_3 x1_4a x1_4t x1_5 x1_6 x1_7 x1_8 x1_9 hy1_1)
  (fun r => by intro hx; cases hx) h
def m_jobsqueueq1 (n : Nat) (a0 : List (Int × Int × Int × Int × Int)) (a1 : Nat) (a2 : Int) (a3 : Int) (a4 : Int) : Option (List R6 × Nat × Int) :=
 (m_jobsorderq1 n a2 a3 a4).bind fun _ =>
 (m_heapNewapiDirtyq1 n a4 a2 a3).bind fun _ =>
 (m_dirtyCheckq1 n a0 a1).bind fun c3_ =>
 if c3_ = (0 : Int) then
  (m_jobsqueueq1_1 n a0 a4 a2 a3 a1 ((a1 : Nat) : Int) (([] : List R6), 0, 0, 0)).bind fun t => match t with
  | (c5_0, c5_1, c5_2) =>
   match c5_0 with
   | [] =>
    some (([] : List R6), 0, c5_2)
   | c5_0a :: c5_0t =>
    some ((c5_0a :: c5_0t), c5_1, c5_2)
 else
  some (([] : List R6), 0, 0)
theorem m_jobsqueueq1_ok (n : Nat) (a0 : List (Int × Int × Int × Int × Int)) (a1 : Nat) (a2 : Int) (a3 : Int) (a4 : Int) (r : List R6 × Nat × Int) (h : m_jobsqueueq1 n a0 a1 a2 a3 a4 = some r) : Gv P (.func 12) (A_jobsqueueq1 a0 a1 a2 a3 a4) (H_jobsqueueq1 a0 a1 a2 a3 a4) (V_jobsqueueq1 a0 a1 a2 a3 a4 r) (R_jobsqueueq1 a0 a1 a2 a3 a4 r) := by
 unfold m_jobsqueueq1 at h
 obtain ⟨_, hc1, h⟩ := Option.bind_eq_some_iff.1 h
 obtain ⟨_, hc2, h⟩ := Option.bind_eq_some_iff.1 h
 obtain ⟨c3_, hc3, h⟩ := Option.bind_eq_some_iff.1 h
 by_cases hc4 : c3_ = (0 : Int)
 ·rw [if_pos hc4] at h
  obtain ⟨⟨c5_0, c5_1, c5_2⟩, hc5, h⟩ := Option.bind_eq_some_iff.1 h
  dsimp only at h
  cases c5_0 with
  | nil =>
   dsimp only at h
   obtain rfl := oI h; exact (runF2 hm (L := lT [(21, ⟨⟨[7, 18, 19, 20], [(0, 0, true), (1, 4, false), (2, 2, false), (3, 3, false)], 5, 1⟩, (X_jobsqueueq1_1 a0 a4 a2 a3 a1 ((a1 : Nat) : Int) (([] : List R6), c5_1, c5_2)).1, (X_jobsqueueq1_1 a0 a4 a2 a3 a1 ((a1 : Nat) : Int) (([] : List R6), c5_1, c5_2)).2⟩)]) ⟨[6], [(1, 1, false), (2, 2, false), (3, 3, false)], 5, 1⟩ (yy 6 (.call (C_jobsorderq1 a2 a3 a4 () [] [(2, 0, false), (3, 1, false)])) <|
ww (m_jobsorderq1_ok n a2 a3 a4 () hc1) <|
yy 7 (.call (C_heapNewapiDirtyq1 a4 a2 a3 () [(0, 2, false), (1, 3, false)] [(2, 0, false), (3, 1, false), (4, 2, false)])) <|
ww (m_heapNewapiDirtyq1_ok n a4 a2 a3 () hc2) <|
yy 12 (.call (C_dirtyCheckq1 a0 a1 c3_ [(0, 0, true)] [])) <|
ww (m_dirtyCheckq1_ok n a0 a1 c3_ hc3) <|
ww (rows_flat rwf_iiiii a0 31) <|
zz 13 (xnF hc4) <|
ww (p := U_jobsqueueq1_1 none a0 a4 a2 a3 a1 ((a1 : Nat) : Int) (([] : List R6), 0, 0, 0) (([] : List R6), c5_1, c5_2)) (m_jobsqueueq1_1_ok n a0 a4 a2 a3 a1 ((a1 : Nat) : Int) (([] : List R6), 0, 0, 0) (([] : List R6), c5_1, c5_2) hc5) <|
ww (rows_flat rwf_iiiii a0 31) ee) (by kernel_rfl))
  | cons c5_0a c5_0t =>
   dsimp only at h
   obtain rfl := oI h; exact (runF2 hm (L := lT [(21, ⟨⟨[7, 18, 19, 20], [(0, 0, true), (1, 4, false), (2, 2, false), (3, 3, false)], 5, 1⟩, (X_jobsqueueq1_1 a0 a4 a2 a3 a1 ((a1 : Nat) : Int) ((c5_0a :: c5_0t), c5_1, c5_2)).1, (X_jobsqueueq1_1 a0 a4 a2 a3 a1 ((a1 : Nat) : Int) ((c5_0a :: c5_0t), c5_1, c5_2)).2⟩)]) ⟨[6], [(1, 1, false), (2, 2, false), (3, 3, false), (4, 4, true)], 5, 1⟩ (yy 6 (.call (C_jobsorderq1 a2 a3 a4 () [] [(2, 0, false), (3, 1, false)])) <|
ww (m_jobsorderq1_ok n a2 a3 a4 () hc1) <|
yy 7 (.call (C_heapNewapiDirtyq1 a4 a2 a3 () [(0, 2, false), (1, 3, false)] [(2, 0, false), (3, 1, false), (4, 2, false)])) <|
ww (m_heapNewapiDirtyq1_ok n a4 a2 a3 () hc2) <|
yy 12 (.call (C_dirtyCheckq1 a0 a1 c3_ [(0, 0, true)] [])) <|
ww (m_dirtyCheckq1_ok n a0 a1 c3_ hc3) <|
ww (rows_flat rwf_iiiii a0 31) <|
zz 13 (xnF hc4) <|
ww (p := U_jobsqueueq1_1 none a0 a4 a2 a3 a1 ((a1 : Nat) : Int) (([] : List R6), 0, 0, 0) ((c5_0a :: c5_0t), c5_1, c5_2)) (m_jobsqueueq1_1_ok n a0 a4 a2 a3 a1 ((a1 : Nat) : Int) (([] : List R6), 0, 0, 0) ((c5_0a :: c5_0t), c5_1, c5_2) hc5) <|
ww (rows_flat rwf_iiiii a0 31) <|
ww (rows_flat rwf_iiiiii (c5_0a :: c5_0t) 58) ee) (by kernel_rfl))
 ·rw [if_neg hc4] at h
  obtain rfl := oI h; exact (runF2 hm (L := lT []) ⟨[6], [(1, 4, false), (2, 2, false), (3, 3, false)], 5, 1⟩ (yy 6 (.call (C_jobsorderq1 a2 a3 a4 () [] [(2, 0, false), (3, 1, false)])) <|
ww (m_jobsorderq1_ok n a2 a3 a4 () hc1) <|
yy 7 (.call (C_heapNewapiDirtyq1 a4 a2 a3 () [(0, 2, false), (1, 3, false)] [(2, 0, false), (3, 1, false), (4, 2, false)])) <|
ww (m_heapNewapiDirtyq1_ok n a4 a2 a3 () hc2) <|
yy 12 (.call (C_dirtyCheckq1 a0 a1 c3_ [(0, 0, true)] [])) <|
ww (m_dirtyCheckq1_ok n a0 a1 c3_ hc3) <|
ww (rows_flat rwf_iiiii a0 31) <|
zz 13 (xnT hc4) ee) (by kernel_rfl))

def A_heapHeapapiDirtyLenq1 (a0 : Int) (a1 : Int) (a2 : Int) (a3 : Int) : List Value := [(pN 0 0)]
def H_heapHeapapiDirtyLenq1 (a0 : Int) (a1 : Int) (a2 : Int) (a3 : Int) : AH := ⟨sB [(0, (some (.cells (layT [(pN 0 0), (Value.func (.func 21) #[] #[(pN 1 0), (pN 2 0)]), (Value.slice none 0 0), (i6 a3)]) 61))), (1, (some (.cells (layT [(i6 a0)]) 3))), (2, (some (.cells (layT [(i6 a1), (i6 a2)]) 29)))], 3, 3⟩
def V_heapHeapapiDirtyLenq1 (a0 : Int) (a1 : Int) (a2 : Int) (a3 : Int) (r : Unit) : Value := match r with
 | _ => (i6 (0 : Int))
def R_heapHeapapiDirtyLenq1 (a0 : Int) (a1 : Int) (a2 : Int) (a3 : Int) (r : Unit) : AH := match r with
 | _ => ⟨sB [], 3, 3⟩
abbrev G_heapHeapapiDirtyLenq1 (a0 : Int) (a1 : Int) (a2 : Int) (a3 : Int) (r : Unit) : Prop := Gv P (.func 20) (A_heapHeapapiDirtyLenq1 a0 a1 a2 a3) (H_heapHeapapiDirtyLenq1 a0 a1 a2 a3) (V_heapHeapapiDirtyLenq1 a0 a1 a2 a3 r) (R_heapHeapapiDirtyLenq1 a0 a1 a2 a3 r)
abbrev C_heapHeapapiDirtyLenq1 (a0 : Int) (a1 : Int) (a2 : Int) (a3 : Int) (r : Unit) (ins outs : BL) : CallA := ⟨3, ins, V_heapHeapapiDirtyLenq1 a0 a1 a2 a3 r, R_heapHeapapiDirtyLenq1 a0 a1 a2 a3 r, outs⟩
def m_heapHeapapiDirtyLenq1 (n : Nat) (a0 : Int) (a1 : Int) (a2 : Int) (a3 : Int) : Option (Unit) :=
 (m_heapHeapapiDirtyvalidq1 n a0 a1 a2 a3).bind fun _ =>
 some ()
theorem m_heapHeapapiDirtyLenq1_ok (n : Nat) (a0 : Int) (a1 : Int) (a2 : Int) (a3 : Int) (r : Unit) (h : m_heapHeapapiDirtyLenq1 n a0 a1 a2 a3 = some r) : Gv P (.func 20) (A_heapHeapapiDirtyLenq1 a0 a1 a2 a3) (H_heapHeapapiDirtyLenq1 a0 a1 a2 a3) (V_heapHeapapiDirtyLenq1 a0 a1 a2 a3 r) (R_heapHeapapiDirtyLenq1 a0 a1 a2 a3 r) := by
 unfold m_heapHeapapiDirtyLenq1 at h
 obtain ⟨_, hc1, h⟩ := Option.bind_eq_some_iff.1 h
 obtain rfl := oI h; exact (runF2 hm (L := lT []) ⟨[2], [], 3, 3⟩ (yy 5 (.call (C_heapHeapapiDirtyvalidq1 a0 a1 a2 a3 () [(0, 0, false), (1, 1, false), (2, 2, false)] [])) <|
ww (m_heapHeapapiDirtyvalidq1_ok n a0 a1 a2 a3 () hc1) ee) (by kernel_rfl))

def A_heapHeapapiDirtyLeastq1 (a0 : Int) (a1 : Int) (a2 : Int) (a3 : Int) : List Value := [(pN 0 0)]
def H_heapHeapapiDirtyLeastq1 (a0 : Int) (a1 : Int) (a2 : Int) (a3 : Int) : AH := ⟨sB [(0, (some (.cells (layT [(pN 0 0), (Value.func (.func 21) #[] #[(pN 1 0), (pN 2 0)]), (Value.slice none 0 0), (i6 a3)]) 61))), (1, (some (.cells (layT [(i6 a0)]) 3))), (2, (some (.cells (layT [(i6 a1), (i6 a2)]) 29)))], 3, 3⟩
def V_heapHeapapiDirtyLeastq1 (a0 : Int) (a1 : Int) (a2 : Int) (a3 : Int) (r : Unit) : Value := match r with
 | _ => (Value.tuple #[(Value.agg #[(i6 (0 : Int)), (i6 (0 : Int)), (i6 (0 : Int)), (i6 (0 : Int)), (i6 (0 : Int))]), (bO false)])
def R_heapHeapapiDirtyLeastq1 (a0 : Int) (a1 : Int) (a2 : Int) (a3 : Int) (r : Unit) : AH := match r with
 | _ => ⟨sB [(3, (some (.cells (layT [(i6 (0 : Int)), (i6 (0 : Int)), (i6 (0 : Int)), (i6 (0 : Int)), (i6 (0 : Int))]) 31)))], 4, 3⟩
abbrev G_heapHeapapiDirtyLeastq1 (a0 : Int) (a1 : Int) (a2 : Int) (a3 : Int) (r : Unit) : Prop := Gv P (.func 13) (A_heapHeapapiDirtyLeastq1 a0 a1 a2 a3) (H_heapHeapapiDirtyLeastq1 a0 a1 a2 a3) (V_heapHeapapiDirtyLeastq1 a0 a1 a2 a3 r) (R_heapHeapapiDirtyLeastq1 a0 a1 a2 a3 r)
abbrev C_heapHeapapiDirtyLeastq1 (a0 : Int) (a1 : Int) (a2 : Int) (a3 : Int) (r : Unit) (ins outs : BL) : CallA := ⟨3, ins, V_heapHeapapiDirtyLeastq1 a0 a1 a2 a3 r, R_heapHeapapiDirtyLeastq1 a0 a1 a2 a3 r, outs⟩
def m_heapHeapapiDirtyLeastq1 (n : Nat) (a0 : Int) (a1 : Int) (a2 : Int) (a3 : Int) : Option (Unit) :=
 (m_heapHeapapiDirtyLenq1 n a0 a1 a2 a3).bind fun _ =>
 some ()
theorem m_heapHeapapiDirtyLeastq1_ok (n : Nat) (a0 : Int) (a1 : Int) (a2 : Int) (a3 : Int) (r : Unit) (h : m_heapHeapapiDirtyLeastq1 n a0 a1 a2 a3 = some r) : Gv P (.func 13) (A_heapHeapapiDirtyLeastq1 a0 a1 a2 a3) (H_heapHeapapiDirtyLeastq1 a0 a1 a2 a3) (V_heapHeapapiDirtyLeastq1 a0 a1 a2 a3 r) (R_heapHeapapiDirtyLeastq1 a0 a1 a2 a3 r) := by
 unfold m_heapHeapapiDirtyLeastq1 at h
 obtain ⟨_, hc1, h⟩ := Option.bind_eq_some_iff.1 h
 obtain rfl := oI h; exact (runF2 hm (L := lT []) ⟨[2, 3], [(3, 3, false)], 4, 3⟩ (yy 6 (.call (C_heapHeapapiDirtyLenq1 a0 a1 a2 a3 () [(0, 0, false), (1, 1, false), (2, 2, false)] [])) <|
ww (m_heapHeapapiDirtyLenq1_ok n a0 a1 a2 a3 () hc1) ee) (by kernel_rfl))

def A_heapHeapapiDirtyLenq2 (a0 : Int) (a1 : Int) (a2 : Int) (a3 : List R6) (a4 : Nat) (a5 : Int) : List Value := [(pN 0 0)]
def H_heapHeapapiDirtyLenq2 (a0 : Int) (a1 : Int) (a2 : Int) (a3 : List R6) (a4 : Nat) (a5 : Int) : AH := ⟨sB [(0, (some (.cells (layT [(pN 0 0), (Value.func (.func 21) #[] #[(pN 1 0), (pN 2 0)]), (sN 3 0 a4 (Nat.add big 6)), (i6 a5)]) 61))), (1, (some (.cells (layT [(i6 a0)]) 3))), (2, (some (.cells (layT [(i6 a1), (i6 a2)]) 29))), (3, (some (.cells (layT (rows rw_iiiiii a3)) 58)))], 4, 4⟩
def V_heapHeapapiDirtyLenq2 (a0 : Int) (a1 : Int) (a2 : Int) (a3 : List R6) (a4 : Nat) (a5 : Int) (r : Unit) : Value := match r with
 | _ => (i6 ((a4 : Nat) : Int))
def R_heapHeapapiDirtyLenq2 (a0 : Int) (a1 : Int) (a2 : Int) (a3 : List R6) (a4 : Nat) (a5 : Int) (r : Unit) : AH := match r with
 | _ => ⟨sB [], 4, 4⟩
abbrev G_heapHeapapiDirtyLenq2 (a0 : Int) (a1 : Int) (a2 : Int) (a3 : List R6) (a4 : Nat) (a5 : Int) (r : Unit) : Prop := Gv P (.func 20) (A_heapHeapapiDirtyLenq2 a0 a1 a2 a3 a4 a5) (H_heapHeapapiDirtyLenq2 a0 a1 a2 a3 a4 a5) (V_heapHeapapiDirtyLenq2 a0 a1 a2 a3 a4 a5 r) (R_heapHeapapiDirtyLenq2 a0 a1 a2 a3 a4 a5 r)
abbrev C_heapHeapapiDirtyLenq2 (a0 : Int) (a1 : Int) (a2 : Int) (a3 : List R6) (a4 : Nat) (a5 : Int) (r : Unit) (ins outs : BL) : CallA := ⟨4, ins, V_heapHeapapiDirtyLenq2 a0 a1 a2 a3 a4 a5 r, R_heapHeapapiDirtyLenq2 a0 a1 a2 a3 a4 a5 r, outs⟩
def m_heapHeapapiDirtyLenq2 (n : Nat) (a0 : Int) (a1 : Int) (a2 : Int) (a3 : List R6) (a4 : Nat) (a5 : Int) : Option (Unit) :=
 (m_heapHeapapiDirtyvalidq3 n a0 a1 a2 a3 a4 a5).bind fun _ =>
 some ()
theorem m_heapHeapapiDirtyLenq2_ok (n : Nat) (a0 : Int) (a1 : Int) (a2 : Int) (a3 : List R6) (a4 : Nat) (a5 : Int) (r : Unit) (h : m_heapHeapapiDirtyLenq2 n a0 a1 a2 a3 a4 a5 = some r) : Gv P (.func 20) (A_heapHeapapiDirtyLenq2 a0 a1 a2 a3 a4 a5) (H_heapHeapapiDirtyLenq2 a0 a1 a2 a3 a4 a5) (V_heapHeapapiDirtyLenq2 a0 a1 a2 a3 a4 a5 r) (R_heapHeapapiDirtyLenq2 a0 a1 a2 a3 a4 a5 r) := by
 unfold m_heapHeapapiDirtyLenq2 at h
 obtain ⟨_, hc1, h⟩ := Option.bind_eq_some_iff.1 h
 obtain rfl := oI h; exact (runF2 hm (L := lT []) ⟨[2], [], 4, 4⟩ (yy 5 (.call (C_heapHeapapiDirtyvalidq3 a0 a1 a2 a3 a4 a5 () [(0, 0, false), (1, 1, false), (2, 2, false), (3, 3, true)] [])) <|
ww (m_heapHeapapiDirtyvalidq3_ok n a0 a1 a2 a3 a4 a5 () hc1) <|
ww (rows_flat rwf_iiiiii a3 58) ee) (by kernel_rfl))

def A_heapHeapapiDirtyLeastq2 (a0 : Int) (a1 : Int) (a2 : Int) (a3 : List R6) (a4 : Nat) (a5 : Int) : List Value := [(pN 0 0)]
def H_heapHeapapiDirtyLeastq2 (a0 : Int) (a1 : Int) (a2 : Int) (a3 : List R6) (a4 : Nat) (a5 : Int) : AH := ⟨sB [(0, (some (.cells (layT [(pN 0 0), (Value.func (.func 21) #[] #[(pN 1 0), (pN 2 0)]), (sN 3 0 a4 (Nat.add big 6)), (i6 a5)]) 61))), (1, (some (.cells (layT [(i6 a0)]) 3))), (2, (some (.cells (layT [(i6 a1), (i6 a2)]) 29))), (3, (some (.cells (layT (rows rw_iiiiii a3)) 58)))], 4, 4⟩
def V_heapHeapapiDirtyLeastq2 (a0 : Int) (a1 : Int) (a2 : Int) (a3 : List R6) (a4 : Nat) (a5 : Int) (r : Int × Int × Int × Int × Int × Bool) : Value := match r with
 | (o0, o1, o2, o3, o4, o5) => (Value.tuple #[(Value.agg #[(i6 o0), (i6 o1), (i6 o2), (i6 o3), (i6 o4)]), (bO o5)])
def R_heapHeapapiDirtyLeastq2 (a0 : Int) (a1 : Int) (a2 : Int) (a3 : List R6) (a4 : Nat) (a5 : Int) (r : Int × Int × Int × Int × Int × Bool) : AH := match r with
 | (o0, o1, o2, o3, o4, o5) => ⟨sB [(4, (some (.cells (layT [(i6 o0), (i6 o1), (i6 o2), (i6 o3), (i6 o4)]) 31)))], 5, 4⟩
abbrev G_heapHeapapiDirtyLeastq2 (a0 : Int) (a1 : Int) (a2 : Int) (a3 : List R6) (a4 : Nat) (a5 : Int) (r : Int × Int × Int × Int × Int × Bool) : Prop := Gv P (.func 13) (A_heapHeapapiDirtyLeastq2 a0 a1 a2 a3 a4 a5) (H_heapHeapapiDirtyLeastq2 a0 a1 a2 a3 a4 a5) (V_heapHeapapiDirtyLeastq2 a0 a1 a2 a3 a4 a5 r) (R_heapHeapapiDirtyLeastq2 a0 a1 a2 a3 a4 a5 r)
abbrev C_heapHeapapiDirtyLeastq2 (a0 : Int) (a1 : Int) (a2 : Int) (a3 : List R6) (a4 : Nat) (a5 : Int) (r : Int × Int × Int × Int × Int × Bool) (ins outs : BL) : CallA := ⟨4, ins, V_heapHeapapiDirtyLeastq2 a0 a1 a2 a3 a4 a5 r, R_heapHeapapiDirtyLeastq2 a0 a1 a2 a3 a4 a5 r, outs⟩
def m_heapHeapapiDirtyLeastq2 (n : Nat) (a0 : Int) (a1 : Int) (a2 : Int) (a3 : List R6) (a4 : Nat) (a5 : Int) : Option (Int × Int × Int × Int × Int × Bool) :=
 (m_heapHeapapiDirtyLenq2 n a0 a1 a2 a3 a4 a5).bind fun _ =>
 if ((a4 : Nat) : Int) = (0 : Int) then
  some (0, 0, 0, 0, 0, false)
 else
  if 0 ≤ (0 : Int) ∧ (0 : Int) < ((a4 : Nat) : Int) then
   if ((0 : Int)).toNat < (a3).length then
    ((some ((a3).getD ((0 : Int)).toNat (0, 0, 0, 0, 0, 0)))).bind fun c5_ =>
    some ((c5_.2.1), (c5_.2.2.1), (c5_.2.2.2.1), (c5_.2.2.2.2.1), (c5_.2.2.2.2.2), true)
   else none
  else none
theorem m_heapHeapapiDirtyLeastq2_ok (n : Nat) (a0 : Int) (a1 : Int) (a2 : Int) (a3 : List R6) (a4 : Nat) (a5 : Int) (r : Int × Int × Int × Int × Int × Bool) (h : m_heapHeapapiDirtyLeastq2 n a0 a1 a2 a3 a4 a5 = some r) : Gv P (.func 13) (A_heapHeapapiDirtyLeastq2 a0 a1 a2 a3 a4 a5) (H_heapHeapapiDirtyLeastq2 a0 a1 a2 a3 a4 a5) (V_heapHeapapiDirtyLeastq2 a0 a1 a2 a3 a4 a5 r) (R_heapHeapapiDirtyLeastq2 a0 a1 a2 a3 a4 a5 r) := by
 unfold m_heapHeapapiDirtyLeastq2 at h
 obtain ⟨_, hc1, h⟩ := Option.bind_eq_some_iff.1 h
 by_cases hc2 : ((a4 : Nat) : Int) = (0 : Int)
 ·rw [if_pos hc2] at h
  obtain rfl := oI h; exact (runF2 hm (L := lT []) ⟨[2, 3], [(4, 4, false)], 5, 4⟩ (yy 6 (.call (C_heapHeapapiDirtyLenq2 a0 a1 a2 a3 a4 a5 () [(0, 0, false), (1, 1, false), (2, 2, false), (3, 3, true)] [])) <|
ww (m_heapHeapapiDirtyLenq2_ok n a0 a1 a2 a3 a4 a5 () hc1) <|
ww (rows_flat rwf_iiiiii a3 58) <|
zz 7 (xeT hc2) ee) (by kernel_rfl))
 ·rw [if_neg hc2] at h
  by_cases hc3 : 0 ≤ (0 : Int) ∧ (0 : Int) < ((a4 : Nat) : Int)
  ·rw [if_pos hc3] at h
   by_cases hc4 : ((0 : Int)).toNat < (a3).length
   ·rw [if_pos hc4] at h
    obtain ⟨c5_, hc5, h⟩ := Option.bind_eq_some_iff.1 h
    obtain rfl := oI h; exact (runF2 hm (L := lT []) ⟨[2, 3], [(4, 4, false)], 5, 4⟩ (yy 6 (.call (C_heapHeapapiDirtyLenq2 a0 a1 a2 a3 a4 a5 () [(0, 0, false), (1, 1, false), (2, 2, false), (3, 3, true)] [])) <|
ww (m_heapHeapapiDirtyLenq2_ok n a0 a1 a2 a3 a4 a5 () hc1) <|
ww (rows_flat rwf_iiiiii a3 58) <|
zz 7 (xeF hc2) <|
zz 14 (xk8 3 U6 hc3) <|
yy 16 (.ld (Value.agg #[(i6 (c5_.2.1)), (i6 (c5_.2.2.1)), (i6 (c5_.2.2.2.1)), (i6 (c5_.2.2.2.2.1)), (i6 (c5_.2.2.2.2.2))])) <|
ww (p := rdT (layT (rows rw_iiiiii a3)) 5 (Nat.add (((0 : Int)).toNat * 6) 1) = some [(i6 (c5_.2.1)), (i6 (c5_.2.2.1)), (i6 (c5_.2.2.2.1)), (i6 (c5_.2.2.2.2.1)), (i6 (c5_.2.2.2.2.2))]) (rows_rdpN rwf_iiiiii (0, 0, 0, 0, 0, 0) (hr := hc5) (i := ((0 : Int)).toNat) (j := 1) (Nat.add (((0 : Int)).toNat * 6) 1) rfl (hc4) (by decide) rfl) ee) (by kernel_rfl))
   ·rw [if_neg hc4] at h; cases h
  ·rw [if_neg hc3] at h; cases h

def A_jobsNextq1 (a0 : List (Int × Int × Int × Int × Int)) (a1 : Nat) (a2 : Int) (a3 : Int) (a4 : Int) : List Value := [(sN 0 0 a1 (Nat.add big 5)), (Value.agg #[(i6 a2), (i6 a3)]), (i6 a4)]
def H_jobsNextq1 (a0 : List (Int × Int × Int × Int × Int)) (a1 : Nat) (a2 : Int) (a3 : Int) (a4 : Int) : AH := ⟨sB [(0, (some (.cells (layT (rows rw_iiiii a0)) 31)))], 1, 1⟩
def V_jobsNextq1 (a0 : List (Int × Int × Int × Int × Int)) (a1 : Nat) (a2 : Int) (a3 : Int) (a4 : Int) (r : Int × Bool) : Value := match r with
 | (o0, o1) => (Value.tuple #[(i6 o0), (bO o1)])
def R_jobsNextq1 (a0 : List (Int × Int × Int × Int × Int)) (a1 : Nat) (a2 : Int) (a3 : Int) (a4 : Int) (r : Int × Bool) : AH := match r with
 | (o0, o1) => ⟨sB [], 1, 1⟩
abbrev G_jobsNextq1 (a0 : List (Int × Int × Int × Int × Int)) (a1 : Nat) (a2 : Int) (a3 : Int) (a4 : Int) (r : Int × Bool) : Prop := Gv P (.func 8) (A_jobsNextq1 a0 a1 a2 a3 a4) (H_jobsNextq1 a0 a1 a2 a3 a4) (V_jobsNextq1 a0 a1 a2 a3 a4 r) (R_jobsNextq1 a0 a1 a2 a3 a4 r)
abbrev C_jobsNextq1 (a0 : List (Int × Int × Int × Int × Int)) (a1 : Nat) (a2 : Int) (a3 : Int) (a4 : Int) (r : Int × Bool) (ins outs : BL) : CallA := ⟨1, ins, V_jobsNextq1 a0 a1 a2 a3 a4 r, R_jobsNextq1 a0 a1 a2 a3 a4 r, outs⟩
def m_jobsNextq1 (n : Nat) (a0 : List (Int × Int × Int × Int × Int)) (a1 : Nat) (a2 : Int) (a3 : Int) (a4 : Int) : Option (Int × Bool) :=
 (m_jobsqueueq1 n a0 a1 a2 a3 a4).bind fun t => match t with
 | (c1_0, c1_1, c1_2) =>
  match c1_0 with
  | [] =>
   (m_heapHeapapiDirtyLeastq1 n a4 a2 a3 c1_2).bind fun _ =>
   some (0, false)
  | c1_0a :: c1_0t =>
   (m_heapHeapapiDirtyLeastq2 n a4 a2 a3 (c1_0a :: c1_0t) c1_1 c1_2).bind fun t => match t with
   | (c2_0, c2_1, c2_2, c2_3, c2_4, c2_5) =>
    some (c2_0, c2_5)
theorem m_jobsNextq1_ok (n : Nat) (a0 : List (Int × Int × Int × Int × Int)) (a1 : Nat) (a2 : Int) (a3 : Int) (a4 : Int) (r : Int × Bool) (h : m_jobsNextq1 n a0 a1 a2 a3 a4 = some r) : Gv P (.func 8) (A_jobsNextq1 a0 a1 a2 a3 a4) (H_jobsNextq1 a0 a1 a2 a3 a4) (V_jobsNextq1 a0 a1 a2 a3 a4 r) (R_jobsNextq1 a0 a1 a2 a3 a4 r) := by
 unfold m_jobsNextq1 at h
 obtain ⟨⟨c1_0, c1_1, c1_2⟩, hc1, h⟩ := Option.bind_eq_some_iff.1 h
 dsimp only at h
 cases c1_0 with
 | nil =>
  dsimp only at h
  obtain ⟨_, hc2, h⟩ := Option.bind_eq_some_iff.1 h
  obtain rfl := oI h; exact (runF2 hm (L := lT []) ⟨[6, 7], [], 1, 1⟩ (yy 8 (.call (C_jobsqueueq1 a0 a1 a2 a3 a4 (([] : List R6), c1_1, c1_2) [(0, 0, true)] [(2, 1, false), (3, 2, false), (4, 3, false)])) <|
ww (m_jobsqueueq1_ok n a0 a1 a2 a3 a4 (([] : List R6), c1_1, c1_2) hc1) <|
ww (rows_flat rwf_iiiii a0 31) <|
yy 9 (.call (C_heapHeapapiDirtyLeastq1 a4 a2 a3 c1_2 () [(0, 2, false), (1, 3, false), (2, 4, false)] [(6, 3, false)])) <|
ww (m_heapHeapapiDirtyLeastq1_ok n a4 a2 a3 c1_2 () hc2) ee) (by kernel_rfl))
 | cons c1_0a c1_0t =>
  dsimp only at h
  obtain ⟨⟨c2_0, c2_1, c2_2, c2_3, c2_4, c2_5⟩, hc2, h⟩ := Option.bind_eq_some_iff.1 h
  dsimp only at h
  obtain rfl := oI h; exact (runF2 hm (L := lT []) ⟨[6, 7], [], 1, 1⟩ (yy 8 (.call (C_jobsqueueq1 a0 a1 a2 a3 a4 ((c1_0a :: c1_0t), c1_1, c1_2) [(0, 0, true)] [(2, 1, false), (3, 2, false), (4, 3, false), (5, 4, true)])) <|
ww (m_jobsqueueq1_ok n a0 a1 a2 a3 a4 ((c1_0a :: c1_0t), c1_1, c1_2) hc1) <|
ww (rows_flat rwf_iiiii a0 31) <|
ww (rows_flat rwf_iiiiii (c1_0a :: c1_0t) 58) <|
yy 9 (.call (C_heapHeapapiDirtyLeastq2 a4 a2 a3 (c1_0a :: c1_0t) c1_1 c1_2 (c2_0, c2_1, c2_2, c2_3, c2_4, c2_5) [(0, 2, false), (1, 3, false), (2, 4, false), (3, 5, true)] [(6, 4, false)])) <|
ww (m_heapHeapapiDirtyLeastq2_ok n a4 a2 a3 (c1_0a :: c1_0t) c1_1 c1_2 (c2_0, c2_1, c2_2, c2_3, c2_4, c2_5) hc2) <|
ww (rows_flat rwf_iiiiii (c1_0a :: c1_0t) 58) ee) (by kernel_rfl))

def A_slicesCloneapiDirtyq1 (a0 : List (Int × Int × Int × Int × Int)) (a1 : Nat) : List Value := [(sN 0 0 a1 (Nat.add big 5))]
def H_slicesCloneapiDirtyq1 (a0 : List (Int × Int × Int × Int × Int)) (a1 : Nat) : AH := ⟨sB [(0, (some (.cells (layT (rows rw_iiiii a0)) 31)))], 1, 1⟩
def V_slicesCloneapiDirtyq1 (a0 : List (Int × Int × Int × Int × Int)) (a1 : Nat) (r : List (Int × Int × Int × Int × Int)) : Value := match r with
 | o0 => (sN 1 0 (o0).length (Nat.add big 5))
def R_slicesCloneapiDirtyq1 (a0 : List (Int × Int × Int × Int × Int)) (a1 : Nat) (r : List (Int × Int × Int × Int × Int)) : AH := match r with
 | o0 => ⟨sB [(1, (some (.cells (layT (rows rw_iiiii o0)) 31)))], 2, 1⟩
abbrev G_slicesCloneapiDirtyq1 (a0 : List (Int × Int × Int × Int × Int)) (a1 : Nat) (r : List (Int × Int × Int × Int × Int)) : Prop := Gv P (.func 14) (A_slicesCloneapiDirtyq1 a0 a1) (H_slicesCloneapiDirtyq1 a0 a1) (V_slicesCloneapiDirtyq1 a0 a1 r) (R_slicesCloneapiDirtyq1 a0 a1 r)
abbrev C_slicesCloneapiDirtyq1 (a0 : List (Int × Int × Int × Int × Int)) (a1 : Nat) (r : List (Int × Int × Int × Int × Int)) (ins outs : BL) : CallA := ⟨1, ins, V_slicesCloneapiDirtyq1 a0 a1 r, R_slicesCloneapiDirtyq1 a0 a1 r, outs⟩
def m_slicesCloneapiDirtyq1 (n : Nat) (a0 : List (Int × Int × Int × Int × Int)) (a1 : Nat) : Option (List (Int × Int × Int × Int × Int)) :=
 if 0 < a1 then
  if 0 + a1 ≤ (a0).length then
   if (0 + a1) * 40 ≤ 140737488355328 then
    if 0 < 0 + a1 then
     some (([] : List (Int × Int × Int × Int × Int)) ++ (List.take a1 (List.drop 0 a0)))
    else none
   else none
  else none
 else
  none
theorem m_slicesCloneapiDirtyq1_ok (n : Nat) (a0 : List (Int × Int × Int × Int × Int)) (a1 : Nat) (r : List (Int × Int × Int × Int × Int)) (h : m_slicesCloneapiDirtyq1 n a0 a1 = some r) : Gv P (.func 14) (A_slicesCloneapiDirtyq1 a0 a1) (H_slicesCloneapiDirtyq1 a0 a1) (V_slicesCloneapiDirtyq1 a0 a1 r) (R_slicesCloneapiDirtyq1 a0 a1 r) := by
 unfold m_slicesCloneapiDirtyq1 at h
 by_cases hc1 : 0 < a1
 ·rw [if_pos hc1] at h
  by_cases hc2 : 0 + a1 ≤ (a0).length
  ·rw [if_pos hc2] at h
   by_cases hc3 : (0 + a1) * 40 ≤ 140737488355328
   ·rw [if_pos hc3] at h
    by_cases hc4 : 0 < 0 + a1
    ·rw [if_pos hc4] at h
     obtain rfl := oI h; exact (runF2 hm (L := lT []) ⟨[2], [(1, 2, true)], 2, 1⟩ (ww (p := a1 = a1) (rfl) <|
ww (p := rdT (layT (rows rw_iiiii a0)) (Nat.mul a1 5) 0 = some (rows rw_iiiii (List.take a1 (List.drop 0 a0)))) ((Nat.zero_mul 5 ▸ rows_rdSub rwf_iiiii _ 0 _ hc2)) <|
yy 10 (.app ⟨some (a1, (rows rw_iiiii (List.take a1 (List.drop 0 a0)))), ([] : List Value), (rows rw_iiiii (([] : List (Int × Int × Int × Int × Int)) ++ (List.take a1 (List.drop 0 a0)))), ((([] : List (Int × Int × Int × Int × Int)) ++ (List.take a1 (List.drop 0 a0)))).length, true⟩) <|
ww (p := 0 < a1) (hc1) <|
ww (p := 0 < big) ((by decide)) <|
ww (p := 0 < Nat.add 0 a1) (hc4) <|
ww (p := rdT (layT ([] : List Value)) (Nat.mul 0 5) 0 = some (([] : List Value))) (rfl) <|
ww (p := fits (Nat.add 0 a1) 40 = true) (fits_ok hc3 (by have := hc3; show (_ : Nat) + _ ≤ _; omega)) <|
ww (p := ([] : List Value) ++ (rows rw_iiiii (List.take a1 (List.drop 0 a0))) = (rows rw_iiiii (([] : List (Int × Int × Int × Int × Int)) ++ (List.take a1 (List.drop 0 a0))))) (rows_app rw_iiiii ([] : List (Int × Int × Int × Int × Int)) (List.take a1 (List.drop 0 a0))) <|
ww (p := Nat.add 0 a1 = ((([] : List (Int × Int × Int × Int × Int)) ++ (List.take a1 (List.drop 0 a0)))).length) (by simp <;> (try simp only [List.length_cons] at *) <;> omega) <|
ww (rows_flat rwf_iiiii (([] : List (Int × Int × Int × Int × Int)) ++ (List.take a1 (List.drop 0 a0))) 31) ee) (by kernel_rfl))
    ·rw [if_neg hc4] at h; cases h
   ·rw [if_neg hc3] at h; cases h
  ·rw [if_neg hc2] at h; cases h
 ·rw [if_neg hc1] at h
  cases h

def A_jobsServeq1 (a0 : List (Int × Int × Int × Int × Int)) (a1 : Nat) (a2 : Int) : List Value := [(sN 0 0 a1 (Nat.add big 5)), (i6 a2)]
def H_jobsServeq1 (a0 : List (Int × Int × Int × Int × Int)) (a1 : Nat) (a2 : Int) : AH := ⟨sB [(0, (some (.cells (layT (rows rw_iiiii a0)) 31)))], 1, 1⟩
def V_jobsServeq1 (a0 : List (Int × Int × Int × Int × Int)) (a1 : Nat) (a2 : Int) (r : List (Int × Int × Int × Int × Int) × Nat) : Value := match r with
 | (o0, o1) => (sN 1 0 o1 (Nat.add big 5))
def R_jobsServeq1 (a0 : List (Int × Int × Int × Int × Int)) (a1 : Nat) (a2 : Int) (r : List (Int × Int × Int × Int × Int) × Nat) : AH := match r with
 | (o0, o1) => ⟨sB [(1, (some (.cells (layT (rows rw_iiiii o0)) 31)))], 2, 1⟩
abbrev G_jobsServeq1 (a0 : List (Int × Int × Int × Int × Int)) (a1 : Nat) (a2 : Int) (r : List (Int × Int × Int × Int × Int) × Nat) : Prop := Gv P (.func 10) (A_jobsServeq1 a0 a1 a2) (H_jobsServeq1 a0 a1 a2) (V_jobsServeq1 a0 a1 a2 r) (R_jobsServeq1 a0 a1 a2 r)
abbrev C_jobsServeq1 (a0 : List (Int × Int × Int × Int × Int)) (a1 : Nat) (a2 : Int) (r : List (Int × Int × Int × Int × Int) × Nat) (ins outs : BL) : CallA := ⟨1, ins, V_jobsServeq1 a0 a1 a2 r, R_jobsServeq1 a0 a1 a2 r, outs⟩
def S_jobsServeq1_1 (x1_0 : List (Int × Int × Int × Int × Int)) (x1_1 : Int) (x1_3 : Nat) (x1_4 : Int) (st : List (Int × Int × Int × Int × Int) × Int) : XSt := match st with
 | (x1_2, x1_5) => (sT 27 [(1, (i6 x1_1)), (5, (sN 1 0 x1_3 (Nat.add big 5))), (10, (i6 x1_4)), (11, (i6 x1_5))], [], ⟨sB [(0, (some (.cells (layT (rows rw_iiiii x1_0)) 31))), (1, (some (.cells (layT (rows rw_iiiii x1_2)) 31)))], 2, 1⟩)
def X_jobsServeq1_1 (x1_0 : List (Int × Int × Int × Int × Int)) (x1_1 : Int) (x1_3 : Nat) (x1_4 : Int) (r : List (Int × Int × Int × Int × Int)) : Ex × XSt := match r with
 | z1_0 => (.exit 0, (sT 27 [(5, (sN 1 0 x1_3 (Nat.add big 5)))], [], ⟨sB [(0, (some (.cells (layT (rows rw_iiiii x1_0)) 31))), (1, (some (.cells (layT (rows rw_iiiii z1_0)) 31)))], 2, 1⟩))
abbrev Q_jobsServeq1_1 (rnd : Option Nat) (x1_0 : List (Int × Int × Int × Int × Int)) (x1_1 : Int) (x1_3 : Nat) (x1_4 : Int) (st : List (Int × Int × Int × Int × Int) × Int) (c : Ex × XSt) : Prop := CG P rnd (fnN P 10) 1 (codeOf P 10 [false, false, true, false, true, true]) (S_jobsServeq1_1 x1_0 x1_1 x1_3 x1_4 st) c
abbrev U_jobsServeq1_1 (rd : Option Nat) (x1_0 : List (Int × Int × Int × Int × Int)) (x1_1 : Int) (x1_3 : Nat) (x1_4 : Int) (st : List (Int × Int × Int × Int × Int) × Int) (r : List (Int × Int × Int × Int × Int)) : Prop := CG P rd (fnN P 10) 1 (codeOf P 10 [false, true, false, true, true]) (S_jobsServeq1_1 x1_0 x1_1 x1_3 x1_4 st) (X_jobsServeq1_1 x1_0 x1_1 x1_3 x1_4 r)
def B_jobsServeq1_1 (n : Nat) (x1_0 : List (Int × Int × Int × Int × Int)) (x1_1 : Int) (x1_3 : Nat) (x1_4 : Int) (st : List (Int × Int × Int × Int × Int) × Int) : Option ((List (Int × Int × Int × Int × Int) × Int) ⊕ (List (Int × Int × Int × Int × Int))) := match st with
 | (x1_2, x1_5) =>
  if x1_5 < x1_4 then
   if 0 ≤ x1_5 ∧ x1_5 < ((x1_3 : Nat) : Int) then
    if (x1_5).toNat < (x1_2).length then
     ((some ((x1_2).getD (x1_5).toNat (0, 0, 0, 0, 0)))).bind fun y1_4_ =>
     if (y1_4_.1) = x1_1 then
      some (.inl (((x1_2).set (x1_5).toNat ((y1_4_.1), (y1_4_.2.1), (y1_4_.2.2.1), (0 : Int), (y1_4_.2.2.2.2))), (w64 (x1_5 + (1 : Int)))))
     else
      some (.inl (x1_2, (w64 (x1_5 + (1 : Int)))))
    else none
   else none
  else
   some (.inr x1_2)
def m_jobsServeq1_1 (n : Nat) (x1_0 : List (Int × Int × Int × Int × Int)) (x1_1 : Int) (x1_3 : Nat) (x1_4 : Int) (st : List (Int × Int × Int × Int × Int) × Int) : Option (List (Int × Int × Int × Int × Int)) := iterM (B_jobsServeq1_1 n x1_0 x1_1 x1_3 x1_4) n st
theorem q_jobsServeq1_1_0 (n : Nat) {rnd : Option Nat} (x1_0 : List (Int × Int × Int × Int × Int)) (x1_1 : Int) (x1_2 : List (Int × Int × Int × Int × Int)) (x1_3 : Nat) (x1_4 x1_5 : Int) (hy1_1 : x1_5 < x1_4) (hy1_2 : 0 ≤ x1_5 ∧ x1_5 < ((x1_3 : Nat) : Int)) (hy1_3 : (x1_5).toNat < (x1_2).length) (y1_4_ : Int × Int × Int × Int × Int) (hy1_4 : (some ((x1_2).getD (x1_5).toNat (0, 0, 0, 0, 0))) = some y1_4_) (hy1_5 : (y1_4_.1) = x1_1) : Q_jobsServeq1_1 rnd x1_0 x1_1 x1_3 x1_4 (x1_2, x1_5) (.normal, S_jobsServeq1_1 x1_0 x1_1 x1_3 x1_4 (((x1_2).set (x1_5).toNat ((y1_4_.1), (y1_4_.2.1), (y1_4_.2.2.1), (0 : Int), (y1_4_.2.2.2.2))), (w64 (x1_5 + (1 : Int))))) :=
 runC2 hm (L := lT []) ⟨[1, 5, 10, 11], [(0, 0, true), (1, 1, true)], 2, 1⟩ (zz 1 (xdT hy1_1) <|
zz 12 (xk5 1 U5 hy1_2) <|
zz 14 (ok9 hy1_4 (hy1_3)) <|
zz 16 (xeT hy1_5) <|
zz 20 (xk5 1 U5 hy1_2) <|
yy 22 (.sto (layT (rows rw_iiiii ((x1_2).set (x1_5).toNat ((y1_4_.1), (y1_4_.2.1), (y1_4_.2.2.1), (0 : Int), (y1_4_.2.2.2.2)))))) <|
ww (p := ∃ old, rdT (layT (rows rw_iiiii x1_2)) 1 (Nat.add ((x1_5).toNat * 5) 3) = some old) (Exists.elim (rows_stN rwf_iiiii (0, 0, 0, 0, 0) (hr := hy1_4) (i := (x1_5).toNat) (j := 3) (l := [(i6 (0 : Int))]) ((y1_4_.1), (y1_4_.2.1), (y1_4_.2.2.1), (0 : Int), (y1_4_.2.2.2.2)) (Nat.add ((x1_5).toNat * 5) 3) rfl (hy1_3) (Nat.le_of_ble_eq_true rfl) rfl) fun o h => ⟨o, h.1⟩) <|
ww (p := layL [(i6 (0 : Int))] (Nat.add ((x1_5).toNat * 5) 3) (layT (rows rw_iiiii x1_2)) = layT (rows rw_iiiii ((x1_2).set (x1_5).toNat ((y1_4_.1), (y1_4_.2.1), (y1_4_.2.2.1), (0 : Int), (y1_4_.2.2.2.2))))) (Exists.elim (rows_stN rwf_iiiii (0, 0, 0, 0, 0) (hr := hy1_4) (i := (x1_5).toNat) (j := 3) (l := [(i6 (0 : Int))]) ((y1_4_.1), (y1_4_.2.1), (y1_4_.2.2.1), (0 : Int), (y1_4_.2.2.2.2)) (Nat.add ((x1_5).toNat * 5) 3) rfl (hy1_3) (Nat.le_of_ble_eq_true rfl) rfl) fun o h => h.2) <|
ww (rows_flat rwf_iiiii x1_0 31) <|
ww (rows_flat rwf_iiiii ((x1_2).set (x1_5).toNat ((y1_4_.1), (y1_4_.2.1), (y1_4_.2.2.1), (0 : Int), (y1_4_.2.2.2.2))) 31) <|
ee) (by kernel_rfl)
theorem q_jobsServeq1_1_1 (n : Nat) {rnd : Option Nat} (x1_0 : List (Int × Int × Int × Int × Int)) (x1_1 : Int) (x1_2 : List (Int × Int × Int × Int × Int)) (x1_3 : Nat) (x1_4 x1_5 : Int) (hy1_1 : x1_5 < x1_4) (hy1_2 : 0 ≤ x1_5 ∧ x1_5 < ((x1_3 : Nat) : Int)) (hy1_3 : (x1_5).toNat < (x1_2).length) (y1_4_ : Int × Int × Int × Int × Int) (hy1_4 : (some ((x1_2).getD (x1_5).toNat (0, 0, 0, 0, 0))) = some y1_4_) (hy1_5 : ¬ ((y1_4_.1) = x1_1)) : Q_jobsServeq1_1 rnd x1_0 x1_1 x1_3 x1_4 (x1_2, x1_5) (.normal, S_jobsServeq1_1 x1_0 x1_1 x1_3 x1_4 (x1_2, (w64 (x1_5 + (1 : Int))))) :=
 runC2 hm (L := lT []) ⟨[1, 5, 10, 11], [(0, 0, true), (1, 1, true)], 2, 1⟩ (zz 1 (xdT hy1_1) <|
zz 12 (xk5 1 U5 hy1_2) <|
zz 14 (ok9 hy1_4 (hy1_3)) <|
zz 16 (xeF hy1_5) <|
ww (rows_flat rwf_iiiii x1_0 31) <|
ww (rows_flat rwf_iiiii x1_2 31) <|
ee) (by kernel_rfl)
theorem q_jobsServeq1_1_2 (n : Nat) {rnd : Option Nat} (x1_0 : List (Int × Int × Int × Int × Int)) (x1_1 : Int) (x1_2 : List (Int × Int × Int × Int × Int)) (x1_3 : Nat) (x1_4 x1_5 : Int) (hy1_1 : ¬ (x1_5 < x1_4)) : Q_jobsServeq1_1 rnd x1_0 x1_1 x1_3 x1_4 (x1_2, x1_5) (X_jobsServeq1_1 x1_0 x1_1 x1_3 x1_4 x1_2) :=
 runC2 hm (L := lT []) ⟨[5], [(0, 0, true), (1, 1, true)], 2, 1⟩ (zz 1 (xdF hy1_1) <|
ww (rows_flat rwf_iiiii x1_0 31) <|
ww (rows_flat rwf_iiiii x1_2 31) <|
ee) (by kernel_rfl)
theorem m_jobsServeq1_1_ok (n : Nat) {rnd : Option Nat} (x1_0 : List (Int × Int × Int × Int × Int)) (x1_1 : Int) (x1_3 : Nat) (x1_4 : Int) (st : List (Int × Int × Int × Int × Int) × Int) (r : List (Int × Int × Int × Int × Int)) (h : m_jobsServeq1_1 n x1_0 x1_1 x1_3 x1_4 st = some r) : CG P rnd (fnN P 10) 1 (codeOf P 10 [false, true, false, true, true]) (S_jobsServeq1_1 x1_0 x1_1 x1_3 x1_4 st) (X_jobsServeq1_1 x1_0 x1_1 x1_3 x1_4 r) :=
 CG.iter (b := codeOf P 10 [false, false, true, false, true, true]) (by kernel_rfl) (body := B_jobsServeq1_1 n x1_0 x1_1 x1_3 x1_4) (S := S_jobsServeq1_1 x1_0 x1_1 x1_3 x1_4) (X := X_jobsServeq1_1 x1_0 x1_1 x1_3 x1_4)
  (fun s s' h => by
  obtain ⟨x1_2, x1_5⟩ := s
  unfold B_jobsServeq1_1 at h
  dsimp only at h
  by_cases hy1_1 : x1_5 < x1_4
  ·rw [if_pos hy1_1] at h
   by_cases hy1_2 : 0 ≤ x1_5 ∧ x1_5 < ((x1_3 : Nat) : Int)
   ·rw [if_pos hy1_2] at h
    by_cases hy1_3 : (x1_5).toNat < (x1_2).length
    ·rw [if_pos hy1_3] at h
     obtain ⟨y1_4_, hy1_4, h⟩ := Option.bind_eq_some_iff.1 h
     by_cases hy1_5 : (y1_4_.1) = x1_1
     ·rw [if_pos hy1_5] at h
      obtain rfl := Sum.inl.inj (oI h); exact q_jobsServeq1_1_0 n x1_0 x1_1 x1_2 x1_3 x1_4 x1_5 hy1_1 hy1_2 hy1_3 y1_4_ hy1_4 hy1_5
     ·rw [if_neg hy1_5] at h
      obtain rfl := Sum.inl.inj (oI h); exact q_jobsServeq1_1_1 n x1_0 x1_1 x1_2 x1_3 x1_4 x1_5 hy1_1 hy1_2 hy1_3 y1_4_ hy1_4 hy1_5
    ·rw [if_neg hy1_3] at h; cases h
   ·rw [if_neg hy1_2] at h; cases h
  ·rw [if_neg hy1_1] at h
   cases h)
  (fun s r h => by
  obtain ⟨x1_2, x1_5⟩ := s
  unfold B_jobsServeq1_1 at h
  dsimp only at h
  by_cases hy1_1 : x1_5 < x1_4
  ·rw [if_pos hy1_1] at h
   by_cases hy1_2 : 0 ≤ x1_5 ∧ x1_5 < ((x1_3 : Nat) : Int)
   ·rw [if_pos hy1_2] at h
    by_cases hy1_3 : (x1_5).toNat < (x1_2).length
    ·rw [if_pos hy1_3] at h
     obtain ⟨y1_4_, hy1_4, h⟩ := Option.bind_eq_some_iff.1 h
     by_cases hy1_5 : (y1_4_.1) = x1_1
     ·rw [if_pos hy1_5] at h
      cases h
     ·rw [if_neg hy1_5] at h
      cases h
    ·rw [if_neg hy1_3] at h; cases h
   ·rw [if_neg hy1_2] at h; cases h
  ·rw [if_neg hy1_1] at h
   obtain rfl := Sum.inr.inj (oI h); exact q_jobsServeq1_1_2 n x1_0 x1_1 x1_2 x1_3 x1_4 x1_5 hy1_1)
  (fun r => by intro hx; cases hx) h
def m_jobsServeq1 (n : Nat) (a0 : List (Int × Int × Int × Int × Int)) (a1 : Nat) (a2 : Int) : Option (List (Int × Int × Int × Int × Int) × Nat) :=
 (m_slicesCloneapiDirtyq1 n a0 a1).bind fun c1_ =>
 (m_jobsServeq1_1 n a0 a2 ((c1_).length) (c1_.length : Int) (c1_, 0)).bind fun c2_ =>
 some (c2_, ((c1_).length))
theorem m_jobsServeq1_ok (n : Nat) (a0 : List (Int × Int × Int × Int × Int)) (a1 : Nat) (a2 : Int) (r : List (Int × Int × Int × Int × Int) × Nat) (h : m_jobsServeq1 n a0 a1 a2 = some r) : Gv P (.func 10) (A_jobsServeq1 a0 a1 a2) (H_jobsServeq1 a0 a1 a2) (V_jobsServeq1 a0 a1 a2 r) (R_jobsServeq1 a0 a1 a2 r) := by
 unfold m_jobsServeq1 at h
 obtain ⟨c1_, hc1, h⟩ := Option.bind_eq_some_iff.1 h
 obtain ⟨c2_, hc2, h⟩ := Option.bind_eq_some_iff.1 h
 obtain rfl := oI h; exact (runF2 hm (L := lT [(12, ⟨⟨[1, 5, 10, 11], [(0, 0, true), (1, 1, true)], 2, 1⟩, (X_jobsServeq1_1 a0 a2 ((c1_).length) (c1_.length : Int) c2_).1, (X_jobsServeq1_1 a0 a2 ((c1_).length) (c1_.length : Int) c2_).2⟩)]) ⟨[4], [(1, 1, true)], 2, 1⟩ (yy 4 (.call (C_slicesCloneapiDirtyq1 a0 a1 c1_ [(0, 0, true)] [(1, 1, true)])) <|
ww (m_slicesCloneapiDirtyq1_ok n a0 a1 c1_ hc1) <|
ww (rows_flat rwf_iiiii a0 31) <|
ww (rows_flat rwf_iiiii c1_ 31) <|
ww (p := U_jobsServeq1_1 none a0 a2 ((c1_).length) (c1_.length : Int) (c1_, 0) c2_) (m_jobsServeq1_1_ok n a0 a2 ((c1_).length) (c1_.length : Int) (c1_, 0) c2_ hc2) <|
ww (rows_flat rwf_iiiii a0 31) <|
ww (rows_flat rwf_iiiii c1_ 31) <|
ww (rows_flat rwf_iiiii c2_ 31) ee) (by kernel_rfl))

def A_jobsTickedq1 (a0 : List (Int × Int × Int × Int × Int)) (a1 : Nat) (a2 : List Int) : List Value := [(sN 0 0 a1 (Nat.add big 5)), (sN 1 0 (a2).length 1)]
def H_jobsTickedq1 (a0 : List (Int × Int × Int × Int × Int)) (a1 : Nat) (a2 : List Int) : AH := ⟨sB [(0, (some (.cells (layT (rows rw_iiiii a0)) 31))), (1, (some (.cells (layT (iv a2)) 3)))], 2, 2⟩
def V_jobsTickedq1 (a0 : List (Int × Int × Int × Int × Int)) (a1 : Nat) (a2 : List Int) (r : List (Int × Int × Int × Int × Int) × Nat) : Value := match r with
 | (o0, o1) => (sN 2 0 o1 (Nat.add big 5))
def R_jobsTickedq1 (a0 : List (Int × Int × Int × Int × Int)) (a1 : Nat) (a2 : List Int) (r : List (Int × Int × Int × Int × Int) × Nat) : AH := match r with
 | (o0, o1) => ⟨sB [(2, (some (.cells (layT (rows rw_iiiii o0)) 31)))], 3, 2⟩
abbrev G_jobsTickedq1 (a0 : List (Int × Int × Int × Int × Int)) (a1 : Nat) (a2 : List Int) (r : List (Int × Int × Int × Int × Int) × Nat) : Prop := Gv P (.func 9) (A_jobsTickedq1 a0 a1 a2) (H_jobsTickedq1 a0 a1 a2) (V_jobsTickedq1 a0 a1 a2 r) (R_jobsTickedq1 a0 a1 a2 r)
abbrev C_jobsTickedq1 (a0 : List (Int × Int × Int × Int × Int)) (a1 : Nat) (a2 : List Int) (r : List (Int × Int × Int × Int × Int) × Nat) (ins outs : BL) : CallA := ⟨2, ins, V_jobsTickedq1 a0 a1 a2 r, R_jobsTickedq1 a0 a1 a2 r, outs⟩
def S_jobsTickedq1_2 (x2_0 : List (Int × Int × Int × Int × Int)) (x2_1 : List Int) (x2_2 : MapI Unit) (x2_4 : Nat) (x2_5 : Int) (st : List (Int × Int × Int × Int × Int) × Int) : XSt := match st with
 | (x2_3, x2_6) => (sT 61 [(5, (Value.map (some 2))), (8, (sN 3 0 x2_4 (Nat.add big 5))), (27, (i6 x2_5)), (28, (i6 x2_6))], [], ⟨sB [(0, (some (.cells (layT (rows rw_iiiii x2_0)) 31))), (1, (some (.cells (layT (iv x2_1)) 3))), (2, (some (.map (mEs mvU x2_2) (mLen x2_2)))), (3, (some (.cells (layT (rows rw_iiiii x2_3)) 31)))], 4, 2⟩)
def X_jobsTickedq1_2 (x2_0 : List (Int × Int × Int × Int × Int)) (x2_1 : List Int) (x2_2 : MapI Unit) (x2_4 : Nat) (x2_5 : Int) (r : List (Int × Int × Int × Int × Int)) : Ex × XSt := match r with
 | z2_0 => (.exit 2, (sT 61 [(8, (sN 2 0 x2_4 (Nat.add big 5)))], [], ⟨sB [(0, (some (.cells (layT (rows rw_iiiii x2_0)) 31))), (1, (some (.cells (layT (iv x2_1)) 3))), (2, (some (.cells (layT (rows rw_iiiii z2_0)) 31)))], 3, 2⟩))
abbrev Q_jobsTickedq1_2 (rnd : Option Nat) (x2_0 : List (Int × Int × Int × Int × Int)) (x2_1 : List Int) (x2_2 : MapI Unit) (x2_4 : Nat) (x2_5 : Int) (st : List (Int × Int × Int × Int × Int) × Int) (c : Ex × XSt) : Prop := CG P rnd (fnN P 9) 2 (codeOf P 9 [false, false, true, false, true, true, true, true]) (S_jobsTickedq1_2 x2_0 x2_1 x2_2 x2_4 x2_5 st) c
abbrev U_jobsTickedq1_2 (rd : Option Nat) (x2_0 : List (Int × Int × Int × Int × Int)) (x2_1 : List Int) (x2_2 : MapI Unit) (x2_4 : Nat) (x2_5 : Int) (st : List (Int × Int × Int × Int × Int) × Int) (r : List (Int × Int × Int × Int × Int)) : Prop := CG P rd (fnN P 9) 2 (codeOf P 9 [false, true, false, true, true, true, true]) (S_jobsTickedq1_2 x2_0 x2_1 x2_2 x2_4 x2_5 st) (X_jobsTickedq1_2 x2_0 x2_1 x2_2 x2_4 x2_5 r)
def B_jobsTickedq1_2 (n : Nat) (x2_0 : List (Int × Int × Int × Int × Int)) (x2_1 : List Int) (x2_2 : MapI Unit) (x2_4 : Nat) (x2_5 : Int) (st : List (Int × Int × Int × Int × Int) × Int) : Option ((List (Int × Int × Int × Int × Int) × Int) ⊕ (List (Int × Int × Int × Int × Int))) := match st with
 | (x2_3, x2_6) =>
  if x2_6 < x2_5 then
   if 0 ≤ x2_6 ∧ x2_6 < ((x2_4 : Nat) : Int) then
    if (x2_6).toNat < (x2_3).length then
     ((some ((x2_3).getD (x2_6).toNat (0, 0, 0, 0, 0)))).bind fun y2_4_ =>
     if (mHas x2_2 (y2_4_.1)) = true then
      some (.inl (((x2_3).set (x2_6).toNat ((y2_4_.1), (y2_4_.2.1), (y2_4_.2.2.1), (0 : Int), (y2_4_.2.2.2.2))), (w64 (x2_6 + (1 : Int)))))
     else
      if (y2_4_.2.2.2.1) < (1000000 : Int) then
       some (.inl (((x2_3).set (x2_6).toNat ((y2_4_.1), (y2_4_.2.1), (y2_4_.2.2.1), (w64 ((y2_4_.2.2.2.1) + (1 : Int))), (y2_4_.2.2.2.2))), (w64 (x2_6 + (1 : Int)))))
      else
       some (.inl (x2_3, (w64 (x2_6 + (1 : Int)))))
    else none
   else none
  else
   some (.inr x2_3)
def m_jobsTickedq1_2 (n : Nat) (x2_0 : List (Int × Int × Int × Int × Int)) (x2_1 : List Int) (x2_2 : MapI Unit) (x2_4 : Nat) (x2_5 : Int) (st : List (Int × Int × Int × Int × Int) × Int) : Option (List (Int × Int × Int × Int × Int)) := iterM (B_jobsTickedq1_2 n x2_0 x2_1 x2_2 x2_4 x2_5) n st
theorem q_jobsTickedq1_2_0 (n : Nat) {rnd : Option Nat} (x2_0 : List (Int × Int × Int × Int × Int)) (x2_1 : List Int) (x2_2 : MapI Unit) (x2_3 : List (Int × Int × Int × Int × Int)) (x2_4 : Nat) (x2_5 x2_6 : Int) (hy2_1 : x2_6 < x2_5) (hy2_2 : 0 ≤ x2_6 ∧ x2_6 < ((x2_4 : Nat) : Int)) (hy2_3 : (x2_6).toNat < (x2_3).length) (y2_4_ : Int × Int × Int × Int × Int) (hy2_4 : (some ((x2_3).getD (x2_6).toNat (0, 0, 0, 0, 0))) = some y2_4_) (hy2_5 : (mHas x2_2 (y2_4_.1)) = true) : Q_jobsTickedq1_2 rnd x2_0 x2_1 x2_2 x2_4 x2_5 (x2_3, x2_6) (.normal, S_jobsTickedq1_2 x2_0 x2_1 x2_2 x2_4 x2_5 (((x2_3).set (x2_6).toNat ((y2_4_.1), (y2_4_.2.1), (y2_4_.2.2.1), (0 : Int), (y2_4_.2.2.2.2))), (w64 (x2_6 + (1 : Int))))) :=
 runC2 hm (L := lT []) ⟨[5, 8, 27, 28], [(0, 0, true), (1, 1, true), (2, 2, true), (3, 3, true)], 4, 2⟩ (zz 1 (xdT hy2_1) <|
zz 12 (xk5 3 U5 hy2_2) <|
zz 19 (ok9 hy2_4 (hy2_3)) <|
yy 20 (.mlk (Value.tuple #[(Value.agg #[]), (bO (mHas x2_2 (y2_4_.1)))])) <|
ww (p := ∀ H : AH, oc (findU (.int .i64) (i6 (y2_4_.1)) (mEs mvU x2_2) 0) none (fun r => lookRes P 46 true H r) = some ((Value.tuple #[(Value.agg #[]), (bO (mHas x2_2 (y2_4_.1)))]), H)) (mlookU2 (by kernel_rfl) _ _) <|
zz 29 (xbT hy2_5) <|
yy 33 (.sto (layT (rows rw_iiiii ((x2_3).set (x2_6).toNat ((y2_4_.1), (y2_4_.2.1), (y2_4_.2.2.1), (0 : Int), (y2_4_.2.2.2.2)))))) <|
ww (p := ∃ old, rdT (layT (rows rw_iiiii x2_3)) 1 (Nat.add ((x2_6).toNat * 5) 3) = some old) (Exists.elim (rows_stN rwf_iiiii (0, 0, 0, 0, 0) (hr := hy2_4) (i := (x2_6).toNat) (j := 3) (l := [(i6 (0 : Int))]) ((y2_4_.1), (y2_4_.2.1), (y2_4_.2.2.1), (0 : Int), (y2_4_.2.2.2.2)) (Nat.add ((x2_6).toNat * 5) 3) rfl (hy2_3) (Nat.le_of_ble_eq_true rfl) rfl) fun o h => ⟨o, h.1⟩) <|
ww (p := layL [(i6 (0 : Int))] (Nat.add ((x2_6).toNat * 5) 3) (layT (rows rw_iiiii x2_3)) = layT (rows rw_iiiii ((x2_3).set (x2_6).toNat ((y2_4_.1), (y2_4_.2.1), (y2_4_.2.2.1), (0 : Int), (y2_4_.2.2.2.2))))) (Exists.elim (rows_stN rwf_iiiii (0, 0, 0, 0, 0) (hr := hy2_4) (i := (x2_6).toNat) (j := 3) (l := [(i6 (0 : Int))]) ((y2_4_.1), (y2_4_.2.1), (y2_4_.2.2.1), (0 : Int), (y2_4_.2.2.2.2)) (Nat.add ((x2_6).toNat * 5) 3) rfl (hy2_3) (Nat.le_of_ble_eq_true rfl) rfl) fun o h => h.2) <|
ww (rows_flat rwf_iiiii x2_0 31) <|
ww (iv_flat x2_1 3) <|
ww (mflat mvU (fun _ => rfl) x2_2 (mLen x2_2)) <|
ww (rows_flat rwf_iiiii ((x2_3).set (x2_6).toNat ((y2_4_.1), (y2_4_.2.1), (y2_4_.2.2.1), (0 : Int), (y2_4_.2.2.2.2))) 31) <|
ee) (by kernel_rfl)
theorem q_jobsTickedq1_2_1 (n : Nat) {rnd : Option Nat} (x2_0 : List (Int × Int × Int × Int × Int)) (x2_1 : List Int) (x2_2 : MapI Unit) (x2_3 : List (Int × Int × Int × Int × Int)) (x2_4 : Nat) (x2_5 x2_6 : Int) (hy2_1 : x2_6 < x2_5) (hy2_2 : 0 ≤ x2_6 ∧ x2_6 < ((x2_4 : Nat) : Int)) (hy2_3 : (x2_6).toNat < (x2_3).length) (y2_4_ : Int × Int × Int × Int × Int) (hy2_4 : (some ((x2_3).getD (x2_6).toNat (0, 0, 0, 0, 0))) = some y2_4_) (hy2_5 : ¬ ((mHas x2_2 (y2_4_.1)) = true)) (hy2_6 : (y2_4_.2.2.2.1) < (1000000 : Int)) : Q_jobsTickedq1_2 rnd x2_0 x2_1 x2_2 x2_4 x2_5 (x2_3, x2_6) (.normal, S_jobsTickedq1_2 x2_0 x2_1 x2_2 x2_4 x2_5 (((x2_3).set (x2_6).toNat ((y2_4_.1), (y2_4_.2.1), (y2_4_.2.2.1), (w64 ((y2_4_.2.2.2.1) + (1 : Int))), (y2_4_.2.2.2.2))), (w64 (x2_6 + (1 : Int))))) :=
 runC2 hm (L := lT []) ⟨[5, 8, 27, 28], [(0, 0, true), (1, 1, true), (2, 2, true), (3, 3, true)], 4, 2⟩ (zz 1 (xdT hy2_1) <|
zz 12 (xk5 3 U5 hy2_2) <|
zz 19 (ok9 hy2_4 (hy2_3)) <|
yy 20 (.mlk (Value.tuple #[(Value.agg #[]), (bO (mHas x2_2 (y2_4_.1)))])) <|
ww (p := ∀ H : AH, oc (findU (.int .i64) (i6 (y2_4_.1)) (mEs mvU x2_2) 0) none (fun r => lookRes P 46 true H r) = some ((Value.tuple #[(Value.agg #[]), (bO (mHas x2_2 (y2_4_.1)))]), H)) (mlookU2 (by kernel_rfl) _ _) <|
zz 29 (xbF hy2_5) <|
zz 34 (ok11 hy2_4 (hy2_3)) <|
zz 35 (xdT hy2_6) <|
zz 40 (ok11 hy2_4 (hy2_3)) <|
yy 44 (.sto (layT (rows rw_iiiii ((x2_3).set (x2_6).toNat ((y2_4_.1), (y2_4_.2.1), (y2_4_.2.2.1), (w64 ((y2_4_.2.2.2.1) + (1 : Int))), (y2_4_.2.2.2.2)))))) <|
ww (p := ∃ old, rdT (layT (rows rw_iiiii x2_3)) 1 (Nat.add ((x2_6).toNat * 5) 3) = some old) (Exists.elim (rows_stN rwf_iiiii (0, 0, 0, 0, 0) (hr := hy2_4) (i := (x2_6).toNat) (j := 3) (l := [(i6 (w64 ((y2_4_.2.2.2.1) + (1 : Int))))]) ((y2_4_.1), (y2_4_.2.1), (y2_4_.2.2.1), (w64 ((y2_4_.2.2.2.1) + (1 : Int))), (y2_4_.2.2.2.2)) (Nat.add ((x2_6).toNat * 5) 3) rfl (hy2_3) (Nat.le_of_ble_eq_true rfl) rfl) fun o h => ⟨o, h.1⟩) <|
ww (p := layL [(i6 (w64 ((y2_4_.2.2.2.1) + (1 : Int))))] (Nat.add ((x2_6).toNat * 5) 3) (layT (rows rw_iiiii x2_3)) = layT (rows rw_iiiii ((x2_3).set (x2_6).toNat ((y2_4_.1), (y2_4_.2.1), (y2_4_.2.2.1), (w64 ((y2_4_.2.2.2.1) + (1 : Int))), (y2_4_.2.2.2.2))))) (Exists.elim (rows_stN rwf_iiiii (0, 0, 0, 0, 0) (hr := hy2_4) (i := (x2_6).toNat) (j := 3) (l := [(i6 (w64 ((y2_4_.2.2.2.1) + (1 : Int))))]) ((y2_4_.1), (y2_4_.2.1), (y2_4_.2.2.1), (w64 ((y2_4_.2.2.2.1) + (1 : Int))), (y2_4_.2.2.2.2)) (Nat.add ((x2_6).toNat * 5) 3) rfl (hy2_3) (Nat.le_of_ble_eq_true rfl) rfl) fun o h => h.2) <|
ww (rows_flat rwf_iiiii x2_0 31) <|
ww (iv_flat x2_1 3) <|
ww (mflat mvU (fun _ => rfl) x2_2 (mLen x2_2)) <|
ww (rows_flat rwf_iiiii ((x2_3).set (x2_6).toNat ((y2_4_.1), (y2_4_.2.1), (y2_4_.2.2.1), (w64 ((y2_4_.2.2.2.1) + (1 : Int))), (y2_4_.2.2.2.2))) 31) <|
ee) (by kernel_rfl)
theorem q_jobsTickedq1_2_2 (n : Nat) {rnd : Option Nat} (x2_0 : List (Int × Int × Int × Int × Int)) (x2_1 : List Int) (x2_2 : MapI Unit) (x2_3 : List (Int × Int × Int × Int × Int)) (x2_4 : Nat) (x2_5 x2_6 : Int) (hy2_1 : x2_6 < x2_5) (hy2_2 : 0 ≤ x2_6 ∧ x2_6 < ((x2_4 : Nat) : Int)) (hy2_3 : (x2_6).toNat < (x2_3).length) (y2_4_ : Int × Int × Int × Int × Int) (hy2_4 : (some ((x2_3).getD (x2_6).toNat (0, 0, 0, 0, 0))) = some y2_4_) (hy2_5 : ¬ ((mHas x2_2 (y2_4_.1)) = true)) (hy2_6 : ¬ ((y2_4_.2.2.2.1) < (1000000 : Int))) : Q_jobsTickedq1_2 rnd x2_0 x2_1 x2_2 x2_4 x2_5 (x2_3, x2_6) (.normal, S_jobsTickedq1_2 x2_0 x2_1 x2_2 x2_4 x2_5 (x2_3, (w64 (x2_6 + (1 : Int))))) :=
 runC2 hm (L := lT []) ⟨[5, 8, 27, 28], [(0, 0, true), (1, 1, true), (2, 2, true), (3, 3, true)], 4, 2⟩ (zz 1 (xdT hy2_1) <|
zz 12 (xk5 3 U5 hy2_2) <|
zz 19 (ok9 hy2_4 (hy2_3)) <|
yy 20 (.mlk (Value.tuple #[(Value.agg #[]), (bO (mHas x2_2 (y2_4_.1)))])) <|
ww (p := ∀ H : AH, oc (findU (.int .i64) (i6 (y2_4_.1)) (mEs mvU x2_2) 0) none (fun r => lookRes P 46 true H r) = some ((Value.tuple #[(Value.agg #[]), (bO (mHas x2_2 (y2_4_.1)))]), H)) (mlookU2 (by kernel_rfl) _ _) <|
zz 29 (xbF hy2_5) <|
zz 34 (ok11 hy2_4 (hy2_3)) <|
zz 35 (xdF hy2_6) <|
ww (rows_flat rwf_iiiii x2_0 31) <|
ww (iv_flat x2_1 3) <|
ww (mflat mvU (fun _ => rfl) x2_2 (mLen x2_2)) <|
ww (rows_flat rwf_iiiii x2_3 31) <|
ee) (by kernel_rfl)
theorem q_jobsTickedq1_2_3 (n : Nat) {rnd : Option Nat} (x2_0 : List (Int × Int × Int × Int × Int)) (x2_1 : List Int) (x2_2 : MapI Unit) (x2_3 : List (Int × Int × Int × Int × Int)) (x2_4 : Nat) (x2_5 x2_6 : Int) (hy2_1 : ¬ (x2_6 < x2_5)) : Q_jobsTickedq1_2 rnd x2_0 x2_1 x2_2 x2_4 x2_5 (x2_3, x2_6) (X_jobsTickedq1_2 x2_0 x2_1 x2_2 x2_4 x2_5 x2_3) :=
 runC2 hm (L := lT []) ⟨[8], [(0, 0, true), (1, 1, true), (2, 3, true)], 3, 2⟩ (zz 1 (xdF hy2_1) <|
ww (rows_flat rwf_iiiii x2_0 31) <|
ww (iv_flat x2_1 3) <|
ww (rows_flat rwf_iiiii x2_3 31) <|
ee) (by kernel_rfl)
theorem m_jobsTickedq1_2_ok (n : Nat) {rnd : Option Nat} (x2_0 : List (Int × Int × Int × Int × Int)) (x2_1 : List Int) (x2_2 : MapI Unit) (x2_4 : Nat) (x2_5 : Int) (st : List (Int × Int × Int × Int × Int) × Int) (r : List (Int × Int × Int × Int × Int)) (h : m_jobsTickedq1_2 n x2_0 x2_1 x2_2 x2_4 x2_5 st = some r) : CG P rnd (fnN P 9) 2 (codeOf P 9 [false, true, false, true, true, true, true]) (S_jobsTickedq1_2 x2_0 x2_1 x2_2 x2_4 x2_5 st) (X_jobsTickedq1_2 x2_0 x2_1 x2_2 x2_4 x2_5 r) :=
 CG.iter (b := codeOf P 9 [false, false, true, false, true, true, true, true]) (by kernel_rfl) (body := B_jobsTickedq1_2 n x2_0 x2_1 x2_2 x2_4 x2_5) (S := S_jobsTickedq1_2 x2_0 x2_1 x2_2 x2_4 x2_5) (X := X_jobsTickedq1_2 x2_0 x2_1 x2_2 x2_4 x2_5)
  (fun s s' h => by
  obtain ⟨x2_3, x2_6⟩ := s
  unfold B_jobsTickedq1_2 at h
  dsimp only at h
  by_cases hy2_1 : x2_6 < x2_5
  ·rw [if_pos hy2_1] at h
   by_cases hy2_2 : 0 ≤ x2_6 ∧ x2_6 < ((x2_4 : Nat) : Int)
   ·rw [if_pos hy2_2] at h
    by_cases hy2_3 : (x2_6).toNat < (x2_3).length
    ·rw [if_pos hy2_3] at h
     obtain ⟨y2_4_, hy2_4, h⟩ := Option.bind_eq_some_iff.1 h
     by_cases hy2_5 : (mHas x2_2 (y2_4_.1)) = true
     ·rw [if_pos hy2_5] at h
      obtain rfl := Sum.inl.inj (oI h); exact q_jobsTickedq1_2_0 n x2_0 x2_1 x2_2 x2_3 x2_4 x2_5 x2_6 hy2_1 hy2_2 hy2_3 y2_4_ hy2_4 hy2_5
     ·rw [if_neg hy2_5] at h
      by_cases hy2_6 : (y2_4_.2.2.2.1) < (1000000 : Int)
      ·rw [if_pos hy2_6] at h
       obtain rfl := Sum.inl.inj (oI h); exact q_jobsTickedq1_2_1 n x2_0 x2_1 x2_2 x2_3 x2_4 x2_5 x2_6 hy2_1 hy2_2 hy2_3 y2_4_ hy2_4 hy2_5 hy2_6
      ·rw [if_neg hy2_6] at h
       obtain rfl := Sum.inl.inj (oI h); exact q_jobsTickedq1_2_2 n x2_0 x2_1 x2_2 x2_3 x2_4 x2_5 x2_6 hy2_1 hy2_2 hy2_3 y2_4_ hy2_4 hy2_5 hy2_6
    ·rw [if_neg hy2_3] at h; cases h
   ·rw [if_neg hy2_2] at h; cases h
  ·rw [if_neg hy2_1] at h
   cases h)
  (fun s r h => by
  obtain ⟨x2_3, x2_6⟩ := s
  unfold B_jobsTickedq1_2 at h
  dsimp only at h
  by_cases hy2_1 : x2_6 < x2_5
  ·rw [if_pos hy2_1] at h
   by_cases hy2_2 : 0 ≤ x2_6 ∧ x2_6 < ((x2_4 : Nat) : Int)
   ·rw [if_pos hy2_2] at h
    by_cases hy2_3 : (x2_6).toNat < (x2_3).length
    ·rw [if_pos hy2_3] at h
     obtain ⟨y2_4_, hy2_4, h⟩ := Option.bind_eq_some_iff.1 h
     by_cases hy2_5 : (mHas x2_2 (y2_4_.1)) = true
     ·rw [if_pos hy2_5] at h
      cases h
     ·rw [if_neg hy2_5] at h
      by_cases hy2_6 : (y2_4_.2.2.2.1) < (1000000 : Int)
      ·rw [if_pos hy2_6] at h
       cases h
      ·rw [if_neg hy2_6] at h
       cases h
    ·rw [if_neg hy2_3] at h; cases h
   ·rw [if_neg hy2_2] at h; cases h
  ·rw [if_neg hy2_1] at h
   obtain rfl := Sum.inr.inj (oI h); exact q_jobsTickedq1_2_3 n x2_0 x2_1 x2_2 x2_3 x2_4 x2_5 x2_6 hy2_1)
  (fun r => by intro hx; cases hx) h
def S_jobsTickedq1_1 (x1_0 : List (Int × Int × Int × Int × Int)) (x1_1 : List Int) (x1_2 : Nat) (x1_4 : Int) (st : MapI Unit × Int) : XSt := match st with
 | (x1_3, x1_5) => (sT 61 [(0, (sN 0 0 x1_2 (Nat.add big 5))), (5, (Value.map (some 2))), (14, (sN 1 0 (x1_1).length 1)), (15, (i6 x1_4)), (16, (i6 x1_5))], [], ⟨sB [(0, (some (.cells (layT (rows rw_iiiii x1_0)) 31))), (1, (some (.cells (layT (iv x1_1)) 3))), (2, (some (.map (mEs mvU x1_3) (mLen x1_3))))], 3, 2⟩)
def X_jobsTickedq1_1 (x1_0 : List (Int × Int × Int × Int × Int)) (x1_1 : List Int) (x1_2 : Nat) (x1_4 : Int) (r : MapI Unit) : Ex × XSt := match r with
 | z1_0 => (.exit 0, (sT 61 [(0, (sN 0 0 x1_2 (Nat.add big 5))), (5, (Value.map (some 2)))], [], ⟨sB [(0, (some (.cells (layT (rows rw_iiiii x1_0)) 31))), (1, (some (.cells (layT (iv x1_1)) 3))), (2, (some (.map (mEs mvU z1_0) (mLen z1_0))))], 3, 2⟩))
abbrev Q_jobsTickedq1_1 (rnd : Option Nat) (x1_0 : List (Int × Int × Int × Int × Int)) (x1_1 : List Int) (x1_2 : Nat) (x1_4 : Int) (st : MapI Unit × Int) (c : Ex × XSt) : Prop := CG P rnd (fnN P 9) 2 (codeOf P 9 [false, false, true, false, true, true]) (S_jobsTickedq1_1 x1_0 x1_1 x1_2 x1_4 st) c
abbrev U_jobsTickedq1_1 (rd : Option Nat) (x1_0 : List (Int × Int × Int × Int × Int)) (x1_1 : List Int) (x1_2 : Nat) (x1_4 : Int) (st : MapI Unit × Int) (r : MapI Unit) : Prop := CG P rd (fnN P 9) 2 (codeOf P 9 [false, true, false, true, true]) (S_jobsTickedq1_1 x1_0 x1_1 x1_2 x1_4 st) (X_jobsTickedq1_1 x1_0 x1_1 x1_2 x1_4 r)
def B_jobsTickedq1_1 (n : Nat) (x1_0 : List (Int × Int × Int × Int × Int)) (x1_1 : List Int) (x1_2 : Nat) (x1_4 : Int) (st : MapI Unit × Int) : Option ((MapI Unit × Int) ⊕ (MapI Unit)) := match st with
 | (x1_3, x1_5) =>
  if x1_5 < x1_4 then
   if 0 ≤ x1_5 ∧ x1_5 < (x1_1.length : Int) then
    ((some ((x1_1).getD (x1_5).toNat 0))).bind fun y1_3_ =>
    some (.inl ((mPut x1_3 y1_3_ ()), (w64 (x1_5 + (1 : Int)))))
   else none
  else
   some (.inr x1_3)
def m_jobsTickedq1_1 (n : Nat) (x1_0 : List (Int × Int × Int × Int × Int)) (x1_1 : List Int) (x1_2 : Nat) (x1_4 : Int) (st : MapI Unit × Int) : Option (MapI Unit) := iterM (B_jobsTickedq1_1 n x1_0 x1_1 x1_2 x1_4) n st
theorem q_jobsTickedq1_1_0 (n : Nat) {rnd : Option Nat} (x1_0 : List (Int × Int × Int × Int × Int)) (x1_1 : List Int) (x1_2 : Nat) (x1_3 : MapI Unit) (x1_4 x1_5 : Int) (hy1_1 : x1_5 < x1_4) (hy1_2 : 0 ≤ x1_5 ∧ x1_5 < (x1_1.length : Int)) (y1_3_ : Int) (hy1_3 : (some ((x1_1).getD (x1_5).toNat 0)) = some y1_3_) : Q_jobsTickedq1_1 rnd x1_0 x1_1 x1_2 x1_4 (x1_3, x1_5) (.normal, S_jobsTickedq1_1 x1_0 x1_1 x1_2 x1_4 ((mPut x1_3 y1_3_ ()), (w64 (x1_5 + (1 : Int))))) :=
 runC2 hm (L := lT []) ⟨[0, 5, 14, 15, 16], [(0, 0, true), (1, 1, true), (2, 2, true)], 3, 2⟩ (zz 1 (xdT hy1_1) <|
zz 7 (xk10 1 1 hy1_2) <|
zz 8 (xivN hy1_3 (toNatLt hy1_2)) <|
yy 13 (.mup (mEs mvU (mPut x1_3 y1_3_ ())) (mLen (mPut x1_3 y1_3_ ()))) <|
ww (p := oc (findU (.int .i64) (i6 y1_3_) (mEs mvU x1_3) 0) none (fun r => some (updEs (mEs mvU x1_3, mLen x1_3) (i6 y1_3_) (Value.agg #[]) r)) = some (.map (mEs mvU (mPut x1_3 y1_3_ ())) (mLen (mPut x1_3 y1_3_ ())))) (mput_ok mvU _ _ _) <|
ww (rows_flat rwf_iiiii x1_0 31) <|
ww (iv_flat x1_1 3) <|
ww (mflat mvU (fun _ => rfl) (mPut x1_3 y1_3_ ()) (mLen (mPut x1_3 y1_3_ ()))) <|
ee) (by kernel_rfl)
theorem q_jobsTickedq1_1_1 (n : Nat) {rnd : Option Nat} (x1_0 : List (Int × Int × Int × Int × Int)) (x1_1 : List Int) (x1_2 : Nat) (x1_3 : MapI Unit) (x1_4 x1_5 : Int) (hy1_1 : ¬ (x1_5 < x1_4)) : Q_jobsTickedq1_1 rnd x1_0 x1_1 x1_2 x1_4 (x1_3, x1_5) (X_jobsTickedq1_1 x1_0 x1_1 x1_2 x1_4 x1_3) :=
 runC2 hm (L := lT []) ⟨[0, 5], [(0, 0, true), (1, 1, true), (2, 2, true)], 3, 2⟩ (zz 1 (xdF hy1_1) <|
ww (rows_flat rwf_iiiii x1_0 31) <|
ww (iv_flat x1_1 3) <|
ww (mflat mvU (fun _ => rfl) x1_3 (mLen x1_3)) <|
ee) (by kernel_rfl)
theorem m_jobsTickedq1_1_ok (n : Nat) {rnd : Option Nat} (x1_0 : List (Int × Int × Int × Int × Int)) (x1_1 : List Int) (x1_2 : Nat) (x1_4 : Int) (st : MapI Unit × Int) (r : MapI Unit) (h : m_jobsTickedq1_1 n x1_0 x1_1 x1_2 x1_4 st = some r) : CG P rnd (fnN P 9) 2 (codeOf P 9 [false, true, false, true, true]) (S_jobsTickedq1_1 x1_0 x1_1 x1_2 x1_4 st) (X_jobsTickedq1_1 x1_0 x1_1 x1_2 x1_4 r) :=
 CG.iter (b := codeOf P 9 [false, false, true, false, true, true]) (by kernel_rfl) (body := B_jobsTickedq1_1 n x1_0 x1_1 x1_2 x1_4) (S := S_jobsTickedq1_1 x1_0 x1_1 x1_2 x1_4) (X := X_jobsTickedq1_1 x1_0 x1_1 x1_2 x1_4)
  (fun s s' h => by
  obtain ⟨x1_3, x1_5⟩ := s
  unfold B_jobsTickedq1_1 at h
  dsimp only at h
  by_cases hy1_1 : x1_5 < x1_4
  ·rw [if_pos hy1_1] at h
   by_cases hy1_2 : 0 ≤ x1_5 ∧ x1_5 < (x1_1.length : Int)
   ·rw [if_pos hy1_2] at h
    obtain ⟨y1_3_, hy1_3, h⟩ := Option.bind_eq_some_iff.1 h
    obtain rfl := Sum.inl.inj (oI h); exact q_jobsTickedq1_1_0 n x1_0 x1_1 x1_2 x1_3 x1_4 x1_5 hy1_1 hy1_2 y1_3_ hy1_3
   ·rw [if_neg hy1_2] at h; cases h
  ·rw [if_neg hy1_1] at h
   cases h)
  (fun s r h => by
  obtain ⟨x1_3, x1_5⟩ := s
  unfold B_jobsTickedq1_1 at h
  dsimp only at h
  by_cases hy1_1 : x1_5 < x1_4
  ·rw [if_pos hy1_1] at h
   by_cases hy1_2 : 0 ≤ x1_5 ∧ x1_5 < (x1_1.length : Int)
   ·rw [if_pos hy1_2] at h
    obtain ⟨y1_3_, hy1_3, h⟩ := Option.bind_eq_some_iff.1 h
    cases h
   ·rw [if_neg hy1_2] at h; cases h
  ·rw [if_neg hy1_1] at h
   obtain rfl := Sum.inr.inj (oI h); exact q_jobsTickedq1_1_1 n x1_0 x1_1 x1_2 x1_3 x1_4 x1_5 hy1_1)
  (fun r => by intro hx; cases hx) h
def m_jobsTickedq1 (n : Nat) (a0 : List (Int × Int × Int × Int × Int)) (a1 : Nat) (a2 : List Int) : Option (List (Int × Int × Int × Int × Int) × Nat) :=
 (m_jobsTickedq1_1 n a0 a2 a1 (a2.length : Int) (mNil, 0)).bind fun c1_ =>
 (m_slicesCloneapiDirtyq1 n a0 a1).bind fun c2_ =>
 (m_jobsTickedq1_2 n a0 a2 c1_ ((c2_).length) (c2_.length : Int) (c2_, 0)).bind fun c3_ =>
 some (c3_, ((c2_).length))
theorem m_jobsTickedq1_ok (n : Nat) (a0 : List (Int × Int × Int × Int × Int)) (a1 : Nat) (a2 : List Int) (r : List (Int × Int × Int × Int × Int) × Nat) (h : m_jobsTickedq1 n a0 a1 a2 = some r) : Gv P (.func 9) (A_jobsTickedq1 a0 a1 a2) (H_jobsTickedq1 a0 a1 a2) (V_jobsTickedq1 a0 a1 a2 r) (R_jobsTickedq1 a0 a1 a2 r) := by
 unfold m_jobsTickedq1 at h
 obtain ⟨c1_, hc1, h⟩ := Option.bind_eq_some_iff.1 h
 obtain ⟨c2_, hc2, h⟩ := Option.bind_eq_some_iff.1 h
 obtain ⟨c3_, hc3, h⟩ := Option.bind_eq_some_iff.1 h
 obtain rfl := oI h; exact (runF2 hm (L := lT [(11, ⟨⟨[0, 5, 14, 15, 16], [(0, 0, true), (1, 1, true), (2, 2, true)], 3, 2⟩, (X_jobsTickedq1_1 a0 a2 a1 (a2.length : Int) c1_).1, (X_jobsTickedq1_1 a0 a2 a1 (a2.length : Int) c1_).2⟩), (22, ⟨⟨[5, 8, 27, 28], [(0, 0, true), (1, 1, true), (2, 2, true), (3, 3, true)], 4, 2⟩, (X_jobsTickedq1_2 a0 a2 c1_ ((c2_).length) (c2_.length : Int) c3_).1, (X_jobsTickedq1_2 a0 a2 c1_ ((c2_).length) (c2_.length : Int) c3_).2⟩)]) ⟨[4], [(2, 2, true)], 3, 2⟩ (ww (p := U_jobsTickedq1_1 none a0 a2 a1 (a2.length : Int) (mNil, 0) c1_) (m_jobsTickedq1_1_ok n a0 a2 a1 (a2.length : Int) (mNil, 0) c1_ hc1) <|
ww (rows_flat rwf_iiiii a0 31) <|
ww (iv_flat a2 3) <|
ww (mflat mvU (fun _ => rfl) (mNil : MapI Unit) (mLen (mNil : MapI Unit))) <|
yy 14 (.call (C_slicesCloneapiDirtyq1 a0 a1 c2_ [(0, 0, true)] [(3, 1, true)])) <|
ww (m_slicesCloneapiDirtyq1_ok n a0 a1 c2_ hc2) <|
ww (rows_flat rwf_iiiii a0 31) <|
ww (rows_flat rwf_iiiii c2_ 31) <|
ww (p := U_jobsTickedq1_2 none a0 a2 c1_ ((c2_).length) (c2_.length : Int) (c2_, 0) c3_) (m_jobsTickedq1_2_ok n a0 a2 c1_ ((c2_).length) (c2_.length : Int) (c2_, 0) c3_ hc3) <|
ww (rows_flat rwf_iiiii a0 31) <|
ww (iv_flat a2 3) <|
ww (mflat mvU (fun _ => rfl) c1_ (mLen c1_)) <|
ww (rows_flat rwf_iiiii c2_ 31) <|
ww (rows_flat rwf_iiiii c3_ 31) ee) (by kernel_rfl))

def A_V (g2 : Int) : List Value := [(sW 0 0 (Args.A).length Args.cA), (sW 1 0 (Args.B).length Args.cB), (i6 g2)]
def H_V (g2 : Int) : AH := ⟨sB [], 0, 0⟩
def V_V (g2 : Int) (r : Unit) : Value := match r with
 | _ => (bO true)
def R_V (g2 : Int) (r : Unit) : AH := match r with
 | _ => ⟨sB [], 0, 0⟩
abbrev G_V (g2 : Int) (r : Unit) : Prop := Gv P (.func 3) (A_V g2) (H_V g2) (V_V g2 r) (R_V g2 r)
abbrev C_V (g2 : Int) (r : Unit) (ins outs : BL) : CallA := ⟨0, ins, V_V g2 r, R_V g2 r, outs⟩
def S_V_3 (x3_0 : List (Int × Int × Int × Int × Int)) (x3_1 : Nat) (x3_2 : Int) (x3_3 : MapI Int) (x3_4 : Int) (x3_5 : Int) (st : Int) : XSt := match st with
 | x3_6 => (sT 108 [(0, (sN 0 0 x3_1 (Nat.add big 5))), (1, (sW 1 0 (Args.B).length Args.cB)), (2, (i6 x3_2)), (8, (Value.map (some 1))), (9, (i6 x3_4)), (10, (i6 x3_5)), (12, (i6 x3_6))], [], ⟨sB [(0, (some (.cells (layT (rows rw_iiiii x3_0)) 31))), (1, (some (.map (mEs mvI x3_3) (mLen x3_3))))], 2, 0⟩)
def X_V_3 (x3_0 : List (Int × Int × Int × Int × Int)) (x3_1 : Nat) (x3_2 : Int) (x3_3 : MapI Int) (x3_4 : Int) (x3_5 : Int) (r : Unit) : Ex × XSt := match r with
 | _ => (.exit 4, (sT 108 [(0, (sN 0 0 x3_1 (Nat.add big 5))), (1, (sW 1 0 (Args.B).length Args.cB)), (2, (i6 x3_2)), (8, (Value.map (some 1))), (9, (i6 x3_4)), (10, (i6 x3_5))], [], ⟨sB [(0, (some (.cells (layT (rows rw_iiiii x3_0)) 31))), (1, (some (.map (mEs mvI x3_3) (mLen x3_3))))], 2, 0⟩))
abbrev Q_V_3 (rnd : Option Nat) (x3_0 : List (Int × Int × Int × Int × Int)) (x3_1 : Nat) (x3_2 : Int) (x3_3 : MapI Int) (x3_4 : Int) (x3_5 : Int) (st : Int) (c : Ex × XSt) : Prop := CG P rnd (fnN P 3) 0 (codeOf P 3 [false, false, true, false, true, true, true, false, false, true, false, false, true, false, true, true, true, true, true, true, true]) (S_V_3 x3_0 x3_1 x3_2 x3_3 x3_4 x3_5 st) c
abbrev U_V_3 (rd : Option Nat) (x3_0 : List (Int × Int × Int × Int × Int)) (x3_1 : Nat) (x3_2 : Int) (x3_3 : MapI Int) (x3_4 : Int) (x3_5 : Int) (st : Int) (r : Unit) : Prop := CG P rd (fnN P 3) 0 (codeOf P 3 [false, true, false, true, true, true, false, false, true, false, false, true, false, true, true, true, true, true, true, true]) (S_V_3 x3_0 x3_1 x3_2 x3_3 x3_4 x3_5 st) (X_V_3 x3_0 x3_1 x3_2 x3_3 x3_4 x3_5 r)
def B_V_3 (n : Nat) (x3_0 : List (Int × Int × Int × Int × Int)) (x3_1 : Nat) (x3_2 : Int) (x3_3 : MapI Int) (x3_4 : Int) (x3_5 : Int) (st : Int) : Option ((Int) ⊕ (Unit)) := match st with
 | x3_6 =>
  if x3_6 < ((x3_1 : Nat) : Int) then
   if 0 ≤ x3_6 ∧ x3_6 < ((x3_1 : Nat) : Int) then
    if (x3_6).toNat < (x3_0).length then
     ((some ((x3_0).getD (x3_6).toNat (0, 0, 0, 0, 0)))).bind fun y3_4_ =>
     if (w64 (x3_4 - (mGetI x3_3 (y3_4_.1)))) > (w64 (x3_2 + ((x3_1 : Nat) : Int))) then
      none
     else
      some (.inl (w64 (x3_6 + (1 : Int))))
    else none
   else none
  else
   some (.inr ())
def m_V_3 (n : Nat) (x3_0 : List (Int × Int × Int × Int × Int)) (x3_1 : Nat) (x3_2 : Int) (x3_3 : MapI Int) (x3_4 : Int) (x3_5 : Int) (st : Int) : Option (Unit) := iterM (B_V_3 n x3_0 x3_1 x3_2 x3_3 x3_4 x3_5) n st
theorem q_V_3_0 (n : Nat) {rnd : Option Nat} (x3_0 : List (Int × Int × Int × Int × Int)) (x3_1 : Nat) (x3_2 : Int) (x3_3 : MapI Int) (x3_4 x3_5 x3_6 : Int) (hy3_1 : x3_6 < ((x3_1 : Nat) : Int)) (hy3_2 : 0 ≤ x3_6 ∧ x3_6 < ((x3_1 : Nat) : Int)) (hy3_3 : (x3_6).toNat < (x3_0).length) (y3_4_ : Int × Int × Int × Int × Int) (hy3_4 : (some ((x3_0).getD (x3_6).toNat (0, 0, 0, 0, 0))) = some y3_4_) (hy3_5 : ¬ ((w64 (x3_4 - (mGetI x3_3 (y3_4_.1)))) > (w64 (x3_2 + ((x3_1 : Nat) : Int))))) : Q_V_3 rnd x3_0 x3_1 x3_2 x3_3 x3_4 x3_5 x3_6 (.normal, S_V_3 x3_0 x3_1 x3_2 x3_3 x3_4 x3_5 (w64 (x3_6 + (1 : Int)))) :=
 runC2 hm (L := lT []) ⟨[0, 1, 2, 8, 9, 10, 12], [(0, 0, true), (1, 1, true)], 2, 0⟩ (zz 5 (xdT hy3_1) <|
zz 14 (xk5 0 U5 hy3_2) <|
zz 16 (ok9 hy3_4 (hy3_3)) <|
yy 17 (.mlk (i6 (mGetI x3_3 (y3_4_.1)))) <|
ww (p := ∀ H : AH, oc (findU (.int .i64) (i6 (y3_4_.1)) (mEs mvI x3_3) 0) none (fun r => lookRes P 3 false H r) = some ((i6 (mGetI x3_3 (y3_4_.1))), H)) (mlookI (by kernel_rfl) _ _) <|
zz 23 (xdF hy3_5) <|
ww (rows_flat rwf_iiiii x3_0 31) <|
ww (mflat mvI (fun _ => rfl) x3_3 (mLen x3_3)) <|
ee) (by kernel_rfl)
theorem q_V_3_1 (n : Nat) {rnd : Option Nat} (x3_0 : List (Int × Int × Int × Int × Int)) (x3_1 : Nat) (x3_2 : Int) (x3_3 : MapI Int) (x3_4 x3_5 x3_6 : Int) (hy3_1 : ¬ (x3_6 < ((x3_1 : Nat) : Int))) : Q_V_3 rnd x3_0 x3_1 x3_2 x3_3 x3_4 x3_5 x3_6 (X_V_3 x3_0 x3_1 x3_2 x3_3 x3_4 x3_5 ()) :=
 runC2 hm (L := lT []) ⟨[0, 1, 2, 8, 9, 10], [(0, 0, true), (1, 1, true)], 2, 0⟩ (zz 5 (xdF hy3_1) <|
ww (rows_flat rwf_iiiii x3_0 31) <|
ww (mflat mvI (fun _ => rfl) x3_3 (mLen x3_3)) <|
ee) (by kernel_rfl)
theorem m_V_3_ok (n : Nat) {rnd : Option Nat} (x3_0 : List (Int × Int × Int × Int × Int)) (x3_1 : Nat) (x3_2 : Int) (x3_3 : MapI Int) (x3_4 : Int) (x3_5 : Int) (st : Int) (r : Unit) (h : m_V_3 n x3_0 x3_1 x3_2 x3_3 x3_4 x3_5 st = some r) : CG P rnd (fnN P 3) 0 (codeOf P 3 [false, true, false, true, true, true, false, false, true, false, false, true, false, true, true, true, true, true, true, true]) (S_V_3 x3_0 x3_1 x3_2 x3_3 x3_4 x3_5 st) (X_V_3 x3_0 x3_1 x3_2 x3_3 x3_4 x3_5 r) :=
 CG.iter (b := codeOf P 3 [false, false, true, false, true, true, true, false, false, true, false, false, true, false, true, true, true, true, true, true, true]) (by kernel_rfl) (body := B_V_3 n x3_0 x3_1 x3_2 x3_3 x3_4 x3_5) (S := S_V_3 x3_0 x3_1 x3_2 x3_3 x3_4 x3_5) (X := X_V_3 x3_0 x3_1 x3_2 x3_3 x3_4 x3_5)
  (fun x3_6 s' h => by
  unfold B_V_3 at h
  dsimp only at h
  by_cases hy3_1 : x3_6 < ((x3_1 : Nat) : Int)
  ·rw [if_pos hy3_1] at h
   by_cases hy3_2 : 0 ≤ x3_6 ∧ x3_6 < ((x3_1 : Nat) : Int)
   ·rw [if_pos hy3_2] at h
    by_cases hy3_3 : (x3_6).toNat < (x3_0).length
    ·rw [if_pos hy3_3] at h
     obtain ⟨y3_4_, hy3_4, h⟩ := Option.bind_eq_some_iff.1 h
     by_cases hy3_5 : (w64 (x3_4 - (mGetI x3_3 (y3_4_.1)))) > (w64 (x3_2 + ((x3_1 : Nat) : Int)))
     ·rw [if_pos hy3_5] at h
      cases h
     ·rw [if_neg hy3_5] at h
      obtain rfl := Sum.inl.inj (oI h); exact q_V_3_0 n x3_0 x3_1 x3_2 x3_3 x3_4 x3_5 x3_6 hy3_1 hy3_2 hy3_3 y3_4_ hy3_4 hy3_5
    ·rw [if_neg hy3_3] at h; cases h
   ·rw [if_neg hy3_2] at h; cases h
  ·rw [if_neg hy3_1] at h
   cases h)
  (fun x3_6 r h => by
  unfold B_V_3 at h
  dsimp only at h
  by_cases hy3_1 : x3_6 < ((x3_1 : Nat) : Int)
  ·rw [if_pos hy3_1] at h
   by_cases hy3_2 : 0 ≤ x3_6 ∧ x3_6 < ((x3_1 : Nat) : Int)
   ·rw [if_pos hy3_2] at h
    by_cases hy3_3 : (x3_6).toNat < (x3_0).length
    ·rw [if_pos hy3_3] at h
     obtain ⟨y3_4_, hy3_4, h⟩ := Option.bind_eq_some_iff.1 h
     by_cases hy3_5 : (w64 (x3_4 - (mGetI x3_3 (y3_4_.1)))) > (w64 (x3_2 + ((x3_1 : Nat) : Int)))
     ·rw [if_pos hy3_5] at h
      cases h
     ·rw [if_neg hy3_5] at h
      cases h
    ·rw [if_neg hy3_3] at h; cases h
   ·rw [if_neg hy3_2] at h; cases h
  ·rw [if_neg hy3_1] at h
   obtain rfl := Sum.inr.inj (oI h); exact q_V_3_1 n x3_0 x3_1 x3_2 x3_3 x3_4 x3_5 x3_6 hy3_1)
  (fun r => by intro hx; cases hx) h
def S_V_2 (x2_2 : Int) (st : List (Int × Int × Int × Int × Int) × Nat × MapI Int × Int) : XSt := match st with
 | (x2_0, x2_1, x2_3, x2_4) => (sT 108 [(0, (sN 0 0 x2_1 (Nat.add big 5))), (1, (sW 1 0 (Args.B).length Args.cB)), (2, (i6 x2_2)), (8, (Value.map (some 1))), (9, (i6 x2_4))], [], ⟨sB [(0, (some (.cells (layT (rows rw_iiiii x2_0)) 31))), (1, (some (.map (mEs mvI x2_3) (mLen x2_3))))], 2, 0⟩)
def X_V_2 (x2_2 : Int) (r : Unit) : Ex × XSt := match r with
 | _ => (.exit 2, (sT 108 [], [], ⟨sB [], 0, 0⟩))
abbrev Q_V_2 (rnd : Option Nat) (x2_2 : Int) (st : List (Int × Int × Int × Int × Int) × Nat × MapI Int × Int) (c : Ex × XSt) : Prop := CG P rnd (fnN P 3) 0 (codeOf P 3 [false, false, true, false, true, true, true, true, true, true, true]) (S_V_2 x2_2 st) c
abbrev U_V_2 (rd : Option Nat) (x2_2 : Int) (st : List (Int × Int × Int × Int × Int) × Nat × MapI Int × Int) (r : Unit) : Prop := CG P rd (fnN P 3) 0 (codeOf P 3 [false, true, false, true, true, true, true, true, true, true]) (S_V_2 x2_2 st) (X_V_2 x2_2 r)
def B_V_2 (n : Nat) (x2_2 : Int) (st : List (Int × Int × Int × Int × Int) × Nat × MapI Int × Int) : Option ((List (Int × Int × Int × Int × Int) × Nat × MapI Int × Int) ⊕ (Unit)) := match st with
 | (x2_0, x2_1, x2_3, x2_4) =>
  ((some (w64 ((3 : Int) * (w64 (x2_2 + ((x2_1 : Nat) : Int))))))).bind fun y2_1_ =>
  if x2_4 ≤ y2_1_ then
   ((some (w64 ((minB x2_4 (Args.B.length : Int)) - (1 : Int))))).bind fun y2_3_ =>
   if 0 ≤ y2_3_ ∧ y2_3_ < (Args.B.length : Int) then
    ((some ((Args.B).getD (y2_3_).toNat (0, 0)))).bind fun y2_5_ =>
    (m_jobsNextq1 n x2_0 x2_1 (y2_5_.1) (y2_5_.2) x2_2).bind fun t => match t with
    | (y2_6_0, y2_6_1) =>
     if y2_6_1 = true then
      (m_V_3 n x2_0 x2_1 x2_2 (mPut x2_3 y2_6_0 x2_4) x2_4 y2_6_0 0).bind fun _ =>
      (m_jobsServeq1 n x2_0 x2_1 y2_6_0).bind fun t => match t with
      | (y2_9_0, y2_9_1) =>
       (m_jobsTickedq1 n y2_9_0 y2_9_1 [y2_6_0]).bind fun t => match t with
       | (y2_10_0, y2_10_1) =>
        some (.inl (y2_10_0, y2_10_1, (mPut x2_3 y2_6_0 x2_4), (w64 (x2_4 + (1 : Int)))))
     else
      none
   else none
  else
   some (.inr ())
def m_V_2 (n : Nat) (x2_2 : Int) (st : List (Int × Int × Int × Int × Int) × Nat × MapI Int × Int) : Option (Unit) := iterM (B_V_2 n x2_2) n st
theorem q_V_2_0 (n : Nat) {rnd : Option Nat} (x2_0 : List (Int × Int × Int × Int × Int)) (x2_1 : Nat) (x2_2 : Int) (x2_3 : MapI Int) (x2_4 y2_1_ : Int) (hy2_1 : (some (w64 ((3 : Int) * (w64 (x2_2 + ((x2_1 : Nat) : Int)))))) = some y2_1_) (hy2_2 : x2_4 ≤ y2_1_) (y2_3_ : Int) (hy2_3 : (some (w64 ((minB x2_4 (Args.B.length : Int)) - (1 : Int)))) = some y2_3_) (hy2_4 : 0 ≤ y2_3_ ∧ y2_3_ < (Args.B.length : Int)) (y2_5_ : Int × Int) (hy2_5 : (some ((Args.B).getD (y2_3_).toNat (0, 0))) = some y2_5_) (y2_6_0 : Int) (y2_6_1 : Bool) (hy2_6 : m_jobsNextq1 n x2_0 x2_1 (y2_5_.1) (y2_5_.2) x2_2 = some (y2_6_0, y2_6_1)) (hy2_7 : y2_6_1 = true) (hy2_8 : m_V_3 n x2_0 x2_1 x2_2 (mPut x2_3 y2_6_0 x2_4) x2_4 y2_6_0 0 = some ()) (y2_9_0 : List (Int × Int × Int × Int × Int)) (y2_9_1 : Nat) (hy2_9 : m_jobsServeq1 n x2_0 x2_1 y2_6_0 = some (y2_9_0, y2_9_1)) (y2_10_0 : List (Int × Int × Int × Int × Int)) (y2_10_1 : Nat) (hy2_10 : m_jobsTickedq1 n y2_9_0 y2_9_1 [y2_6_0] = some (y2_10_0, y2_10_1)) : Q_V_2 rnd x2_2 (x2_0, x2_1, x2_3, x2_4) (.normal, S_V_2 x2_2 (y2_10_0, y2_10_1, (mPut x2_3 y2_6_0 x2_4), (w64 (x2_4 + (1 : Int))))) :=
 runC2 hm (L := lT [(43, ⟨⟨[0, 1, 2, 8, 9, 10, 12], [(0, 0, true), (1, 1, true)], 2, 0⟩, (X_V_3 x2_0 x2_1 x2_2 (mPut x2_3 y2_6_0 x2_4) x2_4 y2_6_0 ()).1, (X_V_3 x2_0 x2_1 x2_2 (mPut x2_3 y2_6_0 x2_4) x2_4 y2_6_0 ()).2⟩)]) ⟨[0, 1, 2, 8, 9], [(0, 4, true), (1, 1, true)], 2, 0⟩ (zz 7 (xnm hy2_1) <|
zz 8 (xdT hy2_2) <|
zz 19 (xnm hy2_3) <|
zz 20 (xk6 1 Args.cB hy2_4) <|
zz 21 (lk7 hy2_5 (toNatLt hy2_4)) <|
yy 23 (.call (C_jobsNextq1 x2_0 x2_1 (y2_5_.1) (y2_5_.2) x2_2 (y2_6_0, y2_6_1) [(0, 0, true)] [])) <|
ww (m_jobsNextq1_ok n x2_0 x2_1 (y2_5_.1) (y2_5_.2) x2_2 (y2_6_0, y2_6_1) hy2_6) <|
ww (rows_flat rwf_iiiii x2_0 31) <|
yy 32 (vf) <|
ww (p := (Value.bool (!y2_6_1)) = (Value.bool false)) (vBn hy2_7) <|
yy 38 (.mup (mEs mvI (mPut x2_3 y2_6_0 x2_4)) (mLen (mPut x2_3 y2_6_0 x2_4))) <|
ww (p := oc (findU (.int .i64) (i6 y2_6_0) (mEs mvI x2_3) 0) none (fun r => some (updEs (mEs mvI x2_3, mLen x2_3) (i6 y2_6_0) (i6 x2_4) r)) = some (.map (mEs mvI (mPut x2_3 y2_6_0 x2_4)) (mLen (mPut x2_3 y2_6_0 x2_4)))) (mput_ok mvI _ _ _) <|
ww (p := U_V_3 rnd x2_0 x2_1 x2_2 (mPut x2_3 y2_6_0 x2_4) x2_4 y2_6_0 0 ()) (m_V_3_ok n x2_0 x2_1 x2_2 (mPut x2_3 y2_6_0 x2_4) x2_4 y2_6_0 0 () hy2_8) <|
ww (rows_flat rwf_iiiii x2_0 31) <|
ww (mflat mvI (fun _ => rfl) (mPut x2_3 y2_6_0 x2_4) (mLen (mPut x2_3 y2_6_0 x2_4))) <|
yy 46 (.call (C_jobsServeq1 x2_0 x2_1 y2_6_0 (y2_9_0, y2_9_1) [(0, 0, true)] [(2, 1, true)])) <|
ww (m_jobsServeq1_ok n x2_0 x2_1 y2_6_0 (y2_9_0, y2_9_1) hy2_9) <|
ww (rows_flat rwf_iiiii x2_0 31) <|
ww (rows_flat rwf_iiiii y2_9_0 31) <|
yy 49 (.call (C_jobsTickedq1 y2_9_0 y2_9_1 [y2_6_0] (y2_10_0, y2_10_1) [(0, 2, true), (1, 3, false)] [(4, 2, true)])) <|
ww (m_jobsTickedq1_ok n y2_9_0 y2_9_1 [y2_6_0] (y2_10_0, y2_10_1) hy2_10) <|
ww (rows_flat rwf_iiiii y2_9_0 31) <|
ww (rows_flat rwf_iiiii y2_10_0 31) <|
ww (rows_flat rwf_iiiii y2_10_0 31) <|
ww (mflat mvI (fun _ => rfl) (mPut x2_3 y2_6_0 x2_4) (mLen (mPut x2_3 y2_6_0 x2_4))) <|
ee) (by kernel_rfl)
theorem q_V_2_1 (n : Nat) {rnd : Option Nat} (x2_0 : List (Int × Int × Int × Int × Int)) (x2_1 : Nat) (x2_2 : Int) (x2_3 : MapI Int) (x2_4 y2_1_ : Int) (hy2_1 : (some (w64 ((3 : Int) * (w64 (x2_2 + ((x2_1 : Nat) : Int)))))) = some y2_1_) (hy2_2 : ¬ (x2_4 ≤ y2_1_)) : Q_V_2 rnd x2_2 (x2_0, x2_1, x2_3, x2_4) (X_V_2 x2_2 ()) :=
 runC2 hm (L := lT []) ⟨[], [], 0, 0⟩ (zz 7 (xnm hy2_1) <|
zz 8 (xdF hy2_2) <|
ee) (by kernel_rfl)
theorem m_V_2_ok (n : Nat) {rnd : Option Nat} (x2_2 : Int) (st : List (Int × Int × Int × Int × Int) × Nat × MapI Int × Int) (r : Unit) (h : m_V_2 n x2_2 st = some r) : CG P rnd (fnN P 3) 0 (codeOf P 3 [false, true, false, true, true, true, true, true, true, true]) (S_V_2 x2_2 st) (X_V_2 x2_2 r) :=
 CG.iter (b := codeOf P 3 [false, false, true, false, true, true, true, true, true, true, true]) (by kernel_rfl) (body := B_V_2 n x2_2) (S := S_V_2 x2_2) (X := X_V_2 x2_2)
  (fun s s' h => by
  obtain ⟨x2_0, x2_1, x2_3, x2_4⟩ := s
  unfold B_V_2 at h
  dsimp only at h
  obtain ⟨y2_1_, hy2_1, h⟩ := Option.bind_eq_some_iff.1 h
  by_cases hy2_2 : x2_4 ≤ y2_1_
  ·rw [if_pos hy2_2] at h
   obtain ⟨y2_3_, hy2_3, h⟩ := Option.bind_eq_some_iff.1 h
   by_cases hy2_4 : 0 ≤ y2_3_ ∧ y2_3_ < (Args.B.length : Int)
   ·rw [if_pos hy2_4] at h
    obtain ⟨y2_5_, hy2_5, h⟩ := Option.bind_eq_some_iff.1 h
    obtain ⟨⟨y2_6_0, y2_6_1⟩, hy2_6, h⟩ := Option.bind_eq_some_iff.1 h
    dsimp only at h
    by_cases hy2_7 : y2_6_1 = true
    ·rw [if_pos hy2_7] at h
     obtain ⟨_, hy2_8, h⟩ := Option.bind_eq_some_iff.1 h
     obtain ⟨⟨y2_9_0, y2_9_1⟩, hy2_9, h⟩ := Option.bind_eq_some_iff.1 h
     dsimp only at h
     obtain ⟨⟨y2_10_0, y2_10_1⟩, hy2_10, h⟩ := Option.bind_eq_some_iff.1 h
     dsimp only at h
     obtain rfl := Sum.inl.inj (oI h); exact q_V_2_0 n x2_0 x2_1 x2_2 x2_3 x2_4 y2_1_ hy2_1 hy2_2 y2_3_ hy2_3 hy2_4 y2_5_ hy2_5 y2_6_0 y2_6_1 hy2_6 hy2_7 hy2_8 y2_9_0 y2_9_1 hy2_9 y2_10_0 y2_10_1 hy2_10
    ·rw [if_neg hy2_7] at h
     cases h
   ·rw [if_neg hy2_4] at h; cases h
  ·rw [if_neg hy2_2] at h
   cases h)
  (fun s r h => by
  obtain ⟨x2_0, x2_1, x2_3, x2_4⟩ := s
  unfold B_V_2 at h
  dsimp only at h
  obtain ⟨y2_1_, hy2_1, h⟩ := Option.bind_eq_some_iff.1 h
  by_cases hy2_2 : x2_4 ≤ y2_1_
  ·rw [if_pos hy2_2] at h
   obtain ⟨y2_3_, hy2_3, h⟩ := Option.bind_eq_some_iff.1 h
   by_cases hy2_4 : 0 ≤ y2_3_ ∧ y2_3_ < (Args.B.length : Int)
   ·rw [if_pos hy2_4] at h
    obtain ⟨y2_5_, hy2_5, h⟩ := Option.bind_eq_some_iff.1 h
    obtain ⟨⟨y2_6_0, y2_6_1⟩, hy2_6, h⟩ := Option.bind_eq_some_iff.1 h
    dsimp only at h
    by_cases hy2_7 : y2_6_1 = true
    ·rw [if_pos hy2_7] at h
     obtain ⟨_, hy2_8, h⟩ := Option.bind_eq_some_iff.1 h
     obtain ⟨⟨y2_9_0, y2_9_1⟩, hy2_9, h⟩ := Option.bind_eq_some_iff.1 h
     dsimp only at h
     obtain ⟨⟨y2_10_0, y2_10_1⟩, hy2_10, h⟩ := Option.bind_eq_some_iff.1 h
     dsimp only at h
     cases h
    ·rw [if_neg hy2_7] at h
     cases h
   ·rw [if_neg hy2_4] at h; cases h
  ·rw [if_neg hy2_2] at h
   obtain rfl := Sum.inr.inj (oI h); exact q_V_2_1 n x2_0 x2_1 x2_2 x2_3 x2_4 y2_1_ hy2_1 hy2_2)
  (fun r => by intro hx; cases hx) h
def S_V_1 (x1_1 : Nat) (x1_2 : Int) (st : List (Int × Int × Int × Int × Int) × Int) : XSt := match st with
 | (x1_0, x1_3) => (sT 108 [(0, (sN 0 0 x1_1 (Nat.add big 5))), (1, (sW 1 0 (Args.B).length Args.cB)), (2, (i6 x1_2)), (7, (i6 x1_3))], [], ⟨sB [(0, (some (.cells (layT (rows rw_iiiii x1_0)) 31)))], 1, 0⟩)
def X_V_1 (x1_1 : Nat) (x1_2 : Int) (r : List (Int × Int × Int × Int × Int)) : Ex × XSt := match r with
 | z1_0 => (.exit 0, (sT 108 [(0, (sN 0 0 x1_1 (Nat.add big 5))), (1, (sW 1 0 (Args.B).length Args.cB)), (2, (i6 x1_2))], [], ⟨sB [(0, (some (.cells (layT (rows rw_iiiii z1_0)) 31)))], 1, 0⟩))
abbrev Q_V_1 (rnd : Option Nat) (x1_1 : Nat) (x1_2 : Int) (st : List (Int × Int × Int × Int × Int) × Int) (c : Ex × XSt) : Prop := CG P rnd (fnN P 3) 0 (codeOf P 3 [false, false, true, false, true, true, true, true]) (S_V_1 x1_1 x1_2 st) c
abbrev U_V_1 (rd : Option Nat) (x1_1 : Nat) (x1_2 : Int) (st : List (Int × Int × Int × Int × Int) × Int) (r : List (Int × Int × Int × Int × Int)) : Prop := CG P rd (fnN P 3) 0 (codeOf P 3 [false, true, false, true, true, true, true]) (S_V_1 x1_1 x1_2 st) (X_V_1 x1_1 x1_2 r)
def B_V_1 (n : Nat) (x1_1 : Nat) (x1_2 : Int) (st : List (Int × Int × Int × Int × Int) × Int) : Option ((List (Int × Int × Int × Int × Int) × Int) ⊕ (List (Int × Int × Int × Int × Int))) := match st with
 | (x1_0, x1_3) =>
  if x1_3 < ((x1_1 : Nat) : Int) then
   if 0 ≤ x1_3 ∧ x1_3 < ((x1_1 : Nat) : Int) then
    if (x1_3).toNat < (x1_0).length then
     ((some ((x1_0).getD (x1_3).toNat (0, 0, 0, 0, 0)))).bind fun y1_4_ =>
     some (.inl (((x1_0).set (x1_3).toNat ((y1_4_.1), (y1_4_.2.1), (y1_4_.2.2.1), (0 : Int), (y1_4_.2.2.2.2))), (w64 (x1_3 + (1 : Int)))))
    else none
   else none
  else
   some (.inr x1_0)
def m_V_1 (n : Nat) (x1_1 : Nat) (x1_2 : Int) (st : List (Int × Int × Int × Int × Int) × Int) : Option (List (Int × Int × Int × Int × Int)) := iterM (B_V_1 n x1_1 x1_2) n st
theorem q_V_1_0 (n : Nat) {rnd : Option Nat} (x1_0 : List (Int × Int × Int × Int × Int)) (x1_1 : Nat) (x1_2 x1_3 : Int) (hy1_1 : x1_3 < ((x1_1 : Nat) : Int)) (hy1_2 : 0 ≤ x1_3 ∧ x1_3 < ((x1_1 : Nat) : Int)) (hy1_3 : (x1_3).toNat < (x1_0).length) (y1_4_ : Int × Int × Int × Int × Int) (hy1_4 : (some ((x1_0).getD (x1_3).toNat (0, 0, 0, 0, 0))) = some y1_4_) : Q_V_1 rnd x1_1 x1_2 (x1_0, x1_3) (.normal, S_V_1 x1_1 x1_2 (((x1_0).set (x1_3).toNat ((y1_4_.1), (y1_4_.2.1), (y1_4_.2.2.1), (0 : Int), (y1_4_.2.2.2.2))), (w64 (x1_3 + (1 : Int))))) :=
 runC2 hm (L := lT []) ⟨[0, 1, 2, 7], [(0, 0, true)], 1, 0⟩ (zz 5 (xdT hy1_1) <|
zz 11 (xk5 0 U5 hy1_2) <|
yy 13 (.sto (layT (rows rw_iiiii ((x1_0).set (x1_3).toNat ((y1_4_.1), (y1_4_.2.1), (y1_4_.2.2.1), (0 : Int), (y1_4_.2.2.2.2)))))) <|
ww (p := ∃ old, rdT (layT (rows rw_iiiii x1_0)) 1 (Nat.add ((x1_3).toNat * 5) 3) = some old) (Exists.elim (rows_stN rwf_iiiii (0, 0, 0, 0, 0) (hr := hy1_4) (i := (x1_3).toNat) (j := 3) (l := [(i6 (0 : Int))]) ((y1_4_.1), (y1_4_.2.1), (y1_4_.2.2.1), (0 : Int), (y1_4_.2.2.2.2)) (Nat.add ((x1_3).toNat * 5) 3) rfl (hy1_3) (Nat.le_of_ble_eq_true rfl) rfl) fun o h => ⟨o, h.1⟩) <|
ww (p := layL [(i6 (0 : Int))] (Nat.add ((x1_3).toNat * 5) 3) (layT (rows rw_iiiii x1_0)) = layT (rows rw_iiiii ((x1_0).set (x1_3).toNat ((y1_4_.1), (y1_4_.2.1), (y1_4_.2.2.1), (0 : Int), (y1_4_.2.2.2.2))))) (Exists.elim (rows_stN rwf_iiiii (0, 0, 0, 0, 0) (hr := hy1_4) (i := (x1_3).toNat) (j := 3) (l := [(i6 (0 : Int))]) ((y1_4_.1), (y1_4_.2.1), (y1_4_.2.2.1), (0 : Int), (y1_4_.2.2.2.2)) (Nat.add ((x1_3).toNat * 5) 3) rfl (hy1_3) (Nat.le_of_ble_eq_true rfl) rfl) fun o h => h.2) <|
ww (rows_flat rwf_iiiii ((x1_0).set (x1_3).toNat ((y1_4_.1), (y1_4_.2.1), (y1_4_.2.2.1), (0 : Int), (y1_4_.2.2.2.2))) 31) <|
ee) (by kernel_rfl)
theorem q_V_1_1 (n : Nat) {rnd : Option Nat} (x1_0 : List (Int × Int × Int × Int × Int)) (x1_1 : Nat) (x1_2 x1_3 : Int) (hy1_1 : ¬ (x1_3 < ((x1_1 : Nat) : Int))) : Q_V_1 rnd x1_1 x1_2 (x1_0, x1_3) (X_V_1 x1_1 x1_2 x1_0) :=
 runC2 hm (L := lT []) ⟨[0, 1, 2], [(0, 0, true)], 1, 0⟩ (zz 5 (xdF hy1_1) <|
ww (rows_flat rwf_iiiii x1_0 31) <|
ee) (by kernel_rfl)
theorem m_V_1_ok (n : Nat) {rnd : Option Nat} (x1_1 : Nat) (x1_2 : Int) (st : List (Int × Int × Int × Int × Int) × Int) (r : List (Int × Int × Int × Int × Int)) (h : m_V_1 n x1_1 x1_2 st = some r) : CG P rnd (fnN P 3) 0 (codeOf P 3 [false, true, false, true, true, true, true]) (S_V_1 x1_1 x1_2 st) (X_V_1 x1_1 x1_2 r) :=
 CG.iter (b := codeOf P 3 [false, false, true, false, true, true, true, true]) (by kernel_rfl) (body := B_V_1 n x1_1 x1_2) (S := S_V_1 x1_1 x1_2) (X := X_V_1 x1_1 x1_2)
  (fun s s' h => by
  obtain ⟨x1_0, x1_3⟩ := s
  unfold B_V_1 at h
  dsimp only at h
  by_cases hy1_1 : x1_3 < ((x1_1 : Nat) : Int)
  ·rw [if_pos hy1_1] at h
   by_cases hy1_2 : 0 ≤ x1_3 ∧ x1_3 < ((x1_1 : Nat) : Int)
   ·rw [if_pos hy1_2] at h
    by_cases hy1_3 : (x1_3).toNat < (x1_0).length
    ·rw [if_pos hy1_3] at h
     obtain ⟨y1_4_, hy1_4, h⟩ := Option.bind_eq_some_iff.1 h
     obtain rfl := Sum.inl.inj (oI h); exact q_V_1_0 n x1_0 x1_1 x1_2 x1_3 hy1_1 hy1_2 hy1_3 y1_4_ hy1_4
    ·rw [if_neg hy1_3] at h; cases h
   ·rw [if_neg hy1_2] at h; cases h
  ·rw [if_neg hy1_1] at h
   cases h)
  (fun s r h => by
  obtain ⟨x1_0, x1_3⟩ := s
  unfold B_V_1 at h
  dsimp only at h
  by_cases hy1_1 : x1_3 < ((x1_1 : Nat) : Int)
  ·rw [if_pos hy1_1] at h
   by_cases hy1_2 : 0 ≤ x1_3 ∧ x1_3 < ((x1_1 : Nat) : Int)
   ·rw [if_pos hy1_2] at h
    by_cases hy1_3 : (x1_3).toNat < (x1_0).length
    ·rw [if_pos hy1_3] at h
     obtain ⟨y1_4_, hy1_4, h⟩ := Option.bind_eq_some_iff.1 h
     cases h
    ·rw [if_neg hy1_3] at h; cases h
   ·rw [if_neg hy1_2] at h; cases h
  ·rw [if_neg hy1_1] at h
   obtain rfl := Sum.inr.inj (oI h); exact q_V_1_1 n x1_0 x1_1 x1_2 x1_3 hy1_1)
  (fun r => by intro hx; cases hx) h
def m_V (n : Nat) (g2 : Int) : Option (Unit) :=
 (m_viewportlaw24lives n).bind fun _ =>
 if (Args.A.length : Int) > (20 : Int) then
  some ()
 else
  if (Args.A.length : Int) = (0 : Int) then
   some ()
  else
   (m_viewportref22Checkq1 n).bind fun c4_ =>
   if c4_ = (0 : Int) then
    if (Args.B.length : Int) = (0 : Int) then
     some ()
    else
     if (Args.B.length : Int) > (200 : Int) then
      some ()
     else
      (m_viewportkitOwnapiDirtyq1 n).bind fun c8_ =>
      (m_V_1 n ((c8_).length) g2 (c8_, 0)).bind fun c9_ =>
      (m_viewportkitPickq1 n g2 30).bind fun c10_ =>
      (m_V_2 n (w64 ((1 : Int) + c10_)) (c9_, ((c8_).length), mNil, 1)).bind fun _ =>
      some ()
   else
    some ()
theorem m_V_ok (n : Nat) (g2 : Int) (r : Unit) (h : m_V n g2 = some r) : Gv P (.func 3) (A_V g2) (H_V g2) (V_V g2 r) (R_V g2 r) := by
 unfold m_V at h
 obtain ⟨_, hc1, h⟩ := Option.bind_eq_some_iff.1 h
 by_cases hc2 : (Args.A.length : Int) > (20 : Int)
 ·rw [if_pos hc2] at h
  obtain rfl := oI h; exact (runF2 hm (L := lT []) ⟨[6], [], 0, 0⟩ (yy 4 (.call ⟨0, [], (Value.bool true), Ax.h0, []⟩) <|
ww (m_viewportlaw24lives_ok n  () hc1) <|
zz 11 (xdT hc2) ee) (by kernel_rfl))
 ·rw [if_neg hc2] at h
  by_cases hc3 : (Args.A.length : Int) = (0 : Int)
  ·rw [if_pos hc3] at h
   obtain rfl := oI h; exact (runF2 hm (L := lT []) ⟨[6], [], 0, 0⟩ (yy 4 (.call ⟨0, [], (Value.bool true), Ax.h0, []⟩) <|
ww (m_viewportlaw24lives_ok n  () hc1) <|
zz 11 (xdF hc2) <|
zz 15 (xeT hc3) ee) (by kernel_rfl))
  ·rw [if_neg hc3] at h
   obtain ⟨c4_, hc4, h⟩ := Option.bind_eq_some_iff.1 h
   by_cases hc5 : c4_ = (0 : Int)
   ·rw [if_pos hc5] at h
    by_cases hc6 : (Args.B.length : Int) = (0 : Int)
    ·rw [if_pos hc6] at h
     obtain rfl := oI h; exact (runF2 hm (L := lT []) ⟨[6], [], 0, 0⟩ (yy 4 (.call ⟨0, [], (Value.bool true), Ax.h0, []⟩) <|
ww (m_viewportlaw24lives_ok n  () hc1) <|
zz 11 (xdF hc2) <|
zz 15 (xeF hc3) <|
yy 19 (.call (C_viewportref22Checkq1  c4_ [] [])) <|
ww (m_viewportref22Checkq1_ok n  c4_ hc4) <|
zz 20 (xnF hc5) <|
zz 25 (xeT hc6) ee) (by kernel_rfl))
    ·rw [if_neg hc6] at h
     by_cases hc7 : (Args.B.length : Int) > (200 : Int)
     ·rw [if_pos hc7] at h
      obtain rfl := oI h; exact (runF2 hm (L := lT []) ⟨[6], [], 0, 0⟩ (yy 4 (.call ⟨0, [], (Value.bool true), Ax.h0, []⟩) <|
ww (m_viewportlaw24lives_ok n  () hc1) <|
zz 11 (xdF hc2) <|
zz 15 (xeF hc3) <|
yy 19 (.call (C_viewportref22Checkq1  c4_ [] [])) <|
ww (m_viewportref22Checkq1_ok n  c4_ hc4) <|
zz 20 (xnF hc5) <|
zz 25 (xeF hc6) <|
zz 30 (xdT hc7) ee) (by kernel_rfl))
     ·rw [if_neg hc7] at h
      obtain ⟨c8_, hc8, h⟩ := Option.bind_eq_some_iff.1 h
      obtain ⟨c9_, hc9, h⟩ := Option.bind_eq_some_iff.1 h
      obtain ⟨c10_, hc10, h⟩ := Option.bind_eq_some_iff.1 h
      obtain ⟨_, hc11, h⟩ := Option.bind_eq_some_iff.1 h
      obtain rfl := oI h; exact (runF2 hm (L := lT [(41, ⟨⟨[0, 1, 2, 7], [(0, 0, true)], 1, 0⟩, (X_V_1 ((c8_).length) g2 c9_).1, (X_V_1 ((c8_).length) g2 c9_).2⟩), (54, ⟨⟨[0, 1, 2, 8, 9], [(0, 0, true), (1, 1, true)], 2, 0⟩, (X_V_2 (w64 ((1 : Int) + c10_)) ()).1, (X_V_2 (w64 ((1 : Int) + c10_)) ()).2⟩)]) ⟨[6], [], 0, 0⟩ (yy 4 (.call ⟨0, [], (Value.bool true), Ax.h0, []⟩) <|
ww (m_viewportlaw24lives_ok n  () hc1) <|
zz 11 (xdF hc2) <|
zz 15 (xeF hc3) <|
yy 19 (.call (C_viewportref22Checkq1  c4_ [] [])) <|
ww (m_viewportref22Checkq1_ok n  c4_ hc4) <|
zz 20 (xnF hc5) <|
zz 25 (xeF hc6) <|
zz 30 (xdF hc7) <|
yy 35 (.call (C_viewportkitOwnapiDirtyq1  c8_ [] [(0, 0, true)])) <|
ww (m_viewportkitOwnapiDirtyq1_ok n  c8_ hc8) <|
ww (rows_flat rwf_iiiii c8_ 31) <|
ww (p := U_V_1 none ((c8_).length) g2 (c8_, 0) c9_) (m_V_1_ok n ((c8_).length) g2 (c8_, 0) c9_ hc9) <|
ww (rows_flat rwf_iiiii c8_ 31) <|
yy 44 (.call (C_viewportkitPickq1 g2 30 c10_ [] [])) <|
ww (m_viewportkitPickq1_ok n g2 30 c10_ hc10) <|
ww (p := U_V_2 none (w64 ((1 : Int) + c10_)) (c9_, ((c8_).length), mNil, 1) ()) (m_V_2_ok n (w64 ((1 : Int) + c10_)) (c9_, ((c8_).length), mNil, 1) () hc11) <|
ww (rows_flat rwf_iiiii c9_ 31) <|
ww (mflat mvI (fun _ => rfl) (mNil : MapI Int) (mLen (mNil : MapI Int))) ee) (by kernel_rfl))
   ·rw [if_neg hc5] at h
    obtain rfl := oI h; exact (runF2 hm (L := lT []) ⟨[6], [], 0, 0⟩ (yy 4 (.call ⟨0, [], (Value.bool true), Ax.h0, []⟩) <|
ww (m_viewportlaw24lives_ok n  () hc1) <|
zz 11 (xdF hc2) <|
zz 15 (xeF hc3) <|
yy 19 (.call (C_viewportref22Checkq1  c4_ [] [])) <|
ww (m_viewportref22Checkq1_ok n  c4_ hc4) <|
zz 20 (xnT hc5) ee) (by kernel_rfl))

end Go.Proofs.Ytfanipihhgbahaa.jbs24
