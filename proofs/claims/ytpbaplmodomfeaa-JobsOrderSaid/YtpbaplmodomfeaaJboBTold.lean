/-
  What functions do, told by pure functions. No condition.
-/
import Derived.Test.YtpbaplmodomfeaaJboATold
set_option linter.unusedSimpArgs false
set_option linter.unusedVariables false
set_option linter.unusedSectionVars false
set_option linter.unnecessarySimpa false
set_option maxRecDepth 100000
noncomputable section
namespace Go.Proofs.Ytpbaplmodomfeaa.jbo24
open Go Go.Proofs.Ytpbaplmodomfeaa Ax
variable [Args]
def A_heapHeapapiDirtyPutq3 (a0 : Int) (a1 : Int) (a2 : Int) (a3 : List R6) (a4 : Nat) (a5 : Int) (a6 : Int) (a7 : Int) (a8 : Int) (a9 : Int) (a10 : Int) : List Value := [(pN 0 0), (Value.agg #[(i6 a6), (i6 a7), (i6 a8), (i6 a9), (i6 a10)])]
def H_heapHeapapiDirtyPutq3 (a0 : Int) (a1 : Int) (a2 : Int) (a3 : List R6) (a4 : Nat) (a5 : Int) (a6 : Int) (a7 : Int) (a8 : Int) (a9 : Int) (a10 : Int) : AH := ⟨sB [(0, (some (.cells (layT [(pN 0 0), (Value.func (.func 24) #[] #[(pN 1 0), (pN 2 0)]), (sN 3 0 a4 (Nat.add big 6)), (i6 a5)]) 53))), (1, (some (.cells (layT [(i6 a0)]) 3))), (2, (some (.cells (layT [(i6 a1), (i6 a2)]) 24))), (3, (some (.cells (layT (rows rw_iiiiii a3)) 58)))], 4, 4⟩
def V_heapHeapapiDirtyPutq3 (a0 : Int) (a1 : Int) (a2 : Int) (a3 : List R6) (a4 : Nat) (a5 : Int) (a6 : Int) (a7 : Int) (a8 : Int) (a9 : Int) (a10 : Int) (r : List R6 × Nat) : Value := match r with
 | (o0, o1) => (Value.tuple #[])
def R_heapHeapapiDirtyPutq3 (a0 : Int) (a1 : Int) (a2 : Int) (a3 : List R6) (a4 : Nat) (a5 : Int) (a6 : Int) (a7 : Int) (a8 : Int) (a9 : Int) (a10 : Int) (r : List R6 × Nat) : AH := match r with
 | (o0, o1) => ⟨sB [(0, (some (.cells (layT [(pN 0 0), (Value.func (.func 24) #[] #[(pN 1 0), (pN 2 0)]), (sN 4 0 o1 (Nat.add big 6)), (i6 (w64 (a5 + (1 : Int))))]) 53))), (1, (some (.cells (layT [(i6 a0)]) 3))), (2, (some (.cells (layT [(i6 a1), (i6 a2)]) 24))), (4, (some (.cells (layT (rows rw_iiiiii o0)) 58)))], 5, 0⟩
abbrev G_heapHeapapiDirtyPutq3 (a0 : Int) (a1 : Int) (a2 : Int) (a3 : List R6) (a4 : Nat) (a5 : Int) (a6 : Int) (a7 : Int) (a8 : Int) (a9 : Int) (a10 : Int) (r : List R6 × Nat) : Prop := Gv P (.func 18) (A_heapHeapapiDirtyPutq3 a0 a1 a2 a3 a4 a5 a6 a7 a8 a9 a10) (H_heapHeapapiDirtyPutq3 a0 a1 a2 a3 a4 a5 a6 a7 a8 a9 a10) (V_heapHeapapiDirtyPutq3 a0 a1 a2 a3 a4 a5 a6 a7 a8 a9 a10 r) (R_heapHeapapiDirtyPutq3 a0 a1 a2 a3 a4 a5 a6 a7 a8 a9 a10 r)
abbrev C_heapHeapapiDirtyPutq3 (a0 : Int) (a1 : Int) (a2 : Int) (a3 : List R6) (a4 : Nat) (a5 : Int) (a6 : Int) (a7 : Int) (a8 : Int) (a9 : Int) (a10 : Int) (r : List R6 × Nat) (ins outs : BL) : CallA := ⟨4, ins, V_heapHeapapiDirtyPutq3 a0 a1 a2 a3 a4 a5 a6 a7 a8 a9 a10 r, R_heapHeapapiDirtyPutq3 a0 a1 a2 a3 a4 a5 a6 a7 a8 a9 a10 r, outs⟩
def m_heapHeapapiDirtyPutq3 (n : Nat) (a0 : Int) (a1 : Int) (a2 : Int) (a3 : List R6) (a4 : Nat) (a5 : Int) (a6 : Int) (a7 : Int) (a8 : Int) (a9 : Int) (a10 : Int) : Option (List R6 × Nat) :=
 (m_heapHeapapiDirtyvalidq3 n a0 a1 a2 a3 a4 a5).bind fun _ =>
 if a4 ≤ (a3).length then
  if (a4 + 1) * 48 ≤ 140737488355328 then
   ((some (w64 ((((((List.take a4 a3) ++ [(a5, a6, a7, a8, a9, a10)])).length : Nat) : Int) - (1 : Int))))).bind fun c4_ =>
   (m_heapHeapapiDirtyupq1 n a0 a1 a2 ((List.take a4 a3) ++ [(a5, a6, a7, a8, a9, a10)]) (w64 (a5 + (1 : Int))) c4_).bind fun c5_ =>
   some (c5_, ((((List.take a4 a3) ++ [(a5, a6, a7, a8, a9, a10)])).length))
  else none
 else none
theorem p_heapHeapapiDirtyPutq3_0 (n : Nat) (a0 a1 a2 : Int) (a3 : List R6) (a4 : Nat) (a5 a6 a7 a8 a9 a10 : Int) (hc1 : m_heapHeapapiDirtyvalidq3 n a0 a1 a2 a3 a4 a5 = some ()) (hc2 : a4 ≤ (a3).length) (hc3 : (a4 + 1) * 48 ≤ 140737488355328) (c4_ : Int) (hc4 : (some (w64 ((((((List.take a4 a3) ++ [(a5, a6, a7, a8, a9, a10)])).length : Nat) : Int) - (1 : Int)))) = some c4_) (c5_ : List R6) (hc5 : m_heapHeapapiDirtyupq1 n a0 a1 a2 ((List.take a4 a3) ++ [(a5, a6, a7, a8, a9, a10)]) (w64 (a5 + (1 : Int))) c4_ = some c5_) : G_heapHeapapiDirtyPutq3 a0 a1 a2 a3 a4 a5 a6 a7 a8 a9 a10 (c5_, ((((List.take a4 a3) ++ [(a5, a6, a7, a8, a9, a10)])).length)) :=
 by
 obtain ⟨za, zt, hz⟩ : ∃ a t, ((List.take a4 a3) ++ [(a5, a6, a7, a8, a9, a10)]) = a :: t := snoc_cons (List.take a4 a3) (a5, a6, a7, a8, a9, a10)
 rw [hz]
 rw [hz] at hc4 hc5
 exact runF2 hm (L := lT []) ⟨[], [(0, 0, false), (1, 1, false), (2, 2, false), (4, 18, true)], 5, 0⟩ (yy 5 (.call (C_heapHeapapiDirtyvalidq3 a0 a1 a2 a3 a4 a5 () [(0, 0, false), (1, 1, false), (2, 2, false), (3, 3, true)] [])) <|
ww (m_heapHeapapiDirtyvalidq3_ok n a0 a1 a2 a3 a4 a5 () hc1) <|
ww (rows_flat rwf_iiiiii a3 58) <|
yy 22 (.app ⟨none, rows rw_iiiiii (List.take a4 a3), (rows rw_iiiiii (za :: zt)), ((za :: zt)).length, false⟩) <|
ww (p := 0 < 1) ((by decide)) <|
ww (p := rdT (layT (rows rw_iiiiii a3)) (Nat.mul a4 6) 0 = some (rows rw_iiiiii (List.take a4 a3))) (rows_rdTake rwf_iiiiii _ _ hc2) <|
ww (p := fits (Nat.add a4 1) 48 = true) (fits_ok hc3 (by have := hc3; show (_ : Nat) + _ ≤ _; omega)) <|
ww (p := allCells [(i6 a5), (i6 a6), (i6 a7), (i6 a8), (i6 a9), (i6 a10)] = true) (rfl) <|
ww (p := allCells (rows rw_iiiiii (List.take a4 a3)) = true) (rows_cells rwf_iiiiii _) <|
ww (p := rows rw_iiiiii (List.take a4 a3) ++ [(i6 a5), (i6 a6), (i6 a7), (i6 a8), (i6 a9), (i6 a10)] = (rows rw_iiiiii (za :: zt))) (by rw [← hz]; exact (rows_app rw_iiiiii (List.take a4 a3) [(a5, a6, a7, a8, a9, a10)])) <|
ww (p := Nat.add a4 1 = ((za :: zt)).length) (by rw [← hz]; exact (take_len hc2 rfl)) <|
zz 41 (xnm hc4) <|
yy 42 (.call (C_heapHeapapiDirtyupq1 a0 a1 a2 (za :: zt) (w64 (a5 + (1 : Int))) c4_ c5_ [(0, 0, false), (1, 1, false), (2, 2, false), (3, 18, true)] [(18, 3, true)])) <|
ww (m_heapHeapapiDirtyupq1_ok n a0 a1 a2 (za :: zt) (w64 (a5 + (1 : Int))) c4_ c5_ hc5) <|
ww (rows_flat rwf_iiiiii (za :: zt) 58) <|
ww (rows_flat rwf_iiiiii c5_ 58) <|
ww (rows_flat rwf_iiiiii c5_ 58) <|
ee) (by kernel_rfl)
theorem m_heapHeapapiDirtyPutq3_ok (n : Nat) (a0 : Int) (a1 : Int) (a2 : Int) (a3 : List R6) (a4 : Nat) (a5 : Int) (a6 : Int) (a7 : Int) (a8 : Int) (a9 : Int) (a10 : Int) (r : List R6 × Nat) (h : m_heapHeapapiDirtyPutq3 n a0 a1 a2 a3 a4 a5 a6 a7 a8 a9 a10 = some r) : Gv P (.func 18) (A_heapHeapapiDirtyPutq3 a0 a1 a2 a3 a4 a5 a6 a7 a8 a9 a10) (H_heapHeapapiDirtyPutq3 a0 a1 a2 a3 a4 a5 a6 a7 a8 a9 a10) (V_heapHeapapiDirtyPutq3 a0 a1 a2 a3 a4 a5 a6 a7 a8 a9 a10 r) (R_heapHeapapiDirtyPutq3 a0 a1 a2 a3 a4 a5 a6 a7 a8 a9 a10 r) := by
 unfold m_heapHeapapiDirtyPutq3 at h
 obtain ⟨_, hc1, h⟩ := Option.bind_eq_some_iff.1 h
 by_cases hc2 : a4 ≤ (a3).length
 ·rw [if_pos hc2] at h
  by_cases hc3 : (a4 + 1) * 48 ≤ 140737488355328
  ·rw [if_pos hc3] at h
   obtain ⟨c4_, hc4, h⟩ := Option.bind_eq_some_iff.1 h
   obtain ⟨c5_, hc5, h⟩ := Option.bind_eq_some_iff.1 h
   obtain rfl := oI h; exact p_heapHeapapiDirtyPutq3_0 n a0 a1 a2 a3 a4 a5 a6 a7 a8 a9 a10 hc1 hc2 hc3 c4_ hc4 c5_ hc5
  ·rw [if_neg hc3] at h; cases h
 ·rw [if_neg hc2] at h; cases h

def A_jobsqueueq1 (a0 : Int) (a1 : Int) (a2 : Int) : List Value := [(sW 0 0 (Args.A).length Args.cA), (Value.agg #[(i6 a0), (i6 a1)]), (i6 a2)]
def H_jobsqueueq1 (a0 : Int) (a1 : Int) (a2 : Int) : AH := ⟨sB [], 0, 0⟩
def V_jobsqueueq1 (a0 : Int) (a1 : Int) (a2 : Int) (r : List R6 × Nat × Int) : Value := match r with
 | (o0, o1, o2) => (pN 0 0)
def R_jobsqueueq1 (a0 : Int) (a1 : Int) (a2 : Int) (r : List R6 × Nat × Int) : AH := match r with
 | (o0, o1, o2) => ⟨sB [(0, (some (.cells (layT [(pN 0 0), (Value.func (.func 24) #[] #[(pN 1 0), (pN 2 0)]), (slQ o0 3 o1 6), (i6 o2)]) 53))), (1, (some (.cells (layT [(i6 a2)]) 3))), (2, (some (.cells (layT [(i6 a0), (i6 a1)]) 24))), (3, (nblkR rw_iiiiii o0 58))], 4, 0⟩
abbrev G_jobsqueueq1 (a0 : Int) (a1 : Int) (a2 : Int) (r : List R6 × Nat × Int) : Prop := Gv P (.func 11) (A_jobsqueueq1 a0 a1 a2) (H_jobsqueueq1 a0 a1 a2) (V_jobsqueueq1 a0 a1 a2 r) (R_jobsqueueq1 a0 a1 a2 r)
abbrev C_jobsqueueq1 (a0 : Int) (a1 : Int) (a2 : Int) (r : List R6 × Nat × Int) (ins outs : BL) : CallA := ⟨0, ins, V_jobsqueueq1 a0 a1 a2 r, R_jobsqueueq1 a0 a1 a2 r, outs⟩
def S_jobsqueueq1_1 (x1_0 : Int) (x1_1 : Int) (x1_2 : Int) (x1_6 : Int) (st : List R6 × Nat × Int × Int) : XSt := match st with
 | (x1_3, x1_4, x1_5, x1_7) => (sT 29 [(7, (pN 0 0)), (18, (sW 0 0 (Args.A).length Args.cA)), (19, (i6 x1_6)), (20, (i6 x1_7))], [], ⟨sB [(0, (some (.cells (layT [(pN 0 0), (Value.func (.func 24) #[] #[(pN 1 0), (pN 2 0)]), (slQ x1_3 3 x1_4 6), (i6 x1_5)]) 53))), (1, (some (.cells (layT [(i6 x1_0)]) 3))), (2, (some (.cells (layT [(i6 x1_1), (i6 x1_2)]) 24))), (3, (nblkR rw_iiiiii x1_3 58))], 4, 0⟩)
def X_jobsqueueq1_1 (x1_0 : Int) (x1_1 : Int) (x1_2 : Int) (x1_6 : Int) (r : List R6 × Nat × Int) : Ex × XSt := match r with
 | (z1_0, z1_1, z1_2) => (.exit 0, (sT 29 [(7, (pN 0 0))], [], ⟨sB [(0, (some (.cells (layT [(pN 0 0), (Value.func (.func 24) #[] #[(pN 1 0), (pN 2 0)]), (slQ z1_0 3 z1_1 6), (i6 z1_2)]) 53))), (1, (some (.cells (layT [(i6 x1_0)]) 3))), (2, (some (.cells (layT [(i6 x1_1), (i6 x1_2)]) 24))), (3, (nblkR rw_iiiiii z1_0 58))], 4, 0⟩))
abbrev Q_jobsqueueq1_1 (rnd : Option Nat) (x1_0 : Int) (x1_1 : Int) (x1_2 : Int) (x1_6 : Int) (st : List R6 × Nat × Int × Int) (c : Ex × XSt) : Prop := CG P rnd (fnN P 11) 0 (codeOf P 11 [false, false, true, false, true, true, true]) (S_jobsqueueq1_1 x1_0 x1_1 x1_2 x1_6 st) c
abbrev U_jobsqueueq1_1 (rd : Option Nat) (x1_0 : Int) (x1_1 : Int) (x1_2 : Int) (x1_6 : Int) (st : List R6 × Nat × Int × Int) (r : List R6 × Nat × Int) : Prop := CG P rd (fnN P 11) 0 (codeOf P 11 [false, true, false, true, true, true]) (S_jobsqueueq1_1 x1_0 x1_1 x1_2 x1_6 st) (X_jobsqueueq1_1 x1_0 x1_1 x1_2 x1_6 r)
def B_jobsqueueq1_1 (n : Nat) (x1_0 : Int) (x1_1 : Int) (x1_2 : Int) (x1_6 : Int) (st : List R6 × Nat × Int × Int) : Option ((List R6 × Nat × Int × Int) ⊕ (List R6 × Nat × Int)) := match st with
 | (x1_3, x1_4, x1_5, x1_7) =>
  match x1_3 with
  | [] =>
   if x1_7 < x1_6 then
    if 0 ≤ x1_7 ∧ x1_7 < (Args.A.length : Int) then
     ((some ((Args.A).getD (x1_7).toNat (0, 0, 0, 0, 0)))).bind fun y1_3_ =>
     (m_heapHeapapiDirtyPutq1 n x1_0 x1_1 x1_2 x1_5 (y1_3_.1) (y1_3_.2.1) (y1_3_.2.2.1) (y1_3_.2.2.2.1) (y1_3_.2.2.2.2)).bind fun y1_4_ =>
     match y1_4_ with
     | [] =>
      none
     | y1_4_a :: y1_4_t =>
      some (.inl ((y1_4_a :: y1_4_t), 1, (w64 (x1_5 + (1 : Int))), (w64 (x1_7 + (1 : Int)))))
    else none
   else
    some (.inr (([] : List R6), 0, x1_5))
  | x1_3a :: x1_3t =>
   if x1_7 < x1_6 then
    if 0 ≤ x1_7 ∧ x1_7 < (Args.A.length : Int) then
     ((some ((Args.A).getD (x1_7).toNat (0, 0, 0, 0, 0)))).bind fun y1_3_ =>
     (m_heapHeapapiDirtyPutq3 n x1_0 x1_1 x1_2 (x1_3a :: x1_3t) x1_4 x1_5 (y1_3_.1) (y1_3_.2.1) (y1_3_.2.2.1) (y1_3_.2.2.2.1) (y1_3_.2.2.2.2)).bind fun t => match t with
     | (y1_4_0, y1_4_1) =>
      match y1_4_0 with
      | [] =>
       none
      | y1_4_0a :: y1_4_0t =>
       some (.inl ((y1_4_0a :: y1_4_0t), y1_4_1, (w64 (x1_5 + (1 : Int))), (w64 (x1_7 + (1 : Int)))))
    else none
   else
    some (.inr ((x1_3a :: x1_3t), x1_4, x1_5))
def m_jobsqueueq1_1 (n : Nat) (x1_0 : Int) (x1_1 : Int) (x1_2 : Int) (x1_6 : Int) (st : List R6 × Nat × Int × Int) : Option (List R6 × Nat × Int) := iterM (B_jobsqueueq1_1 n x1_0 x1_1 x1_2 x1_6) n st
theorem q_jobsqueueq1_1_0 (n : Nat) {rnd : Option Nat} (x1_0 x1_1 x1_2 : Int) (x1_4 : Nat) (x1_5 x1_6 x1_7 : Int) (hy1_1 : x1_7 < x1_6) (hy1_2 : 0 ≤ x1_7 ∧ x1_7 < (Args.A.length : Int)) (y1_3_ : Int × Int × Int × Int × Int) (hy1_3 : (some ((Args.A).getD (x1_7).toNat (0, 0, 0, 0, 0))) = some y1_3_) (y1_4_a : R6) (y1_4_t : List R6) (hy1_4 : m_heapHeapapiDirtyPutq1 n x1_0 x1_1 x1_2 x1_5 (y1_3_.1) (y1_3_.2.1) (y1_3_.2.2.1) (y1_3_.2.2.2.1) (y1_3_.2.2.2.2) = some (y1_4_a :: y1_4_t)) : Q_jobsqueueq1_1 rnd x1_0 x1_1 x1_2 x1_6 (([] : List R6), x1_4, x1_5, x1_7) (.normal, S_jobsqueueq1_1 x1_0 x1_1 x1_2 x1_6 ((y1_4_a :: y1_4_t), 1, (w64 (x1_5 + (1 : Int))), (w64 (x1_7 + (1 : Int))))) :=
 runC2 hm (L := lT []) ⟨[7, 18, 19, 20], [(0, 0, false), (1, 1, false), (2, 2, false), (3, 5, true)], 4, 0⟩ (zz 1 (xdT hy1_1) <|
zz 7 (xk1 0 Args.cA hy1_2) <|
zz 8 (lk2 hy1_3 (toNatLt hy1_2)) <|
yy 13 (.call (C_heapHeapapiDirtyPutq1 x1_0 x1_1 x1_2 x1_5 (y1_3_.1) (y1_3_.2.1) (y1_3_.2.2.1) (y1_3_.2.2.2.1) (y1_3_.2.2.2.2) (y1_4_a :: y1_4_t) [(0, 0, false), (1, 1, false), (2, 2, false)] [(0, 0, false), (1, 1, false), (2, 2, false), (5, 3, true)])) <|
ww (m_heapHeapapiDirtyPutq1_ok n x1_0 x1_1 x1_2 x1_5 (y1_3_.1) (y1_3_.2.1) (y1_3_.2.2.1) (y1_3_.2.2.2.1) (y1_3_.2.2.2.2) (y1_4_a :: y1_4_t) hy1_4) <|
ww (rows_flat rwf_iiiiii (y1_4_a :: y1_4_t) 58) <|
ww (rows_flat rwf_iiiiii (y1_4_a :: y1_4_t) 58) <|
ee) (by kernel_rfl)
theorem q_jobsqueueq1_1_1 (n : Nat) {rnd : Option Nat} (x1_0 x1_1 x1_2 : Int) (x1_4 : Nat) (x1_5 x1_6 x1_7 : Int) (hy1_1 : ¬ (x1_7 < x1_6)) : Q_jobsqueueq1_1 rnd x1_0 x1_1 x1_2 x1_6 (([] : List R6), x1_4, x1_5, x1_7) (X_jobsqueueq1_1 x1_0 x1_1 x1_2 x1_6 (([] : List R6), 0, x1_5)) :=
 runC2 hm (L := lT []) ⟨[7], [(0, 0, false), (1, 1, false), (2, 2, false)], 4, 0⟩ (zz 1 (xdF hy1_1) <|
ee) (by kernel_rfl)
theorem q_jobsqueueq1_1_2 (n : Nat) {rnd : Option Nat} (x1_0 x1_1 x1_2 : Int) (x1_3a : R6) (x1_3t : List R6) (x1_4 : Nat) (x1_5 x1_6 x1_7 : Int) (hy1_1 : x1_7 < x1_6) (hy1_2 : 0 ≤ x1_7 ∧ x1_7 < (Args.A.length : Int)) (y1_3_ : Int × Int × Int × Int × Int) (hy1_3 : (some ((Args.A).getD (x1_7).toNat (0, 0, 0, 0, 0))) = some y1_3_) (y1_4_0a : R6) (y1_4_0t : List R6) (y1_4_1 : Nat) (hy1_4 : m_heapHeapapiDirtyPutq3 n x1_0 x1_1 x1_2 (x1_3a :: x1_3t) x1_4 x1_5 (y1_3_.1) (y1_3_.2.1) (y1_3_.2.2.1) (y1_3_.2.2.2.1) (y1_3_.2.2.2.2) = some ((y1_4_0a :: y1_4_0t), y1_4_1)) : Q_jobsqueueq1_1 rnd x1_0 x1_1 x1_2 x1_6 ((x1_3a :: x1_3t), x1_4, x1_5, x1_7) (.normal, S_jobsqueueq1_1 x1_0 x1_1 x1_2 x1_6 ((y1_4_0a :: y1_4_0t), y1_4_1, (w64 (x1_5 + (1 : Int))), (w64 (x1_7 + (1 : Int))))) :=
 runC2 hm (L := lT []) ⟨[7, 18, 19, 20], [(0, 0, false), (1, 1, false), (2, 2, false), (3, 5, true)], 4, 0⟩ (zz 1 (xdT hy1_1) <|
zz 7 (xk1 0 Args.cA hy1_2) <|
zz 8 (lk2 hy1_3 (toNatLt hy1_2)) <|
yy 13 (.call (C_heapHeapapiDirtyPutq3 x1_0 x1_1 x1_2 (x1_3a :: x1_3t) x1_4 x1_5 (y1_3_.1) (y1_3_.2.1) (y1_3_.2.2.1) (y1_3_.2.2.2.1) (y1_3_.2.2.2.2) ((y1_4_0a :: y1_4_0t), y1_4_1) [(0, 0, false), (1, 1, false), (2, 2, false), (3, 3, true)] [(0, 0, false), (1, 1, false), (2, 2, false), (5, 4, true)])) <|
ww (m_heapHeapapiDirtyPutq3_ok n x1_0 x1_1 x1_2 (x1_3a :: x1_3t) x1_4 x1_5 (y1_3_.1) (y1_3_.2.1) (y1_3_.2.2.1) (y1_3_.2.2.2.1) (y1_3_.2.2.2.2) ((y1_4_0a :: y1_4_0t), y1_4_1) hy1_4) <|
ww (rows_flat rwf_iiiiii (x1_3a :: x1_3t) 58) <|
ww (rows_flat rwf_iiiiii (y1_4_0a :: y1_4_0t) 58) <|
ww (rows_flat rwf_iiiiii (y1_4_0a :: y1_4_0t) 58) <|
ee) (by kernel_rfl)
theorem q_jobsqueueq1_1_3 (n : Nat) {rnd : Option Nat} (x1_0 x1_1 x1_2 : Int) (x1_3a : R6) (x1_3t : List R6) (x1_4 : Nat) (x1_5 x1_6 x1_7 : Int) (hy1_1 : ¬ (x1_7 < x1_6)) : Q_jobsqueueq1_1 rnd x1_0 x1_1 x1_2 x1_6 ((x1_3a :: x1_3t), x1_4, x1_5, x1_7) (X_jobsqueueq1_1 x1_0 x1_1 x1_2 x1_6 ((x1_3a :: x1_3t), x1_4, x1_5)) :=
 runC2 hm (L := lT []) ⟨[7], [(0, 0, false), (1, 1, false), (2, 2, false), (3, 3, true)], 4, 0⟩ (zz 1 (xdF hy1_1) <|
ww (rows_flat rwf_iiiiii (x1_3a :: x1_3t) 58) <|
ee) (by kernel_rfl)
theorem m_jobsqueueq1_1_ok (n : Nat) {rnd : Option Nat} (x1_0 : Int) (x1_1 : Int) (x1_2 : Int) (x1_6 : Int) (st : List R6 × Nat × Int × Int) (r : List R6 × Nat × Int) (h : m_jobsqueueq1_1 n x1_0 x1_1 x1_2 x1_6 st = some r) : CG P rnd (fnN P 11) 0 (codeOf P 11 [false, true, false, true, true, true]) (S_jobsqueueq1_1 x1_0 x1_1 x1_2 x1_6 st) (X_jobsqueueq1_1 x1_0 x1_1 x1_2 x1_6 r) :=
 CG.iter (b := codeOf P 11 [false, false, true, false, true, true, true]) (by kernel_rfl) (body := B_jobsqueueq1_1 n x1_0 x1_1 x1_2 x1_6) (S := S_jobsqueueq1_1 x1_0 x1_1 x1_2 x1_6) (X := X_jobsqueueq1_1 x1_0 x1_1 x1_2 x1_6)
  (fun s s' h => by
  obtain ⟨x1_3, x1_4, x1_5, x1_7⟩ := s
  unfold B_jobsqueueq1_1 at h
  dsimp only at h
  cases x1_3 with
  | nil =>
   dsimp only at h
   by_cases hy1_1 : x1_7 < x1_6
   ·rw [if_pos hy1_1] at h
    by_cases hy1_2 : 0 ≤ x1_7 ∧ x1_7 < (Args.A.length : Int)
    ·rw [if_pos hy1_2] at h
     obtain ⟨y1_3_, hy1_3, h⟩ := Option.bind_eq_some_iff.1 h
     obtain ⟨y1_4_, hy1_4, h⟩ := Option.bind_eq_some_iff.1 h
     cases y1_4_ with
     | nil =>
      dsimp only at h
      cases h
     | cons y1_4_a y1_4_t =>
      dsimp only at h
      obtain rfl := Sum.inl.inj (oI h); exact q_jobsqueueq1_1_0 n x1_0 x1_1 x1_2 x1_4 x1_5 x1_6 x1_7 hy1_1 hy1_2 y1_3_ hy1_3 y1_4_a y1_4_t hy1_4
    ·rw [if_neg hy1_2] at h; cases h
   ·rw [if_neg hy1_1] at h
    cases h
  | cons x1_3a x1_3t =>
   dsimp only at h
   by_cases hy1_1 : x1_7 < x1_6
   ·rw [if_pos hy1_1] at h
    by_cases hy1_2 : 0 ≤ x1_7 ∧ x1_7 < (Args.A.length : Int)
    ·rw [if_pos hy1_2] at h
     obtain ⟨y1_3_, hy1_3, h⟩ := Option.bind_eq_some_iff.1 h
     obtain ⟨⟨y1_4_0, y1_4_1⟩, hy1_4, h⟩ := Option.bind_eq_some_iff.1 h
     dsimp only at h
     cases y1_4_0 with
     | nil =>
      dsimp only at h
      cases h
     | cons y1_4_0a y1_4_0t =>
      dsimp only at h
      obtain rfl := Sum.inl.inj (oI h); exact q_jobsqueueq1_1_2 n x1_0 x1_1 x1_2 x1_3a x1_3t x1_4 x1_5 x1_6 x1_7 hy1_1 hy1_2 y1_3_ hy1_3 y1_4_0a y1_4_0t y1_4_1 hy1_4
    ·rw [if_neg hy1_2] at h; cases h
   ·rw [if_neg hy1_1] at h
    cases h)
  (fun s r h => by
  obtain ⟨x1_3, x1_4, x1_5, x1_7⟩ := s
  unfold B_jobsqueueq1_1 at h
  dsimp only at h
  cases x1_3 with
  | nil =>
   dsimp only at h
   by_cases hy1_1 : x1_7 < x1_6
   ·rw [if_pos hy1_1] at h
    by_cases hy1_2 : 0 ≤ x1_7 ∧ x1_7 < (Args.A.length : Int)
    ·rw [if_pos hy1_2] at h
     obtain ⟨y1_3_, hy1_3, h⟩ := Option.bind_eq_some_iff.1 h
     obtain ⟨y1_4_, hy1_4, h⟩ := Option.bind_eq_some_iff.1 h
     cases y1_4_ with
     | nil =>
      dsimp only at h
      cases h
     | cons y1_4_a y1_4_t =>
      dsimp only at h
      cases h
    ·rw [if_neg hy1_2] at h; cases h
   ·rw [if_neg hy1_1] at h
    obtain rfl := Sum.inr.inj (oI h); exact q_jobsqueueq1_1_1 n x1_0 x1_1 x1_2 x1_4 x1_5 x1_6 x1_7 hy1_1
  | cons x1_3a x1_3t =>
   dsimp only at h
   by_cases hy1_1 : x1_7 < x1_6
   ·rw [if_pos hy1_1] at h
    by_cases hy1_2 : 0 ≤ x1_7 ∧ x1_7 < (Args.A.length : Int)
    ·rw [if_pos hy1_2] at h
     obtain ⟨y1_3_, hy1_3, h⟩ := Option.bind_eq_some_iff.1 h
     obtain ⟨⟨y1_4_0, y1_4_1⟩, hy1_4, h⟩ := Option.bind_eq_some_iff.1 h
     dsimp only at h
     cases y1_4_0 with
     | nil =>
      dsimp only at h
      cases h
     | cons y1_4_0a y1_4_0t =>
      dsimp only at h
      cases h
    ·rw [if_neg hy1_2] at h; cases h
   ·rw [if_neg hy1_1] at h
    obtain rfl := Sum.inr.inj (oI h); exact q_jobsqueueq1_1_3 n x1_0 x1_1 x1_2 x1_3a x1_3t x1_4 x1_5 x1_6 x1_7 hy1_1)
  (fun r => by intro hx; cases hx) h
def m_jobsqueueq1 (n : Nat) (a0 : Int) (a1 : Int) (a2 : Int) : Option (List R6 × Nat × Int) :=
 (m_jobsorderq1 n a0 a1 a2).bind fun _ =>
 (m_heapNewapiDirtyq1 n a2 a0 a1).bind fun _ =>
 (m_dirtyCheckq1 n).bind fun c3_ =>
 if c3_ = (0 : Int) then
  (m_jobsqueueq1_1 n a2 a0 a1 (Args.A.length : Int) (([] : List R6), 0, 0, 0)).bind fun t => match t with
  | (c5_0, c5_1, c5_2) =>
   match c5_0 with
   | [] =>
    some (([] : List R6), 0, c5_2)
   | c5_0a :: c5_0t =>
    some ((c5_0a :: c5_0t), c5_1, c5_2)
 else
  some (([] : List R6), 0, 0)
theorem m_jobsqueueq1_ok (n : Nat) (a0 : Int) (a1 : Int) (a2 : Int) (r : List R6 × Nat × Int) (h : m_jobsqueueq1 n a0 a1 a2 = some r) : Gv P (.func 11) (A_jobsqueueq1 a0 a1 a2) (H_jobsqueueq1 a0 a1 a2) (V_jobsqueueq1 a0 a1 a2 r) (R_jobsqueueq1 a0 a1 a2 r) := by
 unfold m_jobsqueueq1 at h
 obtain ⟨_, hc1, h⟩ := Option.bind_eq_some_iff.1 h
 obtain ⟨_, hc2, h⟩ := Option.bind_eq_some_iff.1 h
 obtain ⟨c3_, hc3, h⟩ := Option.bind_eq_some_iff.1 h
 by_cases hc4 : c3_ = (0 : Int)
 ·rw [if_pos hc4] at h
  obtain ⟨⟨c5_0, c5_1, c5_2⟩, hc5, h⟩ := Option.bind_eq_some_iff.1 h
  dsimp only at h
  cases c5_0 with
  | nil =>
   dsimp only at h
   obtain rfl := oI h; exact (runF2 hm (L := lT [(21, ⟨⟨[7, 18, 19, 20], [(0, 3, false), (1, 1, false), (2, 2, false)], 4, 0⟩, (X_jobsqueueq1_1 a2 a0 a1 (Args.A.length : Int) (([] : List R6), c5_1, c5_2)).1, (X_jobsqueueq1_1 a2 a0 a1 (Args.A.length : Int) (([] : List R6), c5_1, c5_2)).2⟩)]) ⟨[6], [(0, 0, false), (1, 1, false), (2, 2, false)], 4, 0⟩ (yy 6 (.call (C_jobsorderq1 a0 a1 a2 () [] [(1, 0, false), (2, 1, false)])) <|
ww (m_jobsorderq1_ok n a0 a1 a2 () hc1) <|
yy 7 (.call (C_heapNewapiDirtyq1 a2 a0 a1 () [(0, 1, false), (1, 2, false)] [(1, 0, false), (2, 1, false), (3, 2, false)])) <|
ww (m_heapNewapiDirtyq1_ok n a2 a0 a1 () hc2) <|
yy 12 (.call (C_dirtyCheckq1  c3_ [] [])) <|
ww (m_dirtyCheckq1_ok n  c3_ hc3) <|
zz 13 (xnF hc4) <|
ww (p := U_jobsqueueq1_1 none a2 a0 a1 (Args.A.length : Int) (([] : List R6), 0, 0, 0) (([] : List R6), c5_1, c5_2)) (m_jobsqueueq1_1_ok n a2 a0 a1 (Args.A.length : Int) (([] : List R6), 0, 0, 0) (([] : List R6), c5_1, c5_2) hc5) ee) (by kernel_rfl))
  | cons c5_0a c5_0t =>
   dsimp only at h
   obtain rfl := oI h; exact (runF2 hm (L := lT [(21, ⟨⟨[7, 18, 19, 20], [(0, 3, false), (1, 1, false), (2, 2, false)], 4, 0⟩, (X_jobsqueueq1_1 a2 a0 a1 (Args.A.length : Int) ((c5_0a :: c5_0t), c5_1, c5_2)).1, (X_jobsqueueq1_1 a2 a0 a1 (Args.A.length : Int) ((c5_0a :: c5_0t), c5_1, c5_2)).2⟩)]) ⟨[6], [(0, 0, false), (1, 1, false), (2, 2, false), (3, 3, true)], 4, 0⟩ (yy 6 (.call (C_jobsorderq1 a0 a1 a2 () [] [(1, 0, false), (2, 1, false)])) <|
ww (m_jobsorderq1_ok n a0 a1 a2 () hc1) <|
yy 7 (.call (C_heapNewapiDirtyq1 a2 a0 a1 () [(0, 1, false), (1, 2, false)] [(1, 0, false), (2, 1, false), (3, 2, false)])) <|
ww (m_heapNewapiDirtyq1_ok n a2 a0 a1 () hc2) <|
yy 12 (.call (C_dirtyCheckq1  c3_ [] [])) <|
ww (m_dirtyCheckq1_ok n  c3_ hc3) <|
zz 13 (xnF hc4) <|
ww (p := U_jobsqueueq1_1 none a2 a0 a1 (Args.A.length : Int) (([] : List R6), 0, 0, 0) ((c5_0a :: c5_0t), c5_1, c5_2)) (m_jobsqueueq1_1_ok n a2 a0 a1 (Args.A.length : Int) (([] : List R6), 0, 0, 0) ((c5_0a :: c5_0t), c5_1, c5_2) hc5) <|
ww (rows_flat rwf_iiiiii (c5_0a :: c5_0t) 58) ee) (by kernel_rfl))
 ·rw [if_neg hc4] at h
  obtain rfl := oI h; exact (runF2 hm (L := lT []) ⟨[6], [(0, 3, false), (1, 1, false), (2, 2, false)], 4, 0⟩ (yy 6 (.call (C_jobsorderq1 a0 a1 a2 () [] [(1, 0, false), (2, 1, false)])) <|
ww (m_jobsorderq1_ok n a0 a1 a2 () hc1) <|
yy 7 (.call (C_heapNewapiDirtyq1 a2 a0 a1 () [(0, 1, false), (1, 2, false)] [(1, 0, false), (2, 1, false), (3, 2, false)])) <|
ww (m_heapNewapiDirtyq1_ok n a2 a0 a1 () hc2) <|
yy 12 (.call (C_dirtyCheckq1  c3_ [] [])) <|
ww (m_dirtyCheckq1_ok n  c3_ hc3) <|
zz 13 (xnT hc4) ee) (by kernel_rfl))

def A_heapHeapapiDirtyAllq1 (a0 : Int) (a1 : Int) (a2 : Int) (a3 : Int) : List Value := [(pN 0 0)]
def H_heapHeapapiDirtyAllq1 (a0 : Int) (a1 : Int) (a2 : Int) (a3 : Int) : AH := ⟨sB [(0, (some (.cells (layT [(pN 0 0), (Value.func (.func 24) #[] #[(pN 1 0), (pN 2 0)]), (Value.slice none 0 0), (i6 a3)]) 53))), (1, (some (.cells (layT [(i6 a0)]) 3))), (2, (some (.cells (layT [(i6 a1), (i6 a2)]) 24)))], 3, 3⟩
def V_heapHeapapiDirtyAllq1 (a0 : Int) (a1 : Int) (a2 : Int) (a3 : Int) (r : Unit) : Value := match r with
 | _ => (Value.func (.func 19) #[] #[(pN 3 0)])
def R_heapHeapapiDirtyAllq1 (a0 : Int) (a1 : Int) (a2 : Int) (a3 : Int) (r : Unit) : AH := match r with
 | _ => ⟨sB [(0, (some (.cells (layT [(pN 0 0), (Value.func (.func 24) #[] #[(pN 1 0), (pN 2 0)]), (Value.slice none 0 0), (i6 a3)]) 53))), (1, (some (.cells (layT [(i6 a0)]) 3))), (2, (some (.cells (layT [(i6 a1), (i6 a2)]) 24))), (3, (some (.cells (layT [(pN 0 0)]) 40)))], 4, 3⟩
abbrev G_heapHeapapiDirtyAllq1 (a0 : Int) (a1 : Int) (a2 : Int) (a3 : Int) (r : Unit) : Prop := Gv P (.func 12) (A_heapHeapapiDirtyAllq1 a0 a1 a2 a3) (H_heapHeapapiDirtyAllq1 a0 a1 a2 a3) (V_heapHeapapiDirtyAllq1 a0 a1 a2 a3 r) (R_heapHeapapiDirtyAllq1 a0 a1 a2 a3 r)
abbrev C_heapHeapapiDirtyAllq1 (a0 : Int) (a1 : Int) (a2 : Int) (a3 : Int) (r : Unit) (ins outs : BL) : CallA := ⟨3, ins, V_heapHeapapiDirtyAllq1 a0 a1 a2 a3 r, R_heapHeapapiDirtyAllq1 a0 a1 a2 a3 r, outs⟩
def m_heapHeapapiDirtyAllq1 (n : Nat) (a0 : Int) (a1 : Int) (a2 : Int) (a3 : Int) : Option (Unit) :=
 some ()
theorem m_heapHeapapiDirtyAllq1_ok (n : Nat) (a0 : Int) (a1 : Int) (a2 : Int) (a3 : Int) (r : Unit) (h : m_heapHeapapiDirtyAllq1 n a0 a1 a2 a3 = some r) : Gv P (.func 12) (A_heapHeapapiDirtyAllq1 a0 a1 a2 a3) (H_heapHeapapiDirtyAllq1 a0 a1 a2 a3) (V_heapHeapapiDirtyAllq1 a0 a1 a2 a3 r) (R_heapHeapapiDirtyAllq1 a0 a1 a2 a3 r) := by
 unfold m_heapHeapapiDirtyAllq1 at h
 obtain rfl := oI h; exact (runF2 hm (L := lT []) ⟨[2], [(0, 0, false), (1, 1, false), (2, 2, false), (3, 3, false)], 4, 3⟩ (ee) (by kernel_rfl))

def A_slicesCloneapiDirtyq1 : List Value := [(Value.slice none 0 0)]
def H_slicesCloneapiDirtyq1 : AH := ⟨sB [], 0, 0⟩
def V_slicesCloneapiDirtyq1 (r : Unit) : Value := match r with
 | _ => (Value.slice none 0 0)
def R_slicesCloneapiDirtyq1 (r : Unit) : AH := match r with
 | _ => ⟨sB [], 0, 0⟩
abbrev G_slicesCloneapiDirtyq1 (r : Unit) : Prop := Gv P (.func 21) A_slicesCloneapiDirtyq1 H_slicesCloneapiDirtyq1 (V_slicesCloneapiDirtyq1  r) (R_slicesCloneapiDirtyq1  r)
abbrev C_slicesCloneapiDirtyq1 (r : Unit) (ins outs : BL) : CallA := ⟨0, ins, V_slicesCloneapiDirtyq1  r, R_slicesCloneapiDirtyq1  r, outs⟩
def m_slicesCloneapiDirtyq1 (n : Nat) : Option (Unit) :=
 some ()
theorem m_slicesCloneapiDirtyq1_ok (n : Nat) (r : Unit) (h : m_slicesCloneapiDirtyq1 n = some r) : Gv P (.func 21) A_slicesCloneapiDirtyq1 H_slicesCloneapiDirtyq1 (V_slicesCloneapiDirtyq1  r) (R_slicesCloneapiDirtyq1  r) := by
 unfold m_slicesCloneapiDirtyq1 at h
 obtain rfl := oI h; exact (runF2 hm (L := lT []) ⟨[2], [], 0, 0⟩ (ee) (by kernel_rfl))

def A_heapHeapapiDirtydrainq1 (a0 : Int) (a1 : Int) (a2 : Int) (a3 : Int) : List Value := [(pN 0 0)]
def H_heapHeapapiDirtydrainq1 (a0 : Int) (a1 : Int) (a2 : Int) (a3 : Int) : AH := ⟨sB [(0, (some (.cells (layT [(pN 0 0), (Value.func (.func 24) #[] #[(pN 1 0), (pN 2 0)]), (Value.slice none 0 0), (i6 a3)]) 53))), (1, (some (.cells (layT [(i6 a0)]) 3))), (2, (some (.cells (layT [(i6 a1), (i6 a2)]) 24)))], 3, 3⟩
def V_heapHeapapiDirtydrainq1 (a0 : Int) (a1 : Int) (a2 : Int) (a3 : Int) (r : Unit) : Value := match r with
 | _ => (Value.func (.func 30) #[] #[(pN 3 0)])
def R_heapHeapapiDirtydrainq1 (a0 : Int) (a1 : Int) (a2 : Int) (a3 : Int) (r : Unit) : AH := match r with
 | _ => ⟨sB [(0, (some (.cells (layT [(pN 0 0), (Value.func (.func 24) #[] #[(pN 1 0), (pN 2 0)]), (Value.slice none 0 0), (i6 a3)]) 53))), (1, (some (.cells (layT [(i6 a0)]) 3))), (2, (some (.cells (layT [(i6 a1), (i6 a2)]) 24))), (3, (some (.cells (layT [(pN 0 0)]) 40)))], 4, 3⟩
abbrev G_heapHeapapiDirtydrainq1 (a0 : Int) (a1 : Int) (a2 : Int) (a3 : Int) (r : Unit) : Prop := Gv P (.func 22) (A_heapHeapapiDirtydrainq1 a0 a1 a2 a3) (H_heapHeapapiDirtydrainq1 a0 a1 a2 a3) (V_heapHeapapiDirtydrainq1 a0 a1 a2 a3 r) (R_heapHeapapiDirtydrainq1 a0 a1 a2 a3 r)
abbrev C_heapHeapapiDirtydrainq1 (a0 : Int) (a1 : Int) (a2 : Int) (a3 : Int) (r : Unit) (ins outs : BL) : CallA := ⟨3, ins, V_heapHeapapiDirtydrainq1 a0 a1 a2 a3 r, R_heapHeapapiDirtydrainq1 a0 a1 a2 a3 r, outs⟩
def m_heapHeapapiDirtydrainq1 (n : Nat) (a0 : Int) (a1 : Int) (a2 : Int) (a3 : Int) : Option (Unit) :=
 some ()
theorem m_heapHeapapiDirtydrainq1_ok (n : Nat) (a0 : Int) (a1 : Int) (a2 : Int) (a3 : Int) (r : Unit) (h : m_heapHeapapiDirtydrainq1 n a0 a1 a2 a3 = some r) : Gv P (.func 22) (A_heapHeapapiDirtydrainq1 a0 a1 a2 a3) (H_heapHeapapiDirtydrainq1 a0 a1 a2 a3) (V_heapHeapapiDirtydrainq1 a0 a1 a2 a3 r) (R_heapHeapapiDirtydrainq1 a0 a1 a2 a3 r) := by
 unfold m_heapHeapapiDirtydrainq1 at h
 obtain rfl := oI h; exact (runF2 hm (L := lT []) ⟨[2], [(0, 0, false), (1, 1, false), (2, 2, false), (3, 3, false)], 4, 3⟩ (ee) (by kernel_rfl))

def A_heapHeapapiDirtyLenq1 (a0 : Int) (a1 : Int) (a2 : Int) (a3 : Int) : List Value := [(pN 0 0)]
def H_heapHeapapiDirtyLenq1 (a0 : Int) (a1 : Int) (a2 : Int) (a3 : Int) : AH := ⟨sB [(0, (some (.cells (layT [(pN 0 0), (Value.func (.func 24) #[] #[(pN 1 0), (pN 2 0)]), (Value.slice none 0 0), (i6 a3)]) 53))), (1, (some (.cells (layT [(i6 a0)]) 3))), (2, (some (.cells (layT [(i6 a1), (i6 a2)]) 24)))], 3, 3⟩
def V_heapHeapapiDirtyLenq1 (a0 : Int) (a1 : Int) (a2 : Int) (a3 : Int) (r : Unit) : Value := match r with
 | _ => (i6 (0 : Int))
def R_heapHeapapiDirtyLenq1 (a0 : Int) (a1 : Int) (a2 : Int) (a3 : Int) (r : Unit) : AH := match r with
 | _ => ⟨sB [], 3, 3⟩
abbrev G_heapHeapapiDirtyLenq1 (a0 : Int) (a1 : Int) (a2 : Int) (a3 : Int) (r : Unit) : Prop := Gv P (.func 23) (A_heapHeapapiDirtyLenq1 a0 a1 a2 a3) (H_heapHeapapiDirtyLenq1 a0 a1 a2 a3) (V_heapHeapapiDirtyLenq1 a0 a1 a2 a3 r) (R_heapHeapapiDirtyLenq1 a0 a1 a2 a3 r)
abbrev C_heapHeapapiDirtyLenq1 (a0 : Int) (a1 : Int) (a2 : Int) (a3 : Int) (r : Unit) (ins outs : BL) : CallA := ⟨3, ins, V_heapHeapapiDirtyLenq1 a0 a1 a2 a3 r, R_heapHeapapiDirtyLenq1 a0 a1 a2 a3 r, outs⟩
def m_heapHeapapiDirtyLenq1 (n : Nat) (a0 : Int) (a1 : Int) (a2 : Int) (a3 : Int) : Option (Unit) :=
 (m_heapHeapapiDirtyvalidq1 n a0 a1 a2 a3).bind fun _ =>
 some ()
theorem m_heapHeapapiDirtyLenq1_ok (n : Nat) (a0 : Int) (a1 : Int) (a2 : Int) (a3 : Int) (r : Unit) (h : m_heapHeapapiDirtyLenq1 n a0 a1 a2 a3 = some r) : Gv P (.func 23) (A_heapHeapapiDirtyLenq1 a0 a1 a2 a3) (H_heapHeapapiDirtyLenq1 a0 a1 a2 a3) (V_heapHeapapiDirtyLenq1 a0 a1 a2 a3 r) (R_heapHeapapiDirtyLenq1 a0 a1 a2 a3 r) := by
 unfold m_heapHeapapiDirtyLenq1 at h
 obtain ⟨_, hc1, h⟩ := Option.bind_eq_some_iff.1 h
 obtain rfl := oI h; exact (runF2 hm (L := lT []) ⟨[2], [], 3, 3⟩ (yy 5 (.call (C_heapHeapapiDirtyvalidq1 a0 a1 a2 a3 () [(0, 0, false), (1, 1, false), (2, 2, false)] [])) <|
ww (m_heapHeapapiDirtyvalidq1_ok n a0 a1 a2 a3 () hc1) ee) (by kernel_rfl))

def A_heapHeapapiDirtydrain1q1 (a0 : Int) (a1 : Int) (a2 : Int) (a3 : Int) (a4 : Int) : List Value := [(Value.func (.yield 0) #[] #[]), (pN 10 0)]
def H_heapHeapapiDirtydrain1q1 (a0 : Int) (a1 : Int) (a2 : Int) (a3 : Int) (a4 : Int) : AH := ⟨sB [(0, (some (rblk P 19 [false, true, true, true, true, true] .ready none [(2, (pN 2 0)), (22, (Value.func (.func 30) #[] #[(pN 10 0)]))] 1))), (1, (some (.marks true))), (2, (some (.cells (layT [(Value.func (.yield 3) #[] #[])]) 50))), (3, (some (rblk P 6 [false, true, false, true, true] .ready none [(7, (pN 5 0)), (13, (Value.func (.func 19) #[] #[(pN 6 0)]))] 4))), (4, (some (.marks true))), (5, (some (.cells (layT [(Value.slice none 0 0)]) 28))), (6, (some (.cells (layT [(pN 7 0)]) 40))), (7, (some (.cells (layT [(pN 7 0), (Value.func (.func 24) #[] #[(pN 8 0), (pN 9 0)]), (Value.slice none 0 0), (i6 a3)]) 53))), (8, (some (.cells (layT [(i6 a0)]) 3))), (9, (some (.cells (layT [(i6 a1), (i6 a2)]) 24))), (10, (some (.cells (layT [(pN 11 0)]) 40))), (11, (some (.cells (layT [(pN 11 0), (Value.func (.func 24) #[] #[(pN 8 0), (pN 9 0)]), (Value.slice none 0 0), (i6 a4)]) 53)))], 12, 12⟩
def V_heapHeapapiDirtydrain1q1 (a0 : Int) (a1 : Int) (a2 : Int) (a3 : Int) (a4 : Int) (r : Unit) : Value := match r with
 | _ => (Value.tuple #[])
def R_heapHeapapiDirtydrain1q1 (a0 : Int) (a1 : Int) (a2 : Int) (a3 : Int) (a4 : Int) (r : Unit) : AH := match r with
 | _ => ⟨sB [], 12, 12⟩
abbrev G_heapHeapapiDirtydrain1q1 (a0 : Int) (a1 : Int) (a2 : Int) (a3 : Int) (a4 : Int) (r : Unit) : Prop := Gv P (.func 30) (A_heapHeapapiDirtydrain1q1 a0 a1 a2 a3 a4) (H_heapHeapapiDirtydrain1q1 a0 a1 a2 a3 a4) (V_heapHeapapiDirtydrain1q1 a0 a1 a2 a3 a4 r) (R_heapHeapapiDirtydrain1q1 a0 a1 a2 a3 a4 r)
abbrev C_heapHeapapiDirtydrain1q1 (a0 : Int) (a1 : Int) (a2 : Int) (a3 : Int) (a4 : Int) (r : Unit) (ins outs : BL) : CallA := ⟨12, ins, V_heapHeapapiDirtydrain1q1 a0 a1 a2 a3 a4 r, R_heapHeapapiDirtydrain1q1 a0 a1 a2 a3 a4 r, outs⟩
def S_heapHeapapiDirtydrain1q1_1 (x1_0 : Int) (x1_1 : Int) (x1_2 : Int) (x1_3 : Int) (x1_4 : Int) (st : Unit) : XSt := match st with
 | _ => (sT 17 [(0, (Value.func (.yield 0) #[] #[])), (1, (pN 10 0))], [], ⟨sB [(0, (some (rblk P 19 [false, true, true, true, true, true] .ready none [(2, (pN 2 0)), (22, (Value.func (.func 30) #[] #[(pN 10 0)]))] 1))), (1, (some (.marks true))), (2, (some (.cells (layT [(Value.func (.yield 3) #[] #[])]) 50))), (3, (some (rblk P 6 [false, true, false, true, true] .ready none [(7, (pN 5 0)), (13, (Value.func (.func 19) #[] #[(pN 6 0)]))] 4))), (4, (some (.marks true))), (5, (some (.cells (layT [(Value.slice none 0 0)]) 28))), (6, (some (.cells (layT [(pN 7 0)]) 40))), (7, (some (.cells (layT [(pN 7 0), (Value.func (.func 24) #[] #[(pN 8 0), (pN 9 0)]), (Value.slice none 0 0), (i6 x1_3)]) 53))), (8, (some (.cells (layT [(i6 x1_0)]) 3))), (9, (some (.cells (layT [(i6 x1_1), (i6 x1_2)]) 24))), (10, (some (.cells (layT [(pN 11 0)]) 40))), (11, (some (.cells (layT [(pN 11 0), (Value.func (.func 24) #[] #[(pN 8 0), (pN 9 0)]), (Value.slice none 0 0), (i6 x1_4)]) 53)))], 12, 12⟩)
def X_heapHeapapiDirtydrain1q1_1 (x1_0 : Int) (x1_1 : Int) (x1_2 : Int) (x1_3 : Int) (x1_4 : Int) (r : Unit) : Ex × XSt := match r with
 | _ => (.exit 0, (sT 17 [], [], ⟨sB [(0, (some (rblk P 19 [false, true, true, true, true, true] .ready none [(2, (pN 2 0)), (22, (Value.func (.func 30) #[] #[(pN 10 0)]))] 1))), (1, (some (.marks true))), (2, (some (.cells (layT [(Value.func (.yield 3) #[] #[])]) 50))), (3, (some (rblk P 6 [false, true, false, true, true] .ready none [(7, (pN 5 0)), (13, (Value.func (.func 19) #[] #[(pN 6 0)]))] 4))), (4, (some (.marks true))), (5, (some (.cells (layT [(Value.slice none 0 0)]) 28))), (6, (some (.cells (layT [(pN 7 0)]) 40))), (7, (some (.cells (layT [(pN 7 0), (Value.func (.func 24) #[] #[(pN 8 0), (pN 9 0)]), (Value.slice none 0 0), (i6 x1_3)]) 53))), (8, (some (.cells (layT [(i6 x1_0)]) 3))), (9, (some (.cells (layT [(i6 x1_1), (i6 x1_2)]) 24))), (10, (some (.cells (layT [(pN 11 0)]) 40))), (11, (some (.cells (layT [(pN 11 0), (Value.func (.func 24) #[] #[(pN 8 0), (pN 9 0)]), (Value.slice none 0 0), (i6 x1_4)]) 53)))], 12, 12⟩))
abbrev Q_heapHeapapiDirtydrain1q1_1 (rnd : Option Nat) (x1_0 : Int) (x1_1 : Int) (x1_2 : Int) (x1_3 : Int) (x1_4 : Int) (st : Unit) (c : Ex × XSt) : Prop := CG P rnd (fnN P 30) 12 (codeOf P 30 [false, false]) (S_heapHeapapiDirtydrain1q1_1 x1_0 x1_1 x1_2 x1_3 x1_4 st) c
abbrev U_heapHeapapiDirtydrain1q1_1 (rd : Option Nat) (x1_0 : Int) (x1_1 : Int) (x1_2 : Int) (x1_3 : Int) (x1_4 : Int) (st : Unit) (r : Unit) : Prop := CG P rd (fnN P 30) 12 (codeOf P 30 [false]) (S_heapHeapapiDirtydrain1q1_1 x1_0 x1_1 x1_2 x1_3 x1_4 st) (X_heapHeapapiDirtydrain1q1_1 x1_0 x1_1 x1_2 x1_3 x1_4 r)
def B_heapHeapapiDirtydrain1q1_1 (n : Nat) (x1_0 : Int) (x1_1 : Int) (x1_2 : Int) (x1_3 : Int) (x1_4 : Int) (st : Unit) : Option ((Unit) ⊕ (Unit)) := match st with
 | _ =>
  (m_heapHeapapiDirtyLenq1 n x1_0 x1_1 x1_2 x1_4).bind fun _ =>
  some (.inr ())
def m_heapHeapapiDirtydrain1q1_1 (n : Nat) (x1_0 : Int) (x1_1 : Int) (x1_2 : Int) (x1_3 : Int) (x1_4 : Int) (st : Unit) : Option (Unit) := iterM (B_heapHeapapiDirtydrain1q1_1 n x1_0 x1_1 x1_2 x1_3 x1_4) n st
theorem q_heapHeapapiDirtydrain1q1_1_0 (n : Nat) {rnd : Option Nat} (x1_0 x1_1 x1_2 x1_3 x1_4 : Int) (hy1_1 : m_heapHeapapiDirtyLenq1 n x1_0 x1_1 x1_2 x1_4 = some ()) : Q_heapHeapapiDirtydrain1q1_1 rnd x1_0 x1_1 x1_2 x1_3 x1_4 () (X_heapHeapapiDirtydrain1q1_1 x1_0 x1_1 x1_2 x1_3 x1_4 ()) :=
 runC2 hm (L := lT []) ⟨[], [(0, 0, false), (1, 1, false), (2, 2, false), (3, 3, false), (4, 4, false), (5, 5, false), (6, 6, false), (7, 7, false), (8, 8, false), (9, 9, false), (10, 10, false), (11, 11, false)], 12, 12⟩ (yy 3 (.call (C_heapHeapapiDirtyLenq1 x1_0 x1_1 x1_2 x1_4 () [(0, 11, false), (1, 8, false), (2, 9, false)] [])) <|
ww (m_heapHeapapiDirtyLenq1_ok n x1_0 x1_1 x1_2 x1_4 () hy1_1) <|
ee) (by kernel_rfl)
theorem m_heapHeapapiDirtydrain1q1_1_ok (n : Nat) {rnd : Option Nat} (x1_0 : Int) (x1_1 : Int) (x1_2 : Int) (x1_3 : Int) (x1_4 : Int) (st : Unit) (r : Unit) (h : m_heapHeapapiDirtydrain1q1_1 n x1_0 x1_1 x1_2 x1_3 x1_4 st = some r) : CG P rnd (fnN P 30) 12 (codeOf P 30 [false]) (S_heapHeapapiDirtydrain1q1_1 x1_0 x1_1 x1_2 x1_3 x1_4 st) (X_heapHeapapiDirtydrain1q1_1 x1_0 x1_1 x1_2 x1_3 x1_4 r) :=
 CG.iter (b := codeOf P 30 [false, false]) (by kernel_rfl) (body := B_heapHeapapiDirtydrain1q1_1 n x1_0 x1_1 x1_2 x1_3 x1_4) (S := S_heapHeapapiDirtydrain1q1_1 x1_0 x1_1 x1_2 x1_3 x1_4) (X := X_heapHeapapiDirtydrain1q1_1 x1_0 x1_1 x1_2 x1_3 x1_4)
  (fun s s' h => by
  unfold B_heapHeapapiDirtydrain1q1_1 at h
  dsimp only at h
  obtain ⟨_, hy1_1, h⟩ := Option.bind_eq_some_iff.1 h
  cases h)
  (fun s r h => by
  unfold B_heapHeapapiDirtydrain1q1_1 at h
  dsimp only at h
  obtain ⟨_, hy1_1, h⟩ := Option.bind_eq_some_iff.1 h
  obtain rfl := Sum.inr.inj (oI h); exact q_heapHeapapiDirtydrain1q1_1_0 n x1_0 x1_1 x1_2 x1_3 x1_4 hy1_1)
  (fun r => by intro hx; cases hx) h
def m_heapHeapapiDirtydrain1q1 (n : Nat) (a0 : Int) (a1 : Int) (a2 : Int) (a3 : Int) (a4 : Int) : Option (Unit) :=
 (m_heapHeapapiDirtydrain1q1_1 n a0 a1 a2 a3 a4 ()).bind fun _ =>
 some ()
theorem m_heapHeapapiDirtydrain1q1_ok (n : Nat) (a0 : Int) (a1 : Int) (a2 : Int) (a3 : Int) (a4 : Int) (r : Unit) (h : m_heapHeapapiDirtydrain1q1 n a0 a1 a2 a3 a4 = some r) : Gv P (.func 30) (A_heapHeapapiDirtydrain1q1 a0 a1 a2 a3 a4) (H_heapHeapapiDirtydrain1q1 a0 a1 a2 a3 a4) (V_heapHeapapiDirtydrain1q1 a0 a1 a2 a3 a4 r) (R_heapHeapapiDirtydrain1q1 a0 a1 a2 a3 a4 r) := by
 unfold m_heapHeapapiDirtydrain1q1 at h
 obtain ⟨_, hc1, h⟩ := Option.bind_eq_some_iff.1 h
 obtain rfl := oI h; exact (runF2 hm (L := lT [(1, ⟨⟨[0, 1], [(0, 0, false), (1, 1, false), (2, 2, false), (3, 3, false), (4, 4, false), (5, 5, false), (6, 6, false), (7, 7, false), (8, 8, false), (9, 9, false), (10, 10, false), (11, 11, false)], 12, 12⟩, (X_heapHeapapiDirtydrain1q1_1 a0 a1 a2 a3 a4 ()).1, (X_heapHeapapiDirtydrain1q1_1 a0 a1 a2 a3 a4 ()).2⟩)]) ⟨[], [], 12, 12⟩ (ww (p := U_heapHeapapiDirtydrain1q1_1 none a0 a1 a2 a3 a4 () ()) (m_heapHeapapiDirtydrain1q1_1_ok n a0 a1 a2 a3 a4 () () hc1) ee) (by kernel_rfl))

def A_heapHeapapiDirtyAll1q1 (a0 : Int) (a1 : Int) (a2 : Int) (a3 : Int) : List Value := [(Value.func (.yield 0) #[] #[]), (pN 3 0)]
def H_heapHeapapiDirtyAll1q1 (a0 : Int) (a1 : Int) (a2 : Int) (a3 : Int) : AH := ⟨sB [(0, (some (rblk P 6 [false, true, false, true, true] .ready none [(7, (pN 2 0)), (13, (Value.func (.func 19) #[] #[(pN 3 0)]))] 1))), (1, (some (.marks true))), (2, (some (.cells (layT [(Value.slice none 0 0)]) 28))), (3, (some (.cells (layT [(pN 4 0)]) 40))), (4, (some (.cells (layT [(pN 4 0), (Value.func (.func 24) #[] #[(pN 5 0), (pN 6 0)]), (Value.slice none 0 0), (i6 a3)]) 53))), (5, (some (.cells (layT [(i6 a0)]) 3))), (6, (some (.cells (layT [(i6 a1), (i6 a2)]) 24)))], 7, 7⟩
def V_heapHeapapiDirtyAll1q1 (a0 : Int) (a1 : Int) (a2 : Int) (a3 : Int) (r : Unit) : Value := match r with
 | _ => (Value.tuple #[])
def R_heapHeapapiDirtyAll1q1 (a0 : Int) (a1 : Int) (a2 : Int) (a3 : Int) (r : Unit) : AH := match r with
 | _ => ⟨sB [(7, (some (.marks false)))], 8, 7⟩
abbrev G_heapHeapapiDirtyAll1q1 (a0 : Int) (a1 : Int) (a2 : Int) (a3 : Int) (r : Unit) : Prop := Gv P (.func 19) (A_heapHeapapiDirtyAll1q1 a0 a1 a2 a3) (H_heapHeapapiDirtyAll1q1 a0 a1 a2 a3) (V_heapHeapapiDirtyAll1q1 a0 a1 a2 a3 r) (R_heapHeapapiDirtyAll1q1 a0 a1 a2 a3 r)
abbrev C_heapHeapapiDirtyAll1q1 (a0 : Int) (a1 : Int) (a2 : Int) (a3 : Int) (r : Unit) (ins outs : BL) : CallA := ⟨7, ins, V_heapHeapapiDirtyAll1q1 a0 a1 a2 a3 r, R_heapHeapapiDirtyAll1q1 a0 a1 a2 a3 r, outs⟩
def m_heapHeapapiDirtyAll1q1 (n : Nat) (a0 : Int) (a1 : Int) (a2 : Int) (a3 : Int) : Option (Unit) :=
 (m_heapHeapapiDirtyvalidq1 n a0 a1 a2 a3).bind fun _ =>
 (m_heapNewapiDirtyq1 n a0 a1 a2).bind fun _ =>
 (m_slicesCloneapiDirtyq1 n).bind fun _ =>
 (m_heapHeapapiDirtydrainq1 n a0 a1 a2 0).bind fun _ =>
 (m_heapHeapapiDirtydrain1q1 n a0 a1 a2 a3 0).bind fun _ =>
 some ()
theorem m_heapHeapapiDirtyAll1q1_ok (n : Nat) (a0 : Int) (a1 : Int) (a2 : Int) (a3 : Int) (r : Unit) (h : m_heapHeapapiDirtyAll1q1 n a0 a1 a2 a3 = some r) : Gv P (.func 19) (A_heapHeapapiDirtyAll1q1 a0 a1 a2 a3) (H_heapHeapapiDirtyAll1q1 a0 a1 a2 a3) (V_heapHeapapiDirtyAll1q1 a0 a1 a2 a3 r) (R_heapHeapapiDirtyAll1q1 a0 a1 a2 a3 r) := by
 unfold m_heapHeapapiDirtyAll1q1 at h
 obtain ⟨_, hc1, h⟩ := Option.bind_eq_some_iff.1 h
 obtain ⟨_, hc2, h⟩ := Option.bind_eq_some_iff.1 h
 obtain ⟨_, hc3, h⟩ := Option.bind_eq_some_iff.1 h
 obtain ⟨_, hc4, h⟩ := Option.bind_eq_some_iff.1 h
 obtain ⟨_, hc5, h⟩ := Option.bind_eq_some_iff.1 h
 obtain rfl := oI h; exact (runF2 hm (L := lT []) ⟨[], [(7, 10, false)], 8, 7⟩ (yy 5 (.call (C_heapHeapapiDirtyvalidq1 a0 a1 a2 a3 () [(0, 4, false), (1, 5, false), (2, 6, false)] [])) <|
ww (m_heapHeapapiDirtyvalidq1_ok n a0 a1 a2 a3 () hc1) <|
yy 13 (.call (C_heapNewapiDirtyq1 a0 a1 a2 () [(0, 5, false), (1, 6, false)] [(5, 0, false), (6, 1, false), (8, 2, false)])) <|
ww (m_heapNewapiDirtyq1_ok n a0 a1 a2 () hc2) <|
yy 21 (.call (C_slicesCloneapiDirtyq1  () [] [])) <|
ww (m_slicesCloneapiDirtyq1_ok n  () hc3) <|
yy 27 (.call (C_heapHeapapiDirtydrainq1 a0 a1 a2 0 () [(0, 8, false), (1, 5, false), (2, 6, false)] [(8, 0, false), (5, 1, false), (6, 2, false), (9, 3, false)])) <|
ww (m_heapHeapapiDirtydrainq1_ok n a0 a1 a2 0 () hc4) <|
yy 29 (.rng (C_heapHeapapiDirtydrain1q1 a0 a1 a2 a3 0 () [(0, 11, false), (1, 10, false), (2, 7, false), (3, 0, false), (4, 1, false), (5, 2, false), (6, 3, false), (7, 4, false), (8, 5, false), (9, 6, false), (10, 9, false), (11, 8, false)] []) [2, 22]) <|
ww (m_heapHeapapiDirtydrain1q1_ok n a0 a1 a2 a3 0 () hc5) ee) (by kernel_rfl))

def A_heapHeapapiDirtyAllq2 (a0 : Int) (a1 : Int) (a2 : Int) (a3 : List R6) (a4 : Nat) (a5 : Int) : List Value := [(pN 0 0)]
def H_heapHeapapiDirtyAllq2 (a0 : Int) (a1 : Int) (a2 : Int) (a3 : List R6) (a4 : Nat) (a5 : Int) : AH := ⟨sB [(0, (some (.cells (layT [(pN 0 0), (Value.func (.func 24) #[] #[(pN 1 0), (pN 2 0)]), (sN 3 0 a4 (Nat.add big 6)), (i6 a5)]) 53))), (1, (some (.cells (layT [(i6 a0)]) 3))), (2, (some (.cells (layT [(i6 a1), (i6 a2)]) 24))), (3, (some (.cells (layT (rows rw_iiiiii a3)) 58)))], 4, 4⟩
def V_heapHeapapiDirtyAllq2 (a0 : Int) (a1 : Int) (a2 : Int) (a3 : List R6) (a4 : Nat) (a5 : Int) (r : Unit) : Value := match r with
 | _ => (Value.func (.func 19) #[] #[(pN 4 0)])
def R_heapHeapapiDirtyAllq2 (a0 : Int) (a1 : Int) (a2 : Int) (a3 : List R6) (a4 : Nat) (a5 : Int) (r : Unit) : AH := match r with
 | _ => ⟨sB [(0, (some (.cells (layT [(pN 0 0), (Value.func (.func 24) #[] #[(pN 1 0), (pN 2 0)]), (sN 3 0 a4 (Nat.add big 6)), (i6 a5)]) 53))), (1, (some (.cells (layT [(i6 a0)]) 3))), (2, (some (.cells (layT [(i6 a1), (i6 a2)]) 24))), (3, (some (.cells (layT (rows rw_iiiiii a3)) 58))), (4, (some (.cells (layT [(pN 0 0)]) 40)))], 5, 4⟩
abbrev G_heapHeapapiDirtyAllq2 (a0 : Int) (a1 : Int) (a2 : Int) (a3 : List R6) (a4 : Nat) (a5 : Int) (r : Unit) : Prop := Gv P (.func 12) (A_heapHeapapiDirtyAllq2 a0 a1 a2 a3 a4 a5) (H_heapHeapapiDirtyAllq2 a0 a1 a2 a3 a4 a5) (V_heapHeapapiDirtyAllq2 a0 a1 a2 a3 a4 a5 r) (R_heapHeapapiDirtyAllq2 a0 a1 a2 a3 a4 a5 r)
abbrev C_heapHeapapiDirtyAllq2 (a0 : Int) (a1 : Int) (a2 : Int) (a3 : List R6) (a4 : Nat) (a5 : Int) (r : Unit) (ins outs : BL) : CallA := ⟨4, ins, V_heapHeapapiDirtyAllq2 a0 a1 a2 a3 a4 a5 r, R_heapHeapapiDirtyAllq2 a0 a1 a2 a3 a4 a5 r, outs⟩
def m_heapHeapapiDirtyAllq2 (n : Nat) (a0 : Int) (a1 : Int) (a2 : Int) (a3 : List R6) (a4 : Nat) (a5 : Int) : Option (Unit) :=
 some ()
theorem m_heapHeapapiDirtyAllq2_ok (n : Nat) (a0 : Int) (a1 : Int) (a2 : Int) (a3 : List R6) (a4 : Nat) (a5 : Int) (r : Unit) (h : m_heapHeapapiDirtyAllq2 n a0 a1 a2 a3 a4 a5 = some r) : Gv P (.func 12) (A_heapHeapapiDirtyAllq2 a0 a1 a2 a3 a4 a5) (H_heapHeapapiDirtyAllq2 a0 a1 a2 a3 a4 a5) (V_heapHeapapiDirtyAllq2 a0 a1 a2 a3 a4 a5 r) (R_heapHeapapiDirtyAllq2 a0 a1 a2 a3 a4 a5 r) := by
 unfold m_heapHeapapiDirtyAllq2 at h
 obtain rfl := oI h; exact (runF2 hm (L := lT []) ⟨[2], [(0, 0, false), (1, 1, false), (2, 2, false), (3, 3, true), (4, 4, false)], 5, 4⟩ (ww (rows_flat rwf_iiiiii a3 58) ee) (by kernel_rfl))

def A_slicesCloneapiDirtyq2 (a0 : List R6) (a1 : Nat) : List Value := [(sN 0 0 a1 (Nat.add big 6))]
def H_slicesCloneapiDirtyq2 (a0 : List R6) (a1 : Nat) : AH := ⟨sB [(0, (some (.cells (layT (rows rw_iiiiii a0)) 58)))], 1, 1⟩
def V_slicesCloneapiDirtyq2 (a0 : List R6) (a1 : Nat) (r : (List R6) ⊕ (Unit)) : Value := match r with
 | .inl o0 => (sN 1 0 (o0).length (Nat.add big 6))
 | .inr _ => (sN 1 0 0 0)
def R_slicesCloneapiDirtyq2 (a0 : List R6) (a1 : Nat) (r : (List R6) ⊕ (Unit)) : AH := match r with
 | .inl o0 => ⟨sB [(1, (some (.cells (layT (rows rw_iiiiii o0)) 58)))], 2, 1⟩
 | .inr _ => ⟨sB [(1, (some (.cells (layT []) 58)))], 2, 1⟩
abbrev G_slicesCloneapiDirtyq2 (a0 : List R6) (a1 : Nat) (r : (List R6) ⊕ (Unit)) : Prop := Gv P (.func 21) (A_slicesCloneapiDirtyq2 a0 a1) (H_slicesCloneapiDirtyq2 a0 a1) (V_slicesCloneapiDirtyq2 a0 a1 r) (R_slicesCloneapiDirtyq2 a0 a1 r)
abbrev C_slicesCloneapiDirtyq2 (a0 : List R6) (a1 : Nat) (r : (List R6) ⊕ (Unit)) (ins outs : BL) : CallA := ⟨1, ins, V_slicesCloneapiDirtyq2 a0 a1 r, R_slicesCloneapiDirtyq2 a0 a1 r, outs⟩
def m_slicesCloneapiDirtyq2 (n : Nat) (a0 : List R6) (a1 : Nat) : Option ((List R6) ⊕ (Unit)) :=
 if 0 < a1 then
  if 0 + a1 ≤ (a0).length then
   if (0 + a1) * 48 ≤ 140737488355328 then
    if 0 < 0 + a1 then
     some (.inl (([] : List R6) ++ (List.take a1 (List.drop 0 a0))))
    else none
   else none
  else none
 else
  some (.inr ())
theorem m_slicesCloneapiDirtyq2_ok (n : Nat) (a0 : List R6) (a1 : Nat) (r : (List R6) ⊕ (Unit)) (h : m_slicesCloneapiDirtyq2 n a0 a1 = some r) : Gv P (.func 21) (A_slicesCloneapiDirtyq2 a0 a1) (H_slicesCloneapiDirtyq2 a0 a1) (V_slicesCloneapiDirtyq2 a0 a1 r) (R_slicesCloneapiDirtyq2 a0 a1 r) := by
 unfold m_slicesCloneapiDirtyq2 at h
 by_cases hc1 : 0 < a1
 ·rw [if_pos hc1] at h
  by_cases hc2 : 0 + a1 ≤ (a0).length
  ·rw [if_pos hc2] at h
   by_cases hc3 : (0 + a1) * 48 ≤ 140737488355328
   ·rw [if_pos hc3] at h
    by_cases hc4 : 0 < 0 + a1
    ·rw [if_pos hc4] at h
     obtain rfl := oI h; exact (runF2 hm (L := lT []) ⟨[2], [(1, 2, true)], 2, 1⟩ (ww (p := a1 = a1) (rfl) <|
ww (p := rdT (layT (rows rw_iiiiii a0)) (Nat.mul a1 6) 0 = some (rows rw_iiiiii (List.take a1 (List.drop 0 a0)))) ((Nat.zero_mul 6 ▸ rows_rdSub rwf_iiiiii _ 0 _ hc2)) <|
yy 10 (.app ⟨some (a1, (rows rw_iiiiii (List.take a1 (List.drop 0 a0)))), ([] : List Value), (rows rw_iiiiii (([] : List R6) ++ (List.take a1 (List.drop 0 a0)))), ((([] : List R6) ++ (List.take a1 (List.drop 0 a0)))).length, true⟩) <|
ww (p := 0 < a1) (hc1) <|
ww (p := 0 < big) ((by decide)) <|
ww (p := 0 < Nat.add 0 a1) (hc4) <|
ww (p := rdT (layT ([] : List Value)) (Nat.mul 0 6) 0 = some (([] : List Value))) (rfl) <|
ww (p := fits (Nat.add 0 a1) 48 = true) (fits_ok hc3 (by have := hc3; show (_ : Nat) + _ ≤ _; omega)) <|
ww (p := ([] : List Value) ++ (rows rw_iiiiii (List.take a1 (List.drop 0 a0))) = (rows rw_iiiiii (([] : List R6) ++ (List.take a1 (List.drop 0 a0))))) (rows_app rw_iiiiii ([] : List R6) (List.take a1 (List.drop 0 a0))) <|
ww (p := Nat.add 0 a1 = ((([] : List R6) ++ (List.take a1 (List.drop 0 a0)))).length) (by simp <;> (try simp only [List.length_cons] at *) <;> omega) <|
ww (rows_flat rwf_iiiiii (([] : List R6) ++ (List.take a1 (List.drop 0 a0))) 58) ee) (by kernel_rfl))
    ·rw [if_neg hc4] at h; cases h
   ·rw [if_neg hc3] at h; cases h
  ·rw [if_neg hc2] at h; cases h
 ·rw [if_neg hc1] at h
  obtain rfl := oI h; exact (runF2 hm (L := lT []) ⟨[2], [(1, 1, false)], 2, 1⟩ (yy 10 (.app0) <|
ww (p := 0 = a1) ((by have := hc1; omega)) <|
ww (p := rdT (layT (rows rw_iiiiii a0)) (Nat.mul a1 6) 0 = some []) (rdT_zero (by have := hc1; omega)) <|
ww (p := ∀ H : AH, appTop H 6 58 48 (0, []) (sN 1 0 0 0) = some ((sN 1 0 0 0), H)) (fun _ => rfl) ee) (by kernel_rfl))

def A_heapHeapapiDirtydrainq2 (a0 : Int) (a1 : Int) (a2 : Int) (a3 : List R6) (a4 : Int) : List Value := [(pN 0 0)]
def H_heapHeapapiDirtydrainq2 (a0 : Int) (a1 : Int) (a2 : Int) (a3 : List R6) (a4 : Int) : AH := ⟨sB [(0, (some (.cells (layT [(pN 0 0), (Value.func (.func 24) #[] #[(pN 1 0), (pN 2 0)]), (sN 3 0 (a3).length (Nat.add big 6)), (i6 a4)]) 53))), (1, (some (.cells (layT [(i6 a0)]) 3))), (2, (some (.cells (layT [(i6 a1), (i6 a2)]) 24))), (3, (some (.cells (layT (rows rw_iiiiii a3)) 58)))], 4, 4⟩
def V_heapHeapapiDirtydrainq2 (a0 : Int) (a1 : Int) (a2 : Int) (a3 : List R6) (a4 : Int) (r : Unit) : Value := match r with
 | _ => (Value.func (.func 30) #[] #[(pN 4 0)])
def R_heapHeapapiDirtydrainq2 (a0 : Int) (a1 : Int) (a2 : Int) (a3 : List R6) (a4 : Int) (r : Unit) : AH := match r with
 | _ => ⟨sB [(0, (some (.cells (layT [(pN 0 0), (Value.func (.func 24) #[] #[(pN 1 0), (pN 2 0)]), (sN 3 0 (a3).length (Nat.add big 6)), (i6 a4)]) 53))), (1, (some (.cells (layT [(i6 a0)]) 3))), (2, (some (.cells (layT [(i6 a1), (i6 a2)]) 24))), (3, (some (.cells (layT (rows rw_iiiiii a3)) 58))), (4, (some (.cells (layT [(pN 0 0)]) 40)))], 5, 4⟩
abbrev G_heapHeapapiDirtydrainq2 (a0 : Int) (a1 : Int) (a2 : Int) (a3 : List R6) (a4 : Int) (r : Unit) : Prop := Gv P (.func 22) (A_heapHeapapiDirtydrainq2 a0 a1 a2 a3 a4) (H_heapHeapapiDirtydrainq2 a0 a1 a2 a3 a4) (V_heapHeapapiDirtydrainq2 a0 a1 a2 a3 a4 r) (R_heapHeapapiDirtydrainq2 a0 a1 a2 a3 a4 r)
abbrev C_heapHeapapiDirtydrainq2 (a0 : Int) (a1 : Int) (a2 : Int) (a3 : List R6) (a4 : Int) (r : Unit) (ins outs : BL) : CallA := ⟨4, ins, V_heapHeapapiDirtydrainq2 a0 a1 a2 a3 a4 r, R_heapHeapapiDirtydrainq2 a0 a1 a2 a3 a4 r, outs⟩
def m_heapHeapapiDirtydrainq2 (n : Nat) (a0 : Int) (a1 : Int) (a2 : Int) (a3 : List R6) (a4 : Int) : Option (Unit) :=
 some ()
theorem m_heapHeapapiDirtydrainq2_ok (n : Nat) (a0 : Int) (a1 : Int) (a2 : Int) (a3 : List R6) (a4 : Int) (r : Unit) (h : m_heapHeapapiDirtydrainq2 n a0 a1 a2 a3 a4 = some r) : Gv P (.func 22) (A_heapHeapapiDirtydrainq2 a0 a1 a2 a3 a4) (H_heapHeapapiDirtydrainq2 a0 a1 a2 a3 a4) (V_heapHeapapiDirtydrainq2 a0 a1 a2 a3 a4 r) (R_heapHeapapiDirtydrainq2 a0 a1 a2 a3 a4 r) := by
 unfold m_heapHeapapiDirtydrainq2 at h
 obtain rfl := oI h; exact (runF2 hm (L := lT []) ⟨[2], [(0, 0, false), (1, 1, false), (2, 2, false), (3, 3, true), (4, 4, false)], 5, 4⟩ (ww (rows_flat rwf_iiiiii a3 58) ee) (by kernel_rfl))

def A_heapHeapapiDirtyLenq2 (a0 : Int) (a1 : Int) (a2 : Int) (a3 : List R6) (a4 : Int) : List Value := [(pN 0 0)]
def H_heapHeapapiDirtyLenq2 (a0 : Int) (a1 : Int) (a2 : Int) (a3 : List R6) (a4 : Int) : AH := ⟨sB [(0, (some (.cells (layT [(pN 0 0), (Value.func (.func 24) #[] #[(pN 1 0), (pN 2 0)]), (sN 3 0 (a3).length (Nat.add big 6)), (i6 a4)]) 53))), (1, (some (.cells (layT [(i6 a0)]) 3))), (2, (some (.cells (layT [(i6 a1), (i6 a2)]) 24))), (3, (some (.cells (layT (rows rw_iiiiii a3)) 58)))], 4, 4⟩
def V_heapHeapapiDirtyLenq2 (a0 : Int) (a1 : Int) (a2 : Int) (a3 : List R6) (a4 : Int) (r : Unit) : Value := match r with
 | _ => (i6 (a3.length : Int))
def R_heapHeapapiDirtyLenq2 (a0 : Int) (a1 : Int) (a2 : Int) (a3 : List R6) (a4 : Int) (r : Unit) : AH := match r with
 | _ => ⟨sB [], 4, 4⟩
abbrev G_heapHeapapiDirtyLenq2 (a0 : Int) (a1 : Int) (a2 : Int) (a3 : List R6) (a4 : Int) (r : Unit) : Prop := Gv P (.func 23) (A_heapHeapapiDirtyLenq2 a0 a1 a2 a3 a4) (H_heapHeapapiDirtyLenq2 a0 a1 a2 a3 a4) (V_heapHeapapiDirtyLenq2 a0 a1 a2 a3 a4 r) (R_heapHeapapiDirtyLenq2 a0 a1 a2 a3 a4 r)
abbrev C_heapHeapapiDirtyLenq2 (a0 : Int) (a1 : Int) (a2 : Int) (a3 : List R6) (a4 : Int) (r : Unit) (ins outs : BL) : CallA := ⟨4, ins, V_heapHeapapiDirtyLenq2 a0 a1 a2 a3 a4 r, R_heapHeapapiDirtyLenq2 a0 a1 a2 a3 a4 r, outs⟩
def m_heapHeapapiDirtyLenq2 (n : Nat) (a0 : Int) (a1 : Int) (a2 : Int) (a3 : List R6) (a4 : Int) : Option (Unit) :=
 (m_heapHeapapiDirtyvalidq2 n a0 a1 a2 a3 a4).bind fun _ =>
 some ()
theorem m_heapHeapapiDirtyLenq2_ok (n : Nat) (a0 : Int) (a1 : Int) (a2 : Int) (a3 : List R6) (a4 : Int) (r : Unit) (h : m_heapHeapapiDirtyLenq2 n a0 a1 a2 a3 a4 = some r) : Gv P (.func 23) (A_heapHeapapiDirtyLenq2 a0 a1 a2 a3 a4) (H_heapHeapapiDirtyLenq2 a0 a1 a2 a3 a4) (V_heapHeapapiDirtyLenq2 a0 a1 a2 a3 a4 r) (R_heapHeapapiDirtyLenq2 a0 a1 a2 a3 a4 r) := by
 unfold m_heapHeapapiDirtyLenq2 at h
 obtain ⟨_, hc1, h⟩ := Option.bind_eq_some_iff.1 h
 obtain rfl := oI h; exact (runF2 hm (L := lT []) ⟨[2], [], 4, 4⟩ (yy 5 (.call (C_heapHeapapiDirtyvalidq2 a0 a1 a2 a3 a4 () [(0, 0, false), (1, 1, false), (2, 2, false), (3, 3, true)] [])) <|
ww (m_heapHeapapiDirtyvalidq2_ok n a0 a1 a2 a3 a4 () hc1) <|
ww (rows_flat rwf_iiiiii a3 58) ee) (by kernel_rfl))

def A_heapHeapapiDirtyLeastq1 (a0 : Int) (a1 : Int) (a2 : Int) (a3 : List R6) (a4 : Int) : List Value := [(pN 0 0)]
def H_heapHeapapiDirtyLeastq1 (a0 : Int) (a1 : Int) (a2 : Int) (a3 : List R6) (a4 : Int) : AH := ⟨sB [(0, (some (.cells (layT [(pN 0 0), (Value.func (.func 24) #[] #[(pN 1 0), (pN 2 0)]), (sN 3 0 (a3).length (Nat.add big 6)), (i6 a4)]) 53))), (1, (some (.cells (layT [(i6 a0)]) 3))), (2, (some (.cells (layT [(i6 a1), (i6 a2)]) 24))), (3, (some (.cells (layT (rows rw_iiiiii a3)) 58)))], 4, 4⟩
def V_heapHeapapiDirtyLeastq1 (a0 : Int) (a1 : Int) (a2 : Int) (a3 : List R6) (a4 : Int) (r : Int × Int × Int × Int × Int × Bool) : Value := match r with
 | (o0, o1, o2, o3, o4, o5) => (Value.tuple #[(Value.agg #[(i6 o0), (i6 o1), (i6 o2), (i6 o3), (i6 o4)]), (bO o5)])
def R_heapHeapapiDirtyLeastq1 (a0 : Int) (a1 : Int) (a2 : Int) (a3 : List R6) (a4 : Int) (r : Int × Int × Int × Int × Int × Bool) : AH := match r with
 | (o0, o1, o2, o3, o4, o5) => ⟨sB [(4, (some (.cells (layT [(i6 o0), (i6 o1), (i6 o2), (i6 o3), (i6 o4)]) 37)))], 5, 4⟩
abbrev G_heapHeapapiDirtyLeastq1 (a0 : Int) (a1 : Int) (a2 : Int) (a3 : List R6) (a4 : Int) (r : Int × Int × Int × Int × Int × Bool) : Prop := Gv P (.func 13) (A_heapHeapapiDirtyLeastq1 a0 a1 a2 a3 a4) (H_heapHeapapiDirtyLeastq1 a0 a1 a2 a3 a4) (V_heapHeapapiDirtyLeastq1 a0 a1 a2 a3 a4 r) (R_heapHeapapiDirtyLeastq1 a0 a1 a2 a3 a4 r)
abbrev C_heapHeapapiDirtyLeastq1 (a0 : Int) (a1 : Int) (a2 : Int) (a3 : List R6) (a4 : Int) (r : Int × Int × Int × Int × Int × Bool) (ins outs : BL) : CallA := ⟨4, ins, V_heapHeapapiDirtyLeastq1 a0 a1 a2 a3 a4 r, R_heapHeapapiDirtyLeastq1 a0 a1 a2 a3 a4 r, outs⟩
def m_heapHeapapiDirtyLeastq1 (n : Nat) (a0 : Int) (a1 : Int) (a2 : Int) (a3 : List R6) (a4 : Int) : Option (Int × Int × Int × Int × Int × Bool) :=
 (m_heapHeapapiDirtyLenq2 n a0 a1 a2 a3 a4).bind fun _ =>
 if (a3.length : Int) = (0 : Int) then
  some (0, 0, 0, 0, 0, false)
 else
  if 0 ≤ (0 : Int) ∧ (0 : Int) < (a3.length : Int) then
   ((some ((a3).getD ((0 : Int)).toNat (0, 0, 0, 0, 0, 0)))).bind fun c4_ =>
   some ((c4_.2.1), (c4_.2.2.1), (c4_.2.2.2.1), (c4_.2.2.2.2.1), (c4_.2.2.2.2.2), true)
  else none
theorem m_heapHeapapiDirtyLeastq1_ok (n : Nat) (a0 : Int) (a1 : Int) (a2 : Int) (a3 : List R6) (a4 : Int) (r : Int × Int × Int × Int × Int × Bool) (h : m_heapHeapapiDirtyLeastq1 n a0 a1 a2 a3 a4 = some r) : Gv P (.func 13) (A_heapHeapapiDirtyLeastq1 a0 a1 a2 a3 a4) (H_heapHeapapiDirtyLeastq1 a0 a1 a2 a3 a4) (V_heapHeapapiDirtyLeastq1 a0 a1 a2 a3 a4 r) (R_heapHeapapiDirtyLeastq1 a0 a1 a2 a3 a4 r) := by
 unfold m_heapHeapapiDirtyLeastq1 at h
 obtain ⟨_, hc1, h⟩ := Option.bind_eq_some_iff.1 h
 by_cases hc2 : (a3.length : Int) = (0 : Int)
 ·rw [if_pos hc2] at h
  obtain rfl := oI h; exact (runF2 hm (L := lT []) ⟨[2, 3], [(4, 4, false)], 5, 4⟩ (yy 6 (.call (C_heapHeapapiDirtyLenq2 a0 a1 a2 a3 a4 () [(0, 0, false), (1, 1, false), (2, 2, false), (3, 3, true)] [])) <|
ww (m_heapHeapapiDirtyLenq2_ok n a0 a1 a2 a3 a4 () hc1) <|
ww (rows_flat rwf_iiiiii a3 58) <|
zz 7 (xeT hc2) ee) (by kernel_rfl))
 ·rw [if_neg hc2] at h
  by_cases hc3 : 0 ≤ (0 : Int) ∧ (0 : Int) < (a3.length : Int)
  ·rw [if_pos hc3] at h
   obtain ⟨c4_, hc4, h⟩ := Option.bind_eq_some_iff.1 h
   obtain rfl := oI h; exact (runF2 hm (L := lT []) ⟨[2, 3], [(4, 4, false)], 5, 4⟩ (yy 6 (.call (C_heapHeapapiDirtyLenq2 a0 a1 a2 a3 a4 () [(0, 0, false), (1, 1, false), (2, 2, false), (3, 3, true)] [])) <|
ww (m_heapHeapapiDirtyLenq2_ok n a0 a1 a2 a3 a4 () hc1) <|
ww (rows_flat rwf_iiiiii a3 58) <|
zz 7 (xeF hc2) <|
zz 14 (xk5 3 U6 hc3) <|
yy 16 (.ld (Value.agg #[(i6 (c4_.2.1)), (i6 (c4_.2.2.1)), (i6 (c4_.2.2.2.1)), (i6 (c4_.2.2.2.2.1)), (i6 (c4_.2.2.2.2.2))])) <|
ww (p := rdT (layT (rows rw_iiiiii a3)) 5 (Nat.add (((0 : Int)).toNat * 6) 1) = some [(i6 (c4_.2.1)), (i6 (c4_.2.2.1)), (i6 (c4_.2.2.2.1)), (i6 (c4_.2.2.2.2.1)), (i6 (c4_.2.2.2.2.2))]) (rows_rdpN rwf_iiiiii (0, 0, 0, 0, 0, 0) (hr := hc4) (i := ((0 : Int)).toNat) (j := 1) (Nat.add (((0 : Int)).toNat * 6) 1) rfl (toNatLt hc3) (by decide) rfl) ee) (by kernel_rfl))
  ·rw [if_neg hc3] at h; cases h

def A_heapHeapapiDirtydownq1 (a0 : Int) (a1 : Int) (a2 : Int) (a3 : List R6) (a4 : Nat) (a5 : Int) (a6 : Int) : List Value := [(pN 0 0), (i6 a6)]
def H_heapHeapapiDirtydownq1 (a0 : Int) (a1 : Int) (a2 : Int) (a3 : List R6) (a4 : Nat) (a5 : Int) (a6 : Int) : AH := ⟨sB [(0, (some (.cells (layT [(pN 0 0), (Value.func (.func 24) #[] #[(pN 1 0), (pN 2 0)]), (sN 3 0 a4 (Nat.add big 6)), (i6 a5)]) 53))), (1, (some (.cells (layT [(i6 a0)]) 3))), (2, (some (.cells (layT [(i6 a1), (i6 a2)]) 24))), (3, (some (.cells (layT (rows rw_iiiiii a3)) 58)))], 4, 4⟩
def V_heapHeapapiDirtydownq1 (a0 : Int) (a1 : Int) (a2 : Int) (a3 : List R6) (a4 : Nat) (a5 : Int) (a6 : Int) (r : List R6) : Value := match r with
 | o0 => (Value.tuple #[])
def R_heapHeapapiDirtydownq1 (a0 : Int) (a1 : Int) (a2 : Int) (a3 : List R6) (a4 : Nat) (a5 : Int) (a6 : Int) (r : List R6) : AH := match r with
 | o0 => ⟨sB [(3, (some (.cells (layT (rows rw_iiiiii o0)) 58)))], 4, 3⟩
abbrev G_heapHeapapiDirtydownq1 (a0 : Int) (a1 : Int) (a2 : Int) (a3 : List R6) (a4 : Nat) (a5 : Int) (a6 : Int) (r : List R6) : Prop := Gv P (.func 36) (A_heapHeapapiDirtydownq1 a0 a1 a2 a3 a4 a5 a6) (H_heapHeapapiDirtydownq1 a0 a1 a2 a3 a4 a5 a6) (V_heapHeapapiDirtydownq1 a0 a1 a2 a3 a4 a5 a6 r) (R_heapHeapapiDirtydownq1 a0 a1 a2 a3 a4 a5 a6 r)
abbrev C_heapHeapapiDirtydownq1 (a0 : Int) (a1 : Int) (a2 : Int) (a3 : List R6) (a4 : Nat) (a5 : Int) (a6 : Int) (r : List R6) (ins outs : BL) : CallA := ⟨4, ins, V_heapHeapapiDirtydownq1 a0 a1 a2 a3 a4 a5 a6 r, R_heapHeapapiDirtydownq1 a0 a1 a2 a3 a4 a5 a6 r, outs⟩
def S_heapHeapapiDirtydownq1_2 (x2_0 : Int) (x2_1 : Int) (x2_2 : Int) (x2_3 : List R6) (x2_4 : Nat) (x2_5 : Int) (x2_6 : Int) (st : Int × Int) : XSt := match st with
 | (x2_7, x2_8) => (sT 61 [(0, (pN 0 0)), (1, (i6 x2_6)), (4, (i6 x2_7)), (5, (i6 x2_8))], [], ⟨sB [(0, (some (.cells (layT [(pN 0 0), (Value.func (.func 24) #[] #[(pN 1 0), (pN 2 0)]), (sN 3 0 x2_4 (Nat.add big 6)), (i6 x2_5)]) 53))), (1, (some (.cells (layT [(i6 x2_0)]) 3))), (2, (some (.cells (layT [(i6 x2_1), (i6 x2_2)]) 24))), (3, (some (.cells (layT (rows rw_iiiiii x2_3)) 58)))], 4, 3⟩)
def X_heapHeapapiDirtydownq1_2 (x2_0 : Int) (x2_1 : Int) (x2_2 : Int) (x2_3 : List R6) (x2_4 : Nat) (x2_5 : Int) (x2_6 : Int) (r : Int) : Ex × XSt := match r with
 | z2_0 => (.exit 2, (sT 61 [(0, (pN 0 0)), (1, (i6 x2_6)), (4, (i6 z2_0))], [], ⟨sB [(0, (some (.cells (layT [(pN 0 0), (Value.func (.func 24) #[] #[(pN 1 0), (pN 2 0)]), (sN 3 0 x2_4 (Nat.add big 6)), (i6 x2_5)]) 53))), (1, (some (.cells (layT [(i6 x2_0)]) 3))), (2, (some (.cells (layT [(i6 x2_1), (i6 x2_2)]) 24))), (3, (some (.cells (layT (rows rw_iiiiii x2_3)) 58)))], 4, 3⟩))
abbrev Q_heapHeapapiDirtydownq1_2 (rnd : Option Nat) (x2_0 : Int) (x2_1 : Int) (x2_2 : Int) (x2_3 : List R6) (x2_4 : Nat) (x2_5 : Int) (x2_6 : Int) (st : Int × Int) (c : Ex × XSt) : Prop := CG P rnd (fnN P 36) 4 (codeOf P 36 [false, false, true, false, true, false, false, false]) (S_heapHeapapiDirtydownq1_2 x2_0 x2_1 x2_2 x2_3 x2_4 x2_5 x2_6 st) c
abbrev U_heapHeapapiDirtydownq1_2 (rd : Option Nat) (x2_0 : Int) (x2_1 : Int) (x2_2 : Int) (x2_3 : List R6) (x2_4 : Nat) (x2_5 : Int) (x2_6 : Int) (st : Int × Int) (r : Int) : Prop := CG P rd (fnN P 36) 4 (codeOf P 36 [false, true, false, true, false, false, false]) (S_heapHeapapiDirtydownq1_2 x2_0 x2_1 x2_2 x2_3 x2_4 x2_5 x2_6 st) (X_heapHeapapiDirtydownq1_2 x2_0 x2_1 x2_2 x2_3 x2_4 x2_5 x2_6 r)
def B_heapHeapapiDirtydownq1_2 (n : Nat) (x2_0 : Int) (x2_1 : Int) (x2_2 : Int) (x2_3 : List R6) (x2_4 : Nat) (x2_5 : Int) (x2_6 : Int) (st : Int × Int) : Option ((Int × Int) ⊕ (Int)) := match st with
 | (x2_7, x2_8) =>
  ((some (w64 ((w64 (x2_6 * (2 : Int))) + (2 : Int))))).bind fun y2_1_ =>
  if x2_8 ≤ y2_1_ then
   if x2_8 < ((x2_4 : Nat) : Int) then
    (m_heapHeapapiDirtybeforeq2 n x2_0 x2_1 x2_2 x2_3 x2_4 x2_5 x2_8 x2_7).bind fun y2_4_ =>
    if y2_4_ = true then
     some (.inl (x2_8, (w64 (x2_8 + (1 : Int)))))
    else
     some (.inl (x2_7, (w64 (x2_8 + (1 : Int)))))
   else
    some (.inr x2_7)
  else
   some (.inr x2_7)
def m_heapHeapapiDirtydownq1_2 (n : Nat) (x2_0 : Int) (x2_1 : Int) (x2_2 : Int) (x2_3 : List R6) (x2_4 : Nat) (x2_5 : Int) (x2_6 : Int) (st : Int × Int) : Option (Int) := iterM (B_heapHeapapiDirtydownq1_2 n x2_0 x2_1 x2_2 x2_3 x2_4 x2_5 x2_6) n st
theorem q_heapHeapapiDirtydownq1_2_0 (n : Nat) {rnd : Option Nat} (x2_0 x2_1 x2_2 : Int) (x2_3 : List R6) (x2_4 : Nat) (x2_5 x2_6 x2_7 x2_8 y2_1_ : Int) (hy2_1 : (some (w64 ((w64 (x2_6 * (2 : Int))) + (2 : Int)))) = some y2_1_) (hy2_2 : x2_8 ≤ y2_1_) (hy2_3 : x2_8 < ((x2_4 : Nat) : Int)) (y2_4_ : Bool) (hy2_4 : m_heapHeapapiDirtybeforeq2 n x2_0 x2_1 x2_2 x2_3 x2_4 x2_5 x2_8 x2_7 = some y2_4_) (hy2_5 : y2_4_ = true) : Q_heapHeapapiDirtydownq1_2 rnd x2_0 x2_1 x2_2 x2_3 x2_4 x2_5 x2_6 (x2_7, x2_8) (.normal, S_heapHeapapiDirtydownq1_2 x2_0 x2_1 x2_2 x2_3 x2_4 x2_5 x2_6 (x2_8, (w64 (x2_8 + (1 : Int))))) :=
 runC2 hm (L := lT []) ⟨[0, 1, 4, 5], [(0, 0, false), (1, 1, false), (2, 2, false), (3, 3, true)], 4, 3⟩ (zz 5 (xnm hy2_1) <|
zz 6 (xdT hy2_2) <|
zz 14 (xdT hy2_3) <|
yy 23 (.call (C_heapHeapapiDirtybeforeq2 x2_0 x2_1 x2_2 x2_3 x2_4 x2_5 x2_8 x2_7 y2_4_ [(0, 0, false), (1, 1, false), (2, 2, false), (3, 3, true)] [])) <|
ww (m_heapHeapapiDirtybeforeq2_ok n x2_0 x2_1 x2_2 x2_3 x2_4 x2_5 x2_8 x2_7 y2_4_ hy2_4) <|
ww (rows_flat rwf_iiiiii x2_3 58) <|
zz 24 (xbT hy2_5) <|
ww (rows_flat rwf_iiiiii x2_3 58) <|
ee) (by kernel_rfl)
theorem q_heapHeapapiDirtydownq1_2_1 (n : Nat) {rnd : Option Nat} (x2_0 x2_1 x2_2 : Int) (x2_3 : List R6) (x2_4 : Nat) (x2_5 x2_6 x2_7 x2_8 y2_1_ : Int) (hy2_1 : (some (w64 ((w64 (x2_6 * (2 : Int))) + (2 : Int)))) = some y2_1_) (hy2_2 : x2_8 ≤ y2_1_) (hy2_3 : x2_8 < ((x2_4 : Nat) : Int)) (y2_4_ : Bool) (hy2_4 : m_heapHeapapiDirtybeforeq2 n x2_0 x2_1 x2_2 x2_3 x2_4 x2_5 x2_8 x2_7 = some y2_4_) (hy2_5 : ¬ (y2_4_ = true)) : Q_heapHeapapiDirtydownq1_2 rnd x2_0 x2_1 x2_2 x2_3 x2_4 x2_5 x2_6 (x2_7, x2_8) (.normal, S_heapHeapapiDirtydownq1_2 x2_0 x2_1 x2_2 x2_3 x2_4 x2_5 x2_6 (x2_7, (w64 (x2_8 + (1 : Int))))) :=
 runC2 hm (L := lT []) ⟨[0, 1, 4, 5], [(0, 0, false), (1, 1, false), (2, 2, false), (3, 3, true)], 4, 3⟩ (zz 5 (xnm hy2_1) <|
zz 6 (xdT hy2_2) <|
zz 14 (xdT hy2_3) <|
yy 23 (.call (C_heapHeapapiDirtybeforeq2 x2_0 x2_1 x2_2 x2_3 x2_4 x2_5 x2_8 x2_7 y2_4_ [(0, 0, false), (1, 1, false), (2, 2, false), (3, 3, true)] [])) <|
ww (m_heapHeapapiDirtybeforeq2_ok n x2_0 x2_1 x2_2 x2_3 x2_4 x2_5 x2_8 x2_7 y2_4_ hy2_4) <|
ww (rows_flat rwf_iiiiii x2_3 58) <|
zz 24 (xbF hy2_5) <|
ww (rows_flat rwf_iiiiii x2_3 58) <|
ee) (by kernel_rfl)
theorem q_heapHeapapiDirtydownq1_2_2 (n : Nat) {rnd : Option Nat} (x2_0 x2_1 x2_2 : Int) (x2_3 : List R6) (x2_4 : Nat) (x2_5 x2_6 x2_7 x2_8 y2_1_ : Int) (hy2_1 : (some (w64 ((w64 (x2_6 * (2 : Int))) + (2 : Int)))) = some y2_1_) (hy2_2 : x2_8 ≤ y2_1_) (hy2_3 : ¬ (x2_8 < ((x2_4 : Nat) : Int))) : Q_heapHeapapiDirtydownq1_2 rnd x2_0 x2_1 x2_2 x2_3 x2_4 x2_5 x2_6 (x2_7, x2_8) (X_heapHeapapiDirtydownq1_2 x2_0 x2_1 x2_2 x2_3 x2_4 x2_5 x2_6 x2_7) :=
 runC2 hm (L := lT []) ⟨[0, 1, 4], [(0, 0, false), (1, 1, false), (2, 2, false), (3, 3, true)], 4, 3⟩ (zz 5 (xnm hy2_1) <|
zz 6 (xdT hy2_2) <|
zz 14 (xdF hy2_3) <|
ww (rows_flat rwf_iiiiii x2_3 58) <|
ee) (by kernel_rfl)
theorem q_heapHeapapiDirtydownq1_2_3 (n : Nat) {rnd : Option Nat} (x2_0 x2_1 x2_2 : Int) (x2_3 : List R6) (x2_4 : Nat) (x2_5 x2_6 x2_7 x2_8 y2_1_ : Int) (hy2_1 : (some (w64 ((w64 (x2_6 * (2 : Int))) + (2 : Int)))) = some y2_1_) (hy2_2 : ¬ (x2_8 ≤ y2_1_)) : Q_heapHeapapiDirtydownq1_2 rnd x2_0 x2_1 x2_2 x2_3 x2_4 x2_5 x2_6 (x2_7, x2_8) (X_heapHeapapiDirtydownq1_2 x2_0 x2_1 x2_2 x2_3 x2_4 x2_5 x2_6 x2_7) :=
 runC2 hm (L := lT []) ⟨[0, 1, 4], [(0, 0, false), (1, 1, false), (2, 2, false), (3, 3, true)], 4, 3⟩ (zz 5 (xnm hy2_1) <|
zz 6 (xdF hy2_2) <|
ww (rows_flat rwf_iiiiii x2_3 58) <|
ee) (by kernel_rfl)
theorem m_heapHeapapiDirtydownq1_2_ok (n : Nat) {rnd : Option Nat} (x2_0 : Int) (x2_1 : Int) (x2_2 : Int) (x2_3 : List R6) (x2_4 : Nat) (x2_5 : Int) (x2_6 : Int) (st : Int × Int) (r : Int) (h : m_heapHeapapiDirtydownq1_2 n x2_0 x2_1 x2_2 x2_3 x2_4 x2_5 x2_6 st = some r) : CG P rnd (fnN P 36) 4 (codeOf P 36 [false, true, false, true, false, false, false]) (S_heapHeapapiDirtydownq1_2 x2_0 x2_1 x2_2 x2_3 x2_4 x2_5 x2_6 st) (X_heapHeapapiDirtydownq1_2 x2_0 x2_1 x2_2 x2_3 x2_4 x2_5 x2_6 r) :=
 CG.iter (b := codeOf P 36 [false, false, true, false, true, false, false, false]) (by kernel_rfl) (body := B_heapHeapapiDirtydownq1_2 n x2_0 x2_1 x2_2 x2_3 x2_4 x2_5 x2_6) (S := S_heapHeapapiDirtydownq1_2 x2_0 x2_1 x2_2 x2_3 x2_4 x2_5 x2_6) (X := X_heapHeapapiDirtydownq1_2 x2_0 x2_1 x2_2 x2_3 x2_4 x2_5 x2_6)
  (fun s s' h => by
  obtain ⟨x2_7, x2_8⟩ := s
  unfold B_heapHeapapiDirtydownq1_2 at h
  dsimp only at h
  obtain ⟨y2_1_, hy2_1, h⟩ := Option.bind_eq_some_iff.1 h
  by_cases hy2_2 : x2_8 ≤ y2_1_
  ·rw [if_pos hy2_2] at h
   by_cases hy2_3 : x2_8 < ((x2_4 : Nat) : Int)
   ·rw [if_pos hy2_3] at h
    obtain ⟨y2_4_, hy2_4, h⟩ := Option.bind_eq_some_iff.1 h
    by_cases hy2_5 : y2_4_ = true
    ·rw [if_pos hy2_5] at h
     obtain rfl := Sum.inl.inj (oI h); exact q_heapHeapapiDirtydownq1_2_0 n x2_0 x2_1 x2_2 x2_3 x2_4 x2_5 x2_6 x2_7 x2_8 y2_1_ hy2_1 hy2_2 hy2_3 y2_4_ hy2_4 hy2_5
    ·rw [if_neg hy2_5] at h
     obtain rfl := Sum.inl.inj (oI h); exact q_heapHeapapiDirtydownq1_2_1 n x2_0 x2_1 x2_2 x2_3 x2_4 x2_5 x2_6 x2_7 x2_8 y2_1_ hy2_1 hy2_2 hy2_3 y2_4_ hy2_4 hy2_5
   ·rw [if_neg hy2_3] at h
    cases h
  ·rw [if_neg hy2_2] at h
   cases h)
  (fun s r h => by
  obtain ⟨x2_7, x2_8⟩ := s
  unfold B_heapHeapapiDirtydownq1_2 at h
  dsimp only at h
  obtain ⟨y2_1_, hy2_1, h⟩ := Option.bind_eq_some_iff.1 h
  by_cases hy2_2 : x2_8 ≤ y2_1_
  ·rw [if_pos hy2_2] at h
   by_cases hy2_3 : x2_8 < ((x2_4 : Nat) : Int)
   ·rw [if_pos hy2_3] at h
    obtain ⟨y2_4_, hy2_4, h⟩ := Option.bind_eq_some_iff.1 h
    by_cases hy2_5 : y2_4_ = true
    ·rw [if_pos hy2_5] at h
     cases h
    ·rw [if_neg hy2_5] at h
     cases h
   ·rw [if_neg hy2_3] at h
    obtain rfl := Sum.inr.inj (oI h); exact q_heapHeapapiDirtydownq1_2_2 n x2_0 x2_1 x2_2 x2_3 x2_4 x2_5 x2_6 x2_7 x2_8 y2_1_ hy2_1 hy2_2 hy2_3
  ·rw [if_neg hy2_2] at h
   obtain rfl := Sum.inr.inj (oI h); exact q_heapHeapapiDirtydownq1_2_3 n x2_0 x2_1 x2_2 x2_3 x2_4 x2_5 x2_6 x2_7 x2_8 y2_1_ hy2_1 hy2_2)
  (fun r => by intro hx; cases hx) h
def S_heapHeapapiDirtydownq1_1 (x1_0 : Int) (x1_1 : Int) (x1_2 : Int) (x1_4 : Nat) (x1_5 : Int) (st : List R6 × Int) : XSt := match st with
 | (x1_3, x1_6) => (sT 61 [(0, (pN 0 0)), (1, (i6 x1_6))], [], ⟨sB [(0, (some (.cells (layT [(pN 0 0), (Value.func (.func 24) #[] #[(pN 1 0), (pN 2 0)]), (sN 3 0 x1_4 (Nat.add big 6)), (i6 x1_5)]) 53))), (1, (some (.cells (layT [(i6 x1_0)]) 3))), (2, (some (.cells (layT [(i6 x1_1), (i6 x1_2)]) 24))), (3, (some (.cells (layT (rows rw_iiiiii x1_3)) 58)))], 4, 3⟩)
def X_heapHeapapiDirtydownq1_1 (x1_0 : Int) (x1_1 : Int) (x1_2 : Int) (x1_4 : Nat) (x1_5 : Int) (r : List R6) : Ex × XSt := match r with
 | z1_0 => (.ret, (sT 61 [], [], ⟨sB [(0, (some (.cells (layT [(pN 0 0), (Value.func (.func 24) #[] #[(pN 1 0), (pN 2 0)]), (sN 3 0 x1_4 (Nat.add big 6)), (i6 x1_5)]) 53))), (1, (some (.cells (layT [(i6 x1_0)]) 3))), (2, (some (.cells (layT [(i6 x1_1), (i6 x1_2)]) 24))), (3, (some (.cells (layT (rows rw_iiiiii z1_0)) 58)))], 4, 3⟩))
abbrev Q_heapHeapapiDirtydownq1_1 (rnd : Option Nat) (x1_0 : Int) (x1_1 : Int) (x1_2 : Int) (x1_4 : Nat) (x1_5 : Int) (st : List R6 × Int) (c : Ex × XSt) : Prop := CG P rnd (fnN P 36) 4 (codeOf P 36 [false, false]) (S_heapHeapapiDirtydownq1_1 x1_0 x1_1 x1_2 x1_4 x1_5 st) c
abbrev U_heapHeapapiDirtydownq1_1 (rd : Option Nat) (x1_0 : Int) (x1_1 : Int) (x1_2 : Int) (x1_4 : Nat) (x1_5 : Int) (st : List R6 × Int) (r : List R6) : Prop := CG P rd (fnN P 36) 4 (codeOf P 36 [false]) (S_heapHeapapiDirtydownq1_1 x1_0 x1_1 x1_2 x1_4 x1_5 st) (X_heapHeapapiDirtydownq1_1 x1_0 x1_1 x1_2 x1_4 x1_5 r)
def B_heapHeapapiDirtydownq1_1 (n : Nat) (x1_0 : Int) (x1_1 : Int) (x1_2 : Int) (x1_4 : Nat) (x1_5 : Int) (st : List R6 × Int) : Option ((List R6 × Int) ⊕ (List R6)) := match st with
 | (x1_3, x1_6) =>
  ((some (w64 ((w64 (x1_6 * (2 : Int))) + (1 : Int))))).bind fun y1_1_ =>
  (m_heapHeapapiDirtydownq1_2 n x1_0 x1_1 x1_2 x1_3 x1_4 x1_5 x1_6 (x1_6, y1_1_)).bind fun y1_2_ =>
  if y1_2_ = x1_6 then
   some (.inr x1_3)
  else
   if 0 ≤ y1_2_ ∧ y1_2_ < ((x1_4 : Nat) : Int) then
    if (y1_2_).toNat < (x1_3).length then
     ((some ((x1_3).getD (y1_2_).toNat (0, 0, 0, 0, 0, 0)))).bind fun y1_6_ =>
     if 0 ≤ x1_6 ∧ x1_6 < ((x1_4 : Nat) : Int) then
      if (x1_6).toNat < (x1_3).length then
       ((some ((x1_3).getD (x1_6).toNat (0, 0, 0, 0, 0, 0)))).bind fun y1_9_ =>
       if (y1_2_).toNat < (((x1_3).set (x1_6).toNat ((y1_6_.1), (y1_6_.2.1), (y1_6_.2.2.1), (y1_6_.2.2.2.1), (y1_6_.2.2.2.2.1), (y1_6_.2.2.2.2.2)))).length then
        some (.inl (((((x1_3).set (x1_6).toNat ((y1_6_.1), (y1_6_.2.1), (y1_6_.2.2.1), (y1_6_.2.2.2.1), (y1_6_.2.2.2.2.1), (y1_6_.2.2.2.2.2)))).set (y1_2_).toNat ((y1_9_.1), (y1_9_.2.1), (y1_9_.2.2.1), (y1_9_.2.2.2.1), (y1_9_.2.2.2.2.1), (y1_9_.2.2.2.2.2))), y1_2_))
       else none
      else none
     else none
    else none
   else none
def m_heapHeapapiDirtydownq1_1 (n : Nat) (x1_0 : Int) (x1_1 : Int) (x1_2 : Int) (x1_4 : Nat) (x1_5 : Int) (st : List R6 × Int) : Option (List R6) := iterM (B_heapHeapapiDirtydownq1_1 n x1_0 x1_1 x1_2 x1_4 x1_5) n st
theorem q_heapHeapapiDirtydownq1_1_0 (n : Nat) {rnd : Option Nat} (x1_0 x1_1 x1_2 : Int) (x1_3 : List R6) (x1_4 : Nat) (x1_5 x1_6 y1_1_ : Int) (hy1_1 : (some (w64 ((w64 (x1_6 * (2 : Int))) + (1 : Int)))) = some y1_1_) (y1_2_ : Int) (hy1_2 : m_heapHeapapiDirtydownq1_2 n x1_0 x1_1 x1_2 x1_3 x1_4 x1_5 x1_6 (x1_6, y1_1_) = some y1_2_) (hy1_3 : y1_2_ = x1_6) : Q_heapHeapapiDirtydownq1_1 rnd x1_0 x1_1 x1_2 x1_4 x1_5 (x1_3, x1_6) (X_heapHeapapiDirtydownq1_1 x1_0 x1_1 x1_2 x1_4 x1_5 x1_3) :=
 runC2 hm (L := lT [(11, ⟨⟨[0, 1, 4, 5], [(0, 0, false), (1, 1, false), (2, 2, false), (3, 3, true)], 4, 3⟩, (X_heapHeapapiDirtydownq1_2 x1_0 x1_1 x1_2 x1_3 x1_4 x1_5 x1_6 y1_2_).1, (X_heapHeapapiDirtydownq1_2 x1_0 x1_1 x1_2 x1_3 x1_4 x1_5 x1_6 y1_2_).2⟩)]) ⟨[], [(0, 0, false), (1, 1, false), (2, 2, false), (3, 3, true)], 4, 3⟩ (zz 8 (xnm hy1_1) <|
ww (p := U_heapHeapapiDirtydownq1_2 rnd x1_0 x1_1 x1_2 x1_3 x1_4 x1_5 x1_6 (x1_6, y1_1_) y1_2_) (m_heapHeapapiDirtydownq1_2_ok n x1_0 x1_1 x1_2 x1_3 x1_4 x1_5 x1_6 (x1_6, y1_1_) y1_2_ hy1_2) <|
ww (rows_flat rwf_iiiiii x1_3 58) <|
zz 16 (xeT hy1_3) <|
ww (rows_flat rwf_iiiiii x1_3 58) <|
ee) (by kernel_rfl)
theorem q_heapHeapapiDirtydownq1_1_1 (n : Nat) {rnd : Option Nat} (x1_0 x1_1 x1_2 : Int) (x1_3 : List R6) (x1_4 : Nat) (x1_5 x1_6 y1_1_ : Int) (hy1_1 : (some (w64 ((w64 (x1_6 * (2 : Int))) + (1 : Int)))) = some y1_1_) (y1_2_ : Int) (hy1_2 : m_heapHeapapiDirtydownq1_2 n x1_0 x1_1 x1_2 x1_3 x1_4 x1_5 x1_6 (x1_6, y1_1_) = some y1_2_) (hy1_3 : ¬ (y1_2_ = x1_6)) (hy1_4 : 0 ≤ y1_2_ ∧ y1_2_ < ((x1_4 : Nat) : Int)) (hy1_5 : (y1_2_).toNat < (x1_3).length) (y1_6_ : R6) (hy1_6 : (some ((x1_3).getD (y1_2_).toNat (0, 0, 0, 0, 0, 0))) = some y1_6_) (hy1_7 : 0 ≤ x1_6 ∧ x1_6 < ((x1_4 : Nat) : Int)) (hy1_8 : (x1_6).toNat < (x1_3).length) (y1_9_ : R6) (hy1_9 : (some ((x1_3).getD (x1_6).toNat (0, 0, 0, 0, 0, 0))) = some y1_9_) (hy1_10 : (y1_2_).toNat < (((x1_3).set (x1_6).toNat ((y1_6_.1), (y1_6_.2.1), (y1_6_.2.2.1), (y1_6_.2.2.2.1), (y1_6_.2.2.2.2.1), (y1_6_.2.2.2.2.2)))).length) : Q_heapHeapapiDirtydownq1_1 rnd x1_0 x1_1 x1_2 x1_4 x1_5 (x1_3, x1_6) (.normal, S_heapHeapapiDirtydownq1_1 x1_0 x1_1 x1_2 x1_4 x1_5 (((((x1_3).set (x1_6).toNat ((y1_6_.1), (y1_6_.2.1), (y1_6_.2.2.1), (y1_6_.2.2.2.1), (y1_6_.2.2.2.2.1), (y1_6_.2.2.2.2.2)))).set (y1_2_).toNat ((y1_9_.1), (y1_9_.2.1), (y1_9_.2.2.1), (y1_9_.2.2.2.1), (y1_9_.2.2.2.2.1), (y1_9_.2.2.2.2.2))), y1_2_)) :=
 runC2 hm (L := lT [(11, ⟨⟨[0, 1, 4, 5], [(0, 0, false), (1, 1, false), (2, 2, false), (3, 3, true)], 4, 3⟩, (X_heapHeapapiDirtydownq1_2 x1_0 x1_1 x1_2 x1_3 x1_4 x1_5 x1_6 y1_2_).1, (X_heapHeapapiDirtydownq1_2 x1_0 x1_1 x1_2 x1_3 x1_4 x1_5 x1_6 y1_2_).2⟩)]) ⟨[0, 1], [(0, 0, false), (1, 1, false), (2, 2, false), (3, 3, true)], 4, 3⟩ (zz 8 (xnm hy1_1) <|
ww (p := U_heapHeapapiDirtydownq1_2 rnd x1_0 x1_1 x1_2 x1_3 x1_4 x1_5 x1_6 (x1_6, y1_1_) y1_2_) (m_heapHeapapiDirtydownq1_2_ok n x1_0 x1_1 x1_2 x1_3 x1_4 x1_5 x1_6 (x1_6, y1_1_) y1_2_ hy1_2) <|
ww (rows_flat rwf_iiiiii x1_3 58) <|
zz 16 (xeF hy1_3) <|
zz 34 (xk5 3 U6 hy1_4) <|
yy 35 (.ld (Value.agg #[(i6 (y1_6_.1)), (i6 (y1_6_.2.1)), (i6 (y1_6_.2.2.1)), (i6 (y1_6_.2.2.2.1)), (i6 (y1_6_.2.2.2.2.1)), (i6 (y1_6_.2.2.2.2.2))])) <|
ww (p := rdT (layT (rows rw_iiiiii x1_3)) 6 ((y1_2_).toNat * 6) = some [(i6 (y1_6_.1)), (i6 (y1_6_.2.1)), (i6 (y1_6_.2.2.1)), (i6 (y1_6_.2.2.2.1)), (i6 (y1_6_.2.2.2.2.1)), (i6 (y1_6_.2.2.2.2.2))]) (rows_rdpN rwf_iiiiii (0, 0, 0, 0, 0, 0) (hr := hy1_6) (i := (y1_2_).toNat) (j := 0) ((y1_2_).toNat * 6) rfl (hy1_5) (by decide) rfl) <|
zz 41 (xk5 3 U6 hy1_7) <|
yy 42 (.ld (Value.agg #[(i6 (y1_9_.1)), (i6 (y1_9_.2.1)), (i6 (y1_9_.2.2.1)), (i6 (y1_9_.2.2.2.1)), (i6 (y1_9_.2.2.2.2.1)), (i6 (y1_9_.2.2.2.2.2))])) <|
ww (p := rdT (layT (rows rw_iiiiii x1_3)) 6 ((x1_6).toNat * 6) = some [(i6 (y1_9_.1)), (i6 (y1_9_.2.1)), (i6 (y1_9_.2.2.1)), (i6 (y1_9_.2.2.2.1)), (i6 (y1_9_.2.2.2.2.1)), (i6 (y1_9_.2.2.2.2.2))]) (rows_rdpN rwf_iiiiii (0, 0, 0, 0, 0, 0) (hr := hy1_9) (i := (x1_6).toNat) (j := 0) ((x1_6).toNat * 6) rfl (hy1_8) (by decide) rfl) <|
zz 43 (xk5 3 U6 hy1_7) <|
yy 44 (.sto (layT (rows rw_iiiiii ((x1_3).set (x1_6).toNat ((y1_6_.1), (y1_6_.2.1), (y1_6_.2.2.1), (y1_6_.2.2.2.1), (y1_6_.2.2.2.2.1), (y1_6_.2.2.2.2.2)))))) <|
ww (p := ∃ old, rdT (layT (rows rw_iiiiii x1_3)) 6 ((x1_6).toNat * 6) = some old) (Exists.elim (rows_st rwf_iiiiii (0, 0, 0, 0, 0, 0) (i := (x1_6).toNat) (j := 0) (l := [(i6 (y1_6_.1)), (i6 (y1_6_.2.1)), (i6 (y1_6_.2.2.1)), (i6 (y1_6_.2.2.2.1)), (i6 (y1_6_.2.2.2.2.1)), (i6 (y1_6_.2.2.2.2.2))]) ((y1_6_.1), (y1_6_.2.1), (y1_6_.2.2.1), (y1_6_.2.2.2.1), (y1_6_.2.2.2.2.1), (y1_6_.2.2.2.2.2)) ((x1_6).toNat * 6) rfl (hy1_8) (Nat.le_of_ble_eq_true rfl) rfl) fun o h => ⟨o, h.1⟩) <|
ww (p := layL [(i6 (y1_6_.1)), (i6 (y1_6_.2.1)), (i6 (y1_6_.2.2.1)), (i6 (y1_6_.2.2.2.1)), (i6 (y1_6_.2.2.2.2.1)), (i6 (y1_6_.2.2.2.2.2))] ((x1_6).toNat * 6) (layT (rows rw_iiiiii x1_3)) = layT (rows rw_iiiiii ((x1_3).set (x1_6).toNat ((y1_6_.1), (y1_6_.2.1), (y1_6_.2.2.1), (y1_6_.2.2.2.1), (y1_6_.2.2.2.2.1), (y1_6_.2.2.2.2.2))))) (Exists.elim (rows_st rwf_iiiiii (0, 0, 0, 0, 0, 0) (i := (x1_6).toNat) (j := 0) (l := [(i6 (y1_6_.1)), (i6 (y1_6_.2.1)), (i6 (y1_6_.2.2.1)), (i6 (y1_6_.2.2.2.1)), (i6 (y1_6_.2.2.2.2.1)), (i6 (y1_6_.2.2.2.2.2))]) ((y1_6_.1), (y1_6_.2.1), (y1_6_.2.2.1), (y1_6_.2.2.2.1), (y1_6_.2.2.2.2.1), (y1_6_.2.2.2.2.2)) ((x1_6).toNat * 6) rfl (hy1_8) (Nat.le_of_ble_eq_true rfl) rfl) fun o h => h.2) <|
zz 45 (xk5 3 U6 hy1_4) <|
yy 46 (.sto (layT (rows rw_iiiiii ((((x1_3).set (x1_6).toNat ((y1_6_.1), (y1_6_.2.1), (y1_6_.2.2.1), (y1_6_.2.2.2.1), (y1_6_.2.2.2.2.1), (y1_6_.2.2.2.2.2)))).set (y1_2_).toNat ((y1_9_.1), (y1_9_.2.1), (y1_9_.2.2.1), (y1_9_.2.2.2.1), (y1_9_.2.2.2.2.1), (y1_9_.2.2.2.2.2)))))) <|
ww (p := ∃ old, rdT (layT (rows rw_iiiiii ((x1_3).set (x1_6).toNat ((y1_6_.1), (y1_6_.2.1), (y1_6_.2.2.1), (y1_6_.2.2.2.1), (y1_6_.2.2.2.2.1), (y1_6_.2.2.2.2.2))))) 6 ((y1_2_).toNat * 6) = some old) (Exists.elim (rows_st rwf_iiiiii (0, 0, 0, 0, 0, 0) (i := (y1_2_).toNat) (j := 0) (l := [(i6 (y1_9_.1)), (i6 (y1_9_.2.1)), (i6 (y1_9_.2.2.1)), (i6 (y1_9_.2.2.2.1)), (i6 (y1_9_.2.2.2.2.1)), (i6 (y1_9_.2.2.2.2.2))]) ((y1_9_.1), (y1_9_.2.1), (y1_9_.2.2.1), (y1_9_.2.2.2.1), (y1_9_.2.2.2.2.1), (y1_9_.2.2.2.2.2)) ((y1_2_).toNat * 6) rfl (hy1_10) (Nat.le_of_ble_eq_true rfl) rfl) fun o h => ⟨o, h.1⟩) <|
ww (p := layL [(i6 (y1_9_.1)), (i6 (y1_9_.2.1)), (i6 (y1_9_.2.2.1)), (i6 (y1_9_.2.2.2.1)), (i6 (y1_9_.2.2.2.2.1)), (i6 (y1_9_.2.2.2.2.2))] ((y1_2_).toNat * 6) (layT (rows rw_iiiiii ((x1_3).set (x1_6).toNat ((y1_6_.1), (y1_6_.2.1), (y1_6_.2.2.1), (y1_6_.2.2.2.1), (y1_6_.2.2.2.2.1), (y1_6_.2.2.2.2.2))))) = layT (rows rw_iiiiii ((((x1_3).set (x1_6).toNat ((y1_6_.1), (y1_6_.2.1), (y1_6_.2.2.1), (y1_6_.2.2.2.1), (y1_6_.2.2.2.2.1), (y1_6_.2.2.2.2.2)))).set (y1_2_).toNat ((y1_9_.1), (y1_9_.2.1), (y1_9_.2.2.1), (y1_9_.2.2.2.1), (y1_9_.2.2.2.2.1), (y1_9_.2.2.2.2.2))))) (Exists.elim (rows_st rwf_iiiiii (0, 0, 0, 0, 0, 0) (i := (y1_2_).toNat) (j := 0) (l := [(i6 (y1_9_.1)), (i6 (y1_9_.2.1)), (i6 (y1_9_.2.2.1)), (i6 (y1_9_.2.2.2.1)), (i6 (y1_9_.2.2.2.2.1)), (i6 (y1_9_.2.2.2.2.2))]) ((y1_9_.1), (y1_9_.2.1), (y1_9_.2.2.1), (y1_9_.2.2.2.1), (y1_9_.2.2.2.2.1), (y1_9_.2.2.2.2.2)) ((y1_2_).toNat * 6) rfl (hy1_10) (Nat.le_of_ble_eq_true rfl) rfl) fun o h => h.2) <|
ww (rows_flat rwf_iiiiii ((((x1_3).set (x1_6).toNat ((y1_6_.1), (y1_6_.2.1), (y1_6_.2.2.1), (y1_6_.2.2.2.1), (y1_6_.2.2.2.2.1), (y1_6_.2.2.2.2.2)))).set (y1_2_).toNat ((y1_9_.1), (y1_9_.2.1), (y1_9_.2.2.1), (y1_9_.2.2.2.1), (y1_9_.2.2.2.2.1), (y1_9_.2.2.2.2.2))) 58) <|
ee) (by kernel_rfl)
theorem m_heapHeapapiDirtydownq1_1_ok (n : Nat) {rnd : Option Nat} (x1_0 : Int) (x1_1 : Int) (x1_2 : Int) (x1_4 : Nat) (x1_5 : Int) (st : List R6 × Int) (r : List R6) (h : m_heapHeapapiDirtydownq1_1 n x1_0 x1_1 x1_2 x1_4 x1_5 st = some r) : CG P rnd (fnN P 36) 4 (codeOf P 36 [false]) (S_heapHeapapiDirtydownq1_1 x1_0 x1_1 x1_2 x1_4 x1_5 st) (X_heapHeapapiDirtydownq1_1 x1_0 x1_1 x1_2 x1_4 x1_5 r) :=
 CG.iter (b := codeOf P 36 [false, false]) (by kernel_rfl) (body := B_heapHeapapiDirtydownq1_1 n x1_0 x1_1 x1_2 x1_4 x1_5) (S := S_heapHeapapiDirtydownq1_1 x1_0 x1_1 x1_2 x1_4 x1_5) (X := X_heapHeapapiDirtydownq1_1 x1_0 x1_1 x1_2 x1_4 x1_5)
  (fun s s' h => by
  obtain ⟨x1_3, x1_6⟩ := s
  unfold B_heapHeapapiDirtydownq1_1 at h
  dsimp only at h
  obtain ⟨y1_1_, hy1_1, h⟩ := Option.bind_eq_some_iff.1 h
  obtain ⟨y1_2_, hy1_2, h⟩ := Option.bind_eq_some_iff.1 h
  by_cases hy1_3 : y1_2_ = x1_6
  ·rw [if_pos hy1_3] at h
   cases h
  ·rw [if_neg hy1_3] at h
   by_cases hy1_4 : 0 ≤ y1_2_ ∧ y1_2_ < ((x1_4 : Nat) : Int)
   ·rw [if_pos hy1_4] at h
    by_cases hy1_5 : (y1_2_).toNat < (x1_3).length
    ·rw [if_pos hy1_5] at h
     obtain ⟨y1_6_, hy1_6, h⟩ := Option.bind_eq_some_iff.1 h
     by_cases hy1_7 : 0 ≤ x1_6 ∧ x1_6 < ((x1_4 : Nat) : Int)
     ·rw [if_pos hy1_7] at h
      by_cases hy1_8 : (x1_6).toNat < (x1_3).length
      ·rw [if_pos hy1_8] at h
       obtain ⟨y1_9_, hy1_9, h⟩ := Option.bind_eq_some_iff.1 h
       by_cases hy1_10 : (y1_2_).toNat < (((x1_3).set (x1_6).toNat ((y1_6_.1), (y1_6_.2.1), (y1_6_.2.2.1), (y1_6_.2.2.2.1), (y1_6_.2.2.2.2.1), (y1_6_.2.2.2.2.2)))).length
       ·rw [if_pos hy1_10] at h
        obtain rfl := Sum.inl.inj (oI h); exact q_heapHeapapiDirtydownq1_1_1 n x1_0 x1_1 x1_2 x1_3 x1_4 x1_5 x1_6 y1_1_ hy1_1 y1_2_ hy1_2 hy1_3 hy1_4 hy1_5 y1_6_ hy1_6 hy1_7 hy1_8 y1_9_ hy1_9 hy1_10
       ·rw [if_neg hy1_10] at h; cases h
      ·rw [if_neg hy1_8] at h; cases h
     ·rw [if_neg hy1_7] at h; cases h
    ·rw [if_neg hy1_5] at h; cases h
   ·rw [if_neg hy1_4] at h; cases h)
  (fun s r h => by
  obtain ⟨x1_3, x1_6⟩ := s
  unfold B_heapHeapapiDirtydownq1_1 at h
  dsimp only at h
  obtain ⟨y1_1_, hy1_1, h⟩ := Option.bind_eq_some_iff.1 h
  obtain ⟨y1_2_, hy1_2, h⟩ := Option.bind_eq_some_iff.1 h
  by_cases hy1_3 : y1_2_ = x1_6
  ·rw [if_pos hy1_3] at h
   obtain rfl := Sum.inr.inj (oI h); exact q_heapHeapapiDirtydownq1_1_0 n x1_0 x1_1 x1_2 x1_3 x1_4 x1_5 x1_6 y1_1_ hy1_1 y1_2_ hy1_2 hy1_3
  ·rw [if_neg hy1_3] at h
   by_cases hy1_4 : 0 ≤ y1_2_ ∧ y1_2_ < ((x1_4 : Nat) : Int)
   ·rw [if_pos hy1_4] at h
    by_cases hy1_5 : (y1_2_).toNat < (x1_3).length
    ·rw [if_pos hy1_5] at h
     obtain ⟨y1_6_, hy1_6, h⟩ := Option.bind_eq_some_iff.1 h
     by_cases hy1_7 : 0 ≤ x1_6 ∧ x1_6 < ((x1_4 : Nat) : Int)
     ·rw [if_pos hy1_7] at h
      by_cases hy1_8 : (x1_6).toNat < (x1_3).length
      ·rw [if_pos hy1_8] at h
       obtain ⟨y1_9_, hy1_9, h⟩ := Option.bind_eq_some_iff.1 h
       by_cases hy1_10 : (y1_2_).toNat < (((x1_3).set (x1_6).toNat ((y1_6_.1), (y1_6_.2.1), (y1_6_.2.2.1), (y1_6_.2.2.2.1), (y1_6_.2.2.2.2.1), (y1_6_.2.2.2.2.2)))).length
       ·rw [if_pos hy1_10] at h
        cases h
       ·rw [if_neg hy1_10] at h; cases h
      ·rw [if_neg hy1_8] at h; cases h
     ·rw [if_neg hy1_7] at h; cases h
    ·rw [if_neg hy1_5] at h; cases h
   ·rw [if_neg hy1_4] at h; cases h)
  (fun r => by intro hx; cases hx) h
def m_heapHeapapiDirtydownq1 (n : Nat) (a0 : Int) (a1 : Int) (a2 : Int) (a3 : List R6) (a4 : Nat) (a5 : Int) (a6 : Int) : Option (List R6) :=
 (m_heapHeapapiDirtydownq1_1 n a0 a1 a2 a4 a5 (a3, a6)).bind fun c1_ =>
 some c1_
theorem m_heapHeapapiDirtydownq1_ok (n : Nat) (a0 : Int) (a1 : Int) (a2 : Int) (a3 : List R6) (a4 : Nat) (a5 : Int) (a6 : Int) (r : List R6) (h : m_heapHeapapiDirtydownq1 n a0 a1 a2 a3 a4 a5 a6 = some r) : Gv P (.func 36) (A_heapHeapapiDirtydownq1 a0 a1 a2 a3 a4 a5 a6) (H_heapHeapapiDirtydownq1 a0 a1 a2 a3 a4 a5 a6) (V_heapHeapapiDirtydownq1 a0 a1 a2 a3 a4 a5 a6 r) (R_heapHeapapiDirtydownq1 a0 a1 a2 a3 a4 a5 a6 r) := by
 unfold m_heapHeapapiDirtydownq1 at h
 obtain ⟨c1_, hc1, h⟩ := Option.bind_eq_some_iff.1 h
 obtain rfl := oI h; exact (runF2 hm (L := lT [(1, ⟨⟨[0, 1], [(0, 0, false), (1, 1, false), (2, 2, false), (3, 3, true)], 4, 3⟩, (X_heapHeapapiDirtydownq1_1 a0 a1 a2 a4 a5 c1_).1, (X_heapHeapapiDirtydownq1_1 a0 a1 a2 a4 a5 c1_).2⟩)]) ⟨[], [(3, 3, true)], 4, 3⟩ (ww (p := U_heapHeapapiDirtydownq1_1 none a0 a1 a2 a4 a5 (a3, a6) c1_) (m_heapHeapapiDirtydownq1_1_ok n a0 a1 a2 a4 a5 (a3, a6) c1_ hc1) <|
ww (rows_flat rwf_iiiiii a3 58) <|
ww (rows_flat rwf_iiiiii c1_ 58) ee) (by kernel_rfl))

def A_heapHeapapiDirtyTakeq1 (a0 : Int) (a1 : Int) (a2 : Int) (a3 : List R6) (a4 : Int) : List Value := [(pN 0 0)]
def H_heapHeapapiDirtyTakeq1 (a0 : Int) (a1 : Int) (a2 : Int) (a3 : List R6) (a4 : Int) : AH := ⟨sB [(0, (some (.cells (layT [(pN 0 0), (Value.func (.func 24) #[] #[(pN 1 0), (pN 2 0)]), (sN 3 0 (a3).length (Nat.add big 6)), (i6 a4)]) 53))), (1, (some (.cells (layT [(i6 a0)]) 3))), (2, (some (.cells (layT [(i6 a1), (i6 a2)]) 24))), (3, (some (.cells (layT (rows rw_iiiiii a3)) 58)))], 4, 4⟩
def V_heapHeapapiDirtyTakeq1 (a0 : Int) (a1 : Int) (a2 : Int) (a3 : List R6) (a4 : Int) (r : List R6 × Nat × Int × Int × Int × Int × Int × Bool) : Value := match r with
 | (o0, o1, o2, o3, o4, o5, o6, o7) => (Value.tuple #[(Value.agg #[(i6 o2), (i6 o3), (i6 o4), (i6 o5), (i6 o6)]), (bO o7)])
def R_heapHeapapiDirtyTakeq1 (a0 : Int) (a1 : Int) (a2 : Int) (a3 : List R6) (a4 : Int) (r : List R6 × Nat × Int × Int × Int × Int × Int × Bool) : AH := match r with
 | (o0, o1, o2, o3, o4, o5, o6, o7) => ⟨sB [(0, (some (.cells (layT [(pN 0 0), (Value.func (.func 24) #[] #[(pN 1 0), (pN 2 0)]), (sN 3 0 o1 (Nat.add big 6)), (i6 a4)]) 53))), (1, (some (.cells (layT [(i6 a0)]) 3))), (2, (some (.cells (layT [(i6 a1), (i6 a2)]) 24))), (3, (some (.cells (layT (rows rw_iiiiii o0)) 58))), (4, (some (.cells (layT [(i6 o2), (i6 o3), (i6 o4), (i6 o5), (i6 o6)]) 37)))], 5, 0⟩
abbrev G_heapHeapapiDirtyTakeq1 (a0 : Int) (a1 : Int) (a2 : Int) (a3 : List R6) (a4 : Int) (r : List R6 × Nat × Int × Int × Int × Int × Int × Bool) : Prop := Gv P (.func 31) (A_heapHeapapiDirtyTakeq1 a0 a1 a2 a3 a4) (H_heapHeapapiDirtyTakeq1 a0 a1 a2 a3 a4) (V_heapHeapapiDirtyTakeq1 a0 a1 a2 a3 a4 r) (R_heapHeapapiDirtyTakeq1 a0 a1 a2 a3 a4 r)
abbrev C_heapHeapapiDirtyTakeq1 (a0 : Int) (a1 : Int) (a2 : Int) (a3 : List R6) (a4 : Int) (r : List R6 × Nat × Int × Int × Int × Int × Int × Bool) (ins outs : BL) : CallA := ⟨4, ins, V_heapHeapapiDirtyTakeq1 a0 a1 a2 a3 a4 r, R_heapHeapapiDirtyTakeq1 a0 a1 a2 a3 a4 r, outs⟩
def m_heapHeapapiDirtyTakeq1 (n : Nat) (a0 : Int) (a1 : Int) (a2 : Int) (a3 : List R6) (a4 : Int) : Option (List R6 × Nat × Int × Int × Int × Int × Int × Bool) :=
 (m_heapHeapapiDirtyLeastq1 n a0 a1 a2 a3 a4).bind fun t => match t with
 | (c1_0, c1_1, c1_2, c1_3, c1_4, c1_5) =>
  if c1_5 = true then
   ((some (w64 ((a3.length : Int) - (1 : Int))))).bind fun c3_ =>
   if 0 ≤ c3_ ∧ c3_ < (a3.length : Int) then
    ((some ((a3).getD (c3_).toNat (0, 0, 0, 0, 0, 0)))).bind fun c5_ =>
    if 0 ≤ (0 : Int) ∧ (0 : Int) < (a3.length : Int) then
     if (c3_).toNat < (((a3).set ((0 : Int)).toNat ((c5_.1), (c5_.2.1), (c5_.2.2.1), (c5_.2.2.2.1), (c5_.2.2.2.2.1), (c5_.2.2.2.2.2)))).length then
      if 0 ≤ c3_ ∧ c3_ ≤ (a3.length : Int) then
       (m_heapHeapapiDirtydownq1 n a0 a1 a2 ((((a3).set ((0 : Int)).toNat ((c5_.1), (c5_.2.1), (c5_.2.2.1), (c5_.2.2.2.1), (c5_.2.2.2.2.1), (c5_.2.2.2.2.2)))).set (c3_).toNat ((0 : Int), (0 : Int), (0 : Int), (0 : Int), (0 : Int), (0 : Int))) ((c3_).toNat) a4 0).bind fun c9_ =>
       some (c9_, ((c3_).toNat), c1_0, c1_1, c1_2, c1_3, c1_4, true)
      else none
     else none
    else none
   else none
  else
   some (a3, ((a3).length), c1_0, c1_1, c1_2, c1_3, c1_4, false)
theorem m_heapHeapapiDirtyTakeq1_ok (n : Nat) (a0 : Int) (a1 : Int) (a2 : Int) (a3 : List R6) (a4 : Int) (r : List R6 × Nat × Int × Int × Int × Int × Int × Bool) (h : m_heapHeapapiDirtyTakeq1 n a0 a1 a2 a3 a4 = some r) : Gv P (.func 31) (A_heapHeapapiDirtyTakeq1 a0 a1 a2 a3 a4) (H_heapHeapapiDirtyTakeq1 a0 a1 a2 a3 a4) (V_heapHeapapiDirtyTakeq1 a0 a1 a2 a3 a4 r) (R_heapHeapapiDirtyTakeq1 a0 a1 a2 a3 a4 r) := by
 unfold m_heapHeapapiDirtyTakeq1 at h
 obtain ⟨⟨c1_0, c1_1, c1_2, c1_3, c1_4, c1_5⟩, hc1, h⟩ := Option.bind_eq_some_iff.1 h
 dsimp only at h
 by_cases hc2 : c1_5 = true
 ·rw [if_pos hc2] at h
  obtain ⟨c3_, hc3, h⟩ := Option.bind_eq_some_iff.1 h
  by_cases hc4 : 0 ≤ c3_ ∧ c3_ < (a3.length : Int)
  ·rw [if_pos hc4] at h
   obtain ⟨c5_, hc5, h⟩ := Option.bind_eq_some_iff.1 h
   by_cases hc6 : 0 ≤ (0 : Int) ∧ (0 : Int) < (a3.length : Int)
   ·rw [if_pos hc6] at h
    by_cases hc7 : (c3_).toNat < (((a3).set ((0 : Int)).toNat ((c5_.1), (c5_.2.1), (c5_.2.2.1), (c5_.2.2.2.1), (c5_.2.2.2.2.1), (c5_.2.2.2.2.2)))).length
    ·rw [if_pos hc7] at h
     by_cases hc8 : 0 ≤ c3_ ∧ c3_ ≤ (a3.length : Int)
     ·rw [if_pos hc8] at h
      obtain ⟨c9_, hc9, h⟩ := Option.bind_eq_some_iff.1 h
      obtain rfl := oI h; exact (runF2 hm (L := lT []) ⟨[2, 3], [(0, 0, false), (1, 1, false), (2, 2, false), (3, 3, true), (4, 4, false)], 5, 0⟩ (yy 5 (.call (C_heapHeapapiDirtyLeastq1 a0 a1 a2 a3 a4 (c1_0, c1_1, c1_2, c1_3, c1_4, c1_5) [(0, 0, false), (1, 1, false), (2, 2, false), (3, 3, true)] [(5, 4, false)])) <|
ww (m_heapHeapapiDirtyLeastq1_ok n a0 a1 a2 a3 a4 (c1_0, c1_1, c1_2, c1_3, c1_4, c1_5) hc1) <|
ww (rows_flat rwf_iiiiii a3 58) <|
yy 15 (vf) <|
ww (p := (Value.bool (!c1_5)) = (Value.bool false)) (vBn hc2) <|
zz 23 (xnm hc3) <|
zz 35 (xk5 3 U6 hc4) <|
yy 36 (.ld (Value.agg #[(i6 (c5_.1)), (i6 (c5_.2.1)), (i6 (c5_.2.2.1)), (i6 (c5_.2.2.2.1)), (i6 (c5_.2.2.2.2.1)), (i6 (c5_.2.2.2.2.2))])) <|
ww (p := rdT (layT (rows rw_iiiiii a3)) 6 ((c3_).toNat * 6) = some [(i6 (c5_.1)), (i6 (c5_.2.1)), (i6 (c5_.2.2.1)), (i6 (c5_.2.2.2.1)), (i6 (c5_.2.2.2.2.1)), (i6 (c5_.2.2.2.2.2))]) (rows_rdpN rwf_iiiiii (0, 0, 0, 0, 0, 0) (hr := hc5) (i := (c3_).toNat) (j := 0) ((c3_).toNat * 6) rfl (toNatLt hc4) (by decide) rfl) <|
zz 37 (xk5 3 U6 hc6) <|
yy 38 (.sto (layT (rows rw_iiiiii ((a3).set ((0 : Int)).toNat ((c5_.1), (c5_.2.1), (c5_.2.2.1), (c5_.2.2.2.1), (c5_.2.2.2.2.1), (c5_.2.2.2.2.2)))))) <|
ww (p := ∃ old, rdT (layT (rows rw_iiiiii a3)) 6 (((0 : Int)).toNat * 6) = some old) (Exists.elim (rows_st rwf_iiiiii (0, 0, 0, 0, 0, 0) (i := ((0 : Int)).toNat) (j := 0) (l := [(i6 (c5_.1)), (i6 (c5_.2.1)), (i6 (c5_.2.2.1)), (i6 (c5_.2.2.2.1)), (i6 (c5_.2.2.2.2.1)), (i6 (c5_.2.2.2.2.2))]) ((c5_.1), (c5_.2.1), (c5_.2.2.1), (c5_.2.2.2.1), (c5_.2.2.2.2.1), (c5_.2.2.2.2.2)) (((0 : Int)).toNat * 6) rfl (toNatLt hc6) (Nat.le_of_ble_eq_true rfl) rfl) fun o h => ⟨o, h.1⟩) <|
ww (p := layL [(i6 (c5_.1)), (i6 (c5_.2.1)), (i6 (c5_.2.2.1)), (i6 (c5_.2.2.2.1)), (i6 (c5_.2.2.2.2.1)), (i6 (c5_.2.2.2.2.2))] (((0 : Int)).toNat * 6) (layT (rows rw_iiiiii a3)) = layT (rows rw_iiiiii ((a3).set ((0 : Int)).toNat ((c5_.1), (c5_.2.1), (c5_.2.2.1), (c5_.2.2.2.1), (c5_.2.2.2.2.1), (c5_.2.2.2.2.2))))) (Exists.elim (rows_st rwf_iiiiii (0, 0, 0, 0, 0, 0) (i := ((0 : Int)).toNat) (j := 0) (l := [(i6 (c5_.1)), (i6 (c5_.2.1)), (i6 (c5_.2.2.1)), (i6 (c5_.2.2.2.1)), (i6 (c5_.2.2.2.2.1)), (i6 (c5_.2.2.2.2.2))]) ((c5_.1), (c5_.2.1), (c5_.2.2.1), (c5_.2.2.2.1), (c5_.2.2.2.2.1), (c5_.2.2.2.2.2)) (((0 : Int)).toNat * 6) rfl (toNatLt hc6) (Nat.le_of_ble_eq_true rfl) rfl) fun o h => h.2) <|
zz 46 (xk5 3 U6 hc4) <|
yy 47 (.sto (layT (rows rw_iiiiii ((((a3).set ((0 : Int)).toNat ((c5_.1), (c5_.2.1), (c5_.2.2.1), (c5_.2.2.2.1), (c5_.2.2.2.2.1), (c5_.2.2.2.2.2)))).set (c3_).toNat ((0 : Int), (0 : Int), (0 : Int), (0 : Int), (0 : Int), (0 : Int)))))) <|
ww (p := ∃ old, rdT (layT (rows rw_iiiiii ((a3).set ((0 : Int)).toNat ((c5_.1), (c5_.2.1), (c5_.2.2.1), (c5_.2.2.2.1), (c5_.2.2.2.2.1), (c5_.2.2.2.2.2))))) 6 ((c3_).toNat * 6) = some old) (Exists.elim (rows_st rwf_iiiiii (0, 0, 0, 0, 0, 0) (i := (c3_).toNat) (j := 0) (l := [(i6 (0 : Int)), (i6 (0 : Int)), (i6 (0 : Int)), (i6 (0 : Int)), (i6 (0 : Int)), (i6 (0 : Int))]) ((0 : Int), (0 : Int), (0 : Int), (0 : Int), (0 : Int), (0 : Int)) ((c3_).toNat * 6) rfl (hc7) (Nat.le_of_ble_eq_true rfl) rfl) fun o h => ⟨o, h.1⟩) <|
ww (p := layL [(i6 (0 : Int)), (i6 (0 : Int)), (i6 (0 : Int)), (i6 (0 : Int)), (i6 (0 : Int)), (i6 (0 : Int))] ((c3_).toNat * 6) (layT (rows rw_iiiiii ((a3).set ((0 : Int)).toNat ((c5_.1), (c5_.2.1), (c5_.2.2.1), (c5_.2.2.2.1), (c5_.2.2.2.2.1), (c5_.2.2.2.2.2))))) = layT (rows rw_iiiiii ((((a3).set ((0 : Int)).toNat ((c5_.1), (c5_.2.1), (c5_.2.2.1), (c5_.2.2.2.1), (c5_.2.2.2.2.1), (c5_.2.2.2.2.2)))).set (c3_).toNat ((0 : Int), (0 : Int), (0 : Int), (0 : Int), (0 : Int), (0 : Int))))) (Exists.elim (rows_st rwf_iiiiii (0, 0, 0, 0, 0, 0) (i := (c3_).toNat) (j := 0) (l := [(i6 (0 : Int)), (i6 (0 : Int)), (i6 (0 : Int)), (i6 (0 : Int)), (i6 (0 : Int)), (i6 (0 : Int))]) ((0 : Int), (0 : Int), (0 : Int), (0 : Int), (0 : Int), (0 : Int)) ((c3_).toNat * 6) rfl (hc7) (Nat.le_of_ble_eq_true rfl) rfl) fun o h => h.2) <|
yy 55 (.pur (sN 3 0 (c3_).toNat (Nat.add big 6))) <|
ww (p := opSlice P 51 (sN 3 0 (a3).length (Nat.add big 6)) none (some (i6 c3_)) none Ax.h0 = some ((sN 3 0 (c3_).toNat (Nat.add big 6)), Ax.h0)) (slRowHi (e := 58) (es := 6) (by kernel_rfl) (by kernel_rfl) rfl rfl hc8) <|
yy 61 (.call (C_heapHeapapiDirtydownq1 a0 a1 a2 ((((a3).set ((0 : Int)).toNat ((c5_.1), (c5_.2.1), (c5_.2.2.1), (c5_.2.2.2.1), (c5_.2.2.2.2.1), (c5_.2.2.2.2.2)))).set (c3_).toNat ((0 : Int), (0 : Int), (0 : Int), (0 : Int), (0 : Int), (0 : Int))) ((c3_).toNat) a4 0 c9_ [(0, 0, false), (1, 1, false), (2, 2, false), (3, 3, true)] [(3, 3, true)])) <|
ww (m_heapHeapapiDirtydownq1_ok n a0 a1 a2 ((((a3).set ((0 : Int)).toNat ((c5_.1), (c5_.2.1), (c5_.2.2.1), (c5_.2.2.2.1), (c5_.2.2.2.2.1), (c5_.2.2.2.2.2)))).set (c3_).toNat ((0 : Int), (0 : Int), (0 : Int), (0 : Int), (0 : Int), (0 : Int))) ((c3_).toNat) a4 0 c9_ hc9) <|
ww (rows_flat rwf_iiiiii ((((a3).set ((0 : Int)).toNat ((c5_.1), (c5_.2.1), (c5_.2.2.1), (c5_.2.2.2.1), (c5_.2.2.2.2.1), (c5_.2.2.2.2.2)))).set (c3_).toNat ((0 : Int), (0 : Int), (0 : Int), (0 : Int), (0 : Int), (0 : Int))) 58) <|
ww (rows_flat rwf_iiiiii c9_ 58) <|
ww (rows_flat rwf_iiiiii c9_ 58) ee) (by kernel_rfl))
     ·rw [if_neg hc8] at h; cases h
    ·rw [if_neg hc7] at h; cases h
   ·rw [if_neg hc6] at h; cases h
  ·rw [if_neg hc4] at h; cases h
 ·rw [if_neg hc2] at h
  obtain rfl := oI h; exact (runF2 hm (L := lT []) ⟨[2, 3], [(0, 0, false), (1, 1, false), (2, 2, false), (3, 3, true), (4, 4, false)], 5, 0⟩ (yy 5 (.call (C_heapHeapapiDirtyLeastq1 a0 a1 a2 a3 a4 (c1_0, c1_1, c1_2, c1_3, c1_4, c1_5) [(0, 0, false), (1, 1, false), (2, 2, false), (3, 3, true)] [(5, 4, false)])) <|
ww (m_heapHeapapiDirtyLeastq1_ok n a0 a1 a2 a3 a4 (c1_0, c1_1, c1_2, c1_3, c1_4, c1_5) hc1) <|
ww (rows_flat rwf_iiiiii a3 58) <|
yy 15 (vt) <|
ww (p := (Value.bool (!c1_5)) = (Value.bool true)) (vBn (Bool.eq_false_iff.2 hc2)) <|
ww (rows_flat rwf_iiiiii a3 58) ee) (by kernel_rfl))

def A_jobsOrder_11010y1 (a0 : Int) (a1 : Int) (a2 : Int) (a3 : List R6) (a4 : Nat) (a5 : Int) (a6 : Int) (a7 : Int) (a8 : Int) (a9 : Int) (a10 : Int) : List Value := [(Value.agg #[(i6 a6), (i6 a7), (i6 a8), (i6 a9), (i6 a10)])]
def H_jobsOrder_11010y1 (a0 : Int) (a1 : Int) (a2 : Int) (a3 : List R6) (a4 : Nat) (a5 : Int) (a6 : Int) (a7 : Int) (a8 : Int) (a9 : Int) (a10 : Int) : AH := ⟨sB [(0, (some (rblk P 6 [false, true, false, true, true] .ready none [(7, (pN 2 0)), (13, (Value.func (.func 19) #[] #[(pN 3 0)]))] 1))), (1, (some (.marks true))), (2, (some (.cells (layT [(Value.slice none 0 0)]) 28))), (3, (some (.cells (layT [(pN 4 0)]) 40))), (4, (some (.cells (layT [(pN 4 0), (Value.func (.func 24) #[] #[(pN 5 0), (pN 6 0)]), (sN 7 0 a4 (Nat.add big 6)), (i6 a5)]) 53))), (5, (some (.cells (layT [(i6 a0)]) 3))), (6, (some (.cells (layT [(i6 a1), (i6 a2)]) 24))), (7, (some (.cells (layT (rows rw_iiiiii a3)) 58)))], 8, 8⟩
def V_jobsOrder_11010y1 (a0 : Int) (a1 : Int) (a2 : Int) (a3 : List R6) (a4 : Nat) (a5 : Int) (a6 : Int) (a7 : Int) (a8 : Int) (a9 : Int) (a10 : Int) (r : Unit) : Value := match r with
 | _ => (bO true)
def R_jobsOrder_11010y1 (a0 : Int) (a1 : Int) (a2 : Int) (a3 : List R6) (a4 : Nat) (a5 : Int) (a6 : Int) (a7 : Int) (a8 : Int) (a9 : Int) (a10 : Int) (r : Unit) : AH := match r with
 | _ => ⟨sB [(0, (some (rblk P 6 [false, true, false, true, true] .ready none [(7, (pN 2 0)), (13, (Value.func (.func 19) #[] #[(pN 3 0)]))] 1))), (1, (some (.marks true))), (2, (some (.cells (layT [(sN 8 0 1 (Nat.add big 1))]) 28))), (3, (some (.cells (layT [(pN 4 0)]) 40))), (4, (some (.cells (layT [(pN 4 0), (Value.func (.func 24) #[] #[(pN 5 0), (pN 6 0)]), (sN 7 0 a4 (Nat.add big 6)), (i6 a5)]) 53))), (5, (some (.cells (layT [(i6 a0)]) 3))), (6, (some (.cells (layT [(i6 a1), (i6 a2)]) 24))), (7, (some (.cells (layT (rows rw_iiiiii a3)) 58))), (8, (some (.cells (layT [(i6 a6)]) 3)))], 9, 0⟩
abbrev G_jobsOrder_11010y1 (a0 : Int) (a1 : Int) (a2 : Int) (a3 : List R6) (a4 : Nat) (a5 : Int) (a6 : Int) (a7 : Int) (a8 : Int) (a9 : Int) (a10 : Int) (r : Unit) : Prop := Gv P (.yield 0) (A_jobsOrder_11010y1 a0 a1 a2 a3 a4 a5 a6 a7 a8 a9 a10) (H_jobsOrder_11010y1 a0 a1 a2 a3 a4 a5 a6 a7 a8 a9 a10) (V_jobsOrder_11010y1 a0 a1 a2 a3 a4 a5 a6 a7 a8 a9 a10 r) (R_jobsOrder_11010y1 a0 a1 a2 a3 a4 a5 a6 a7 a8 a9 a10 r)
abbrev C_jobsOrder_11010y1 (a0 : Int) (a1 : Int) (a2 : Int) (a3 : List R6) (a4 : Nat) (a5 : Int) (a6 : Int) (a7 : Int) (a8 : Int) (a9 : Int) (a10 : Int) (r : Unit) (ins outs : BL) : CallA := ⟨8, ins, V_jobsOrder_11010y1 a0 a1 a2 a3 a4 a5 a6 a7 a8 a9 a10 r, R_jobsOrder_11010y1 a0 a1 a2 a3 a4 a5 a6 a7 a8 a9 a10 r, outs⟩
def m_jobsOrder_11010y1 (n : Nat) (a0 : Int) (a1 : Int) (a2 : Int) (a3 : List R6) (a4 : Nat) (a5 : Int) (a6 : Int) (a7 : Int) (a8 : Int) (a9 : Int) (a10 : Int) : Option (Unit) :=
 some ()
theorem m_jobsOrder_11010y1_ok (n : Nat) (a0 : Int) (a1 : Int) (a2 : Int) (a3 : List R6) (a4 : Nat) (a5 : Int) (a6 : Int) (a7 : Int) (a8 : Int) (a9 : Int) (a10 : Int) (r : Unit) (h : m_jobsOrder_11010y1 n a0 a1 a2 a3 a4 a5 a6 a7 a8 a9 a10 = some r) : Gv P (.yield 0) (A_jobsOrder_11010y1 a0 a1 a2 a3 a4 a5 a6 a7 a8 a9 a10) (H_jobsOrder_11010y1 a0 a1 a2 a3 a4 a5 a6 a7 a8 a9 a10) (V_jobsOrder_11010y1 a0 a1 a2 a3 a4 a5 a6 a7 a8 a9 a10 r) (R_jobsOrder_11010y1 a0 a1 a2 a3 a4 a5 a6 a7 a8 a9 a10 r) := by
 unfold m_jobsOrder_11010y1 at h
 obtain rfl := oI h; exact (runY_ok hm (A1 := aT []) (L1 := lT []) (A2 := aT []) (L2 := lT []) (wk := ⟨[], [(0, 0, false), (1, 1, false), (2, 2, false), (3, 3, false), (4, 4, false), (5, 5, false), (6, 6, false), (7, 7, true), (8, 10, false)], 9, 0⟩) (ps := [FlatB (.cells (layT (rows rw_iiiiii a3)) 58)]) (by kernel_rfl) ⟨(rows_flat rwf_iiiiii a3 58), trivial⟩)

def A_heapHeapapiDirtyAll1_111110y1 (a0 : Int) (a1 : Int) (a2 : Int) (a3 : List R6) (a4 : Nat) (a5 : Int) (a6 : List R6) (a7 : Nat) (a8 : Int) (a9 : Int) (a10 : Int) (a11 : Int) (a12 : Int) (a13 : Int) : List Value := [(Value.agg #[(i6 a9), (i6 a10), (i6 a11), (i6 a12), (i6 a13)])]
def H_heapHeapapiDirtyAll1_111110y1 (a0 : Int) (a1 : Int) (a2 : Int) (a3 : List R6) (a4 : Nat) (a5 : Int) (a6 : List R6) (a7 : Nat) (a8 : Int) (a9 : Int) (a10 : Int) (a11 : Int) (a12 : Int) (a13 : Int) : AH := ⟨sB [(0, (some (rblk P 19 [false, true, true, true, true, true] .ready none [(2, (pN 2 0)), (22, (Value.func (.func 30) #[] #[(pN 11 0)]))] 1))), (1, (some (.marks true))), (2, (some (.cells (layT [(Value.func (.yield 3) #[] #[])]) 50))), (3, (some (rblk P 6 [false, true, false, true, true] .ready none [(7, (pN 5 0)), (13, (Value.func (.func 19) #[] #[(pN 6 0)]))] 4))), (4, (some (.marks true))), (5, (some (.cells (layT [(Value.slice none 0 0)]) 28))), (6, (some (.cells (layT [(pN 7 0)]) 40))), (7, (some (.cells (layT [(pN 7 0), (Value.func (.func 24) #[] #[(pN 8 0), (pN 9 0)]), (sN 10 0 a4 (Nat.add big 6)), (i6 a5)]) 53))), (8, (some (.cells (layT [(i6 a0)]) 3))), (9, (some (.cells (layT [(i6 a1), (i6 a2)]) 24))), (10, (some (.cells (layT (rows rw_iiiiii a3)) 58))), (11, (some (.cells (layT [(pN 12 0)]) 40))), (12, (some (.cells (layT [(pN 12 0), (Value.func (.func 24) #[] #[(pN 8 0), (pN 9 0)]), (sN 13 0 a7 (Nat.add big 6)), (i6 a8)]) 53))), (13, (some (.cells (layT (rows rw_iiiiii a6)) 58)))], 14, 14⟩
def V_heapHeapapiDirtyAll1_111110y1 (a0 : Int) (a1 : Int) (a2 : Int) (a3 : List R6) (a4 : Nat) (a5 : Int) (a6 : List R6) (a7 : Nat) (a8 : Int) (a9 : Int) (a10 : Int) (a11 : Int) (a12 : Int) (a13 : Int) (r : Unit) : Value := match r with
 | _ => (bO true)
def R_heapHeapapiDirtyAll1_111110y1 (a0 : Int) (a1 : Int) (a2 : Int) (a3 : List R6) (a4 : Nat) (a5 : Int) (a6 : List R6) (a7 : Nat) (a8 : Int) (a9 : Int) (a10 : Int) (a11 : Int) (a12 : Int) (a13 : Int) (r : Unit) : AH := match r with
 | _ => ⟨sB [(0, (some (rblk P 19 [false, true, true, true, true, true] .ready none [(2, (pN 2 0)), (22, (Value.func (.func 30) #[] #[(pN 11 0)]))] 1))), (1, (some (.marks true))), (2, (some (.cells (layT [(Value.func (.yield 3) #[] #[])]) 50))), (3, (some (rblk P 6 [false, true, false, true, true] .ready none [(7, (pN 5 0)), (13, (Value.func (.func 19) #[] #[(pN 6 0)]))] 4))), (4, (some (.marks true))), (5, (some (.cells (layT [(sN 14 0 1 (Nat.add big 1))]) 28))), (6, (some (.cells (layT [(pN 7 0)]) 40))), (7, (some (.cells (layT [(pN 7 0), (Value.func (.func 24) #[] #[(pN 8 0), (pN 9 0)]), (sN 10 0 a4 (Nat.add big 6)), (i6 a5)]) 53))), (8, (some (.cells (layT [(i6 a0)]) 3))), (9, (some (.cells (layT [(i6 a1), (i6 a2)]) 24))), (10, (some (.cells (layT (rows rw_iiiiii a3)) 58))), (11, (some (.cells (layT [(pN 12 0)]) 40))), (12, (some (.cells (layT [(pN 12 0), (Value.func (.func 24) #[] #[(pN 8 0), (pN 9 0)]), (sN 13 0 a7 (Nat.add big 6)), (i6 a8)]) 53))), (13, (some (.cells (layT (rows rw_iiiiii a6)) 58))), (14, (some (.cells (layT [(i6 a9)]) 3)))], 15, 0⟩
abbrev G_heapHeapapiDirtyAll1_111110y1 (a0 : Int) (a1 : Int) (a2 : Int) (a3 : List R6) (a4 : Nat) (a5 : Int) (a6 : List R6) (a7 : Nat) (a8 : Int) (a9 : Int) (a10 : Int) (a11 : Int) (a12 : Int) (a13 : Int) (r : Unit) : Prop := Gv P (.yield 0) (A_heapHeapapiDirtyAll1_111110y1 a0 a1 a2 a3 a4 a5 a6 a7 a8 a9 a10 a11 a12 a13) (H_heapHeapapiDirtyAll1_111110y1 a0 a1 a2 a3 a4 a5 a6 a7 a8 a9 a10 a11 a12 a13) (V_heapHeapapiDirtyAll1_111110y1 a0 a1 a2 a3 a4 a5 a6 a7 a8 a9 a10 a11 a12 a13 r) (R_heapHeapapiDirtyAll1_111110y1 a0 a1 a2 a3 a4 a5 a6 a7 a8 a9 a10 a11 a12 a13 r)
abbrev C_heapHeapapiDirtyAll1_111110y1 (a0 : Int) (a1 : Int) (a2 : Int) (a3 : List R6) (a4 : Nat) (a5 : Int) (a6 : List R6) (a7 : Nat) (a8 : Int) (a9 : Int) (a10 : Int) (a11 : Int) (a12 : Int) (a13 : Int) (r : Unit) (ins outs : BL) : CallA := ⟨14, ins, V_heapHeapapiDirtyAll1_111110y1 a0 a1 a2 a3 a4 a5 a6 a7 a8 a9 a10 a11 a12 a13 r, R_heapHeapapiDirtyAll1_111110y1 a0 a1 a2 a3 a4 a5 a6 a7 a8 a9 a10 a11 a12 a13 r, outs⟩
def m_heapHeapapiDirtyAll1_111110y1 (n : Nat) (a0 : Int) (a1 : Int) (a2 : Int) (a3 : List R6) (a4 : Nat) (a5 : Int) (a6 : List R6) (a7 : Nat) (a8 : Int) (a9 : Int) (a10 : Int) (a11 : Int) (a12 : Int) (a13 : Int) : Option (Unit) :=
 (m_jobsOrder_11010y1 n a0 a1 a2 a3 a4 a5 a9 a10 a11 a12 a13).bind fun _ =>
 some ()
theorem m_heapHeapapiDirtyAll1_111110y1_ok (n : Nat) (a0 : Int) (a1 : Int) (a2 : Int) (a3 : List R6) (a4 : Nat) (a5 : Int) (a6 : List R6) (a7 : Nat) (a8 : Int) (a9 : Int) (a10 : Int) (a11 : Int) (a12 : Int) (a13 : Int) (r : Unit) (h : m_heapHeapapiDirtyAll1_111110y1 n a0 a1 a2 a3 a4 a5 a6 a7 a8 a9 a10 a11 a12 a13 = some r) : Gv P (.yield 0) (A_heapHeapapiDirtyAll1_111110y1 a0 a1 a2 a3 a4 a5 a6 a7 a8 a9 a10 a11 a12 a13) (H_heapHeapapiDirtyAll1_111110y1 a0 a1 a2 a3 a4 a5 a6 a7 a8 a9 a10 a11 a12 a13) (V_heapHeapapiDirtyAll1_111110y1 a0 a1 a2 a3 a4 a5 a6 a7 a8 a9 a10 a11 a12 a13 r) (R_heapHeapapiDirtyAll1_111110y1 a0 a1 a2 a3 a4 a5 a6 a7 a8 a9 a10 a11 a12 a13 r) := by
 unfold m_heapHeapapiDirtyAll1_111110y1 at h
 obtain ⟨_, hc1, h⟩ := Option.bind_eq_some_iff.1 h
 obtain rfl := oI h; exact (runY_ok hm (A1 := aT []) (L1 := lT []) (A2 := aT [(4, .call (C_jobsOrder_11010y1 a0 a1 a2 a3 a4 a5 a9 a10 a11 a12 a13 () [(0, 3, false), (1, 4, false), (2, 5, false), (3, 6, false), (4, 7, false), (5, 8, false), (6, 9, false), (7, 10, true)] [(3, 0, false), (4, 1, false), (5, 2, false), (6, 3, false), (7, 4, false), (8, 5, false), (9, 6, false), (10, 7, true), (15, 8, false)]))]) (L2 := lT []) (wk := ⟨[], [(0, 0, false), (1, 1, false), (2, 2, false), (3, 3, false), (4, 4, false), (5, 5, false), (6, 6, false), (7, 7, false), (8, 8, false), (9, 9, false), (10, 10, true), (11, 11, false), (12, 12, false), (13, 13, true), (14, 15, false)], 15, 0⟩) (ps := [G_jobsOrder_11010y1 a0 a1 a2 a3 a4 a5 a9 a10 a11 a12 a13 (), FlatB (.cells (layT (rows rw_iiiiii a3)) 58), FlatB (.cells (layT (rows rw_iiiiii a3)) 58), FlatB (.cells (layT (rows rw_iiiiii a3)) 58), FlatB (.cells (layT (rows rw_iiiiii a6)) 58)]) (by kernel_rfl) ⟨(m_jobsOrder_11010y1_ok n a0 a1 a2 a3 a4 a5 a9 a10 a11 a12 a13 () hc1), (rows_flat rwf_iiiiii a3 58), (rows_flat rwf_iiiiii a3 58), (rows_flat rwf_iiiiii a3 58), (rows_flat rwf_iiiiii a6 58), trivial⟩)

def A_heapHeapapiDirtyLenq3 (a0 : Int) (a1 : Int) (a2 : Int) (a3 : List R6) (a4 : Nat) (a5 : Int) : List Value := [(pN 0 0)]
def H_heapHeapapiDirtyLenq3 (a0 : Int) (a1 : Int) (a2 : Int) (a3 : List R6) (a4 : Nat) (a5 : Int) : AH := ⟨sB [(0, (some (.cells (layT [(pN 0 0), (Value.func (.func 24) #[] #[(pN 1 0), (pN 2 0)]), (sN 3 0 a4 (Nat.add big 6)), (i6 a5)]) 53))), (1, (some (.cells (layT [(i6 a0)]) 3))), (2, (some (.cells (layT [(i6 a1), (i6 a2)]) 24))), (3, (some (.cells (layT (rows rw_iiiiii a3)) 58)))], 4, 4⟩
def V_heapHeapapiDirtyLenq3 (a0 : Int) (a1 : Int) (a2 : Int) (a3 : List R6) (a4 : Nat) (a5 : Int) (r : Unit) : Value := match r with
 | _ => (i6 ((a4 : Nat) : Int))
def R_heapHeapapiDirtyLenq3 (a0 : Int) (a1 : Int) (a2 : Int) (a3 : List R6) (a4 : Nat) (a5 : Int) (r : Unit) : AH := match r with
 | _ => ⟨sB [], 4, 4⟩
abbrev G_heapHeapapiDirtyLenq3 (a0 : Int) (a1 : Int) (a2 : Int) (a3 : List R6) (a4 : Nat) (a5 : Int) (r : Unit) : Prop := Gv P (.func 23) (A_heapHeapapiDirtyLenq3 a0 a1 a2 a3 a4 a5) (H_heapHeapapiDirtyLenq3 a0 a1 a2 a3 a4 a5) (V_heapHeapapiDirtyLenq3 a0 a1 a2 a3 a4 a5 r) (R_heapHeapapiDirtyLenq3 a0 a1 a2 a3 a4 a5 r)
abbrev C_heapHeapapiDirtyLenq3 (a0 : Int) (a1 : Int) (a2 : Int) (a3 : List R6) (a4 : Nat) (a5 : Int) (r : Unit) (ins outs : BL) : CallA := ⟨4, ins, V_heapHeapapiDirtyLenq3 a0 a1 a2 a3 a4 a5 r, R_heapHeapapiDirtyLenq3 a0 a1 a2 a3 a4 a5 r, outs⟩
def m_heapHeapapiDirtyLenq3 (n : Nat) (a0 : Int) (a1 : Int) (a2 : Int) (a3 : List R6) (a4 : Nat) (a5 : Int) : Option (Unit) :=
 (m_heapHeapapiDirtyvalidq3 n a0 a1 a2 a3 a4 a5).bind fun _ =>
 some ()
theorem m_heapHeapapiDirtyLenq3_ok (n : Nat) (a0 : Int) (a1 : Int) (a2 : Int) (a3 : List R6) (a4 : Nat) (a5 : Int) (r : Unit) (h : m_heapHeapapiDirtyLenq3 n a0 a1 a2 a3 a4 a5 = some r) : Gv P (.func 23) (A_heapHeapapiDirtyLenq3 a0 a1 a2 a3 a4 a5) (H_heapHeapapiDirtyLenq3 a0 a1 a2 a3 a4 a5) (V_heapHeapapiDirtyLenq3 a0 a1 a2 a3 a4 a5 r) (R_heapHeapapiDirtyLenq3 a0 a1 a2 a3 a4 a5 r) := by
 unfold m_heapHeapapiDirtyLenq3 at h
 obtain ⟨_, hc1, h⟩ := Option.bind_eq_some_iff.1 h
 obtain rfl := oI h; exact (runF2 hm (L := lT []) ⟨[2], [], 4, 4⟩ (yy 5 (.call (C_heapHeapapiDirtyvalidq3 a0 a1 a2 a3 a4 a5 () [(0, 0, false), (1, 1, false), (2, 2, false), (3, 3, true)] [])) <|
ww (m_heapHeapapiDirtyvalidq3_ok n a0 a1 a2 a3 a4 a5 () hc1) <|
ww (rows_flat rwf_iiiiii a3 58) ee) (by kernel_rfl))

def A_heapHeapapiDirtyLeastq2 (a0 : Int) (a1 : Int) (a2 : Int) (a3 : List R6) (a4 : Nat) (a5 : Int) : List Value := [(pN 0 0)]
def H_heapHeapapiDirtyLeastq2 (a0 : Int) (a1 : Int) (a2 : Int) (a3 : List R6) (a4 : Nat) (a5 : Int) : AH := ⟨sB [(0, (some (.cells (layT [(pN 0 0), (Value.func (.func 24) #[] #[(pN 1 0), (pN 2 0)]), (sN 3 0 a4 (Nat.add big 6)), (i6 a5)]) 53))), (1, (some (.cells (layT [(i6 a0)]) 3))), (2, (some (.cells (layT [(i6 a1), (i6 a2)]) 24))), (3, (some (.cells (layT (rows rw_iiiiii a3)) 58)))], 4, 4⟩
def V_heapHeapapiDirtyLeastq2 (a0 : Int) (a1 : Int) (a2 : Int) (a3 : List R6) (a4 : Nat) (a5 : Int) (r : Int × Int × Int × Int × Int × Bool) : Value := match r with
 | (o0, o1, o2, o3, o4, o5) => (Value.tuple #[(Value.agg #[(i6 o0), (i6 o1), (i6 o2), (i6 o3), (i6 o4)]), (bO o5)])
def R_heapHeapapiDirtyLeastq2 (a0 : Int) (a1 : Int) (a2 : Int) (a3 : List R6) (a4 : Nat) (a5 : Int) (r : Int × Int × Int × Int × Int × Bool) : AH := match r with
 | (o0, o1, o2, o3, o4, o5) => ⟨sB [(4, (some (.cells (layT [(i6 o0), (i6 o1), (i6 o2), (i6 o3), (i6 o4)]) 37)))], 5, 4⟩
abbrev G_heapHeapapiDirtyLeastq2 (a0 : Int) (a1 : Int) (a2 : Int) (a3 : List R6) (a4 : Nat) (a5 : Int) (r : Int × Int × Int × Int × Int × Bool) : Prop := Gv P (.func 13) (A_heapHeapapiDirtyLeastq2 a0 a1 a2 a3 a4 a5) (H_heapHeapapiDirtyLeastq2 a0 a1 a2 a3 a4 a5) (V_heapHeapapiDirtyLeastq2 a0 a1 a2 a3 a4 a5 r) (R_heapHeapapiDirtyLeastq2 a0 a1 a2 a3 a4 a5 r)
abbrev C_heapHeapapiDirtyLeastq2 (a0 : Int) (a1 : Int) (a2 : Int) (a3 : List R6) (a4 : Nat) (a5 : Int) (r : Int × Int × Int × Int × Int × Bool) (ins outs : BL) : CallA := ⟨4, ins, V_heapHeapapiDirtyLeastq2 a0 a1 a2 a3 a4 a5 r, R_heapHeapapiDirtyLeastq2 a0 a1 a2 a3 a4 a5 r, outs⟩
def m_heapHeapapiDirtyLeastq2 (n : Nat) (a0 : Int) (a1 : Int) (a2 : Int) (a3 : List R6) (a4 : Nat) (a5 : Int) : Option (Int × Int × Int × Int × Int × Bool) :=
 (m_heapHeapapiDirtyLenq3 n a0 a1 a2 a3 a4 a5).bind fun _ =>
 if ((a4 : Nat) : Int) = (0 : Int) then
  some (0, 0, 0, 0, 0, false)
 else
  if 0 ≤ (0 : Int) ∧ (0 : Int) < ((a4 : Nat) : Int) then
   if ((0 : Int)).toNat < (a3).length then
    ((some ((a3).getD ((0 : Int)).toNat (0, 0, 0, 0, 0, 0)))).bind fun c5_ =>
    some ((c5_.2.1), (c5_.2.2.1), (c5_.2.2.2.1), (c5_.2.2.2.2.1), (c5_.2.2.2.2.2), true)
   else none
  else none
theorem m_heapHeapapiDirtyLeastq2_ok (n : Nat) (a0 : Int) (a1 : Int) (a2 : Int) (a3 : List R6) (a4 : Nat) (a5 : Int) (r : Int × Int × Int × Int × Int × Bool) (h : m_heapHeapapiDirtyLeastq2 n a0 a1 a2 a3 a4 a5 = some r) : Gv P (.func 13) (A_heapHeapapiDirtyLeastq2 a0 a1 a2 a3 a4 a5) (H_heapHeapapiDirtyLeastq2 a0 a1 a2 a3 a4 a5) (V_heapHeapapiDirtyLeastq2 a0 a1 a2 a3 a4 a5 r) (R_heapHeapapiDirtyLeastq2 a0 a1 a2 a3 a4 a5 r) := by
 unfold m_heapHeapapiDirtyLeastq2 at h
 obtain ⟨_, hc1, h⟩ := Option.bind_eq_some_iff.1 h
 by_cases hc2 : ((a4 : Nat) : Int) = (0 : Int)
 ·rw [if_pos hc2] at h
  obtain rfl := oI h; exact (runF2 hm (L := lT []) ⟨[2, 3], [(4, 4, false)], 5, 4⟩ (yy 6 (.call (C_heapHeapapiDirtyLenq3 a0 a1 a2 a3 a4 a5 () [(0, 0, false), (1, 1, false), (2, 2, false), (3, 3, true)] [])) <|
ww (m_heapHeapapiDirtyLenq3_ok n a0 a1 a2 a3 a4 a5 () hc1) <|
ww (rows_flat rwf_iiiiii a3 58) <|
zz 7 (xeT hc2) ee) (by kernel_rfl))
 ·rw [if_neg hc2] at h
  by_cases hc3 : 0 ≤ (0 : Int) ∧ (0 : Int) < ((a4 : Nat) : Int)
  ·rw [if_pos hc3] at h
   by_cases hc4 : ((0 : Int)).toNat < (a3).length
   ·rw [if_pos hc4] at h
    obtain ⟨c5_, hc5, h⟩ := Option.bind_eq_some_iff.1 h
    obtain rfl := oI h; exact (runF2 hm (L := lT []) ⟨[2, 3], [(4, 4, false)], 5, 4⟩ (yy 6 (.call (C_heapHeapapiDirtyLenq3 a0 a1 a2 a3 a4 a5 () [(0, 0, false), (1, 1, false), (2, 2, false), (3, 3, true)] [])) <|
ww (m_heapHeapapiDirtyLenq3_ok n a0 a1 a2 a3 a4 a5 () hc1) <|
ww (rows_flat rwf_iiiiii a3 58) <|
zz 7 (xeF hc2) <|
zz 14 (xk5 3 U6 hc3) <|
yy 16 (.ld (Value.agg #[(i6 (c5_.2.1)), (i6 (c5_.2.2.1)), (i6 (c5_.2.2.2.1)), (i6 (c5_.2.2.2.2.1)), (i6 (c5_.2.2.2.2.2))])) <|
ww (p := rdT (layT (rows rw_iiiiii a3)) 5 (Nat.add (((0 : Int)).toNat * 6) 1) = some [(i6 (c5_.2.1)), (i6 (c5_.2.2.1)), (i6 (c5_.2.2.2.1)), (i6 (c5_.2.2.2.2.1)), (i6 (c5_.2.2.2.2.2))]) (rows_rdpN rwf_iiiiii (0, 0, 0, 0, 0, 0) (hr := hc5) (i := ((0 : Int)).toNat) (j := 1) (Nat.add (((0 : Int)).toNat * 6) 1) rfl (hc4) (by decide) rfl) ee) (by kernel_rfl))
   ·rw [if_neg hc4] at h; cases h
  ·rw [if_neg hc3] at h; cases h

def A_heapHeapapiDirtyTakeq2 (a0 : Int) (a1 : Int) (a2 : Int) (a3 : List R6) (a4 : Nat) (a5 : Int) : List Value := [(pN 0 0)]
def H_heapHeapapiDirtyTakeq2 (a0 : Int) (a1 : Int) (a2 : Int) (a3 : List R6) (a4 : Nat) (a5 : Int) : AH := ⟨sB [(0, (some (.cells (layT [(pN 0 0), (Value.func (.func 24) #[] #[(pN 1 0), (pN 2 0)]), (sN 3 0 a4 (Nat.add big 6)), (i6 a5)]) 53))), (1, (some (.cells (layT [(i6 a0)]) 3))), (2, (some (.cells (layT [(i6 a1), (i6 a2)]) 24))), (3, (some (.cells (layT (rows rw_iiiiii a3)) 58)))], 4, 4⟩
def V_heapHeapapiDirtyTakeq2 (a0 : Int) (a1 : Int) (a2 : Int) (a3 : List R6) (a4 : Nat) (a5 : Int) (r : List R6 × Nat × Int × Int × Int × Int × Int × Bool) : Value := match r with
 | (o0, o1, o2, o3, o4, o5, o6, o7) => (Value.tuple #[(Value.agg #[(i6 o2), (i6 o3), (i6 o4), (i6 o5), (i6 o6)]), (bO o7)])
def R_heapHeapapiDirtyTakeq2 (a0 : Int) (a1 : Int) (a2 : Int) (a3 : List R6) (a4 : Nat) (a5 : Int) (r : List R6 × Nat × Int × Int × Int × Int × Int × Bool) : AH := match r with
 | (o0, o1, o2, o3, o4, o5, o6, o7) => ⟨sB [(0, (some (.cells (layT [(pN 0 0), (Value.func (.func 24) #[] #[(pN 1 0), (pN 2 0)]), (sN 3 0 o1 (Nat.add big 6)), (i6 a5)]) 53))), (1, (some (.cells (layT [(i6 a0)]) 3))), (2, (some (.cells (layT [(i6 a1), (i6 a2)]) 24))), (3, (some (.cells (layT (rows rw_iiiiii o0)) 58))), (4, (some (.cells (layT [(i6 o2), (i6 o3), (i6 o4), (i6 o5), (i6 o6)]) 37)))], 5, 0⟩
abbrev G_heapHeapapiDirtyTakeq2 (a0 : Int) (a1 : Int) (a2 : Int) (a3 : List R6) (a4 : Nat) (a5 : Int) (r : List R6 × Nat × Int × Int × Int × Int × Int × Bool) : Prop := Gv P (.func 31) (A_heapHeapapiDirtyTakeq2 a0 a1 a2 a3 a4 a5) (H_heapHeapapiDirtyTakeq2 a0 a1 a2 a3 a4 a5) (V_heapHeapapiDirtyTakeq2 a0 a1 a2 a3 a4 a5 r) (R_heapHeapapiDirtyTakeq2 a0 a1 a2 a3 a4 a5 r)
abbrev C_heapHeapapiDirtyTakeq2 (a0 : Int) (a1 : Int) (a2 : Int) (a3 : List R6) (a4 : Nat) (a5 : Int) (r : List R6 × Nat × Int × Int × Int × Int × Int × Bool) (ins outs : BL) : CallA := ⟨4, ins, V_heapHeapapiDirtyTakeq2 a0 a1 a2 a3 a4 a5 r, R_heapHeapapiDirtyTakeq2 a0 a1 a2 a3 a4 a5 r, outs⟩
def m_heapHeapapiDirtyTakeq2 (n : Nat) (a0 : Int) (a1 : Int) (a2 : Int) (a3 : List R6) (a4 : Nat) (a5 : Int) : Option (List R6 × Nat × Int × Int × Int × Int × Int × Bool) :=
 (m_heapHeapapiDirtyLeastq2 n a0 a1 a2 a3 a4 a5).bind fun t => match t with
 | (c1_0, c1_1, c1_2, c1_3, c1_4, c1_5) =>
  if c1_5 = true then
   if 0 ≤ (w64 (((a4 : Nat) : Int) - (1 : Int))) ∧ (w64 (((a4 : Nat) : Int) - (1 : Int))) < ((a4 : Nat) : Int) then
    if ((w64 (((a4 : Nat) : Int) - (1 : Int)))).toNat < (a3).length then
     ((some ((a3).getD ((w64 (((a4 : Nat) : Int) - (1 : Int)))).toNat (0, 0, 0, 0, 0, 0)))).bind fun c5_ =>
     if 0 ≤ (0 : Int) ∧ (0 : Int) < ((a4 : Nat) : Int) then
      if ((0 : Int)).toNat < (a3).length then
       if ((w64 (((a4 : Nat) : Int) - (1 : Int)))).toNat < (((a3).set ((0 : Int)).toNat ((c5_.1), (c5_.2.1), (c5_.2.2.1), (c5_.2.2.2.1), (c5_.2.2.2.2.1), (c5_.2.2.2.2.2)))).length then
        if 0 ≤ (w64 (((a4 : Nat) : Int) - (1 : Int))) ∧ (w64 (((a4 : Nat) : Int) - (1 : Int))) ≤ ((a4 : Nat) : Int) then
         (m_heapHeapapiDirtydownq1 n a0 a1 a2 ((((a3).set ((0 : Int)).toNat ((c5_.1), (c5_.2.1), (c5_.2.2.1), (c5_.2.2.2.1), (c5_.2.2.2.2.1), (c5_.2.2.2.2.2)))).set ((w64 (((a4 : Nat) : Int) - (1 : Int)))).toNat ((0 : Int), (0 : Int), (0 : Int), (0 : Int), (0 : Int), (0 : Int))) (((w64 (((a4 : Nat) : Int) - (1 : Int)))).toNat) a5 0).bind fun c10_ =>
         some (c10_, (((w64 (((a4 : Nat) : Int) - (1 : Int)))).toNat), c1_0, c1_1, c1_2, c1_3, c1_4, true)
        else none
       else none
      else none
     else none
    else none
   else none
  else
   some (a3, a4, c1_0, c1_1, c1_2, c1_3, c1_4, false)
theorem m_heapHeapapiDirtyTakeq2_ok (n : Nat) (a0 : Int) (a1 : Int) (a2 : Int) (a3 : List R6) (a4 : Nat) (a5 : Int) (r : List R6 × Nat × Int × Int × Int × Int × Int × Bool) (h : m_heapHeapapiDirtyTakeq2 n a0 a1 a2 a3 a4 a5 = some r) : Gv P (.func 31) (A_heapHeapapiDirtyTakeq2 a0 a1 a2 a3 a4 a5) (H_heapHeapapiDirtyTakeq2 a0 a1 a2 a3 a4 a5) (V_heapHeapapiDirtyTakeq2 a0 a1 a2 a3 a4 a5 r) (R_heapHeapapiDirtyTakeq2 a0 a1 a2 a3 a4 a5 r) := by
 unfold m_heapHeapapiDirtyTakeq2 at h
 obtain ⟨⟨c1_0, c1_1, c1_2, c1_3, c1_4, c1_5⟩, hc1, h⟩ := Option.bind_eq_some_iff.1 h
 dsimp only at h
 by_cases hc2 : c1_5 = true
 ·rw [if_pos hc2] at h
  by_cases hc3 : 0 ≤ (w64 (((a4 : Nat) : Int) - (1 : Int))) ∧ (w64 (((a4 : Nat) : Int) - (1 : Int))) < ((a4 : Nat) : Int)
  ·rw [if_pos hc3] at h
   by_cases hc4 : ((w64 (((a4 : Nat) : Int) - (1 : Int)))).toNat < (a3).length
   ·rw [if_pos hc4] at h
    obtain ⟨c5_, hc5, h⟩ := Option.bind_eq_some_iff.1 h
    by_cases hc6 : 0 ≤ (0 : Int) ∧ (0 : Int) < ((a4 : Nat) : Int)
    ·rw [if_pos hc6] at h
     by_cases hc7 : ((0 : Int)).toNat < (a3).length
     ·rw [if_pos hc7] at h
      by_cases hc8 : ((w64 (((a4 : Nat) : Int) - (1 : Int)))).toNat < (((a3).set ((0 : Int)).toNat ((c5_.1), (c5_.2.1), (c5_.2.2.1), (c5_.2.2.2.1), (c5_.2.2.2.2.1), (c5_.2.2.2.2.2)))).length
      ·rw [if_pos hc8] at h
       by_cases hc9 : 0 ≤ (w64 (((a4 : Nat) : Int) - (1 : Int))) ∧ (w64 (((a4 : Nat) : Int) - (1 : Int))) ≤ ((a4 : Nat) : Int)
       ·rw [if_pos hc9] at h
        obtain ⟨c10_, hc10, h⟩ := Option.bind_eq_some_iff.1 h
        obtain rfl := oI h; exact (runF2 hm (L := lT []) ⟨[2, 3], [(0, 0, false), (1, 1, false), (2, 2, false), (3, 3, true), (4, 4, false)], 5, 0⟩ (yy 5 (.call (C_heapHeapapiDirtyLeastq2 a0 a1 a2 a3 a4 a5 (c1_0, c1_1, c1_2, c1_3, c1_4, c1_5) [(0, 0, false), (1, 1, false), (2, 2, false), (3, 3, true)] [(5, 4, false)])) <|
ww (m_heapHeapapiDirtyLeastq2_ok n a0 a1 a2 a3 a4 a5 (c1_0, c1_1, c1_2, c1_3, c1_4, c1_5) hc1) <|
ww (rows_flat rwf_iiiiii a3 58) <|
yy 15 (vf) <|
ww (p := (Value.bool (!c1_5)) = (Value.bool false)) (vBn hc2) <|
zz 35 (xk5 3 U6 hc3) <|
yy 36 (.ld (Value.agg #[(i6 (c5_.1)), (i6 (c5_.2.1)), (i6 (c5_.2.2.1)), (i6 (c5_.2.2.2.1)), (i6 (c5_.2.2.2.2.1)), (i6 (c5_.2.2.2.2.2))])) <|
ww (p := rdT (layT (rows rw_iiiiii a3)) 6 (((w64 (((a4 : Nat) : Int) - (1 : Int)))).toNat * 6) = some [(i6 (c5_.1)), (i6 (c5_.2.1)), (i6 (c5_.2.2.1)), (i6 (c5_.2.2.2.1)), (i6 (c5_.2.2.2.2.1)), (i6 (c5_.2.2.2.2.2))]) (rows_rdpN rwf_iiiiii (0, 0, 0, 0, 0, 0) (hr := hc5) (i := ((w64 (((a4 : Nat) : Int) - (1 : Int)))).toNat) (j := 0) (((w64 (((a4 : Nat) : Int) - (1 : Int)))).toNat * 6) rfl (hc4) (by decide) rfl) <|
zz 37 (xk5 3 U6 hc6) <|
yy 38 (.sto (layT (rows rw_iiiiii ((a3).set ((0 : Int)).toNat ((c5_.1), (c5_.2.1), (c5_.2.2.1), (c5_.2.2.2.1), (c5_.2.2.2.2.1), (c5_.2.2.2.2.2)))))) <|
ww (p := ∃ old, rdT (layT (rows rw_iiiiii a3)) 6 (((0 : Int)).toNat * 6) = some old) (Exists.elim (rows_st rwf_iiiiii (0, 0, 0, 0, 0, 0) (i := ((0 : Int)).toNat) (j := 0) (l := [(i6 (c5_.1)), (i6 (c5_.2.1)), (i6 (c5_.2.2.1)), (i6 (c5_.2.2.2.1)), (i6 (c5_.2.2.2.2.1)), (i6 (c5_.2.2.2.2.2))]) ((c5_.1), (c5_.2.1), (c5_.2.2.1), (c5_.2.2.2.1), (c5_.2.2.2.2.1), (c5_.2.2.2.2.2)) (((0 : Int)).toNat * 6) rfl (hc7) (Nat.le_of_ble_eq_true rfl) rfl) fun o h => ⟨o, h.1⟩) <|
ww (p := layL [(i6 (c5_.1)), (i6 (c5_.2.1)), (i6 (c5_.2.2.1)), (i6 (c5_.2.2.2.1)), (i6 (c5_.2.2.2.2.1)), (i6 (c5_.2.2.2.2.2))] (((0 : Int)).toNat * 6) (layT (rows rw_iiiiii a3)) = layT (rows rw_iiiiii ((a3).set ((0 : Int)).toNat ((c5_.1), (c5_.2.1), (c5_.2.2.1), (c5_.2.2.2.1), (c5_.2.2.2.2.1), (c5_.2.2.2.2.2))))) (Exists.elim (rows_st rwf_iiiiii (0, 0, 0, 0, 0, 0) (i := ((0 : Int)).toNat) (j := 0) (l := [(i6 (c5_.1)), (i6 (c5_.2.1)), (i6 (c5_.2.2.1)), (i6 (c5_.2.2.2.1)), (i6 (c5_.2.2.2.2.1)), (i6 (c5_.2.2.2.2.2))]) ((c5_.1), (c5_.2.1), (c5_.2.2.1), (c5_.2.2.2.1), (c5_.2.2.2.2.1), (c5_.2.2.2.2.2)) (((0 : Int)).toNat * 6) rfl (hc7) (Nat.le_of_ble_eq_true rfl) rfl) fun o h => h.2) <|
zz 46 (xk5 3 U6 hc3) <|
yy 47 (.sto (layT (rows rw_iiiiii ((((a3).set ((0 : Int)).toNat ((c5_.1), (c5_.2.1), (c5_.2.2.1), (c5_.2.2.2.1), (c5_.2.2.2.2.1), (c5_.2.2.2.2.2)))).set ((w64 (((a4 : Nat) : Int) - (1 : Int)))).toNat ((0 : Int), (0 : Int), (0 : Int), (0 : Int), (0 : Int), (0 : Int)))))) <|
ww (p := ∃ old, rdT (layT (rows rw_iiiiii ((a3).set ((0 : Int)).toNat ((c5_.1), (c5_.2.1), (c5_.2.2.1), (c5_.2.2.2.1), (c5_.2.2.2.2.1), (c5_.2.2.2.2.2))))) 6 (((w64 (((a4 : Nat) : Int) - (1 : Int)))).toNat * 6) = some old) (Exists.elim (rows_st rwf_iiiiii (0, 0, 0, 0, 0, 0) (i := ((w64 (((a4 : Nat) : Int) - (1 : Int)))).toNat) (j := 0) (l := [(i6 (0 : Int)), (i6 (0 : Int)), (i6 (0 : Int)), (i6 (0 : Int)), (i6 (0 : Int)), (i6 (0 : Int))]) ((0 : Int), (0 : Int), (0 : Int), (0 : Int), (0 : Int), (0 : Int)) (((w64 (((a4 : Nat) : Int) - (1 : Int)))).toNat * 6) rfl (hc8) (Nat.le_of_ble_eq_true rfl) rfl) fun o h => ⟨o, h.1⟩) <|
ww (p := layL [(i6 (0 : Int)), (i6 (0 : Int)), (i6 (0 : Int)), (i6 (0 : Int)), (i6 (0 : Int)), (i6 (0 : Int))] (((w64 (((a4 : Nat) : Int) - (1 : Int)))).toNat * 6) (layT (rows rw_iiiiii ((a3).set ((0 : Int)).toNat ((c5_.1), (c5_.2.1), (c5_.2.2.1), (c5_.2.2.2.1), (c5_.2.2.2.2.1), (c5_.2.2.2.2.2))))) = layT (rows rw_iiiiii ((((a3).set ((0 : Int)).toNat ((c5_.1), (c5_.2.1), (c5_.2.2.1), (c5_.2.2.2.1), (c5_.2.2.2.2.1), (c5_.2.2.2.2.2)))).set ((w64 (((a4 : Nat) : Int) - (1 : Int)))).toNat ((0 : Int), (0 : Int), (0 : Int), (0 : Int), (0 : Int), (0 : Int))))) (Exists.elim (rows_st rwf_iiiiii (0, 0, 0, 0, 0, 0) (i := ((w64 (((a4 : Nat) : Int) - (1 : Int)))).toNat) (j := 0) (l := [(i6 (0 : Int)), (i6 (0 : Int)), (i6 (0 : Int)), (i6 (0 : Int)), (i6 (0 : Int)), (i6 (0 : Int))]) ((0 : Int), (0 : Int), (0 : Int), (0 : Int), (0 : Int), (0 : Int)) (((w64 (((a4 : Nat) : Int) - (1 : Int)))).toNat * 6) rfl (hc8) (Nat.le_of_ble_eq_true rfl) rfl) fun o h => h.2) <|
yy 55 (.pur (sN 3 0 ((w64 (((a4 : Nat) : Int) - (1 : Int)))).toNat (Nat.add big 6))) <|
ww (p := opSlice P 51 (sN 3 0 a4 (Nat.add big 6)) none (some (i6 (w64 (((a4 : Nat) : Int) - (1 : Int))))) none Ax.h0 = some ((sN 3 0 ((w64 (((a4 : Nat) : Int) - (1 : Int)))).toNat (Nat.add big 6)), Ax.h0)) (slRowHi (e := 58) (es := 6) (by kernel_rfl) (by kernel_rfl) rfl rfl hc9) <|
yy 61 (.call (C_heapHeapapiDirtydownq1 a0 a1 a2 ((((a3).set ((0 : Int)).toNat ((c5_.1), (c5_.2.1), (c5_.2.2.1), (c5_.2.2.2.1), (c5_.2.2.2.2.1), (c5_.2.2.2.2.2)))).set ((w64 (((a4 : Nat) : Int) - (1 : Int)))).toNat ((0 : Int), (0 : Int), (0 : Int), (0 : Int), (0 : Int), (0 : Int))) (((w64 (((a4 : Nat) : Int) - (1 : Int)))).toNat) a5 0 c10_ [(0, 0, false), (1, 1, false), (2, 2, false), (3, 3, true)] [(3, 3, true)])) <|
ww (m_heapHeapapiDirtydownq1_ok n a0 a1 a2 ((((a3).set ((0 : Int)).toNat ((c5_.1), (c5_.2.1), (c5_.2.2.1), (c5_.2.2.2.1), (c5_.2.2.2.2.1), (c5_.2.2.2.2.2)))).set ((w64 (((a4 : Nat) : Int) - (1 : Int)))).toNat ((0 : Int), (0 : Int), (0 : Int), (0 : Int), (0 : Int), (0 : Int))) (((w64 (((a4 : Nat) : Int) - (1 : Int)))).toNat) a5 0 c10_ hc10) <|
ww (rows_flat rwf_iiiiii ((((a3).set ((0 : Int)).toNat ((c5_.1), (c5_.2.1), (c5_.2.2.1), (c5_.2.2.2.1), (c5_.2.2.2.2.1), (c5_.2.2.2.2.2)))).set ((w64 (((a4 : Nat) : Int) - (1 : Int)))).toNat ((0 : Int), (0 : Int), (0 : Int), (0 : Int), (0 : Int), (0 : Int))) 58) <|
ww (rows_flat rwf_iiiiii c10_ 58) <|
ww (rows_flat rwf_iiiiii c10_ 58) ee) (by kernel_rfl))
       ·rw [if_neg hc9] at h; cases h
      ·rw [if_neg hc8] at h; cases h
     ·rw [if_neg hc7] at h; cases h
    ·rw [if_neg hc6] at h; cases h
   ·rw [if_neg hc4] at h; cases h
  ·rw [if_neg hc3] at h; cases h
 ·rw [if_neg hc2] at h
  obtain rfl := oI h; exact (runF2 hm (L := lT []) ⟨[2, 3], [(0, 0, false), (1, 1, false), (2, 2, false), (3, 3, true), (4, 4, false)], 5, 0⟩ (yy 5 (.call (C_heapHeapapiDirtyLeastq2 a0 a1 a2 a3 a4 a5 (c1_0, c1_1, c1_2, c1_3, c1_4, c1_5) [(0, 0, false), (1, 1, false), (2, 2, false), (3, 3, true)] [(5, 4, false)])) <|
ww (m_heapHeapapiDirtyLeastq2_ok n a0 a1 a2 a3 a4 a5 (c1_0, c1_1, c1_2, c1_3, c1_4, c1_5) hc1) <|
ww (rows_flat rwf_iiiiii a3 58) <|
yy 15 (vt) <|
ww (p := (Value.bool (!c1_5)) = (Value.bool true)) (vBn (Bool.eq_false_iff.2 hc2)) <|
ww (rows_flat rwf_iiiiii a3 58) ee) (by kernel_rfl))


end Go.Proofs.Ytpbaplmodomfeaa.jbo24
