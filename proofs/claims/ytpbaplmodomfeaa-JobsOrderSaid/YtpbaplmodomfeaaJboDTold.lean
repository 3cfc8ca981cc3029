/-
  What functions do, told by pure functions. No condition.
-/
import Derived.Test.YtpbaplmodomfeaaJboCTold
set_option linter.unusedSimpArgs false
set_option linter.unusedVariables false
set_option linter.unusedSectionVars false
set_option linter.unnecessarySimpa false
set_option maxRecDepth 100000
noncomputable section
namespace Go.Proofs.Ytpbaplmodomfeaa.jbo24
open Go Go.Proofs.Ytpbaplmodomfeaa Ax
variable [Args]
def A_jobsqueueq3 (a0 : List (Int × Int × Int × Int × Int)) (a1 : Int) (a2 : Int) (a3 : Int) : List Value := [(sN 0 0 (a0).length (Nat.add big 5)), (Value.agg #[(i6 a1), (i6 a2)]), (i6 a3)]
def H_jobsqueueq3 (a0 : List (Int × Int × Int × Int × Int)) (a1 : Int) (a2 : Int) (a3 : Int) : AH := ⟨sB [(0, (some (.cells (layT (rows rw_iiiii a0)) 37)))], 1, 1⟩
def V_jobsqueueq3 (a0 : List (Int × Int × Int × Int × Int)) (a1 : Int) (a2 : Int) (a3 : Int) (r : List R6 × Nat × Int) : Value := match r with
 | (o0, o1, o2) => (pN 1 0)
def R_jobsqueueq3 (a0 : List (Int × Int × Int × Int × Int)) (a1 : Int) (a2 : Int) (a3 : Int) (r : List R6 × Nat × Int) : AH := match r with
 | (o0, o1, o2) => ⟨sB [(1, (some (.cells (layT [(pN 1 0), (Value.func (.func 24) #[] #[(pN 2 0), (pN 3 0)]), (slQ o0 4 o1 6), (i6 o2)]) 53))), (2, (some (.cells (layT [(i6 a3)]) 3))), (3, (some (.cells (layT [(i6 a1), (i6 a2)]) 24))), (4, (nblkR rw_iiiiii o0 58))], 5, 1⟩
abbrev G_jobsqueueq3 (a0 : List (Int × Int × Int × Int × Int)) (a1 : Int) (a2 : Int) (a3 : Int) (r : List R6 × Nat × Int) : Prop := Gv P (.func 11) (A_jobsqueueq3 a0 a1 a2 a3) (H_jobsqueueq3 a0 a1 a2 a3) (V_jobsqueueq3 a0 a1 a2 a3 r) (R_jobsqueueq3 a0 a1 a2 a3 r)
abbrev C_jobsqueueq3 (a0 : List (Int × Int × Int × Int × Int)) (a1 : Int) (a2 : Int) (a3 : Int) (r : List R6 × Nat × Int) (ins outs : BL) : CallA := ⟨1, ins, V_jobsqueueq3 a0 a1 a2 a3 r, R_jobsqueueq3 a0 a1 a2 a3 r, outs⟩
def S_jobsqueueq3_1 (x1_0 : List (Int × Int × Int × Int × Int)) (x1_1 : Int) (x1_2 : Int) (x1_3 : Int) (x1_7 : Int) (st : List R6 × Nat × Int × Int) : XSt := match st with
 | (x1_4, x1_5, x1_6, x1_8) => (sT 29 [(7, (pN 1 0)), (18, (sN 0 0 (x1_0).length (Nat.add big 5))), (19, (i6 x1_7)), (20, (i6 x1_8))], [], ⟨sB [(0, (some (.cells (layT (rows rw_iiiii x1_0)) 37))), (1, (some (.cells (layT [(pN 1 0), (Value.func (.func 24) #[] #[(pN 2 0), (pN 3 0)]), (slQ x1_4 4 x1_5 6), (i6 x1_6)]) 53))), (2, (some (.cells (layT [(i6 x1_1)]) 3))), (3, (some (.cells (layT [(i6 x1_2), (i6 x1_3)]) 24))), (4, (nblkR rw_iiiiii x1_4 58))], 5, 1⟩)
def X_jobsqueueq3_1 (x1_0 : List (Int × Int × Int × Int × Int)) (x1_1 : Int) (x1_2 : Int) (x1_3 : Int) (x1_7 : Int) (r : List R6 × Nat × Int) : Ex × XSt := match r with
 | (z1_0, z1_1, z1_2) => (.exit 0, (sT 29 [(7, (pN 1 0))], [], ⟨sB [(0, (some (.cells (layT (rows rw_iiiii x1_0)) 37))), (1, (some (.cells (layT [(pN 1 0), (Value.func (.func 24) #[] #[(pN 2 0), (pN 3 0)]), (slQ z1_0 4 z1_1 6), (i6 z1_2)]) 53))), (2, (some (.cells (layT [(i6 x1_1)]) 3))), (3, (some (.cells (layT [(i6 x1_2), (i6 x1_3)]) 24))), (4, (nblkR rw_iiiiii z1_0 58))], 5, 1⟩))
abbrev Q_jobsqueueq3_1 (rnd : Option Nat) (x1_0 : List (Int × Int × Int × Int × Int)) (x1_1 : Int) (x1_2 : Int) (x1_3 : Int) (x1_7 : Int) (st : List R6 × Nat × Int × Int) (c : Ex × XSt) : Prop := CG P rnd (fnN P 11) 1 (codeOf P 11 [false, false, true, false, true, true, true]) (S_jobsqueueq3_1 x1_0 x1_1 x1_2 x1_3 x1_7 st) c
abbrev U_jobsqueueq3_1 (rd : Option Nat) (x1_0 : List (Int × Int × Int × Int × Int)) (x1_1 : Int) (x1_2 : Int) (x1_3 : Int) (x1_7 : Int) (st : List R6 × Nat × Int × Int) (r : List R6 × Nat × Int) : Prop := CG P rd (fnN P 11) 1 (codeOf P 11 [false, true, false, true, true, true]) (S_jobsqueueq3_1 x1_0 x1_1 x1_2 x1_3 x1_7 st) (X_jobsqueueq3_1 x1_0 x1_1 x1_2 x1_3 x1_7 r)
def B_jobsqueueq3_1 (n : Nat) (x1_0 : List (Int × Int × Int × Int × Int)) (x1_1 : Int) (x1_2 : Int) (x1_3 : Int) (x1_7 : Int) (st : List R6 × Nat × Int × Int) : Option ((List R6 × Nat × Int × Int) ⊕ (List R6 × Nat × Int)) := match st with
 | (x1_4, x1_5, x1_6, x1_8) =>
  match x1_4 with
  | [] =>
   if x1_8 < x1_7 then
    if 0 ≤ x1_8 ∧ x1_8 < (x1_0.length : Int) then
     ((some ((x1_0).getD (x1_8).toNat (0, 0, 0, 0, 0)))).bind fun y1_3_ =>
     (m_heapHeapapiDirtyPutq1 n x1_1 x1_2 x1_3 x1_6 (y1_3_.1) (y1_3_.2.1) (y1_3_.2.2.1) (y1_3_.2.2.2.1) (y1_3_.2.2.2.2)).bind fun y1_4_ =>
     match y1_4_ with
     | [] =>
      none
     | y1_4_a :: y1_4_t =>
      some (.inl ((y1_4_a :: y1_4_t), 1, (w64 (x1_6 + (1 : Int))), (w64 (x1_8 + (1 : Int)))))
    else none
   else
    some (.inr (([] : List R6), 0, x1_6))
  | x1_4a :: x1_4t =>
   if x1_8 < x1_7 then
    if 0 ≤ x1_8 ∧ x1_8 < (x1_0.length : Int) then
     ((some ((x1_0).getD (x1_8).toNat (0, 0, 0, 0, 0)))).bind fun y1_3_ =>
     (m_heapHeapapiDirtyPutq3 n x1_1 x1_2 x1_3 (x1_4a :: x1_4t) x1_5 x1_6 (y1_3_.1) (y1_3_.2.1) (y1_3_.2.2.1) (y1_3_.2.2.2.1) (y1_3_.2.2.2.2)).bind fun t => match t with
     | (y1_4_0, y1_4_1) =>
      match y1_4_0 with
      | [] =>
       none
      | y1_4_0a :: y1_4_0t =>
       some (.inl ((y1_4_0a :: y1_4_0t), y1_4_1, (w64 (x1_6 + (1 : Int))), (w64 (x1_8 + (1 : Int)))))
    else none
   else
    some (.inr ((x1_4a :: x1_4t), x1_5, x1_6))
def m_jobsqueueq3_1 (n : Nat) (x1_0 : List (Int × Int × Int × Int × Int)) (x1_1 : Int) (x1_2 : Int) (x1_3 : Int) (x1_7 : Int) (st : List R6 × Nat × Int × Int) : Option (List R6 × Nat × Int) := iterM (B_jobsqueueq3_1 n x1_0 x1_1 x1_2 x1_3 x1_7) n st
theorem q_jobsqueueq3_1_0 (n : Nat) {rnd : Option Nat} (x1_0 : List (Int × Int × Int × Int × Int)) (x1_1 x1_2 x1_3 : Int) (x1_5 : Nat) (x1_6 x1_7 x1_8 : Int) (hy1_1 : x1_8 < x1_7) (hy1_2 : 0 ≤ x1_8 ∧ x1_8 < (x1_0.length : Int)) (y1_3_ : Int × Int × Int × Int × Int) (hy1_3 : (some ((x1_0).getD (x1_8).toNat (0, 0, 0, 0, 0))) = some y1_3_) (y1_4_a : R6) (y1_4_t : List R6) (hy1_4 : m_heapHeapapiDirtyPutq1 n x1_1 x1_2 x1_3 x1_6 (y1_3_.1) (y1_3_.2.1) (y1_3_.2.2.1) (y1_3_.2.2.2.1) (y1_3_.2.2.2.2) = some (y1_4_a :: y1_4_t)) : Q_jobsqueueq3_1 rnd x1_0 x1_1 x1_2 x1_3 x1_7 (([] : List R6), x1_5, x1_6, x1_8) (.normal, S_jobsqueueq3_1 x1_0 x1_1 x1_2 x1_3 x1_7 ((y1_4_a :: y1_4_t), 1, (w64 (x1_6 + (1 : Int))), (w64 (x1_8 + (1 : Int))))) :=
 runC2 hm (L := lT []) ⟨[7, 18, 19, 20], [(0, 0, true), (1, 1, false), (2, 2, false), (3, 3, false), (4, 6, true)], 5, 1⟩ (zz 1 (xdT hy1_1) <|
zz 7 (xk7 0 U5 hy1_2) <|
yy 8 (.ld (Value.agg #[(i6 (y1_3_.1)), (i6 (y1_3_.2.1)), (i6 (y1_3_.2.2.1)), (i6 (y1_3_.2.2.2.1)), (i6 (y1_3_.2.2.2.2))])) <|
ww (p := rdT (layT (rows rw_iiiii x1_0)) 5 ((x1_8).toNat * 5) = some [(i6 (y1_3_.1)), (i6 (y1_3_.2.1)), (i6 (y1_3_.2.2.1)), (i6 (y1_3_.2.2.2.1)), (i6 (y1_3_.2.2.2.2))]) (rows_rdpN rwf_iiiii (0, 0, 0, 0, 0) (hr := hy1_3) (i := (x1_8).toNat) (j := 0) ((x1_8).toNat * 5) rfl (toNatLt hy1_2) (by decide) rfl) <|
yy 13 (.call (C_heapHeapapiDirtyPutq1 x1_1 x1_2 x1_3 x1_6 (y1_3_.1) (y1_3_.2.1) (y1_3_.2.2.1) (y1_3_.2.2.2.1) (y1_3_.2.2.2.2) (y1_4_a :: y1_4_t) [(0, 1, false), (1, 2, false), (2, 3, false)] [(1, 0, false), (2, 1, false), (3, 2, false), (6, 3, true)])) <|
ww (m_heapHeapapiDirtyPutq1_ok n x1_1 x1_2 x1_3 x1_6 (y1_3_.1) (y1_3_.2.1) (y1_3_.2.2.1) (y1_3_.2.2.2.1) (y1_3_.2.2.2.2) (y1_4_a :: y1_4_t) hy1_4) <|
ww (rows_flat rwf_iiiiii (y1_4_a :: y1_4_t) 58) <|
ww (rows_flat rwf_iiiii x1_0 37) <|
ww (rows_flat rwf_iiiiii (y1_4_a :: y1_4_t) 58) <|
ee) (by kernel_rfl)
theorem q_jobsqueueq3_1_1 (n : Nat) {rnd : Option Nat} (x1_0 : List (Int × Int × Int × Int × Int)) (x1_1 x1_2 x1_3 : Int) (x1_5 : Nat) (x1_6 x1_7 x1_8 : Int) (hy1_1 : ¬ (x1_8 < x1_7)) : Q_jobsqueueq3_1 rnd x1_0 x1_1 x1_2 x1_3 x1_7 (([] : List R6), x1_5, x1_6, x1_8) (X_jobsqueueq3_1 x1_0 x1_1 x1_2 x1_3 x1_7 (([] : List R6), 0, x1_6)) :=
 runC2 hm (L := lT []) ⟨[7], [(0, 0, true), (1, 1, false), (2, 2, false), (3, 3, false)], 5, 1⟩ (zz 1 (xdF hy1_1) <|
ww (rows_flat rwf_iiiii x1_0 37) <|
ee) (by kernel_rfl)
theorem q_jobsqueueq3_1_2 (n : Nat) {rnd : Option Nat} (x1_0 : List (Int × Int × Int × Int × Int)) (x1_1 x1_2 x1_3 : Int) (x1_4a : R6) (x1_4t : List R6) (x1_5 : Nat) (x1_6 x1_7 x1_8 : Int) (hy1_1 : x1_8 < x1_7) (hy1_2 : 0 ≤ x1_8 ∧ x1_8 < (x1_0.length : Int)) (y1_3_ : Int × Int × Int × Int × Int) (hy1_3 : (some ((x1_0).getD (x1_8).toNat (0, 0, 0, 0, 0))) = some y1_3_) (y1_4_0a : R6) (y1_4_0t : List R6) (y1_4_1 : Nat) (hy1_4 : m_heapHeapapiDirtyPutq3 n x1_1 x1_2 x1_3 (x1_4a :: x1_4t) x1_5 x1_6 (y1_3_.1) (y1_3_.2.1) (y1_3_.2.2.1) (y1_3_.2.2.2.1) (y1_3_.2.2.2.2) = some ((y1_4_0a :: y1_4_0t), y1_4_1)) : Q_jobsqueueq3_1 rnd x1_0 x1_1 x1_2 x1_3 x1_7 ((x1_4a :: x1_4t), x1_5, x1_6, x1_8) (.normal, S_jobsqueueq3_1 x1_0 x1_1 x1_2 x1_3 x1_7 ((y1_4_0a :: y1_4_0t), y1_4_1, (w64 (x1_6 + (1 : Int))), (w64 (x1_8 + (1 : Int))))) :=
 runC2 hm (L := lT []) ⟨[7, 18, 19, 20], [(0, 0, true), (1, 1, false), (2, 2, false), (3, 3, false), (4, 6, true)], 5, 1⟩ (zz 1 (xdT hy1_1) <|
zz 7 (xk7 0 U5 hy1_2) <|
yy 8 (.ld (Value.agg #[(i6 (y1_3_.1)), (i6 (y1_3_.2.1)), (i6 (y1_3_.2.2.1)), (i6 (y1_3_.2.2.2.1)), (i6 (y1_3_.2.2.2.2))])) <|
ww (p := rdT (layT (rows rw_iiiii x1_0)) 5 ((x1_8).toNat * 5) = some [(i6 (y1_3_.1)), (i6 (y1_3_.2.1)), (i6 (y1_3_.2.2.1)), (i6 (y1_3_.2.2.2.1)), (i6 (y1_3_.2.2.2.2))]) (rows_rdpN rwf_iiiii (0, 0, 0, 0, 0) (hr := hy1_3) (i := (x1_8).toNat) (j := 0) ((x1_8).toNat * 5) rfl (toNatLt hy1_2) (by decide) rfl) <|
yy 13 (.call (C_heapHeapapiDirtyPutq3 x1_1 x1_2 x1_3 (x1_4a :: x1_4t) x1_5 x1_6 (y1_3_.1) (y1_3_.2.1) (y1_3_.2.2.1) (y1_3_.2.2.2.1) (y1_3_.2.2.2.2) ((y1_4_0a :: y1_4_0t), y1_4_1) [(0, 1, false), (1, 2, false), (2, 3, false), (3, 4, true)] [(1, 0, false), (2, 1, false), (3, 2, false), (6, 4, true)])) <|
ww (m_heapHeapapiDirtyPutq3_ok n x1_1 x1_2 x1_3 (x1_4a :: x1_4t) x1_5 x1_6 (y1_3_.1) (y1_3_.2.1) (y1_3_.2.2.1) (y1_3_.2.2.2.1) (y1_3_.2.2.2.2) ((y1_4_0a :: y1_4_0t), y1_4_1) hy1_4) <|
ww (rows_flat rwf_iiiiii (x1_4a :: x1_4t) 58) <|
ww (rows_flat rwf_iiiiii (y1_4_0a :: y1_4_0t) 58) <|
ww (rows_flat rwf_iiiii x1_0 37) <|
ww (rows_flat rwf_iiiiii (y1_4_0a :: y1_4_0t) 58) <|
ee) (by kernel_rfl)
theorem q_jobsqueueq3_1_3 (n : Nat) {rnd : Option Nat} (x1_0 : List (Int × Int × Int × Int × Int)) (x1_1 x1_2 x1_3 : Int) (x1_4a : R6) (x1_4t : List R6) (x1_5 : Nat) (x1_6 x1_7 x1_8 : Int) (hy1_1 : ¬ (x1_8 < x1_7)) : Q_jobsqueueq3_1 rnd x1_0 x1_1 x1_2 x1_3 x1_7 ((x1_4a :: x1_4t), x1_5, x1_6, x1_8) (X_jobsqueueq3_1 x1_0 x1_1 x1_2 x1_3 x1_7 ((x1_4a :: x1_4t), x1_5, x1_6)) :=
 runC2 hm (L := lT []) ⟨[7], [(0, 0, true), (1, 1, false), (2, 2, false), (3, 3, false), (4, 4, true)], 5, 1⟩ (zz 1 (xdF hy1_1) <|
ww (rows_flat rwf_iiiii x1_0 37) <|
ww (rows_flat rwf_iiiiii (x1_4a :: x1_4t) 58) <|
ee) (by kernel_rfl)
theorem m_jobsqueueq3_1_ok (n : Nat) {rnd : Option Nat} (x1_0 : List (Int × Int × Int × Int × Int)) (x1_1 : Int) (x1_2 : Int) (x1_3 : Int) (x1_7 : Int) (st : List R6 × Nat × Int × Int) (r : List R6 × Nat × Int) (h : m_jobsqueueq3_1 n x1_0 x1_1 x1_2 x1_3 x1_7 st = some r) : CG P rnd (fnN P 11) 1 (codeOf P 11 [false, true, false, true, true, true]) (S_jobsqueueq3_1 x1_0 x1_1 x1_2 x1_3 x1_7 st) (X_jobsqueueq3_1 x1_0 x1_1 x1_2 x1_3 x1_7 r) :=
 CG.iter (b := codeOf P 11 [false, false, true, false, true, true, true]) (by kernel_rfl) (body := B_jobsqueueq3_1 n x1_0 x1_1 x1_2 x1_3 x1_7) (S := S_jobsqueueq3_1 x1_0 x1_1 x1_2 x1_3 x1_7) (X := X_jobsqueueq3_1 x1_0 x1_1 x1_2 x1_3 x1_7)
  (fun s s' h => by
  obtain ⟨x1_4, x1_5, x1_6, x1_8⟩ := s
  unfold B_jobsqueueq3_1 at h
  dsimp only at h
  cases x1_4 with
  | nil =>
   dsimp only at h
   by_cases hy1_1 : x1_8 < x1_7
   ·rw [if_pos hy1_1] at h
    by_cases hy1_2 : 0 ≤ x1_8 ∧ x1_8 < (x1_0.length : Int)
    ·rw [if_pos hy1_2] at h
     obtain ⟨y1_3_, hy1_3, h⟩ := Option.bind_eq_some_iff.1 h
     obtain ⟨y1_4_, hy1_4, h⟩ := Option.bind_eq_some_iff.1 h
     cases y1_4_ with
     | nil =>
      dsimp only at h
      cases h
     | cons y1_4_a y1_4_t =>
      dsimp only at h
      obtain rfl := Sum.inl.inj (oI h); exact q_jobsqueueq3_1_0 n x1_0 x1_1 x1_2 x1_3 x1_5 x1_6 x1_7 x1_8 hy1_1 hy1_2 y1_3_ hy1_3 y1_4_a y1_4_t hy1_4
    ·rw [if_neg hy1_2] at h; cases h
   ·rw [if_neg hy1_1] at h
    cases h
  | cons x1_4a x1_4t =>
   dsimp only at h
   by_cases hy1_1 : x1_8 < x1_7
   ·rw [if_pos hy1_1] at h
    by_cases hy1_2 : 0 ≤ x1_8 ∧ x1_8 < (x1_0.length : Int)
    ·rw [if_pos hy1_2] at h
     obtain ⟨y1_3_, hy1_3, h⟩ := Option.bind_eq_some_iff.1 h
     obtain ⟨⟨y1_4_0, y1_4_1⟩, hy1_4, h⟩ := Option.bind_eq_some_iff.1 h
     dsimp only at h
     cases y1_4_0 with
     | nil =>
      dsimp only at h
      cases h
     | cons y1_4_0a y1_4_0t =>
      dsimp only at h
      obtain rfl := Sum.inl.inj (oI h); exact q_jobsqueueq3_1_2 n x1_0 x1_1 x1_2 x1_3 x1_4a x1_4t x1_5 x1_6 x1_7 x1_8 hy1_1 hy1_2 y1_3_ hy1_3 y1_4_0a y1_4_0t y1_4_1 hy1_4
    ·rw [if_neg hy1_2] at h; cases h
   ·rw [if_neg hy1_1] at h
    cases h)
  (fun s r h => by
  obtain ⟨x1_4, x1_5, x1_6, x1_8⟩ := s
  unfold B_jobsqueueq3_1 at h
  dsimp only at h
  cases x1_4 with
  | nil =>
   dsimp only at h
   by_cases hy1_1 : x1_8 < x1_7
   ·rw [if_pos hy1_1] at h
    by_cases hy1_2 : 0 ≤ x1_8 ∧ x1_8 < (x1_0.length : Int)
    ·rw [if_pos hy1_2] at h
     obtain ⟨y1_3_, hy1_3, h⟩ := Option.bind_eq_some_iff.1 h
     obtain ⟨y1_4_, hy1_4, h⟩ := Option.bind_eq_some_iff.1 h
     cases y1_4_ with
     | nil =>
      dsimp only at h
      cases h
     | cons y1_4_a y1_4_t =>
      dsimp only at h
      cases h
    ·rw [if_neg hy1_2] at h; cases h
   ·rw [if_neg hy1_1] at h
    obtain rfl := Sum.inr.inj (oI h); exact q_jobsqueueq3_1_1 n x1_0 x1_1 x1_2 x1_3 x1_5 x1_6 x1_7 x1_8 hy1_1
  | cons x1_4a x1_4t =>
   dsimp only at h
   by_cases hy1_1 : x1_8 < x1_7
   ·rw [if_pos hy1_1] at h
    by_cases hy1_2 : 0 ≤ x1_8 ∧ x1_8 < (x1_0.length : Int)
    ·rw [if_pos hy1_2] at h
     obtain ⟨y1_3_, hy1_3, h⟩ := Option.bind_eq_some_iff.1 h
     obtain ⟨⟨y1_4_0, y1_4_1⟩, hy1_4, h⟩ := Option.bind_eq_some_iff.1 h
     dsimp only at h
     cases y1_4_0 with
     | nil =>
      dsimp only at h
      cases h
     | cons y1_4_0a y1_4_0t =>
      dsimp only at h
      cases h
    ·rw [if_neg hy1_2] at h; cases h
   ·rw [if_neg hy1_1] at h
    obtain rfl := Sum.inr.inj (oI h); exact q_jobsqueueq3_1_3 n x1_0 x1_1 x1_2 x1_3 x1_4a x1_4t x1_5 x1_6 x1_7 x1_8 hy1_1)
  (fun r => by intro hx; cases hx) h
def m_jobsqueueq3 (n : Nat) (a0 : List (Int × Int × Int × Int × Int)) (a1 : Int) (a2 : Int) (a3 : Int) : Option (List R6 × Nat × Int) :=
 (m_jobsorderq1 n a1 a2 a3).bind fun _ =>
 (m_heapNewapiDirtyq1 n a3 a1 a2).bind fun _ =>
 (m_dirtyCheckq3 n a0).bind fun c3_ =>
 if c3_ = (0 : Int) then
  (m_jobsqueueq3_1 n a0 a3 a1 a2 (a0.length : Int) (([] : List R6), 0, 0, 0)).bind fun t => match t with
  | (c5_0, c5_1, c5_2) =>
   match c5_0 with
   | [] =>
    some (([] : List R6), 0, c5_2)
   | c5_0a :: c5_0t =>
    some ((c5_0a :: c5_0t), c5_1, c5_2)
 else
  some (([] : List R6), 0, 0)
theorem m_jobsqueueq3_ok (n : Nat) (a0 : List (Int × Int × Int × Int × Int)) (a1 : Int) (a2 : Int) (a3 : Int) (r : List R6 × Nat × Int) (h : m_jobsqueueq3 n a0 a1 a2 a3 = some r) : Gv P (.func 11) (A_jobsqueueq3 a0 a1 a2 a3) (H_jobsqueueq3 a0 a1 a2 a3) (V_jobsqueueq3 a0 a1 a2 a3 r) (R_jobsqueueq3 a0 a1 a2 a3 r) := by
 unfold m_jobsqueueq3 at h
 obtain ⟨_, hc1, h⟩ := Option.bind_eq_some_iff.1 h
 obtain ⟨_, hc2, h⟩ := Option.bind_eq_some_iff.1 h
 obtain ⟨c3_, hc3, h⟩ := Option.bind_eq_some_iff.1 h
 by_cases hc4 : c3_ = (0 : Int)
 ·rw [if_pos hc4] at h
  obtain ⟨⟨c5_0, c5_1, c5_2⟩, hc5, h⟩ := Option.bind_eq_some_iff.1 h
  dsimp only at h
  cases c5_0 with
  | nil =>
   dsimp only at h
   obtain rfl := oI h; exact (runF2 hm (L := lT [(21, ⟨⟨[7, 18, 19, 20], [(0, 0, true), (1, 4, false), (2, 2, false), (3, 3, false)], 5, 1⟩, (X_jobsqueueq3_1 a0 a3 a1 a2 (a0.length : Int) (([] : List R6), c5_1, c5_2)).1, (X_jobsqueueq3_1 a0 a3 a1 a2 (a0.length : Int) (([] : List R6), c5_1, c5_2)).2⟩)]) ⟨[6], [(1, 1, false), (2, 2, false), (3, 3, false)], 5, 1⟩ (yy 6 (.call (C_jobsorderq1 a1 a2 a3 () [] [(2, 0, false), (3, 1, false)])) <|
ww (m_jobsorderq1_ok n a1 a2 a3 () hc1) <|
yy 7 (.call (C_heapNewapiDirtyq1 a3 a1 a2 () [(0, 2, false), (1, 3, false)] [(2, 0, false), (3, 1, false), (4, 2, false)])) <|
ww (m_heapNewapiDirtyq1_ok n a3 a1 a2 () hc2) <|
yy 12 (.call (C_dirtyCheckq3 a0 c3_ [(0, 0, true)] [])) <|
ww (m_dirtyCheckq3_ok n a0 c3_ hc3) <|
ww (rows_flat rwf_iiiii a0 37) <|
zz 13 (xnF hc4) <|
ww (p := U_jobsqueueq3_1 none a0 a3 a1 a2 (a0.length : Int) (([] : List R6), 0, 0, 0) (([] : List R6), c5_1, c5_2)) (m_jobsqueueq3_1_ok n a0 a3 a1 a2 (a0.length : Int) (([] : List R6), 0, 0, 0) (([] : List R6), c5_1, c5_2) hc5) <|
ww (rows_flat rwf_iiiii a0 37) ee) (by kernel_rfl))
  | cons c5_0a c5_0t =>
   dsimp only at h
   obtain rfl := oI h; exact (runF2 hm (L := lT [(21, ⟨⟨[7, 18, 19, 20], [(0, 0, true), (1, 4, false), (2, 2, false), (3, 3, false)], 5, 1⟩, (X_jobsqueueq3_1 a0 a3 a1 a2 (a0.length : Int) ((c5_0a :: c5_0t), c5_1, c5_2)).1, (X_jobsqueueq3_1 a0 a3 a1 a2 (a0.length : Int) ((c5_0a :: c5_0t), c5_1, c5_2)).2⟩)]) ⟨[6], [(1, 1, false), (2, 2, false), (3, 3, false), (4, 4, true)], 5, 1⟩ (yy 6 (.call (C_jobsorderq1 a1 a2 a3 () [] [(2, 0, false), (3, 1, false)])) <|
ww (m_jobsorderq1_ok n a1 a2 a3 () hc1) <|
yy 7 (.call (C_heapNewapiDirtyq1 a3 a1 a2 () [(0, 2, false), (1, 3, false)] [(2, 0, false), (3, 1, false), (4, 2, false)])) <|
ww (m_heapNewapiDirtyq1_ok n a3 a1 a2 () hc2) <|
yy 12 (.call (C_dirtyCheckq3 a0 c3_ [(0, 0, true)] [])) <|
ww (m_dirtyCheckq3_ok n a0 c3_ hc3) <|
ww (rows_flat rwf_iiiii a0 37) <|
zz 13 (xnF hc4) <|
ww (p := U_jobsqueueq3_1 none a0 a3 a1 a2 (a0.length : Int) (([] : List R6), 0, 0, 0) ((c5_0a :: c5_0t), c5_1, c5_2)) (m_jobsqueueq3_1_ok n a0 a3 a1 a2 (a0.length : Int) (([] : List R6), 0, 0, 0) ((c5_0a :: c5_0t), c5_1, c5_2) hc5) <|
ww (rows_flat rwf_iiiii a0 37) <|
ww (rows_flat rwf_iiiiii (c5_0a :: c5_0t) 58) ee) (by kernel_rfl))
 ·rw [if_neg hc4] at h
  obtain rfl := oI h; exact (runF2 hm (L := lT []) ⟨[6], [(1, 4, false), (2, 2, false), (3, 3, false)], 5, 1⟩ (yy 6 (.call (C_jobsorderq1 a1 a2 a3 () [] [(2, 0, false), (3, 1, false)])) <|
ww (m_jobsorderq1_ok n a1 a2 a3 () hc1) <|
yy 7 (.call (C_heapNewapiDirtyq1 a3 a1 a2 () [(0, 2, false), (1, 3, false)] [(2, 0, false), (3, 1, false), (4, 2, false)])) <|
ww (m_heapNewapiDirtyq1_ok n a3 a1 a2 () hc2) <|
yy 12 (.call (C_dirtyCheckq3 a0 c3_ [(0, 0, true)] [])) <|
ww (m_dirtyCheckq3_ok n a0 c3_ hc3) <|
ww (rows_flat rwf_iiiii a0 37) <|
zz 13 (xnT hc4) ee) (by kernel_rfl))

def A_jobsNextq3 (a0 : List (Int × Int × Int × Int × Int)) (a1 : Int) (a2 : Int) (a3 : Int) : List Value := [(sN 0 0 (a0).length (Nat.add big 5)), (Value.agg #[(i6 a1), (i6 a2)]), (i6 a3)]
def H_jobsNextq3 (a0 : List (Int × Int × Int × Int × Int)) (a1 : Int) (a2 : Int) (a3 : Int) : AH := ⟨sB [(0, (some (.cells (layT (rows rw_iiiii a0)) 37)))], 1, 1⟩
def V_jobsNextq3 (a0 : List (Int × Int × Int × Int × Int)) (a1 : Int) (a2 : Int) (a3 : Int) (r : Int × Bool) : Value := match r with
 | (o0, o1) => (Value.tuple #[(i6 o0), (bO o1)])
def R_jobsNextq3 (a0 : List (Int × Int × Int × Int × Int)) (a1 : Int) (a2 : Int) (a3 : Int) (r : Int × Bool) : AH := match r with
 | (o0, o1) => ⟨sB [], 1, 1⟩
abbrev G_jobsNextq3 (a0 : List (Int × Int × Int × Int × Int)) (a1 : Int) (a2 : Int) (a3 : Int) (r : Int × Bool) : Prop := Gv P (.func 7) (A_jobsNextq3 a0 a1 a2 a3) (H_jobsNextq3 a0 a1 a2 a3) (V_jobsNextq3 a0 a1 a2 a3 r) (R_jobsNextq3 a0 a1 a2 a3 r)
abbrev C_jobsNextq3 (a0 : List (Int × Int × Int × Int × Int)) (a1 : Int) (a2 : Int) (a3 : Int) (r : Int × Bool) (ins outs : BL) : CallA := ⟨1, ins, V_jobsNextq3 a0 a1 a2 a3 r, R_jobsNextq3 a0 a1 a2 a3 r, outs⟩
def m_jobsNextq3 (n : Nat) (a0 : List (Int × Int × Int × Int × Int)) (a1 : Int) (a2 : Int) (a3 : Int) : Option (Int × Bool) :=
 (m_jobsqueueq3 n a0 a1 a2 a3).bind fun t => match t with
 | (c1_0, c1_1, c1_2) =>
  match c1_0 with
  | [] =>
   (m_heapHeapapiDirtyLeastq3 n a3 a1 a2 c1_2).bind fun _ =>
   some (0, false)
  | c1_0a :: c1_0t =>
   (m_heapHeapapiDirtyLeastq2 n a3 a1 a2 (c1_0a :: c1_0t) c1_1 c1_2).bind fun t => match t with
   | (c2_0, c2_1, c2_2, c2_3, c2_4, c2_5) =>
    some (c2_0, c2_5)
theorem m_jobsNextq3_ok (n : Nat) (a0 : List (Int × Int × Int × Int × Int)) (a1 : Int) (a2 : Int) (a3 : Int) (r : Int × Bool) (h : m_jobsNextq3 n a0 a1 a2 a3 = some r) : Gv P (.func 7) (A_jobsNextq3 a0 a1 a2 a3) (H_jobsNextq3 a0 a1 a2 a3) (V_jobsNextq3 a0 a1 a2 a3 r) (R_jobsNextq3 a0 a1 a2 a3 r) := by
 unfold m_jobsNextq3 at h
 obtain ⟨⟨c1_0, c1_1, c1_2⟩, hc1, h⟩ := Option.bind_eq_some_iff.1 h
 dsimp only at h
 cases c1_0 with
 | nil =>
  dsimp only at h
  obtain ⟨_, hc2, h⟩ := Option.bind_eq_some_iff.1 h
  obtain rfl := oI h; exact (runF2 hm (L := lT []) ⟨[6, 7], [], 1, 1⟩ (yy 8 (.call (C_jobsqueueq3 a0 a1 a2 a3 (([] : List R6), c1_1, c1_2) [(0, 0, true)] [(2, 1, false), (3, 2, false), (4, 3, false)])) <|
ww (m_jobsqueueq3_ok n a0 a1 a2 a3 (([] : List R6), c1_1, c1_2) hc1) <|
ww (rows_flat rwf_iiiii a0 37) <|
yy 9 (.call (C_heapHeapapiDirtyLeastq3 a3 a1 a2 c1_2 () [(0, 2, false), (1, 3, false), (2, 4, false)] [(6, 3, false)])) <|
ww (m_heapHeapapiDirtyLeastq3_ok n a3 a1 a2 c1_2 () hc2) ee) (by kernel_rfl))
 | cons c1_0a c1_0t =>
  dsimp only at h
  obtain ⟨⟨c2_0, c2_1, c2_2, c2_3, c2_4, c2_5⟩, hc2, h⟩ := Option.bind_eq_some_iff.1 h
  dsimp only at h
  obtain rfl := oI h; exact (runF2 hm (L := lT []) ⟨[6, 7], [], 1, 1⟩ (yy 8 (.call (C_jobsqueueq3 a0 a1 a2 a3 ((c1_0a :: c1_0t), c1_1, c1_2) [(0, 0, true)] [(2, 1, false), (3, 2, false), (4, 3, false), (5, 4, true)])) <|
ww (m_jobsqueueq3_ok n a0 a1 a2 a3 ((c1_0a :: c1_0t), c1_1, c1_2) hc1) <|
ww (rows_flat rwf_iiiii a0 37) <|
ww (rows_flat rwf_iiiiii (c1_0a :: c1_0t) 58) <|
yy 9 (.call (C_heapHeapapiDirtyLeastq2 a3 a1 a2 (c1_0a :: c1_0t) c1_1 c1_2 (c2_0, c2_1, c2_2, c2_3, c2_4, c2_5) [(0, 2, false), (1, 3, false), (2, 4, false), (3, 5, true)] [(6, 4, false)])) <|
ww (m_heapHeapapiDirtyLeastq2_ok n a3 a1 a2 (c1_0a :: c1_0t) c1_1 c1_2 (c2_0, c2_1, c2_2, c2_3, c2_4, c2_5) hc2) <|
ww (rows_flat rwf_iiiiii (c1_0a :: c1_0t) 58) ee) (by kernel_rfl))

def A_jobsOrderq2 (a0 : List (Int × Int × Int × Int × Int)) (a1 : Int) (a2 : Int) (a3 : Int) : List Value := [(sN 0 0 (a0).length (Nat.add big 5)), (Value.agg #[(i6 a1), (i6 a2)]), (i6 a3)]
def H_jobsOrderq2 (a0 : List (Int × Int × Int × Int × Int)) (a1 : Int) (a2 : Int) (a3 : Int) : AH := ⟨sB [(0, (some (.cells (layT (rows rw_iiiii a0)) 37)))], 1, 1⟩
def V_jobsOrderq2 (a0 : List (Int × Int × Int × Int × Int)) (a1 : Int) (a2 : Int) (a3 : Int) (r : List Int) : Value := match r with
 | o0 => (slN o0 2)
def R_jobsOrderq2 (a0 : List (Int × Int × Int × Int × Int)) (a1 : Int) (a2 : Int) (a3 : Int) (r : List Int) : AH := match r with
 | o0 => ⟨sB [(1, (some (.marks false))), (2, (nblk o0 3))], 3, 1⟩
abbrev G_jobsOrderq2 (a0 : List (Int × Int × Int × Int × Int)) (a1 : Int) (a2 : Int) (a3 : Int) (r : List Int) : Prop := Gv P (.func 6) (A_jobsOrderq2 a0 a1 a2 a3) (H_jobsOrderq2 a0 a1 a2 a3) (V_jobsOrderq2 a0 a1 a2 a3 r) (R_jobsOrderq2 a0 a1 a2 a3 r)
abbrev C_jobsOrderq2 (a0 : List (Int × Int × Int × Int × Int)) (a1 : Int) (a2 : Int) (a3 : Int) (r : List Int) (ins outs : BL) : CallA := ⟨1, ins, V_jobsOrderq2 a0 a1 a2 a3 r, R_jobsOrderq2 a0 a1 a2 a3 r, outs⟩
def m_jobsOrderq2 (n : Nat) (a0 : List (Int × Int × Int × Int × Int)) (a1 : Int) (a2 : Int) (a3 : Int) : Option (List Int) :=
 (m_jobsqueueq3 n a0 a1 a2 a3).bind fun t => match t with
 | (c1_0, c1_1, c1_2) =>
  match c1_0 with
  | [] =>
   (m_heapHeapapiDirtyAllq1 n a3 a1 a2 c1_2).bind fun _ =>
   (m_heapHeapapiDirtyAll1q1 n a3 a1 a2 c1_2).bind fun _ =>
   some ([] : List Int)
  | c1_0a :: c1_0t =>
   (m_heapHeapapiDirtyAllq2 n a3 a1 a2 (c1_0a :: c1_0t) c1_1 c1_2).bind fun _ =>
   (m_heapHeapapiDirtyAll1q2 n a3 a1 a2 (c1_0a :: c1_0t) c1_1 c1_2).bind fun c3_ =>
   match c3_ with
   | [] =>
    some ([] : List Int)
   | c3_a :: c3_t =>
    some (c3_a :: c3_t)
theorem m_jobsOrderq2_ok (n : Nat) (a0 : List (Int × Int × Int × Int × Int)) (a1 : Int) (a2 : Int) (a3 : Int) (r : List Int) (h : m_jobsOrderq2 n a0 a1 a2 a3 = some r) : Gv P (.func 6) (A_jobsOrderq2 a0 a1 a2 a3) (H_jobsOrderq2 a0 a1 a2 a3) (V_jobsOrderq2 a0 a1 a2 a3 r) (R_jobsOrderq2 a0 a1 a2 a3 r) := by
 unfold m_jobsOrderq2 at h
 obtain ⟨⟨c1_0, c1_1, c1_2⟩, hc1, h⟩ := Option.bind_eq_some_iff.1 h
 dsimp only at h
 cases c1_0 with
 | nil =>
  dsimp only at h
  obtain ⟨_, hc2, h⟩ := Option.bind_eq_some_iff.1 h
  obtain ⟨_, hc3, h⟩ := Option.bind_eq_some_iff.1 h
  obtain rfl := oI h; exact (runF2 hm (L := lT []) ⟨[6], [(1, 8, false)], 3, 1⟩ (yy 10 (.call (C_jobsqueueq3 a0 a1 a2 a3 (([] : List R6), c1_1, c1_2) [(0, 0, true)] [(3, 1, false), (4, 2, false), (5, 3, false)])) <|
ww (m_jobsqueueq3_ok n a0 a1 a2 a3 (([] : List R6), c1_1, c1_2) hc1) <|
ww (rows_flat rwf_iiiii a0 37) <|
yy 11 (.call (C_heapHeapapiDirtyAllq1 a3 a1 a2 c1_2 () [(0, 3, false), (1, 4, false), (2, 5, false)] [(3, 0, false), (4, 1, false), (5, 2, false), (7, 3, false)])) <|
ww (m_heapHeapapiDirtyAllq1_ok n a3 a1 a2 c1_2 () hc2) <|
yy 13 (.rng (C_heapHeapapiDirtyAll1q1 a3 a1 a2 c1_2 () [(0, 9, false), (1, 8, false), (2, 2, false), (3, 7, false), (4, 3, false), (5, 4, false), (6, 5, false)] []) [7, 13]) <|
ww (m_heapHeapapiDirtyAll1q1_ok n a3 a1 a2 c1_2 () hc3) ee) (by kernel_rfl))
 | cons c1_0a c1_0t =>
  dsimp only at h
  obtain ⟨_, hc2, h⟩ := Option.bind_eq_some_iff.1 h
  obtain ⟨c3_, hc3, h⟩ := Option.bind_eq_some_iff.1 h
  cases c3_ with
  | nil =>
   dsimp only at h
   obtain rfl := oI h; exact (runF2 hm (L := lT []) ⟨[6], [(1, 8, false)], 3, 1⟩ (yy 10 (.call (C_jobsqueueq3 a0 a1 a2 a3 ((c1_0a :: c1_0t), c1_1, c1_2) [(0, 0, true)] [(3, 1, false), (4, 2, false), (5, 3, false), (6, 4, true)])) <|
ww (m_jobsqueueq3_ok n a0 a1 a2 a3 ((c1_0a :: c1_0t), c1_1, c1_2) hc1) <|
ww (rows_flat rwf_iiiii a0 37) <|
ww (rows_flat rwf_iiiiii (c1_0a :: c1_0t) 58) <|
yy 11 (.call (C_heapHeapapiDirtyAllq2 a3 a1 a2 (c1_0a :: c1_0t) c1_1 c1_2 () [(0, 3, false), (1, 4, false), (2, 5, false), (3, 6, true)] [(3, 0, false), (4, 1, false), (5, 2, false), (6, 3, true), (7, 4, false)])) <|
ww (m_heapHeapapiDirtyAllq2_ok n a3 a1 a2 (c1_0a :: c1_0t) c1_1 c1_2 () hc2) <|
ww (rows_flat rwf_iiiiii (c1_0a :: c1_0t) 58) <|
ww (rows_flat rwf_iiiiii (c1_0a :: c1_0t) 58) <|
yy 13 (.rng (C_heapHeapapiDirtyAll1q2 a3 a1 a2 (c1_0a :: c1_0t) c1_1 c1_2 ([] : List Int) [(0, 9, false), (1, 8, false), (2, 2, false), (3, 7, false), (4, 3, false), (5, 4, false), (6, 5, false), (7, 6, true)] [(9, 0, false), (8, 1, false), (2, 2, false), (7, 3, false), (3, 4, false), (4, 5, false), (5, 6, false), (6, 7, true)]) [7, 13]) <|
ww (m_heapHeapapiDirtyAll1q2_ok n a3 a1 a2 (c1_0a :: c1_0t) c1_1 c1_2 ([] : List Int) hc3) <|
ww (rows_flat rwf_iiiiii (c1_0a :: c1_0t) 58) <|
ww (rows_flat rwf_iiiiii (c1_0a :: c1_0t) 58) ee) (by kernel_rfl))
  | cons c3_a c3_t =>
   dsimp only at h
   obtain rfl := oI h; exact (runF2 hm (L := lT []) ⟨[6], [(1, 8, false), (2, 10, true)], 3, 1⟩ (yy 10 (.call (C_jobsqueueq3 a0 a1 a2 a3 ((c1_0a :: c1_0t), c1_1, c1_2) [(0, 0, true)] [(3, 1, false), (4, 2, false), (5, 3, false), (6, 4, true)])) <|
ww (m_jobsqueueq3_ok n a0 a1 a2 a3 ((c1_0a :: c1_0t), c1_1, c1_2) hc1) <|
ww (rows_flat rwf_iiiii a0 37) <|
ww (rows_flat rwf_iiiiii (c1_0a :: c1_0t) 58) <|
yy 11 (.call (C_heapHeapapiDirtyAllq2 a3 a1 a2 (c1_0a :: c1_0t) c1_1 c1_2 () [(0, 3, false), (1, 4, false), (2, 5, false), (3, 6, true)] [(3, 0, false), (4, 1, false), (5, 2, false), (6, 3, true), (7, 4, false)])) <|
ww (m_heapHeapapiDirtyAllq2_ok n a3 a1 a2 (c1_0a :: c1_0t) c1_1 c1_2 () hc2) <|
ww (rows_flat rwf_iiiiii (c1_0a :: c1_0t) 58) <|
ww (rows_flat rwf_iiiiii (c1_0a :: c1_0t) 58) <|
yy 13 (.rng (C_heapHeapapiDirtyAll1q2 a3 a1 a2 (c1_0a :: c1_0t) c1_1 c1_2 (c3_a :: c3_t) [(0, 9, false), (1, 8, false), (2, 2, false), (3, 7, false), (4, 3, false), (5, 4, false), (6, 5, false), (7, 6, true)] [(9, 0, false), (8, 1, false), (2, 2, false), (7, 3, false), (3, 4, false), (4, 5, false), (5, 6, false), (6, 7, true), (10, 8, true)]) [7, 13]) <|
ww (m_heapHeapapiDirtyAll1q2_ok n a3 a1 a2 (c1_0a :: c1_0t) c1_1 c1_2 (c3_a :: c3_t) hc3) <|
ww (rows_flat rwf_iiiiii (c1_0a :: c1_0t) 58) <|
ww (rows_flat rwf_iiiiii (c1_0a :: c1_0t) 58) <|
ww (iv_flat (c3_a :: c3_t) 3) <|
ww (iv_flat (c3_a :: c3_t) 3) ee) (by kernel_rfl))

def A_viewportref22Dropq2 (a0 : List (Int × Int × Int × Int × Int)) (a1 : Int) : List Value := [(sN 0 0 (a0).length (Nat.add big 5)), (i6 a1)]
def H_viewportref22Dropq2 (a0 : List (Int × Int × Int × Int × Int)) (a1 : Int) : AH := ⟨sB [(0, (some (.cells (layT (rows rw_iiiii a0)) 37)))], 1, 1⟩
def V_viewportref22Dropq2 (a0 : List (Int × Int × Int × Int × Int)) (a1 : Int) (r : List (Int × Int × Int × Int × Int)) : Value := match r with
 | o0 => (slR o0 1 5)
def R_viewportref22Dropq2 (a0 : List (Int × Int × Int × Int × Int)) (a1 : Int) (r : List (Int × Int × Int × Int × Int)) : AH := match r with
 | o0 => ⟨sB [(1, (nblkR rw_iiiii o0 37))], 2, 1⟩
abbrev G_viewportref22Dropq2 (a0 : List (Int × Int × Int × Int × Int)) (a1 : Int) (r : List (Int × Int × Int × Int × Int)) : Prop := Gv P (.func 9) (A_viewportref22Dropq2 a0 a1) (H_viewportref22Dropq2 a0 a1) (V_viewportref22Dropq2 a0 a1 r) (R_viewportref22Dropq2 a0 a1 r)
abbrev C_viewportref22Dropq2 (a0 : List (Int × Int × Int × Int × Int)) (a1 : Int) (r : List (Int × Int × Int × Int × Int)) (ins outs : BL) : CallA := ⟨1, ins, V_viewportref22Dropq2 a0 a1 r, R_viewportref22Dropq2 a0 a1 r, outs⟩
def S_viewportref22Dropq2_1 (x1_0 : List (Int × Int × Int × Int × Int)) (x1_1 : Int) (st : List (Int × Int × Int × Int × Int) × Int) : XSt := match st with
 | (x1_2, x1_3) => (sT 28 [(0, (sN 0 0 (x1_0).length (Nat.add big 5))), (1, (i6 x1_1)), (5, (slR x1_2 1 5)), (6, (i6 x1_3))], [], ⟨sB [(0, (some (.cells (layT (rows rw_iiiii x1_0)) 37))), (1, (nblkR rw_iiiii x1_2 37))], 2, 1⟩)
def X_viewportref22Dropq2_1 (x1_0 : List (Int × Int × Int × Int × Int)) (x1_1 : Int) (r : List (Int × Int × Int × Int × Int)) : Ex × XSt := match r with
 | z1_0 => (.exit 0, (sT 28 [(5, (slR z1_0 1 5))], [], ⟨sB [(0, (some (.cells (layT (rows rw_iiiii x1_0)) 37))), (1, (nblkR rw_iiiii z1_0 37))], 2, 1⟩))
abbrev Q_viewportref22Dropq2_1 (rnd : Option Nat) (x1_0 : List (Int × Int × Int × Int × Int)) (x1_1 : Int) (st : List (Int × Int × Int × Int × Int) × Int) (c : Ex × XSt) : Prop := CG P rnd (fnN P 9) 1 (codeOf P 9 [false, false, true, false, true, true]) (S_viewportref22Dropq2_1 x1_0 x1_1 st) c
abbrev U_viewportref22Dropq2_1 (rd : Option Nat) (x1_0 : List (Int × Int × Int × Int × Int)) (x1_1 : Int) (st : List (Int × Int × Int × Int × Int) × Int) (r : List (Int × Int × Int × Int × Int)) : Prop := CG P rd (fnN P 9) 1 (codeOf P 9 [false, true, false, true, true]) (S_viewportref22Dropq2_1 x1_0 x1_1 st) (X_viewportref22Dropq2_1 x1_0 x1_1 r)
def B_viewportref22Dropq2_1 (n : Nat) (x1_0 : List (Int × Int × Int × Int × Int)) (x1_1 : Int) (st : List (Int × Int × Int × Int × Int) × Int) : Option ((List (Int × Int × Int × Int × Int) × Int) ⊕ (List (Int × Int × Int × Int × Int))) := match st with
 | (x1_2, x1_3) =>
  match x1_2 with
  | [] =>
   if x1_3 < (x1_0.length : Int) then
    if 0 ≤ x1_3 ∧ x1_3 < (x1_0.length : Int) then
     ((some ((x1_0).getD (x1_3).toNat (0, 0, 0, 0, 0)))).bind fun y1_3_ =>
     if (y1_3_.1) = x1_1 then
      some (.inl (([] : List (Int × Int × Int × Int × Int)), (w64 (x1_3 + (1 : Int)))))
     else
      some (.inl ([((y1_3_.1), (y1_3_.2.1), (y1_3_.2.2.1), (y1_3_.2.2.2.1), (y1_3_.2.2.2.2))], (w64 (x1_3 + (1 : Int)))))
    else none
   else
    some (.inr ([] : List (Int × Int × Int × Int × Int)))
  | x1_2a :: x1_2t =>
   if x1_3 < (x1_0.length : Int) then
    if 0 ≤ x1_3 ∧ x1_3 < (x1_0.length : Int) then
     ((some ((x1_0).getD (x1_3).toNat (0, 0, 0, 0, 0)))).bind fun y1_3_ =>
     if (y1_3_.1) = x1_1 then
      some (.inl ((x1_2a :: x1_2t), (w64 (x1_3 + (1 : Int)))))
     else
      if (((x1_2a :: x1_2t)).length + 1) * 40 ≤ 140737488355328 then
       some (.inl (((x1_2a :: x1_2t) ++ [((y1_3_.1), (y1_3_.2.1), (y1_3_.2.2.1), (y1_3_.2.2.2.1), (y1_3_.2.2.2.2))]), (w64 (x1_3 + (1 : Int)))))
      else none
    else none
   else
    some (.inr (x1_2a :: x1_2t))
def m_viewportref22Dropq2_1 (n : Nat) (x1_0 : List (Int × Int × Int × Int × Int)) (x1_1 : Int) (st : List (Int × Int × Int × Int × Int) × Int) : Option (List (Int × Int × Int × Int × Int)) := iterM (B_viewportref22Dropq2_1 n x1_0 x1_1) n st
theorem q_viewportref22Dropq2_1_0 (n : Nat) {rnd : Option Nat} (x1_0 : List (Int × Int × Int × Int × Int)) (x1_1 x1_3 : Int) (hy1_1 : x1_3 < (x1_0.length : Int)) (hy1_2 : 0 ≤ x1_3 ∧ x1_3 < (x1_0.length : Int)) (y1_3_ : Int × Int × Int × Int × Int) (hy1_3 : (some ((x1_0).getD (x1_3).toNat (0, 0, 0, 0, 0))) = some y1_3_) (hy1_4 : (y1_3_.1) = x1_1) : Q_viewportref22Dropq2_1 rnd x1_0 x1_1 (([] : List (Int × Int × Int × Int × Int)), x1_3) (.normal, S_viewportref22Dropq2_1 x1_0 x1_1 (([] : List (Int × Int × Int × Int × Int)), (w64 (x1_3 + (1 : Int))))) :=
 runC2 hm (L := lT []) ⟨[0, 1, 5, 6], [(0, 0, true)], 2, 1⟩ (zz 5 (xdT hy1_1) <|
zz 12 (xk7 0 U5 hy1_2) <|
zz 14 (ok8 hy1_3 (toNatLt hy1_2)) <|
zz 16 (xnF hy1_4) <|
ww (rows_flat rwf_iiiii x1_0 37) <|
ee) (by kernel_rfl)
theorem q_viewportref22Dropq2_1_1 (n : Nat) {rnd : Option Nat} (x1_0 : List (Int × Int × Int × Int × Int)) (x1_1 x1_3 : Int) (hy1_1 : x1_3 < (x1_0.length : Int)) (hy1_2 : 0 ≤ x1_3 ∧ x1_3 < (x1_0.length : Int)) (y1_3_ : Int × Int × Int × Int × Int) (hy1_3 : (some ((x1_0).getD (x1_3).toNat (0, 0, 0, 0, 0))) = some y1_3_) (hy1_4 : ¬ ((y1_3_.1) = x1_1)) : Q_viewportref22Dropq2_1 rnd x1_0 x1_1 (([] : List (Int × Int × Int × Int × Int)), x1_3) (.normal, S_viewportref22Dropq2_1 x1_0 x1_1 ([((y1_3_.1), (y1_3_.2.1), (y1_3_.2.2.1), (y1_3_.2.2.2.1), (y1_3_.2.2.2.2))], (w64 (x1_3 + (1 : Int))))) :=
 runC2 hm (L := lT []) ⟨[0, 1, 5, 6], [(0, 0, true), (1, 3, false)], 2, 1⟩ (zz 5 (xdT hy1_1) <|
zz 12 (xk7 0 U5 hy1_2) <|
zz 14 (ok8 hy1_3 (toNatLt hy1_2)) <|
zz 16 (xnT hy1_4) <|
zz 21 (xk7 0 U5 hy1_2) <|
yy 22 (.ld (Value.agg #[(i6 (y1_3_.1)), (i6 (y1_3_.2.1)), (i6 (y1_3_.2.2.1)), (i6 (y1_3_.2.2.2.1)), (i6 (y1_3_.2.2.2.2))])) <|
ww (p := rdT (layT (rows rw_iiiii x1_0)) 5 ((x1_3).toNat * 5) = some [(i6 (y1_3_.1)), (i6 (y1_3_.2.1)), (i6 (y1_3_.2.2.1)), (i6 (y1_3_.2.2.2.1)), (i6 (y1_3_.2.2.2.2))]) (rows_rdpN rwf_iiiii (0, 0, 0, 0, 0) (hr := hy1_3) (i := (x1_3).toNat) (j := 0) ((x1_3).toNat * 5) rfl (toNatLt hy1_2) (by decide) rfl) <|
ww (rows_flat rwf_iiiii x1_0 37) <|
ee) (by kernel_rfl)
theorem q_viewportref22Dropq2_1_2 (n : Nat) {rnd : Option Nat} (x1_0 : List (Int × Int × Int × Int × Int)) (x1_1 x1_3 : Int) (hy1_1 : ¬ (x1_3 < (x1_0.length : Int))) : Q_viewportref22Dropq2_1 rnd x1_0 x1_1 (([] : List (Int × Int × Int × Int × Int)), x1_3) (X_viewportref22Dropq2_1 x1_0 x1_1 ([] : List (Int × Int × Int × Int × Int))) :=
 runC2 hm (L := lT []) ⟨[5], [(0, 0, true)], 2, 1⟩ (zz 5 (xdF hy1_1) <|
ww (rows_flat rwf_iiiii x1_0 37) <|
ee) (by kernel_rfl)
theorem q_viewportref22Dropq2_1_3 (n : Nat) {rnd : Option Nat} (x1_0 : List (Int × Int × Int × Int × Int)) (x1_1 : Int) (x1_2a : Int × Int × Int × Int × Int) (x1_2t : List (Int × Int × Int × Int × Int)) (x1_3 : Int) (hy1_1 : x1_3 < (x1_0.length : Int)) (hy1_2 : 0 ≤ x1_3 ∧ x1_3 < (x1_0.length : Int)) (y1_3_ : Int × Int × Int × Int × Int) (hy1_3 : (some ((x1_0).getD (x1_3).toNat (0, 0, 0, 0, 0))) = some y1_3_) (hy1_4 : (y1_3_.1) = x1_1) : Q_viewportref22Dropq2_1 rnd x1_0 x1_1 ((x1_2a :: x1_2t), x1_3) (.normal, S_viewportref22Dropq2_1 x1_0 x1_1 ((x1_2a :: x1_2t), (w64 (x1_3 + (1 : Int))))) :=
 runC2 hm (L := lT []) ⟨[0, 1, 5, 6], [(0, 0, true), (1, 1, true)], 2, 1⟩ (zz 5 (xdT hy1_1) <|
zz 12 (xk7 0 U5 hy1_2) <|
zz 14 (ok8 hy1_3 (toNatLt hy1_2)) <|
zz 16 (xnF hy1_4) <|
ww (rows_flat rwf_iiiii x1_0 37) <|
ww (rows_flat rwf_iiiii (x1_2a :: x1_2t) 37) <|
ee) (by kernel_rfl)
theorem q_viewportref22Dropq2_1_4 (n : Nat) {rnd : Option Nat} (x1_0 : List (Int × Int × Int × Int × Int)) (x1_1 : Int) (x1_2a : Int × Int × Int × Int × Int) (x1_2t : List (Int × Int × Int × Int × Int)) (x1_3 : Int) (hy1_1 : x1_3 < (x1_0.length : Int)) (hy1_2 : 0 ≤ x1_3 ∧ x1_3 < (x1_0.length : Int)) (y1_3_ : Int × Int × Int × Int × Int) (hy1_3 : (some ((x1_0).getD (x1_3).toNat (0, 0, 0, 0, 0))) = some y1_3_) (hy1_4 : ¬ ((y1_3_.1) = x1_1)) (hy1_5 : (((x1_2a :: x1_2t)).length + 1) * 40 ≤ 140737488355328) : Q_viewportref22Dropq2_1 rnd x1_0 x1_1 ((x1_2a :: x1_2t), x1_3) (.normal, S_viewportref22Dropq2_1 x1_0 x1_1 (((x1_2a :: x1_2t) ++ [((y1_3_.1), (y1_3_.2.1), (y1_3_.2.2.1), (y1_3_.2.2.2.1), (y1_3_.2.2.2.2))]), (w64 (x1_3 + (1 : Int))))) :=
 runC2 hm (L := lT []) ⟨[0, 1, 5, 6], [(0, 0, true), (1, 3, true)], 2, 1⟩ (zz 5 (xdT hy1_1) <|
zz 12 (xk7 0 U5 hy1_2) <|
zz 14 (ok8 hy1_3 (toNatLt hy1_2)) <|
zz 16 (xnT hy1_4) <|
zz 21 (xk7 0 U5 hy1_2) <|
yy 22 (.ld (Value.agg #[(i6 (y1_3_.1)), (i6 (y1_3_.2.1)), (i6 (y1_3_.2.2.1)), (i6 (y1_3_.2.2.2.1)), (i6 (y1_3_.2.2.2.2))])) <|
ww (p := rdT (layT (rows rw_iiiii x1_0)) 5 ((x1_3).toNat * 5) = some [(i6 (y1_3_.1)), (i6 (y1_3_.2.1)), (i6 (y1_3_.2.2.1)), (i6 (y1_3_.2.2.2.1)), (i6 (y1_3_.2.2.2.2))]) (rows_rdpN rwf_iiiii (0, 0, 0, 0, 0) (hr := hy1_3) (i := (x1_3).toNat) (j := 0) ((x1_3).toNat * 5) rfl (toNatLt hy1_2) (by decide) rfl) <|
yy 24 (.app ⟨none, rows rw_iiiii (x1_2a :: x1_2t), (rows rw_iiiii ((x1_2a :: x1_2t) ++ [((y1_3_.1), (y1_3_.2.1), (y1_3_.2.2.1), (y1_3_.2.2.2.1), (y1_3_.2.2.2.2))])), (((x1_2a :: x1_2t) ++ [((y1_3_.1), (y1_3_.2.1), (y1_3_.2.2.1), (y1_3_.2.2.2.1), (y1_3_.2.2.2.2))])).length, false⟩) <|
ww (p := 0 < 1) ((by decide)) <|
ww (p := rdT (layT (rows rw_iiiii (x1_2a :: x1_2t))) (Nat.mul ((x1_2a :: x1_2t)).length 5) 0 = some (rows rw_iiiii (x1_2a :: x1_2t))) (rows_rd rwf_iiiii _ _ rfl) <|
ww (p := fits (Nat.add ((x1_2a :: x1_2t)).length 1) 40 = true) (fits_ok hy1_5 (by have := hy1_5; show (_ : Nat) + _ ≤ _; omega)) <|
ww (p := allCells [(i6 (y1_3_.1)), (i6 (y1_3_.2.1)), (i6 (y1_3_.2.2.1)), (i6 (y1_3_.2.2.2.1)), (i6 (y1_3_.2.2.2.2))] = true) (rfl) <|
ww (p := allCells (rows rw_iiiii (x1_2a :: x1_2t)) = true) (rows_cells rwf_iiiii _) <|
ww (p := rows rw_iiiii (x1_2a :: x1_2t) ++ [(i6 (y1_3_.1)), (i6 (y1_3_.2.1)), (i6 (y1_3_.2.2.1)), (i6 (y1_3_.2.2.2.1)), (i6 (y1_3_.2.2.2.2))] = (rows rw_iiiii ((x1_2a :: x1_2t) ++ [((y1_3_.1), (y1_3_.2.1), (y1_3_.2.2.1), (y1_3_.2.2.2.1), (y1_3_.2.2.2.2))]))) (rows_app rw_iiiii (x1_2a :: x1_2t) [((y1_3_.1), (y1_3_.2.1), (y1_3_.2.2.1), (y1_3_.2.2.2.1), (y1_3_.2.2.2.2))]) <|
ww (p := Nat.add ((x1_2a :: x1_2t)).length 1 = (((x1_2a :: x1_2t) ++ [((y1_3_.1), (y1_3_.2.1), (y1_3_.2.2.1), (y1_3_.2.2.2.1), (y1_3_.2.2.2.2))])).length) (by simp) <|
ww (rows_flat rwf_iiiii x1_0 37) <|
ww (rows_flat rwf_iiiii ((x1_2a :: x1_2t) ++ [((y1_3_.1), (y1_3_.2.1), (y1_3_.2.2.1), (y1_3_.2.2.2.1), (y1_3_.2.2.2.2))]) 37) <|
ee) (by kernel_rfl)
theorem q_viewportref22Dropq2_1_5 (n : Nat) {rnd : Option Nat} (x1_0 : List (Int × Int × Int × Int × Int)) (x1_1 : Int) (x1_2a : Int × Int × Int × Int × Int) (x1_2t : List (Int × Int × Int × Int × Int)) (x1_3 : Int) (hy1_1 : ¬ (x1_3 < (x1_0.length : Int))) : Q_viewportref22Dropq2_1 rnd x1_0 x1_1 ((x1_2a :: x1_2t), x1_3) (X_viewportref22Dropq2_1 x1_0 x1_1 (x1_2a :: x1_2t)) :=
 runC2 hm (L := lT []) ⟨[5], [(0, 0, true), (1, 1, true)], 2, 1⟩ (zz 5 (xdF hy1_1) <|
ww (rows_flat rwf_iiiii x1_0 37) <|
ww (rows_flat rwf_iiiii (x1_2a :: x1_2t) 37) <|
ee) (by kernel_rfl)
theorem m_viewportref22Dropq2_1_ok (n : Nat) {rnd : Option Nat} (x1_0 : List (Int × Int × Int × Int × Int)) (x1_1 : Int) (st : List (Int × Int × Int × Int × Int) × Int) (r : List (Int × Int × Int × Int × Int)) (h : m_viewportref22Dropq2_1 n x1_0 x1_1 st = some r) : CG P rnd (fnN P 9) 1 (codeOf P 9 [false, true, false, true, true]) (S_viewportref22Dropq2_1 x1_0 x1_1 st) (X_viewportref22Dropq2_1 x1_0 x1_1 r) :=
 CG.iter (b := codeOf P 9 [false, false, true, false, true, true]) (by kernel_rfl) (body := B_viewportref22Dropq2_1 n x1_0 x1_1) (S := S_viewportref22Dropq2_1 x1_0 x1_1) (X := X_viewportref22Dropq2_1 x1_0 x1_1)
  (fun s s' h => by
  obtain ⟨x1_2, x1_3⟩ := s
  unfold B_viewportref22Dropq2_1 at h
  dsimp only at h
  cases x1_2 with
  | nil =>
   dsimp only at h
   by_cases hy1_1 : x1_3 < (x1_0.length : Int)
   ·rw [if_pos hy1_1] at h
    by_cases hy1_2 : 0 ≤ x1_3 ∧ x1_3 < (x1_0.length : Int)
    ·rw [if_pos hy1_2] at h
     obtain ⟨y1_3_, hy1_3, h⟩ := Option.bind_eq_some_iff.1 h
     by_cases hy1_4 : (y1_3_.1) = x1_1
     ·rw [if_pos hy1_4] at h
      obtain rfl := Sum.inl.inj (oI h); exact q_viewportref22Dropq2_1_0 n x1_0 x1_1 x1_3 hy1_1 hy1_2 y1_3_ hy1_3 hy1_4
     ·rw [if_neg hy1_4] at h
      obtain rfl := Sum.inl.inj (oI h); exact q_viewportref22Dropq2_1_1 n x1_0 x1_1 x1_3 hy1_1 hy1_2 y1_3_ hy1_3 hy1_4
    ·rw [if_neg hy1_2] at h; cases h
   ·rw [if_neg hy1_1] at h
    cases h
  | cons x1_2a x1_2t =>
   dsimp only at h
   by_cases hy1_1 : x1_3 < (x1_0.length : Int)
   ·rw [if_pos hy1_1] at h
    by_cases hy1_2 : 0 ≤ x1_3 ∧ x1_3 < (x1_0.length : Int)
    ·rw [if_pos hy1_2] at h
     obtain ⟨y1_3_, hy1_3, h⟩ := Option.bind_eq_some_iff.1 h
     by_cases hy1_4 : (y1_3_.1) = x1_1
     ·rw [if_pos hy1_4] at h
      obtain rfl := Sum.inl.inj (oI h); exact q_viewportref22Dropq2_1_3 n x1_0 x1_1 x1_2a x1_2t x1_3 hy1_1 hy1_2 y1_3_ hy1_3 hy1_4
     ·rw [if_neg hy1_4] at h
      by_cases hy1_5 : (((x1_2a :: x1_2t)).length + 1) * 40 ≤ 140737488355328
      ·rw [if_pos hy1_5] at h
       obtain rfl := Sum.inl.inj (oI h); exact q_viewportref22Dropq2_1_4 n x1_0 x1_1 x1_2a x1_2t x1_3 hy1_1 hy1_2 y1_3_ hy1_3 hy1_4 hy1_5
      ·rw [if_neg hy1_5] at h; cases h
    ·rw [if_neg hy1_2] at h; cases h
   ·rw [if_neg hy1_1] at h
    cases h)
  (fun s r h => by
  obtain ⟨x1_2, x1_3⟩ := s
  unfold B_viewportref22Dropq2_1 at h
  dsimp only at h
  cases x1_2 with
  | nil =>
   dsimp only at h
   by_cases hy1_1 : x1_3 < (x1_0.length : Int)
   ·rw [if_pos hy1_1] at h
    by_cases hy1_2 : 0 ≤ x1_3 ∧ x1_3 < (x1_0.length : Int)
    ·rw [if_pos hy1_2] at h
     obtain ⟨y1_3_, hy1_3, h⟩ := Option.bind_eq_some_iff.1 h
     by_cases hy1_4 : (y1_3_.1) = x1_1
     ·rw [if_pos hy1_4] at h
      cases h
     ·rw [if_neg hy1_4] at h
      cases h
    ·rw [if_neg hy1_2] at h; cases h
   ·rw [if_neg hy1_1] at h
    obtain rfl := Sum.inr.inj (oI h); exact q_viewportref22Dropq2_1_2 n x1_0 x1_1 x1_3 hy1_1
  | cons x1_2a x1_2t =>
   dsimp only at h
   by_cases hy1_1 : x1_3 < (x1_0.length : Int)
   ·rw [if_pos hy1_1] at h
    by_cases hy1_2 : 0 ≤ x1_3 ∧ x1_3 < (x1_0.length : Int)
    ·rw [if_pos hy1_2] at h
     obtain ⟨y1_3_, hy1_3, h⟩ := Option.bind_eq_some_iff.1 h
     by_cases hy1_4 : (y1_3_.1) = x1_1
     ·rw [if_pos hy1_4] at h
      cases h
     ·rw [if_neg hy1_4] at h
      by_cases hy1_5 : (((x1_2a :: x1_2t)).length + 1) * 40 ≤ 140737488355328
      ·rw [if_pos hy1_5] at h
       cases h
      ·rw [if_neg hy1_5] at h; cases h
    ·rw [if_neg hy1_2] at h; cases h
   ·rw [if_neg hy1_1] at h
    obtain rfl := Sum.inr.inj (oI h); exact q_viewportref22Dropq2_1_5 n x1_0 x1_1 x1_2a x1_2t x1_3 hy1_1)
  (fun r => by intro hx; cases hx) h
def m_viewportref22Dropq2 (n : Nat) (a0 : List (Int × Int × Int × Int × Int)) (a1 : Int) : Option (List (Int × Int × Int × Int × Int)) :=
 (m_viewportref22Dropq2_1 n a0 a1 (([] : List (Int × Int × Int × Int × Int)), 0)).bind fun c1_ =>
 match c1_ with
 | [] =>
  some ([] : List (Int × Int × Int × Int × Int))
 | c1_a :: c1_t =>
  some (c1_a :: c1_t)
theorem m_viewportref22Dropq2_ok (n : Nat) (a0 : List (Int × Int × Int × Int × Int)) (a1 : Int) (r : List (Int × Int × Int × Int × Int)) (h : m_viewportref22Dropq2 n a0 a1 = some r) : Gv P (.func 9) (A_viewportref22Dropq2 a0 a1) (H_viewportref22Dropq2 a0 a1) (V_viewportref22Dropq2 a0 a1 r) (R_viewportref22Dropq2 a0 a1 r) := by
 unfold m_viewportref22Dropq2 at h
 obtain ⟨c1_, hc1, h⟩ := Option.bind_eq_some_iff.1 h
 cases c1_ with
 | nil =>
  dsimp only at h
  obtain rfl := oI h; exact (runF2 hm (L := lT [(8, ⟨⟨[0, 1, 5, 6], [(0, 0, true)], 2, 1⟩, (X_viewportref22Dropq2_1 a0 a1 ([] : List (Int × Int × Int × Int × Int))).1, (X_viewportref22Dropq2_1 a0 a1 ([] : List (Int × Int × Int × Int × Int))).2⟩)]) ⟨[4], [], 2, 1⟩ (ww (p := U_viewportref22Dropq2_1 none a0 a1 (([] : List (Int × Int × Int × Int × Int)), 0) ([] : List (Int × Int × Int × Int × Int))) (m_viewportref22Dropq2_1_ok n a0 a1 (([] : List (Int × Int × Int × Int × Int)), 0) ([] : List (Int × Int × Int × Int × Int)) hc1) <|
ww (rows_flat rwf_iiiii a0 37) ee) (by kernel_rfl))
 | cons c1_a c1_t =>
  dsimp only at h
  obtain rfl := oI h; exact (runF2 hm (L := lT [(8, ⟨⟨[0, 1, 5, 6], [(0, 0, true)], 2, 1⟩, (X_viewportref22Dropq2_1 a0 a1 (c1_a :: c1_t)).1, (X_viewportref22Dropq2_1 a0 a1 (c1_a :: c1_t)).2⟩)]) ⟨[4], [(1, 1, true)], 2, 1⟩ (ww (p := U_viewportref22Dropq2_1 none a0 a1 (([] : List (Int × Int × Int × Int × Int)), 0) (c1_a :: c1_t)) (m_viewportref22Dropq2_1_ok n a0 a1 (([] : List (Int × Int × Int × Int × Int)), 0) (c1_a :: c1_t) hc1) <|
ww (rows_flat rwf_iiiii a0 37) <|
ww (rows_flat rwf_iiiii (c1_a :: c1_t) 37) ee) (by kernel_rfl))

def A_viewportkitSameintq2 (a0 : List Int) (a1 : List Int) (a2 : Nat) (a3 : Nat) : List Value := [(sN 0 0 (a0).length (Nat.add big 1)), (sN 1 (a2 * 1) a3 (Nat.add big 1))]
def H_viewportkitSameintq2 (a0 : List Int) (a1 : List Int) (a2 : Nat) (a3 : Nat) : AH := ⟨sB [(0, (some (.cells (layT (iv a0)) 3))), (1, (some (.cells (layT (iv a1)) 3)))], 2, 2⟩
def V_viewportkitSameintq2 (a0 : List Int) (a1 : List Int) (a2 : Nat) (a3 : Nat) (r : Bool) : Value := match r with
 | o0 => (bO o0)
def R_viewportkitSameintq2 (a0 : List Int) (a1 : List Int) (a2 : Nat) (a3 : Nat) (r : Bool) : AH := match r with
 | o0 => ⟨sB [], 2, 2⟩
abbrev G_viewportkitSameintq2 (a0 : List Int) (a1 : List Int) (a2 : Nat) (a3 : Nat) (r : Bool) : Prop := Gv P (.func 8) (A_viewportkitSameintq2 a0 a1 a2 a3) (H_viewportkitSameintq2 a0 a1 a2 a3) (V_viewportkitSameintq2 a0 a1 a2 a3 r) (R_viewportkitSameintq2 a0 a1 a2 a3 r)
abbrev C_viewportkitSameintq2 (a0 : List Int) (a1 : List Int) (a2 : Nat) (a3 : Nat) (r : Bool) (ins outs : BL) : CallA := ⟨2, ins, V_viewportkitSameintq2 a0 a1 a2 a3 r, R_viewportkitSameintq2 a0 a1 a2 a3 r, outs⟩
def S_viewportkitSameintq2_1 (x1_0 : List Int) (x1_1 : List Int) (x1_2 : Nat) (x1_3 : Nat) (st : Int) : XSt := match st with
 | x1_4 => (sT 26 [(0, (sN 0 0 (x1_0).length (Nat.add big 1))), (1, (sN 1 (x1_2 * 1) x1_3 (Nat.add big 1))), (5, (i6 x1_4))], [], ⟨sB [(0, (some (.cells (layT (iv x1_0)) 3))), (1, (some (.cells (layT (iv x1_1)) 3)))], 2, 2⟩)
def X_viewportkitSameintq2_1 (x1_0 : List Int) (x1_1 : List Int) (x1_2 : Nat) (x1_3 : Nat) (r : (Unit) ⊕ (Unit)) : Ex × XSt := match r with
 | .inl _ => (.ret, (sT 26 [(4, (bO false))], [], ⟨sB [(0, (some (.cells (layT (iv x1_0)) 3))), (1, (some (.cells (layT (iv x1_1)) 3)))], 2, 2⟩))
 | .inr _ => (.exit 0, (sT 26 [], [], ⟨sB [(0, (some (.cells (layT (iv x1_0)) 3))), (1, (some (.cells (layT (iv x1_1)) 3)))], 2, 2⟩))
abbrev Q_viewportkitSameintq2_1 (rnd : Option Nat) (x1_0 : List Int) (x1_1 : List Int) (x1_2 : Nat) (x1_3 : Nat) (st : Int) (c : Ex × XSt) : Prop := CG P rnd (fnN P 8) 2 (codeOf P 8 [false, false, true, false, true, true]) (S_viewportkitSameintq2_1 x1_0 x1_1 x1_2 x1_3 st) c
abbrev U_viewportkitSameintq2_1 (rd : Option Nat) (x1_0 : List Int) (x1_1 : List Int) (x1_2 : Nat) (x1_3 : Nat) (st : Int) (r : (Unit) ⊕ (Unit)) : Prop := CG P rd (fnN P 8) 2 (codeOf P 8 [false, true, false, true, true]) (S_viewportkitSameintq2_1 x1_0 x1_1 x1_2 x1_3 st) (X_viewportkitSameintq2_1 x1_0 x1_1 x1_2 x1_3 r)
def B_viewportkitSameintq2_1 (n : Nat) (x1_0 : List Int) (x1_1 : List Int) (x1_2 : Nat) (x1_3 : Nat) (st : Int) : Option ((Int) ⊕ ((Unit) ⊕ (Unit))) := match st with
 | x1_4 =>
  if x1_4 < (x1_0.length : Int) then
   if 0 ≤ x1_4 ∧ x1_4 < (x1_0.length : Int) then
    ((some ((x1_0).getD (x1_4).toNat 0))).bind fun y1_3_ =>
    if 0 ≤ x1_4 ∧ x1_4 < ((x1_3 : Nat) : Int) then
     if ((x1_2 + (x1_4).toNat) * 1) < (x1_1).length then
      ((some ((x1_1).getD ((x1_2 + (x1_4).toNat) * 1) 0))).bind fun y1_6_ =>
      if y1_3_ = y1_6_ then
       some (.inl (w64 (x1_4 + (1 : Int))))
      else
       some (.inr (.inl ()))
     else none
    else none
   else none
  else
   some (.inr (.inr ()))
def m_viewportkitSameintq2_1 (n : Nat) (x1_0 : List Int) (x1_1 : List Int) (x1_2 : Nat) (x1_3 : Nat) (st : Int) : Option ((Unit) ⊕ (Unit)) := iterM (B_viewportkitSameintq2_1 n x1_0 x1_1 x1_2 x1_3) n st
theorem q_viewportkitSameintq2_1_0 (n : Nat) {rnd : Option Nat} (x1_0 x1_1 : List Int) (x1_2 x1_3 : Nat) (x1_4 : Int) (hy1_1 : x1_4 < (x1_0.length : Int)) (hy1_2 : 0 ≤ x1_4 ∧ x1_4 < (x1_0.length : Int)) (y1_3_ : Int) (hy1_3 : (some ((x1_0).getD (x1_4).toNat 0)) = some y1_3_) (hy1_4 : 0 ≤ x1_4 ∧ x1_4 < ((x1_3 : Nat) : Int)) (hy1_5 : ((x1_2 + (x1_4).toNat) * 1) < (x1_1).length) (y1_6_ : Int) (hy1_6 : (some ((x1_1).getD ((x1_2 + (x1_4).toNat) * 1) 0)) = some y1_6_) (hy1_7 : y1_3_ = y1_6_) : Q_viewportkitSameintq2_1 rnd x1_0 x1_1 x1_2 x1_3 x1_4 (.normal, S_viewportkitSameintq2_1 x1_0 x1_1 x1_2 x1_3 (w64 (x1_4 + (1 : Int)))) :=
 runC2 hm (L := lT []) ⟨[0, 1, 5], [(0, 0, true), (1, 1, true)], 2, 2⟩ (zz 5 (xdT hy1_1) <|
zz 12 (xk6 0 U1 hy1_2) <|
zz 13 (xivN hy1_3 (toNatLt hy1_2)) <|
yy 16 (.pur (pN 1 ((x1_2 + (x1_4).toNat) * 1))) <|
ww (p := opIndexAddr P 28 (sN 1 (x1_2 * 1) x1_3 (Nat.add big 1)) (i6 x1_4) Ax.h0 = some ((pN 1 ((x1_2 + (x1_4).toNat) * 1)), Ax.h0)) (ixSO (e := 3) (es := 1) x1_2 (by kernel_rfl) (by kernel_rfl) hy1_4) <|
zz 17 (xivN hy1_6 hy1_5) <|
zz 18 (xnF hy1_7) <|
ww (iv_flat x1_0 3) <|
ww (iv_flat x1_1 3) <|
ee) (by kernel_rfl)
theorem q_viewportkitSameintq2_1_1 (n : Nat) {rnd : Option Nat} (x1_0 x1_1 : List Int) (x1_2 x1_3 : Nat) (x1_4 : Int) (hy1_1 : x1_4 < (x1_0.length : Int)) (hy1_2 : 0 ≤ x1_4 ∧ x1_4 < (x1_0.length : Int)) (y1_3_ : Int) (hy1_3 : (some ((x1_0).getD (x1_4).toNat 0)) = some y1_3_) (hy1_4 : 0 ≤ x1_4 ∧ x1_4 < ((x1_3 : Nat) : Int)) (hy1_5 : ((x1_2 + (x1_4).toNat) * 1) < (x1_1).length) (y1_6_ : Int) (hy1_6 : (some ((x1_1).getD ((x1_2 + (x1_4).toNat) * 1) 0)) = some y1_6_) (hy1_7 : ¬ (y1_3_ = y1_6_)) : Q_viewportkitSameintq2_1 rnd x1_0 x1_1 x1_2 x1_3 x1_4 (X_viewportkitSameintq2_1 x1_0 x1_1 x1_2 x1_3 (.inl ())) :=
 runC2 hm (L := lT []) ⟨[4], [(0, 0, true), (1, 1, true)], 2, 2⟩ (zz 5 (xdT hy1_1) <|
zz 12 (xk6 0 U1 hy1_2) <|
zz 13 (xivN hy1_3 (toNatLt hy1_2)) <|
yy 16 (.pur (pN 1 ((x1_2 + (x1_4).toNat) * 1))) <|
ww (p := opIndexAddr P 28 (sN 1 (x1_2 * 1) x1_3 (Nat.add big 1)) (i6 x1_4) Ax.h0 = some ((pN 1 ((x1_2 + (x1_4).toNat) * 1)), Ax.h0)) (ixSO (e := 3) (es := 1) x1_2 (by kernel_rfl) (by kernel_rfl) hy1_4) <|
zz 17 (xivN hy1_6 hy1_5) <|
zz 18 (xnT hy1_7) <|
ww (iv_flat x1_0 3) <|
ww (iv_flat x1_1 3) <|
ee) (by kernel_rfl)
theorem q_viewportkitSameintq2_1_2 (n : Nat) {rnd : Option Nat} (x1_0 x1_1 : List Int) (x1_2 x1_3 : Nat) (x1_4 : Int) (hy1_1 : ¬ (x1_4 < (x1_0.length : Int))) : Q_viewportkitSameintq2_1 rnd x1_0 x1_1 x1_2 x1_3 x1_4 (X_viewportkitSameintq2_1 x1_0 x1_1 x1_2 x1_3 (.inr ())) :=
 runC2 hm (L := lT []) ⟨[], [(0, 0, true), (1, 1, true)], 2, 2⟩ (zz 5 (xdF hy1_1) <|
ww (iv_flat x1_0 3) <|
ww (iv_flat x1_1 3) <|
ee) (by kernel_rfl)
theorem m_viewportkitSameintq2_1_ok (n : Nat) {rnd : Option Nat} (x1_0 : List Int) (x1_1 : List Int) (x1_2 : Nat) (x1_3 : Nat) (st : Int) (r : (Unit) ⊕ (Unit)) (h : m_viewportkitSameintq2_1 n x1_0 x1_1 x1_2 x1_3 st = some r) : CG P rnd (fnN P 8) 2 (codeOf P 8 [false, true, false, true, true]) (S_viewportkitSameintq2_1 x1_0 x1_1 x1_2 x1_3 st) (X_viewportkitSameintq2_1 x1_0 x1_1 x1_2 x1_3 r) :=
 CG.iter (b := codeOf P 8 [false, false, true, false, true, true]) (by kernel_rfl) (body := B_viewportkitSameintq2_1 n x1_0 x1_1 x1_2 x1_3) (S := S_viewportkitSameintq2_1 x1_0 x1_1 x1_2 x1_3) (X := X_viewportkitSameintq2_1 x1_0 x1_1 x1_2 x1_3)
  (fun x1_4 s' h => by
  unfold B_viewportkitSameintq2_1 at h
  dsimp only at h
  by_cases hy1_1 : x1_4 < (x1_0.length : Int)
  ·rw [if_pos hy1_1] at h
   by_cases hy1_2 : 0 ≤ x1_4 ∧ x1_4 < (x1_0.length : Int)
   ·rw [if_pos hy1_2] at h
    obtain ⟨y1_3_, hy1_3, h⟩ := Option.bind_eq_some_iff.1 h
    by_cases hy1_4 : 0 ≤ x1_4 ∧ x1_4 < ((x1_3 : Nat) : Int)
    ·rw [if_pos hy1_4] at h
     by_cases hy1_5 : ((x1_2 + (x1_4).toNat) * 1) < (x1_1).length
     ·rw [if_pos hy1_5] at h
      obtain ⟨y1_6_, hy1_6, h⟩ := Option.bind_eq_some_iff.1 h
      by_cases hy1_7 : y1_3_ = y1_6_
      ·rw [if_pos hy1_7] at h
       obtain rfl := Sum.inl.inj (oI h); exact q_viewportkitSameintq2_1_0 n x1_0 x1_1 x1_2 x1_3 x1_4 hy1_1 hy1_2 y1_3_ hy1_3 hy1_4 hy1_5 y1_6_ hy1_6 hy1_7
      ·rw [if_neg hy1_7] at h
       cases h
     ·rw [if_neg hy1_5] at h; cases h
    ·rw [if_neg hy1_4] at h; cases h
   ·rw [if_neg hy1_2] at h; cases h
  ·rw [if_neg hy1_1] at h
   cases h)
  (fun x1_4 r h => by
  unfold B_viewportkitSameintq2_1 at h
  dsimp only at h
  by_cases hy1_1 : x1_4 < (x1_0.length : Int)
  ·rw [if_pos hy1_1] at h
   by_cases hy1_2 : 0 ≤ x1_4 ∧ x1_4 < (x1_0.length : Int)
   ·rw [if_pos hy1_2] at h
    obtain ⟨y1_3_, hy1_3, h⟩ := Option.bind_eq_some_iff.1 h
    by_cases hy1_4 : 0 ≤ x1_4 ∧ x1_4 < ((x1_3 : Nat) : Int)
    ·rw [if_pos hy1_4] at h
     by_cases hy1_5 : ((x1_2 + (x1_4).toNat) * 1) < (x1_1).length
     ·rw [if_pos hy1_5] at h
      obtain ⟨y1_6_, hy1_6, h⟩ := Option.bind_eq_some_iff.1 h
      by_cases hy1_7 : y1_3_ = y1_6_
      ·rw [if_pos hy1_7] at h
       cases h
      ·rw [if_neg hy1_7] at h
       obtain rfl := Sum.inr.inj (oI h); exact q_viewportkitSameintq2_1_1 n x1_0 x1_1 x1_2 x1_3 x1_4 hy1_1 hy1_2 y1_3_ hy1_3 hy1_4 hy1_5 y1_6_ hy1_6 hy1_7
     ·rw [if_neg hy1_5] at h; cases h
    ·rw [if_neg hy1_4] at h; cases h
   ·rw [if_neg hy1_2] at h; cases h
  ·rw [if_neg hy1_1] at h
   obtain rfl := Sum.inr.inj (oI h); exact q_viewportkitSameintq2_1_2 n x1_0 x1_1 x1_2 x1_3 x1_4 hy1_1)
  (fun r => by intro hx; rcases r with _ | _ <;> cases hx) h
def m_viewportkitSameintq2 (n : Nat) (a0 : List Int) (a1 : List Int) (a2 : Nat) (a3 : Nat) : Option (Bool) :=
 if (a0.length : Int) = ((a3 : Nat) : Int) then
  match m_viewportkitSameintq2_1 n a0 a1 a2 a3 0 with
  | none => none
  | some (.inl _) =>
   some false
  | some (.inr _) =>
   some true
 else
  some false
theorem m_viewportkitSameintq2_ok (n : Nat) (a0 : List Int) (a1 : List Int) (a2 : Nat) (a3 : Nat) (r : Bool) (h : m_viewportkitSameintq2 n a0 a1 a2 a3 = some r) : Gv P (.func 8) (A_viewportkitSameintq2 a0 a1 a2 a3) (H_viewportkitSameintq2 a0 a1 a2 a3) (V_viewportkitSameintq2 a0 a1 a2 a3 r) (R_viewportkitSameintq2 a0 a1 a2 a3 r) := by
 unfold m_viewportkitSameintq2 at h
 by_cases hc1 : (a0.length : Int) = ((a3 : Nat) : Int)
 ·rw [if_pos hc1] at h
  rcases hc2 : m_viewportkitSameintq2_1 n a0 a1 a2 a3 0 with _ | (⟨⟩ | ⟨⟩)
  ·rw [hc2] at h; cases h
  ·rw [hc2] at h
   dsimp only at h
   obtain rfl := oI h; exact (runF2 hm (L := lT [(14, ⟨⟨[0, 1, 5], [(0, 0, true), (1, 1, true)], 2, 2⟩, (X_viewportkitSameintq2_1 a0 a1 a2 a3 (.inl ())).1, (X_viewportkitSameintq2_1 a0 a1 a2 a3 (.inl ())).2⟩)]) ⟨[4], [], 2, 2⟩ (zz 8 (xnF hc1) <|
ww (p := U_viewportkitSameintq2_1 none a0 a1 a2 a3 0 (.inl ())) (m_viewportkitSameintq2_1_ok n a0 a1 a2 a3 0 (.inl ()) hc2) <|
ww (iv_flat a0 3) <|
ww (iv_flat a1 3) ee) (by kernel_rfl))
  ·rw [hc2] at h
   dsimp only at h
   obtain rfl := oI h; exact (runF2 hm (L := lT [(14, ⟨⟨[0, 1, 5], [(0, 0, true), (1, 1, true)], 2, 2⟩, (X_viewportkitSameintq2_1 a0 a1 a2 a3 (.inr ())).1, (X_viewportkitSameintq2_1 a0 a1 a2 a3 (.inr ())).2⟩)]) ⟨[4], [], 2, 2⟩ (zz 8 (xnF hc1) <|
ww (p := U_viewportkitSameintq2_1 none a0 a1 a2 a3 0 (.inr ())) (m_viewportkitSameintq2_1_ok n a0 a1 a2 a3 0 (.inr ()) hc2) <|
ww (iv_flat a0 3) <|
ww (iv_flat a1 3) ee) (by kernel_rfl))
 ·rw [if_neg hc1] at h
  obtain rfl := oI h; exact (runF2 hm (L := lT []) ⟨[4], [], 2, 2⟩ (zz 8 (xnT hc1) ee) (by kernel_rfl))

def A_V (g10 : Int) (g11 : Int) (g2 : Int) : List Value := [(sW 0 0 (Args.A).length Args.cA), (Value.agg #[(i6 g10), (i6 g11)]), (i6 g2)]
def H_V (g10 : Int) (g11 : Int) (g2 : Int) : AH := ⟨sB [], 0, 0⟩
def V_V (g10 : Int) (g11 : Int) (g2 : Int) (r : Unit) : Value := match r with
 | _ => (bO true)
def R_V (g10 : Int) (g11 : Int) (g2 : Int) (r : Unit) : AH := match r with
 | _ => ⟨sB [], 0, 0⟩
abbrev G_V (g10 : Int) (g11 : Int) (g2 : Int) (r : Unit) : Prop := Gv P (.func 3) (A_V g10 g11 g2) (H_V g10 g11 g2) (V_V g10 g11 g2 r) (R_V g10 g11 g2 r)
abbrev C_V (g10 : Int) (g11 : Int) (g2 : Int) (r : Unit) (ins outs : BL) : CallA := ⟨0, ins, V_V g10 g11 g2 r, R_V g10 g11 g2 r, outs⟩
def S_V_1 (x1_0 : Int) (x1_1 : Int) (x1_2 : Int) (x1_3 : List Int) (st : List (Int × Int × Int × Int × Int) × Int) : XSt := match st with
 | (x1_4, x1_5) => (sT 85 [(2, (i6 x1_0)), (4, (pN 0 0)), (7, (sN 1 0 (x1_3).length (Nat.add big 1))), (8, (slR x1_4 2 5)), (9, (i6 x1_5))], [], ⟨sB [(0, (some (.cells (layT [(i6 x1_1), (i6 x1_2)]) 24))), (1, (some (.cells (layT (iv x1_3)) 3))), (2, (nblkR rw_iiiii x1_4 37))], 3, 0⟩)
def X_V_1 (x1_0 : Int) (x1_1 : Int) (x1_2 : Int) (x1_3 : List Int) (r : List (Int × Int × Int × Int × Int)) : Ex × XSt := match r with
 | z1_0 => (.exit 0, (sT 85 [(2, (i6 x1_0)), (4, (pN 0 0)), (8, (slR z1_0 1 5))], [], ⟨sB [(0, (some (.cells (layT [(i6 x1_1), (i6 x1_2)]) 24))), (1, (nblkR rw_iiiii z1_0 37))], 2, 0⟩))
abbrev Q_V_1 (rnd : Option Nat) (x1_0 : Int) (x1_1 : Int) (x1_2 : Int) (x1_3 : List Int) (st : List (Int × Int × Int × Int × Int) × Int) (c : Ex × XSt) : Prop := CG P rnd (fnN P 3) 0 (codeOf P 3 [false, false, true, false, true, true, true, true, true, true]) (S_V_1 x1_0 x1_1 x1_2 x1_3 st) c
abbrev U_V_1 (rd : Option Nat) (x1_0 : Int) (x1_1 : Int) (x1_2 : Int) (x1_3 : List Int) (st : List (Int × Int × Int × Int × Int) × Int) (r : List (Int × Int × Int × Int × Int)) : Prop := CG P rd (fnN P 3) 0 (codeOf P 3 [false, true, false, true, true, true, true, true, true]) (S_V_1 x1_0 x1_1 x1_2 x1_3 st) (X_V_1 x1_0 x1_1 x1_2 x1_3 r)
def B_V_1 (n : Nat) (x1_0 : Int) (x1_1 : Int) (x1_2 : Int) (x1_3 : List Int) (st : List (Int × Int × Int × Int × Int) × Int) : Option ((List (Int × Int × Int × Int × Int) × Int) ⊕ (List (Int × Int × Int × Int × Int))) := match st with
 | (x1_4, x1_5) =>
  match x1_4 with
  | [] =>
   if x1_5 < (x1_3.length : Int) then
    none
   else
    some (.inr ([] : List (Int × Int × Int × Int × Int)))
  | x1_4a :: x1_4t =>
   if x1_5 < (x1_3.length : Int) then
    (m_jobsNextq3 n (x1_4a :: x1_4t) x1_1 x1_2 x1_0).bind fun t => match t with
    | (y1_2_0, y1_2_1) =>
     if y1_2_1 = true then
      if 0 ≤ x1_5 ∧ x1_5 < (x1_3.length : Int) then
       ((some ((x1_3).getD (x1_5).toNat 0))).bind fun y1_5_ =>
       if y1_2_0 = y1_5_ then
        (m_jobsOrderq2 n (x1_4a :: x1_4t) x1_1 x1_2 x1_0).bind fun y1_7_ =>
        match y1_7_ with
        | [] =>
         if 0 ≤ x1_5 ∧ x1_5 ≤ (x1_3.length : Int) then
          (m_viewportkitSameintq1 n x1_3 ((x1_5).toNat) ((x1_3).length - (x1_5).toNat)).bind fun y1_9_ =>
          if y1_9_ = true then
           (m_viewportref22Dropq2 n (x1_4a :: x1_4t) y1_2_0).bind fun y1_11_ =>
           match y1_11_ with
           | [] =>
            some (.inl (([] : List (Int × Int × Int × Int × Int)), (w64 (x1_5 + (1 : Int)))))
           | y1_11_a :: y1_11_t =>
            some (.inl ((y1_11_a :: y1_11_t), (w64 (x1_5 + (1 : Int)))))
          else
           none
         else none
        | y1_7_a :: y1_7_t =>
         if 0 ≤ x1_5 ∧ x1_5 ≤ (x1_3.length : Int) then
          (m_viewportkitSameintq2 n (y1_7_a :: y1_7_t) x1_3 ((x1_5).toNat) ((x1_3).length - (x1_5).toNat)).bind fun y1_9_ =>
          if y1_9_ = true then
           (m_viewportref22Dropq2 n (x1_4a :: x1_4t) y1_2_0).bind fun y1_11_ =>
           match y1_11_ with
           | [] =>
            some (.inl (([] : List (Int × Int × Int × Int × Int)), (w64 (x1_5 + (1 : Int)))))
           | y1_11_a :: y1_11_t =>
            some (.inl ((y1_11_a :: y1_11_t), (w64 (x1_5 + (1 : Int)))))
          else
           none
         else none
       else
        none
      else none
     else
      none
   else
    some (.inr (x1_4a :: x1_4t))
def m_V_1 (n : Nat) (x1_0 : Int) (x1_1 : Int) (x1_2 : Int) (x1_3 : List Int) (st : List (Int × Int × Int × Int × Int) × Int) : Option (List (Int × Int × Int × Int × Int)) := iterM (B_V_1 n x1_0 x1_1 x1_2 x1_3) n st
theorem q_V_1_0 (n : Nat) {rnd : Option Nat} (x1_0 x1_1 x1_2 : Int) (x1_3 : List Int) (x1_5 : Int) (hy1_1 : ¬ (x1_5 < (x1_3.length : Int))) : Q_V_1 rnd x1_0 x1_1 x1_2 x1_3 (([] : List (Int × Int × Int × Int × Int)), x1_5) (X_V_1 x1_0 x1_1 x1_2 x1_3 ([] : List (Int × Int × Int × Int × Int))) :=
 runC2 hm (L := lT []) ⟨[2, 4, 8], [(0, 0, false)], 2, 0⟩ (zz 5 (xdF hy1_1) <|
ee) (by kernel_rfl)
theorem q_V_1_1 (n : Nat) {rnd : Option Nat} (x1_0 x1_1 x1_2 : Int) (x1_3 : List Int) (x1_4a : Int × Int × Int × Int × Int) (x1_4t : List (Int × Int × Int × Int × Int)) (x1_5 : Int) (hy1_1 : x1_5 < (x1_3.length : Int)) (y1_2_0 : Int) (y1_2_1 : Bool) (hy1_2 : m_jobsNextq3 n (x1_4a :: x1_4t) x1_1 x1_2 x1_0 = some (y1_2_0, y1_2_1)) (hy1_3 : y1_2_1 = true) (hy1_4 : 0 ≤ x1_5 ∧ x1_5 < (x1_3.length : Int)) (y1_5_ : Int) (hy1_5 : (some ((x1_3).getD (x1_5).toNat 0)) = some y1_5_) (hy1_6 : y1_2_0 = y1_5_) (hy1_7 : m_jobsOrderq2 n (x1_4a :: x1_4t) x1_1 x1_2 x1_0 = some []) (hy1_8 : 0 ≤ x1_5 ∧ x1_5 ≤ (x1_3.length : Int)) (y1_9_ : Bool) (hy1_9 : m_viewportkitSameintq1 n x1_3 ((x1_5).toNat) ((x1_3).length - (x1_5).toNat) = some y1_9_) (hy1_10 : y1_9_ = true) (hy1_11 : m_viewportref22Dropq2 n (x1_4a :: x1_4t) y1_2_0 = some []) : Q_V_1 rnd x1_0 x1_1 x1_2 x1_3 ((x1_4a :: x1_4t), x1_5) (.normal, S_V_1 x1_0 x1_1 x1_2 x1_3 (([] : List (Int × Int × Int × Int × Int)), (w64 (x1_5 + (1 : Int))))) :=
 runC2 hm (L := lT []) ⟨[2, 4, 7, 8, 9], [(0, 0, false), (1, 1, true)], 3, 0⟩ (zz 5 (xdT hy1_1) <|
yy 13 (.call (C_jobsNextq3 (x1_4a :: x1_4t) x1_1 x1_2 x1_0 (y1_2_0, y1_2_1) [(0, 2, true)] [])) <|
ww (m_jobsNextq3_ok n (x1_4a :: x1_4t) x1_1 x1_2 x1_0 (y1_2_0, y1_2_1) hy1_2) <|
ww (rows_flat rwf_iiiii (x1_4a :: x1_4t) 37) <|
yy 22 (vf) <|
ww (p := (Value.bool (!y1_2_1)) = (Value.bool false)) (vBn hy1_3) <|
zz 27 (xk6 1 U1 hy1_4) <|
zz 28 (xivN hy1_5 (toNatLt hy1_4)) <|
zz 29 (xnF hy1_6) <|
yy 35 (.call (C_jobsOrderq2 (x1_4a :: x1_4t) x1_1 x1_2 x1_0 ([] : List Int) [(0, 2, true)] [])) <|
ww (m_jobsOrderq2_ok n (x1_4a :: x1_4t) x1_1 x1_2 x1_0 ([] : List Int) hy1_7) <|
ww (rows_flat rwf_iiiii (x1_4a :: x1_4t) 37) <|
yy 38 (.pur (sN 1 ((x1_5).toNat * 1) ((x1_3).length - (x1_5).toNat) (Nat.add big 1))) <|
ww (p := opSlice P 28 (sN 1 0 (x1_3).length (Nat.add big 1)) (some (i6 x1_5)) none none Ax.h0 = some ((sN 1 ((x1_5).toNat * 1) ((x1_3).length - (x1_5).toNat) (Nat.add big 1)), Ax.h0)) (slRow (e := 3) (es := 1) (by kernel_rfl) (by kernel_rfl) rfl rfl hy1_8) <|
yy 39 (.call (C_viewportkitSameintq1 x1_3 ((x1_5).toNat) ((x1_3).length - (x1_5).toNat) y1_9_ [(0, 1, true)] [])) <|
ww (m_viewportkitSameintq1_ok n x1_3 ((x1_5).toNat) ((x1_3).length - (x1_5).toNat) y1_9_ hy1_9) <|
ww (iv_flat x1_3 3) <|
yy 40 (vf) <|
ww (p := (Value.bool (!y1_9_)) = (Value.bool false)) (vBn hy1_10) <|
yy 45 (.call (C_viewportref22Dropq2 (x1_4a :: x1_4t) y1_2_0 ([] : List (Int × Int × Int × Int × Int)) [(0, 2, true)] [])) <|
ww (m_viewportref22Dropq2_ok n (x1_4a :: x1_4t) y1_2_0 ([] : List (Int × Int × Int × Int × Int)) hy1_11) <|
ww (rows_flat rwf_iiiii (x1_4a :: x1_4t) 37) <|
ww (iv_flat x1_3 3) <|
ee) (by kernel_rfl)
theorem q_V_1_2 (n : Nat) {rnd : Option Nat} (x1_0 x1_1 x1_2 : Int) (x1_3 : List Int) (x1_4a : Int × Int × Int × Int × Int) (x1_4t : List (Int × Int × Int × Int × Int)) (x1_5 : Int) (hy1_1 : x1_5 < (x1_3.length : Int)) (y1_2_0 : Int) (y1_2_1 : Bool) (hy1_2 : m_jobsNextq3 n (x1_4a :: x1_4t) x1_1 x1_2 x1_0 = some (y1_2_0, y1_2_1)) (hy1_3 : y1_2_1 = true) (hy1_4 : 0 ≤ x1_5 ∧ x1_5 < (x1_3.length : Int)) (y1_5_ : Int) (hy1_5 : (some ((x1_3).getD (x1_5).toNat 0)) = some y1_5_) (hy1_6 : y1_2_0 = y1_5_) (hy1_7 : m_jobsOrderq2 n (x1_4a :: x1_4t) x1_1 x1_2 x1_0 = some []) (hy1_8 : 0 ≤ x1_5 ∧ x1_5 ≤ (x1_3.length : Int)) (y1_9_ : Bool) (hy1_9 : m_viewportkitSameintq1 n x1_3 ((x1_5).toNat) ((x1_3).length - (x1_5).toNat) = some y1_9_) (hy1_10 : y1_9_ = true) (y1_11_a : Int × Int × Int × Int × Int) (y1_11_t : List (Int × Int × Int × Int × Int)) (hy1_11 : m_viewportref22Dropq2 n (x1_4a :: x1_4t) y1_2_0 = some (y1_11_a :: y1_11_t)) : Q_V_1 rnd x1_0 x1_1 x1_2 x1_3 ((x1_4a :: x1_4t), x1_5) (.normal, S_V_1 x1_0 x1_1 x1_2 x1_3 ((y1_11_a :: y1_11_t), (w64 (x1_5 + (1 : Int))))) :=
 runC2 hm (L := lT []) ⟨[2, 4, 7, 8, 9], [(0, 0, false), (1, 1, true), (2, 5, true)], 3, 0⟩ (zz 5 (xdT hy1_1) <|
yy 13 (.call (C_jobsNextq3 (x1_4a :: x1_4t) x1_1 x1_2 x1_0 (y1_2_0, y1_2_1) [(0, 2, true)] [])) <|
ww (m_jobsNextq3_ok n (x1_4a :: x1_4t) x1_1 x1_2 x1_0 (y1_2_0, y1_2_1) hy1_2) <|
ww (rows_flat rwf_iiiii (x1_4a :: x1_4t) 37) <|
yy 22 (vf) <|
ww (p := (Value.bool (!y1_2_1)) = (Value.bool false)) (vBn hy1_3) <|
zz 27 (xk6 1 U1 hy1_4) <|
zz 28 (xivN hy1_5 (toNatLt hy1_4)) <|
zz 29 (xnF hy1_6) <|
yy 35 (.call (C_jobsOrderq2 (x1_4a :: x1_4t) x1_1 x1_2 x1_0 ([] : List Int) [(0, 2, true)] [])) <|
ww (m_jobsOrderq2_ok n (x1_4a :: x1_4t) x1_1 x1_2 x1_0 ([] : List Int) hy1_7) <|
ww (rows_flat rwf_iiiii (x1_4a :: x1_4t) 37) <|
yy 38 (.pur (sN 1 ((x1_5).toNat * 1) ((x1_3).length - (x1_5).toNat) (Nat.add big 1))) <|
ww (p := opSlice P 28 (sN 1 0 (x1_3).length (Nat.add big 1)) (some (i6 x1_5)) none none Ax.h0 = some ((sN 1 ((x1_5).toNat * 1) ((x1_3).length - (x1_5).toNat) (Nat.add big 1)), Ax.h0)) (slRow (e := 3) (es := 1) (by kernel_rfl) (by kernel_rfl) rfl rfl hy1_8) <|
yy 39 (.call (C_viewportkitSameintq1 x1_3 ((x1_5).toNat) ((x1_3).length - (x1_5).toNat) y1_9_ [(0, 1, true)] [])) <|
ww (m_viewportkitSameintq1_ok n x1_3 ((x1_5).toNat) ((x1_3).length - (x1_5).toNat) y1_9_ hy1_9) <|
ww (iv_flat x1_3 3) <|
yy 40 (vf) <|
ww (p := (Value.bool (!y1_9_)) = (Value.bool false)) (vBn hy1_10) <|
yy 45 (.call (C_viewportref22Dropq2 (x1_4a :: x1_4t) y1_2_0 (y1_11_a :: y1_11_t) [(0, 2, true)] [(5, 1, true)])) <|
ww (m_viewportref22Dropq2_ok n (x1_4a :: x1_4t) y1_2_0 (y1_11_a :: y1_11_t) hy1_11) <|
ww (rows_flat rwf_iiiii (x1_4a :: x1_4t) 37) <|
ww (rows_flat rwf_iiiii (y1_11_a :: y1_11_t) 37) <|
ww (iv_flat x1_3 3) <|
ww (rows_flat rwf_iiiii (y1_11_a :: y1_11_t) 37) <|
ee) (by kernel_rfl)
theorem q_V_1_3 (n : Nat) {rnd : Option Nat} (x1_0 x1_1 x1_2 : Int) (x1_3 : List Int) (x1_4a : Int × Int × Int × Int × Int) (x1_4t : List (Int × Int × Int × Int × Int)) (x1_5 : Int) (hy1_1 : x1_5 < (x1_3.length : Int)) (y1_2_0 : Int) (y1_2_1 : Bool) (hy1_2 : m_jobsNextq3 n (x1_4a :: x1_4t) x1_1 x1_2 x1_0 = some (y1_2_0, y1_2_1)) (hy1_3 : y1_2_1 = true) (hy1_4 : 0 ≤ x1_5 ∧ x1_5 < (x1_3.length : Int)) (y1_5_ : Int) (hy1_5 : (some ((x1_3).getD (x1_5).toNat 0)) = some y1_5_) (hy1_6 : y1_2_0 = y1_5_) (y1_7_a : Int) (y1_7_t : List (Int)) (hy1_7 : m_jobsOrderq2 n (x1_4a :: x1_4t) x1_1 x1_2 x1_0 = some (y1_7_a :: y1_7_t)) (hy1_8 : 0 ≤ x1_5 ∧ x1_5 ≤ (x1_3.length : Int)) (y1_9_ : Bool) (hy1_9 : m_viewportkitSameintq2 n (y1_7_a :: y1_7_t) x1_3 ((x1_5).toNat) ((x1_3).length - (x1_5).toNat) = some y1_9_) (hy1_10 : y1_9_ = true) (hy1_11 : m_viewportref22Dropq2 n (x1_4a :: x1_4t) y1_2_0 = some []) : Q_V_1 rnd x1_0 x1_1 x1_2 x1_3 ((x1_4a :: x1_4t), x1_5) (.normal, S_V_1 x1_0 x1_1 x1_2 x1_3 (([] : List (Int × Int × Int × Int × Int)), (w64 (x1_5 + (1 : Int))))) :=
 runC2 hm (L := lT []) ⟨[2, 4, 7, 8, 9], [(0, 0, false), (1, 1, true)], 3, 0⟩ (zz 5 (xdT hy1_1) <|
yy 13 (.call (C_jobsNextq3 (x1_4a :: x1_4t) x1_1 x1_2 x1_0 (y1_2_0, y1_2_1) [(0, 2, true)] [])) <|
ww (m_jobsNextq3_ok n (x1_4a :: x1_4t) x1_1 x1_2 x1_0 (y1_2_0, y1_2_1) hy1_2) <|
ww (rows_flat rwf_iiiii (x1_4a :: x1_4t) 37) <|
yy 22 (vf) <|
ww (p := (Value.bool (!y1_2_1)) = (Value.bool false)) (vBn hy1_3) <|
zz 27 (xk6 1 U1 hy1_4) <|
zz 28 (xivN hy1_5 (toNatLt hy1_4)) <|
zz 29 (xnF hy1_6) <|
yy 35 (.call (C_jobsOrderq2 (x1_4a :: x1_4t) x1_1 x1_2 x1_0 (y1_7_a :: y1_7_t) [(0, 2, true)] [(4, 2, true)])) <|
ww (m_jobsOrderq2_ok n (x1_4a :: x1_4t) x1_1 x1_2 x1_0 (y1_7_a :: y1_7_t) hy1_7) <|
ww (rows_flat rwf_iiiii (x1_4a :: x1_4t) 37) <|
ww (iv_flat (y1_7_a :: y1_7_t) 3) <|
yy 38 (.pur (sN 1 ((x1_5).toNat * 1) ((x1_3).length - (x1_5).toNat) (Nat.add big 1))) <|
ww (p := opSlice P 28 (sN 1 0 (x1_3).length (Nat.add big 1)) (some (i6 x1_5)) none none Ax.h0 = some ((sN 1 ((x1_5).toNat * 1) ((x1_3).length - (x1_5).toNat) (Nat.add big 1)), Ax.h0)) (slRow (e := 3) (es := 1) (by kernel_rfl) (by kernel_rfl) rfl rfl hy1_8) <|
yy 39 (.call (C_viewportkitSameintq2 (y1_7_a :: y1_7_t) x1_3 ((x1_5).toNat) ((x1_3).length - (x1_5).toNat) y1_9_ [(0, 4, true), (1, 1, true)] [])) <|
ww (m_viewportkitSameintq2_ok n (y1_7_a :: y1_7_t) x1_3 ((x1_5).toNat) ((x1_3).length - (x1_5).toNat) y1_9_ hy1_9) <|
ww (iv_flat (y1_7_a :: y1_7_t) 3) <|
ww (iv_flat x1_3 3) <|
yy 40 (vf) <|
ww (p := (Value.bool (!y1_9_)) = (Value.bool false)) (vBn hy1_10) <|
yy 45 (.call (C_viewportref22Dropq2 (x1_4a :: x1_4t) y1_2_0 ([] : List (Int × Int × Int × Int × Int)) [(0, 2, true)] [])) <|
ww (m_viewportref22Dropq2_ok n (x1_4a :: x1_4t) y1_2_0 ([] : List (Int × Int × Int × Int × Int)) hy1_11) <|
ww (rows_flat rwf_iiiii (x1_4a :: x1_4t) 37) <|
ww (iv_flat x1_3 3) <|
ee) (by kernel_rfl)
theorem q_V_1_4 (n : Nat) {rnd : Option Nat} (x1_0 x1_1 x1_2 : Int) (x1_3 : List Int) (x1_4a : Int × Int × Int × Int × Int) (x1_4t : List (Int × Int × Int × Int × Int)) (x1_5 : Int) (hy1_1 : x1_5 < (x1_3.length : Int)) (y1_2_0 : Int) (y1_2_1 : Bool) (hy1_2 : m_jobsNextq3 n (x1_4a :: x1_4t) x1_1 x1_2 x1_0 = some (y1_2_0, y1_2_1)) (hy1_3 : y1_2_1 = true) (hy1_4 : 0 ≤ x1_5 ∧ x1_5 < (x1_3.length : Int)) (y1_5_ : Int) (hy1_5 : (some ((x1_3).getD (x1_5).toNat 0)) = some y1_5_) (hy1_6 : y1_2_0 = y1_5_) (y1_7_a : Int) (y1_7_t : List (Int)) (hy1_7 : m_jobsOrderq2 n (x1_4a :: x1_4t) x1_1 x1_2 x1_0 = some (y1_7_a :: y1_7_t)) (hy1_8 : 0 ≤ x1_5 ∧ x1_5 ≤ (x1_3.length : Int)) (y1_9_ : Bool) (hy1_9 : m_viewportkitSameintq2 n (y1_7_a :: y1_7_t) x1_3 ((x1_5).toNat) ((x1_3).length - (x1_5).toNat) = some y1_9_) (hy1_10 : y1_9_ = true) (y1_11_a : Int × Int × Int × Int × Int) (y1_11_t : List (Int × Int × Int × Int × Int)) (hy1_11 : m_viewportref22Dropq2 n (x1_4a :: x1_4t) y1_2_0 = some (y1_11_a :: y1_11_t)) : Q_V_1 rnd x1_0 x1_1 x1_2 x1_3 ((x1_4a :: x1_4t), x1_5) (.normal, S_V_1 x1_0 x1_1 x1_2 x1_3 ((y1_11_a :: y1_11_t), (w64 (x1_5 + (1 : Int))))) :=
 runC2 hm (L := lT []) ⟨[2, 4, 7, 8, 9], [(0, 0, false), (1, 1, true), (2, 5, true)], 3, 0⟩ (zz 5 (xdT hy1_1) <|
yy 13 (.call (C_jobsNextq3 (x1_4a :: x1_4t) x1_1 x1_2 x1_0 (y1_2_0, y1_2_1) [(0, 2, true)] [])) <|
ww (m_jobsNextq3_ok n (x1_4a :: x1_4t) x1_1 x1_2 x1_0 (y1_2_0, y1_2_1) hy1_2) <|
ww (rows_flat rwf_iiiii (x1_4a :: x1_4t) 37) <|
yy 22 (vf) <|
ww (p := (Value.bool (!y1_2_1)) = (Value.bool false)) (vBn hy1_3) <|
zz 27 (xk6 1 U1 hy1_4) <|
zz 28 (xivN hy1_5 (toNatLt hy1_4)) <|
zz 29 (xnF hy1_6) <|
yy 35 (.call (C_jobsOrderq2 (x1_4a :: x1_4t) x1_1 x1_2 x1_0 (y1_7_a :: y1_7_t) [(0, 2, true)] [(4, 2, true)])) <|
ww (m_jobsOrderq2_ok n (x1_4a :: x1_4t) x1_1 x1_2 x1_0 (y1_7_a :: y1_7_t) hy1_7) <|
ww (rows_flat rwf_iiiii (x1_4a :: x1_4t) 37) <|
ww (iv_flat (y1_7_a :: y1_7_t) 3) <|
yy 38 (.pur (sN 1 ((x1_5).toNat * 1) ((x1_3).length - (x1_5).toNat) (Nat.add big 1))) <|
ww (p := opSlice P 28 (sN 1 0 (x1_3).length (Nat.add big 1)) (some (i6 x1_5)) none none Ax.h0 = some ((sN 1 ((x1_5).toNat * 1) ((x1_3).length - (x1_5).toNat) (Nat.add big 1)), Ax.h0)) (slRow (e := 3) (es := 1) (by kernel_rfl) (by kernel_rfl) rfl rfl hy1_8) <|
yy 39 (.call (C_viewportkitSameintq2 (y1_7_a :: y1_7_t) x1_3 ((x1_5).toNat) ((x1_3).length - (x1_5).toNat) y1_9_ [(0, 4, true), (1, 1, true)] [])) <|
ww (m_viewportkitSameintq2_ok n (y1_7_a :: y1_7_t) x1_3 ((x1_5).toNat) ((x1_3).length - (x1_5).toNat) y1_9_ hy1_9) <|
ww (iv_flat (y1_7_a :: y1_7_t) 3) <|
ww (iv_flat x1_3 3) <|
yy 40 (vf) <|
ww (p := (Value.bool (!y1_9_)) = (Value.bool false)) (vBn hy1_10) <|
yy 45 (.call (C_viewportref22Dropq2 (x1_4a :: x1_4t) y1_2_0 (y1_11_a :: y1_11_t) [(0, 2, true)] [(5, 1, true)])) <|
ww (m_viewportref22Dropq2_ok n (x1_4a :: x1_4t) y1_2_0 (y1_11_a :: y1_11_t) hy1_11) <|
ww (rows_flat rwf_iiiii (x1_4a :: x1_4t) 37) <|
ww (rows_flat rwf_iiiii (y1_11_a :: y1_11_t) 37) <|
ww (iv_flat x1_3 3) <|
ww (rows_flat rwf_iiiii (y1_11_a :: y1_11_t) 37) <|
ee) (by kernel_rfl)
theorem q_V_1_5 (n : Nat) {rnd : Option Nat} (x1_0 x1_1 x1_2 : Int) (x1_3 : List Int) (x1_4a : Int × Int × Int × Int × Int) (x1_4t : List (Int × Int × Int × Int × Int)) (x1_5 : Int) (hy1_1 : ¬ (x1_5 < (x1_3.length : Int))) : Q_V_1 rnd x1_0 x1_1 x1_2 x1_3 ((x1_4a :: x1_4t), x1_5) (X_V_1 x1_0 x1_1 x1_2 x1_3 (x1_4a :: x1_4t)) :=
 runC2 hm (L := lT []) ⟨[2, 4, 8], [(0, 0, false), (1, 2, true)], 2, 0⟩ (zz 5 (xdF hy1_1) <|
ww (rows_flat rwf_iiiii (x1_4a :: x1_4t) 37) <|
ee) (by kernel_rfl)
theorem m_V_1_ok (n : Nat) {rnd : Option Nat} (x1_0 : Int) (x1_1 : Int) (x1_2 : Int) (x1_3 : List Int) (st : List (Int × Int × Int × Int × Int) × Int) (r : List (Int × Int × Int × Int × Int)) (h : m_V_1 n x1_0 x1_1 x1_2 x1_3 st = some r) : LG P rnd (fnN P 3) 0 (codeOf P 3 [false, false, true, false, true, true, true, true, true, true]) (S_V_1 x1_0 x1_1 x1_2 x1_3 st) (X_V_1 x1_0 x1_1 x1_2 x1_3 r) :=
 LG.iter (body := B_V_1 n x1_0 x1_1 x1_2 x1_3) (S := S_V_1 x1_0 x1_1 x1_2 x1_3) (X := X_V_1 x1_0 x1_1 x1_2 x1_3)
  (fun s s' h => by
  obtain ⟨x1_4, x1_5⟩ := s
  unfold B_V_1 at h
  dsimp only at h
  cases x1_4 with
  | nil =>
   dsimp only at h
   by_cases hy1_1 : x1_5 < (x1_3.length : Int)
   ·rw [if_pos hy1_1] at h
    cases h
   ·rw [if_neg hy1_1] at h
    cases h
  | cons x1_4a x1_4t =>
   dsimp only at h
   by_cases hy1_1 : x1_5 < (x1_3.length : Int)
   ·rw [if_pos hy1_1] at h
    obtain ⟨⟨y1_2_0, y1_2_1⟩, hy1_2, h⟩ := Option.bind_eq_some_iff.1 h
    dsimp only at h
    by_cases hy1_3 : y1_2_1 = true
    ·rw [if_pos hy1_3] at h
     by_cases hy1_4 : 0 ≤ x1_5 ∧ x1_5 < (x1_3.length : Int)
     ·rw [if_pos hy1_4] at h
      obtain ⟨y1_5_, hy1_5, h⟩ := Option.bind_eq_some_iff.1 h
      by_cases hy1_6 : y1_2_0 = y1_5_
      ·rw [if_pos hy1_6] at h
       obtain ⟨y1_7_, hy1_7, h⟩ := Option.bind_eq_some_iff.1 h
       cases y1_7_ with
       | nil =>
        dsimp only at h
        by_cases hy1_8 : 0 ≤ x1_5 ∧ x1_5 ≤ (x1_3.length : Int)
        ·rw [if_pos hy1_8] at h
         obtain ⟨y1_9_, hy1_9, h⟩ := Option.bind_eq_some_iff.1 h
         by_cases hy1_10 : y1_9_ = true
         ·rw [if_pos hy1_10] at h
          obtain ⟨y1_11_, hy1_11, h⟩ := Option.bind_eq_some_iff.1 h
          cases y1_11_ with
          | nil =>
           dsimp only at h
           obtain rfl := Sum.inl.inj (oI h); exact q_V_1_1 n x1_0 x1_1 x1_2 x1_3 x1_4a x1_4t x1_5 hy1_1 y1_2_0 y1_2_1 hy1_2 hy1_3 hy1_4 y1_5_ hy1_5 hy1_6 hy1_7 hy1_8 y1_9_ hy1_9 hy1_10 hy1_11
          | cons y1_11_a y1_11_t =>
           dsimp only at h
           obtain rfl := Sum.inl.inj (oI h); exact q_V_1_2 n x1_0 x1_1 x1_2 x1_3 x1_4a x1_4t x1_5 hy1_1 y1_2_0 y1_2_1 hy1_2 hy1_3 hy1_4 y1_5_ hy1_5 hy1_6 hy1_7 hy1_8 y1_9_ hy1_9 hy1_10 y1_11_a y1_11_t hy1_11
         ·rw [if_neg hy1_10] at h
          cases h
        ·rw [if_neg hy1_8] at h; cases h
       | cons y1_7_a y1_7_t =>
        dsimp only at h
        by_cases hy1_8 : 0 ≤ x1_5 ∧ x1_5 ≤ (x1_3.length : Int)
        ·rw [if_pos hy1_8] at h
         obtain ⟨y1_9_, hy1_9, h⟩ := Option.bind_eq_some_iff.1 h
         by_cases hy1_10 : y1_9_ = true
         ·rw [if_pos hy1_10] at h
          obtain ⟨y1_11_, hy1_11, h⟩ := Option.bind_eq_some_iff.1 h
          cases y1_11_ with
          | nil =>
           dsimp only at h
           obtain rfl := Sum.inl.inj (oI h); exact q_V_1_3 n x1_0 x1_1 x1_2 x1_3 x1_4a x1_4t x1_5 hy1_1 y1_2_0 y1_2_1 hy1_2 hy1_3 hy1_4 y1_5_ hy1_5 hy1_6 y1_7_a y1_7_t hy1_7 hy1_8 y1_9_ hy1_9 hy1_10 hy1_11
          | cons y1_11_a y1_11_t =>
           dsimp only at h
           obtain rfl := Sum.inl.inj (oI h); exact q_V_1_4 n x1_0 x1_1 x1_2 x1_3 x1_4a x1_4t x1_5 hy1_1 y1_2_0 y1_2_1 hy1_2 hy1_3 hy1_4 y1_5_ hy1_5 hy1_6 y1_7_a y1_7_t hy1_7 hy1_8 y1_9_ hy1_9 hy1_10 y1_11_a y1_11_t hy1_11
         ·rw [if_neg hy1_10] at h
          cases h
        ·rw [if_neg hy1_8] at h; cases h
      ·rw [if_neg hy1_6] at h
       cases h
     ·rw [if_neg hy1_4] at h; cases h
    ·rw [if_neg hy1_3] at h
     cases h
   ·rw [if_neg hy1_1] at h
    cases h)
  (fun s r h => by
  obtain ⟨x1_4, x1_5⟩ := s
  unfold B_V_1 at h
  dsimp only at h
  cases x1_4 with
  | nil =>
   dsimp only at h
   by_cases hy1_1 : x1_5 < (x1_3.length : Int)
   ·rw [if_pos hy1_1] at h
    cases h
   ·rw [if_neg hy1_1] at h
    obtain rfl := Sum.inr.inj (oI h); exact q_V_1_0 n x1_0 x1_1 x1_2 x1_3 x1_5 hy1_1
  | cons x1_4a x1_4t =>
   dsimp only at h
   by_cases hy1_1 : x1_5 < (x1_3.length : Int)
   ·rw [if_pos hy1_1] at h
    obtain ⟨⟨y1_2_0, y1_2_1⟩, hy1_2, h⟩ := Option.bind_eq_some_iff.1 h
    dsimp only at h
    by_cases hy1_3 : y1_2_1 = true
    ·rw [if_pos hy1_3] at h
     by_cases hy1_4 : 0 ≤ x1_5 ∧ x1_5 < (x1_3.length : Int)
     ·rw [if_pos hy1_4] at h
      obtain ⟨y1_5_, hy1_5, h⟩ := Option.bind_eq_some_iff.1 h
      by_cases hy1_6 : y1_2_0 = y1_5_
      ·rw [if_pos hy1_6] at h
       obtain ⟨y1_7_, hy1_7, h⟩ := Option.bind_eq_some_iff.1 h
       cases y1_7_ with
       | nil =>
        dsimp only at h
        by_cases hy1_8 : 0 ≤ x1_5 ∧ x1_5 ≤ (x1_3.length : Int)
        ·rw [if_pos hy1_8] at h
         obtain ⟨y1_9_, hy1_9, h⟩ := Option.bind_eq_some_iff.1 h
         by_cases hy1_10 : y1_9_ = true
         ·rw [if_pos hy1_10] at h
          obtain ⟨y1_11_, hy1_11, h⟩ := Option.bind_eq_some_iff.1 h
          cases y1_11_ with
          | nil =>
           dsimp only at h
           cases h
          | cons y1_11_a y1_11_t =>
           dsimp only at h
           cases h
         ·rw [if_neg hy1_10] at h
          cases h
        ·rw [if_neg hy1_8] at h; cases h
       | cons y1_7_a y1_7_t =>
        dsimp only at h
        by_cases hy1_8 : 0 ≤ x1_5 ∧ x1_5 ≤ (x1_3.length : Int)
        ·rw [if_pos hy1_8] at h
         obtain ⟨y1_9_, hy1_9, h⟩ := Option.bind_eq_some_iff.1 h
         by_cases hy1_10 : y1_9_ = true
         ·rw [if_pos hy1_10] at h
          obtain ⟨y1_11_, hy1_11, h⟩ := Option.bind_eq_some_iff.1 h
          cases y1_11_ with
          | nil =>
           dsimp only at h
           cases h
          | cons y1_11_a y1_11_t =>
           dsimp only at h
           cases h
         ·rw [if_neg hy1_10] at h
          cases h
        ·rw [if_neg hy1_8] at h; cases h
      ·rw [if_neg hy1_6] at h
       cases h
     ·rw [if_neg hy1_4] at h; cases h
    ·rw [if_neg hy1_3] at h
     cases h
   ·rw [if_neg hy1_1] at h
    obtain rfl := Sum.inr.inj (oI h); exact q_V_1_5 n x1_0 x1_1 x1_2 x1_3 x1_4a x1_4t x1_5 hy1_1)
  (fun r => by intro hx; cases hx) _ _ _ h
def m_V (n : Nat) (g10 : Int) (g11 : Int) (g2 : Int) : Option (Unit) :=
 (m_viewportlaw24lives n).bind fun _ =>
 if (Args.A.length : Int) > (40 : Int) then
  some ()
 else
  (m_viewportref22Checkq1 n).bind fun c3_ =>
  if c3_ = (0 : Int) then
   (m_jobsOrderq1 n g10 g11 g2).bind fun c5_ =>
   match c5_ with
   | [] =>
    if (0 : Int) = (Args.A.length : Int) then
     (m_jobsNextq1 n g10 g11 g2).bind fun t => match t with
     | (c7_0, c7_1) =>
      if c7_1 = true then
       none
      else
       if (Args.A.length : Int) = (0 : Int) then
        some ()
       else
        none
    else
     none
   | c5_a :: c5_t =>
    if ((((c5_a :: c5_t)).length : Nat) : Int) = (Args.A.length : Int) then
     if (0 : Int) < ((((c5_a :: c5_t)).length : Nat) : Int) then
      (m_jobsNextq1 n g10 g11 g2).bind fun t => match t with
      | (c8_0, c8_1) =>
       if c8_1 = true then
        if 0 ≤ (0 : Int) ∧ (0 : Int) < ((((c5_a :: c5_t)).length : Nat) : Int) then
         ((some (((c5_a :: c5_t)).getD ((0 : Int)).toNat 0))).bind fun c11_ =>
         if c8_0 = c11_ then
          (m_jobsOrderq1 n g10 g11 g2).bind fun c13_ =>
          match c13_ with
          | [] =>
           if 0 ≤ (0 : Int) ∧ (0 : Int) ≤ ((((c5_a :: c5_t)).length : Nat) : Int) then
            (m_viewportkitSameintq1 n (c5_a :: c5_t) (((0 : Int)).toNat) (((c5_a :: c5_t)).length - ((0 : Int)).toNat)).bind fun c15_ =>
            if c15_ = true then
             (m_viewportref22Dropq1 n c8_0).bind fun c17_ =>
             match c17_ with
             | [] =>
              (m_V_1 n g2 g10 g11 (c5_a :: c5_t) (([] : List (Int × Int × Int × Int × Int)), 1)).bind fun c18_ =>
              match c18_ with
              | [] =>
               (m_jobsNextq2 n g10 g11 g2).bind fun _ =>
               some ()
              | c18_a :: c18_t =>
               (m_jobsNextq3 n (c18_a :: c18_t) g10 g11 g2).bind fun t => match t with
               | (c19_0, c19_1) =>
                if c19_1 = true then
                 none
                else
                 if ((((c18_a :: c18_t)).length : Nat) : Int) = (0 : Int) then
                  some ()
                 else
                  none
             | c17_a :: c17_t =>
              (m_V_1 n g2 g10 g11 (c5_a :: c5_t) ((c17_a :: c17_t), 1)).bind fun c18_ =>
              match c18_ with
              | [] =>
               (m_jobsNextq2 n g10 g11 g2).bind fun _ =>
               some ()
              | c18_a :: c18_t =>
               (m_jobsNextq3 n (c18_a :: c18_t) g10 g11 g2).bind fun t => match t with
               | (c19_0, c19_1) =>
                if c19_1 = true then
                 none
                else
                 if ((((c18_a :: c18_t)).length : Nat) : Int) = (0 : Int) then
                  some ()
                 else
                  none
            else
             none
           else none
          | c13_a :: c13_t =>
           if 0 ≤ (0 : Int) ∧ (0 : Int) ≤ ((((c5_a :: c5_t)).length : Nat) : Int) then
            (m_viewportkitSameintq2 n (c13_a :: c13_t) (c5_a :: c5_t) (((0 : Int)).toNat) (((c5_a :: c5_t)).length - ((0 : Int)).toNat)).bind fun c15_ =>
            if c15_ = true then
             (m_viewportref22Dropq1 n c8_0).bind fun c17_ =>
             match c17_ with
             | [] =>
              (m_V_1 n g2 g10 g11 (c5_a :: c5_t) (([] : List (Int × Int × Int × Int × Int)), 1)).bind fun c18_ =>
              match c18_ with
              | [] =>
               (m_jobsNextq2 n g10 g11 g2).bind fun _ =>
               some ()
              | c18_a :: c18_t =>
               (m_jobsNextq3 n (c18_a :: c18_t) g10 g11 g2).bind fun t => match t with
               | (c19_0, c19_1) =>
                if c19_1 = true then
                 none
                else
                 if ((((c18_a :: c18_t)).length : Nat) : Int) = (0 : Int) then
                  some ()
                 else
                  none
             | c17_a :: c17_t =>
              (m_V_1 n g2 g10 g11 (c5_a :: c5_t) ((c17_a :: c17_t), 1)).bind fun c18_ =>
              match c18_ with
              | [] =>
               (m_jobsNextq2 n g10 g11 g2).bind fun _ =>
               some ()
              | c18_a :: c18_t =>
               (m_jobsNextq3 n (c18_a :: c18_t) g10 g11 g2).bind fun t => match t with
               | (c19_0, c19_1) =>
                if c19_1 = true then
                 none
                else
                 if ((((c18_a :: c18_t)).length : Nat) : Int) = (0 : Int) then
                  some ()
                 else
                  none
            else
             none
           else none
         else
          none
        else none
       else
        none
     else
      (m_jobsNextq1 n g10 g11 g2).bind fun t => match t with
      | (c8_0, c8_1) =>
       if c8_1 = true then
        none
       else
        if (Args.A.length : Int) = (0 : Int) then
         some ()
        else
         none
    else
     none
  else
   some ()
theorem m_V_ok (n : Nat) (g10 : Int) (g11 : Int) (g2 : Int) (r : Unit) (h : m_V n g10 g11 g2 = some r) : Gv P (.func 3) (A_V g10 g11 g2) (H_V g10 g11 g2) (V_V g10 g11 g2 r) (R_V g10 g11 g2 r) := by
 unfold m_V at h
 obtain ⟨_, hc1, h⟩ := Option.bind_eq_some_iff.1 h
 by_cases hc2 : (Args.A.length : Int) > (40 : Int)
 ·rw [if_pos hc2] at h
  obtain rfl := oI h; exact (runF2 hm (L := lT []) ⟨[6], [], 0, 0⟩ (yy 5 (.call ⟨0, [], (Value.bool true), Ax.h0, []⟩) <|
ww (m_viewportlaw24lives_ok n  () hc1) <|
zz 12 (xdT hc2) ee) (by kernel_rfl))
 ·rw [if_neg hc2] at h
  obtain ⟨c3_, hc3, h⟩ := Option.bind_eq_some_iff.1 h
  by_cases hc4 : c3_ = (0 : Int)
  ·rw [if_pos hc4] at h
   obtain ⟨c5_, hc5, h⟩ := Option.bind_eq_some_iff.1 h
   cases c5_ with
   | nil =>
    dsimp only at h
    by_cases hc6 : (0 : Int) = (Args.A.length : Int)
    ·rw [if_pos hc6] at h
     obtain ⟨⟨c7_0, c7_1⟩, hc7, h⟩ := Option.bind_eq_some_iff.1 h
     dsimp only at h
     by_cases hc8 : c7_1 = true
     ·rw [if_pos hc8] at h
      cases h
     ·rw [if_neg hc8] at h
      by_cases hc9 : (Args.A.length : Int) = (0 : Int)
      ·rw [if_pos hc9] at h
       obtain rfl := oI h; exact (runF2 hm (L := lT []) ⟨[6], [], 0, 0⟩ (yy 5 (.call ⟨0, [], (Value.bool true), Ax.h0, []⟩) <|
ww (m_viewportlaw24lives_ok n  () hc1) <|
zz 12 (xdF hc2) <|
yy 15 (.call (C_viewportref22Checkq1  c3_ [] [])) <|
ww (m_viewportref22Checkq1_ok n  c3_ hc3) <|
zz 16 (xnF hc4) <|
yy 23 (.call (C_jobsOrderq1 g10 g11 g2 ([] : List Int) [] [])) <|
ww (m_jobsOrderq1_ok n g10 g11 g2 ([] : List Int) hc5) <|
zz 31 (xnF hc6) <|
yy 52 (.call (C_jobsNextq1 g10 g11 g2 (c7_0, c7_1) [] [])) <|
ww (m_jobsNextq1_ok n g10 g11 g2 (c7_0, c7_1) hc7) <|
yy 60 (vt) <|
ww (p := (Value.bool (!c7_1)) = (Value.bool true)) (vBn (Bool.eq_false_iff.2 hc8)) <|
zz 64 (xeT hc9) ee) (by kernel_rfl))
      ·rw [if_neg hc9] at h
       cases h
    ·rw [if_neg hc6] at h
     cases h
   | cons c5_a c5_t =>
    dsimp only at h
    by_cases hc6 : ((((c5_a :: c5_t)).length : Nat) : Int) = (Args.A.length : Int)
    ·rw [if_pos hc6] at h
     by_cases hc7 : (0 : Int) < ((((c5_a :: c5_t)).length : Nat) : Int)
     ·rw [if_pos hc7] at h
      obtain ⟨⟨c8_0, c8_1⟩, hc8, h⟩ := Option.bind_eq_some_iff.1 h
      dsimp only at h
      by_cases hc9 : c8_1 = true
      ·rw [if_pos hc9] at h
       by_cases hc10 : 0 ≤ (0 : Int) ∧ (0 : Int) < ((((c5_a :: c5_t)).length : Nat) : Int)
       ·rw [if_pos hc10] at h
        obtain ⟨c11_, hc11, h⟩ := Option.bind_eq_some_iff.1 h
        by_cases hc12 : c8_0 = c11_
        ·rw [if_pos hc12] at h
         obtain ⟨c13_, hc13, h⟩ := Option.bind_eq_some_iff.1 h
         cases c13_ with
         | nil =>
          dsimp only at h
          by_cases hc14 : 0 ≤ (0 : Int) ∧ (0 : Int) ≤ ((((c5_a :: c5_t)).length : Nat) : Int)
          ·rw [if_pos hc14] at h
           obtain ⟨c15_, hc15, h⟩ := Option.bind_eq_some_iff.1 h
           by_cases hc16 : c15_ = true
           ·rw [if_pos hc16] at h
            obtain ⟨c17_, hc17, h⟩ := Option.bind_eq_some_iff.1 h
            cases c17_ with
            | nil =>
             dsimp only at h
             obtain ⟨c18_, hc18, h⟩ := Option.bind_eq_some_iff.1 h
             cases c18_ with
             | nil =>
              dsimp only at h
              obtain ⟨_, hc19, h⟩ := Option.bind_eq_some_iff.1 h
              obtain rfl := oI h; exact (runF2 hm (L := lT [(91, ⟨⟨[2, 4, 7, 8, 9], [(0, 0, false), (1, 2, true)], 3, 0⟩, (X_V_1 g2 g10 g11 (c5_a :: c5_t) ([] : List (Int × Int × Int × Int × Int))).1, (X_V_1 g2 g10 g11 (c5_a :: c5_t) ([] : List (Int × Int × Int × Int × Int))).2⟩)]) ⟨[6], [], 0, 0⟩ (yy 5 (.call ⟨0, [], (Value.bool true), Ax.h0, []⟩) <|
ww (m_viewportlaw24lives_ok n  () hc1) <|
zz 12 (xdF hc2) <|
yy 15 (.call (C_viewportref22Checkq1  c3_ [] [])) <|
ww (m_viewportref22Checkq1_ok n  c3_ hc3) <|
zz 16 (xnF hc4) <|
yy 23 (.call (C_jobsOrderq1 g10 g11 g2 (c5_a :: c5_t) [] [(2, 1, true)])) <|
ww (m_jobsOrderq1_ok n g10 g11 g2 (c5_a :: c5_t) hc5) <|
ww (iv_flat (c5_a :: c5_t) 3) <|
zz 31 (xnF hc6) <|
zz 46 (xdT hc7) <|
yy 54 (.call (C_jobsNextq1 g10 g11 g2 (c8_0, c8_1) [] [])) <|
ww (m_jobsNextq1_ok n g10 g11 g2 (c8_0, c8_1) hc8) <|
yy 63 (vf) <|
ww (p := (Value.bool (!c8_1)) = (Value.bool false)) (vBn hc9) <|
zz 68 (xk6 2 U1 hc10) <|
zz 69 (xivN hc11 (toNatLt hc10)) <|
zz 70 (xnF hc12) <|
yy 76 (.call (C_jobsOrderq1 g10 g11 g2 ([] : List Int) [] [])) <|
ww (m_jobsOrderq1_ok n g10 g11 g2 ([] : List Int) hc13) <|
yy 79 (.pur (sN 2 (((0 : Int)).toNat * 1) (((c5_a :: c5_t)).length - ((0 : Int)).toNat) (Nat.add big 1))) <|
ww (p := opSlice P 28 (sN 2 0 ((c5_a :: c5_t)).length (Nat.add big 1)) (some (i6 (0 : Int))) none none Ax.h0 = some ((sN 2 (((0 : Int)).toNat * 1) (((c5_a :: c5_t)).length - ((0 : Int)).toNat) (Nat.add big 1)), Ax.h0)) (slRow (e := 3) (es := 1) (by kernel_rfl) (by kernel_rfl) rfl rfl hc14) <|
yy 80 (.call (C_viewportkitSameintq1 (c5_a :: c5_t) (((0 : Int)).toNat) (((c5_a :: c5_t)).length - ((0 : Int)).toNat) c15_ [(0, 2, true)] [])) <|
ww (m_viewportkitSameintq1_ok n (c5_a :: c5_t) (((0 : Int)).toNat) (((c5_a :: c5_t)).length - ((0 : Int)).toNat) c15_ hc15) <|
ww (iv_flat (c5_a :: c5_t) 3) <|
yy 81 (vf) <|
ww (p := (Value.bool (!c15_)) = (Value.bool false)) (vBn hc16) <|
yy 86 (.call (C_viewportref22Dropq1 c8_0 ([] : List (Int × Int × Int × Int × Int)) [] [])) <|
ww (m_viewportref22Dropq1_ok n c8_0 ([] : List (Int × Int × Int × Int × Int)) hc17) <|
ww (p := LG P none (fnN P 3) 0 (codeOf P 3 [false, false, true, false, true, true, true, true, true, true]) (S_V_1 g2 g10 g11 (c5_a :: c5_t) (([] : List (Int × Int × Int × Int × Int)), 1)) (X_V_1 g2 g10 g11 (c5_a :: c5_t) ([] : List (Int × Int × Int × Int × Int)))) (m_V_1_ok n g2 g10 g11 (c5_a :: c5_t) (([] : List (Int × Int × Int × Int × Int)), 1) ([] : List (Int × Int × Int × Int × Int)) hc18) <|
ww (iv_flat (c5_a :: c5_t) 3) <|
yy 96 (.call (C_jobsNextq2 g10 g11 g2 () [] [])) <|
ww (m_jobsNextq2_ok n g10 g11 g2 () hc19) ee) (by kernel_rfl))
             | cons c18_a c18_t =>
              dsimp only at h
              obtain ⟨⟨c19_0, c19_1⟩, hc19, h⟩ := Option.bind_eq_some_iff.1 h
              dsimp only at h
              by_cases hc20 : c19_1 = true
              ·rw [if_pos hc20] at h
               cases h
              ·rw [if_neg hc20] at h
               by_cases hc21 : ((((c18_a :: c18_t)).length : Nat) : Int) = (0 : Int)
               ·rw [if_pos hc21] at h
                obtain rfl := oI h; exact (runF2 hm (L := lT [(91, ⟨⟨[2, 4, 7, 8, 9], [(0, 0, false), (1, 2, true)], 3, 0⟩, (X_V_1 g2 g10 g11 (c5_a :: c5_t) (c18_a :: c18_t)).1, (X_V_1 g2 g10 g11 (c5_a :: c5_t) (c18_a :: c18_t)).2⟩)]) ⟨[6], [], 0, 0⟩ (yy 5 (.call ⟨0, [], (Value.bool true), Ax.h0, []⟩) <|
ww (m_viewportlaw24lives_ok n  () hc1) <|
zz 12 (xdF hc2) <|
yy 15 (.call (C_viewportref22Checkq1  c3_ [] [])) <|
ww (m_viewportref22Checkq1_ok n  c3_ hc3) <|
zz 16 (xnF hc4) <|
yy 23 (.call (C_jobsOrderq1 g10 g11 g2 (c5_a :: c5_t) [] [(2, 1, true)])) <|
ww (m_jobsOrderq1_ok n g10 g11 g2 (c5_a :: c5_t) hc5) <|
ww (iv_flat (c5_a :: c5_t) 3) <|
zz 31 (xnF hc6) <|
zz 46 (xdT hc7) <|
yy 54 (.call (C_jobsNextq1 g10 g11 g2 (c8_0, c8_1) [] [])) <|
ww (m_jobsNextq1_ok n g10 g11 g2 (c8_0, c8_1) hc8) <|
yy 63 (vf) <|
ww (p := (Value.bool (!c8_1)) = (Value.bool false)) (vBn hc9) <|
zz 68 (xk6 2 U1 hc10) <|
zz 69 (xivN hc11 (toNatLt hc10)) <|
zz 70 (xnF hc12) <|
yy 76 (.call (C_jobsOrderq1 g10 g11 g2 ([] : List Int) [] [])) <|
ww (m_jobsOrderq1_ok n g10 g11 g2 ([] : List Int) hc13) <|
yy 79 (.pur (sN 2 (((0 : Int)).toNat * 1) (((c5_a :: c5_t)).length - ((0 : Int)).toNat) (Nat.add big 1))) <|
ww (p := opSlice P 28 (sN 2 0 ((c5_a :: c5_t)).length (Nat.add big 1)) (some (i6 (0 : Int))) none none Ax.h0 = some ((sN 2 (((0 : Int)).toNat * 1) (((c5_a :: c5_t)).length - ((0 : Int)).toNat) (Nat.add big 1)), Ax.h0)) (slRow (e := 3) (es := 1) (by kernel_rfl) (by kernel_rfl) rfl rfl hc14) <|
yy 80 (.call (C_viewportkitSameintq1 (c5_a :: c5_t) (((0 : Int)).toNat) (((c5_a :: c5_t)).length - ((0 : Int)).toNat) c15_ [(0, 2, true)] [])) <|
ww (m_viewportkitSameintq1_ok n (c5_a :: c5_t) (((0 : Int)).toNat) (((c5_a :: c5_t)).length - ((0 : Int)).toNat) c15_ hc15) <|
ww (iv_flat (c5_a :: c5_t) 3) <|
yy 81 (vf) <|
ww (p := (Value.bool (!c15_)) = (Value.bool false)) (vBn hc16) <|
yy 86 (.call (C_viewportref22Dropq1 c8_0 ([] : List (Int × Int × Int × Int × Int)) [] [])) <|
ww (m_viewportref22Dropq1_ok n c8_0 ([] : List (Int × Int × Int × Int × Int)) hc17) <|
ww (p := LG P none (fnN P 3) 0 (codeOf P 3 [false, false, true, false, true, true, true, true, true, true]) (S_V_1 g2 g10 g11 (c5_a :: c5_t) (([] : List (Int × Int × Int × Int × Int)), 1)) (X_V_1 g2 g10 g11 (c5_a :: c5_t) (c18_a :: c18_t))) (m_V_1_ok n g2 g10 g11 (c5_a :: c5_t) (([] : List (Int × Int × Int × Int × Int)), 1) (c18_a :: c18_t) hc18) <|
ww (iv_flat (c5_a :: c5_t) 3) <|
yy 96 (.call (C_jobsNextq3 (c18_a :: c18_t) g10 g11 g2 (c19_0, c19_1) [(0, 1, true)] [])) <|
ww (m_jobsNextq3_ok n (c18_a :: c18_t) g10 g11 g2 (c19_0, c19_1) hc19) <|
ww (rows_flat rwf_iiiii (c18_a :: c18_t) 37) <|
yy 104 (vt) <|
ww (p := (Value.bool (!c19_1)) = (Value.bool true)) (vBn (Bool.eq_false_iff.2 hc20)) <|
zz 108 (xeT hc21) ee) (by kernel_rfl))
               ·rw [if_neg hc21] at h
                cases h
            | cons c17_a c17_t =>
             dsimp only at h
             obtain ⟨c18_, hc18, h⟩ := Option.bind_eq_some_iff.1 h
             cases c18_ with
             | nil =>
              dsimp only at h
              obtain ⟨_, hc19, h⟩ := Option.bind_eq_some_iff.1 h
              obtain rfl := oI h; exact (runF2 hm (L := lT [(91, ⟨⟨[2, 4, 7, 8, 9], [(0, 0, false), (1, 2, true), (2, 5, true)], 3, 0⟩, (X_V_1 g2 g10 g11 (c5_a :: c5_t) ([] : List (Int × Int × Int × Int × Int))).1, (X_V_1 g2 g10 g11 (c5_a :: c5_t) ([] : List (Int × Int × Int × Int × Int))).2⟩)]) ⟨[6], [], 0, 0⟩ (yy 5 (.call ⟨0, [], (Value.bool true), Ax.h0, []⟩) <|
ww (m_viewportlaw24lives_ok n  () hc1) <|
zz 12 (xdF hc2) <|
yy 15 (.call (C_viewportref22Checkq1  c3_ [] [])) <|
ww (m_viewportref22Checkq1_ok n  c3_ hc3) <|
zz 16 (xnF hc4) <|
yy 23 (.call (C_jobsOrderq1 g10 g11 g2 (c5_a :: c5_t) [] [(2, 1, true)])) <|
ww (m_jobsOrderq1_ok n g10 g11 g2 (c5_a :: c5_t) hc5) <|
ww (iv_flat (c5_a :: c5_t) 3) <|
zz 31 (xnF hc6) <|
zz 46 (xdT hc7) <|
yy 54 (.call (C_jobsNextq1 g10 g11 g2 (c8_0, c8_1) [] [])) <|
ww (m_jobsNextq1_ok n g10 g11 g2 (c8_0, c8_1) hc8) <|
yy 63 (vf) <|
ww (p := (Value.bool (!c8_1)) = (Value.bool false)) (vBn hc9) <|
zz 68 (xk6 2 U1 hc10) <|
zz 69 (xivN hc11 (toNatLt hc10)) <|
zz 70 (xnF hc12) <|
yy 76 (.call (C_jobsOrderq1 g10 g11 g2 ([] : List Int) [] [])) <|
ww (m_jobsOrderq1_ok n g10 g11 g2 ([] : List Int) hc13) <|
yy 79 (.pur (sN 2 (((0 : Int)).toNat * 1) (((c5_a :: c5_t)).length - ((0 : Int)).toNat) (Nat.add big 1))) <|
ww (p := opSlice P 28 (sN 2 0 ((c5_a :: c5_t)).length (Nat.add big 1)) (some (i6 (0 : Int))) none none Ax.h0 = some ((sN 2 (((0 : Int)).toNat * 1) (((c5_a :: c5_t)).length - ((0 : Int)).toNat) (Nat.add big 1)), Ax.h0)) (slRow (e := 3) (es := 1) (by kernel_rfl) (by kernel_rfl) rfl rfl hc14) <|
yy 80 (.call (C_viewportkitSameintq1 (c5_a :: c5_t) (((0 : Int)).toNat) (((c5_a :: c5_t)).length - ((0 : Int)).toNat) c15_ [(0, 2, true)] [])) <|
ww (m_viewportkitSameintq1_ok n (c5_a :: c5_t) (((0 : Int)).toNat) (((c5_a :: c5_t)).length - ((0 : Int)).toNat) c15_ hc15) <|
ww (iv_flat (c5_a :: c5_t) 3) <|
yy 81 (vf) <|
ww (p := (Value.bool (!c15_)) = (Value.bool false)) (vBn hc16) <|
yy 86 (.call (C_viewportref22Dropq1 c8_0 (c17_a :: c17_t) [] [(5, 0, true)])) <|
ww (m_viewportref22Dropq1_ok n c8_0 (c17_a :: c17_t) hc17) <|
ww (rows_flat rwf_iiiii (c17_a :: c17_t) 37) <|
ww (p := LG P none (fnN P 3) 0 (codeOf P 3 [false, false, true, false, true, true, true, true, true, true]) (S_V_1 g2 g10 g11 (c5_a :: c5_t) ((c17_a :: c17_t), 1)) (X_V_1 g2 g10 g11 (c5_a :: c5_t) ([] : List (Int × Int × Int × Int × Int)))) (m_V_1_ok n g2 g10 g11 (c5_a :: c5_t) ((c17_a :: c17_t), 1) ([] : List (Int × Int × Int × Int × Int)) hc18) <|
ww (iv_flat (c5_a :: c5_t) 3) <|
ww (rows_flat rwf_iiiii (c17_a :: c17_t) 37) <|
yy 96 (.call (C_jobsNextq2 g10 g11 g2 () [] [])) <|
ww (m_jobsNextq2_ok n g10 g11 g2 () hc19) ee) (by kernel_rfl))
             | cons c18_a c18_t =>
              dsimp only at h
              obtain ⟨⟨c19_0, c19_1⟩, hc19, h⟩ := Option.bind_eq_some_iff.1 h
              dsimp only at h
              by_cases hc20 : c19_1 = true
              ·rw [if_pos hc20] at h
               cases h
              ·rw [if_neg hc20] at h
               by_cases hc21 : ((((c18_a :: c18_t)).length : Nat) : Int) = (0 : Int)
               ·rw [if_pos hc21] at h
                obtain rfl := oI h; exact (runF2 hm (L := lT [(91, ⟨⟨[2, 4, 7, 8, 9], [(0, 0, false), (1, 2, true), (2, 5, true)], 3, 0⟩, (X_V_1 g2 g10 g11 (c5_a :: c5_t) (c18_a :: c18_t)).1, (X_V_1 g2 g10 g11 (c5_a :: c5_t) (c18_a :: c18_t)).2⟩)]) ⟨[6], [], 0, 0⟩ (yy 5 (.call ⟨0, [], (Value.bool true), Ax.h0, []⟩) <|
ww (m_viewportlaw24lives_ok n  () hc1) <|
zz 12 (xdF hc2) <|
yy 15 (.call (C_viewportref22Checkq1  c3_ [] [])) <|
ww (m_viewportref22Checkq1_ok n  c3_ hc3) <|
zz 16 (xnF hc4) <|
yy 23 (.call (C_jobsOrderq1 g10 g11 g2 (c5_a :: c5_t) [] [(2, 1, true)])) <|
ww (m_jobsOrderq1_ok n g10 g11 g2 (c5_a :: c5_t) hc5) <|
ww (iv_flat (c5_a :: c5_t) 3) <|
zz 31 (xnF hc6) <|
zz 46 (xdT hc7) <|
yy 54 (.call (C_jobsNextq1 g10 g11 g2 (c8_0, c8_1) [] [])) <|
ww (m_jobsNextq1_ok n g10 g11 g2 (c8_0, c8_1) hc8) <|
yy 63 (vf) <|
ww (p := (Value.bool (!c8_1)) = (Value.bool false)) (vBn hc9) <|
zz 68 (xk6 2 U1 hc10) <|
zz 69 (xivN hc11 (toNatLt hc10)) <|
zz 70 (xnF hc12) <|
yy 76 (.call (C_jobsOrderq1 g10 g11 g2 ([] : List Int) [] [])) <|
ww (m_jobsOrderq1_ok n g10 g11 g2 ([] : List Int) hc13) <|
yy 79 (.pur (sN 2 (((0 : Int)).toNat * 1) (((c5_a :: c5_t)).length - ((0 : Int)).toNat) (Nat.add big 1))) <|
ww (p := opSlice P 28 (sN 2 0 ((c5_a :: c5_t)).length (Nat.add big 1)) (some (i6 (0 : Int))) none none Ax.h0 = some ((sN 2 (((0 : Int)).toNat * 1) (((c5_a :: c5_t)).length - ((0 : Int)).toNat) (Nat.add big 1)), Ax.h0)) (slRow (e := 3) (es := 1) (by kernel_rfl) (by kernel_rfl) rfl rfl hc14) <|
yy 80 (.call (C_viewportkitSameintq1 (c5_a :: c5_t) (((0 : Int)).toNat) (((c5_a :: c5_t)).length - ((0 : Int)).toNat) c15_ [(0, 2, true)] [])) <|
ww (m_viewportkitSameintq1_ok n (c5_a :: c5_t) (((0 : Int)).toNat) (((c5_a :: c5_t)).length - ((0 : Int)).toNat) c15_ hc15) <|
ww (iv_flat (c5_a :: c5_t) 3) <|
yy 81 (vf) <|
ww (p := (Value.bool (!c15_)) = (Value.bool false)) (vBn hc16) <|
yy 86 (.call (C_viewportref22Dropq1 c8_0 (c17_a :: c17_t) [] [(5, 0, true)])) <|
ww (m_viewportref22Dropq1_ok n c8_0 (c17_a :: c17_t) hc17) <|
ww (rows_flat rwf_iiiii (c17_a :: c17_t) 37) <|
ww (p := LG P none (fnN P 3) 0 (codeOf P 3 [false, false, true, false, true, true, true, true, true, true]) (S_V_1 g2 g10 g11 (c5_a :: c5_t) ((c17_a :: c17_t), 1)) (X_V_1 g2 g10 g11 (c5_a :: c5_t) (c18_a :: c18_t))) (m_V_1_ok n g2 g10 g11 (c5_a :: c5_t) ((c17_a :: c17_t), 1) (c18_a :: c18_t) hc18) <|
ww (iv_flat (c5_a :: c5_t) 3) <|
ww (rows_flat rwf_iiiii (c17_a :: c17_t) 37) <|
yy 96 (.call (C_jobsNextq3 (c18_a :: c18_t) g10 g11 g2 (c19_0, c19_1) [(0, 1, true)] [])) <|
ww (m_jobsNextq3_ok n (c18_a :: c18_t) g10 g11 g2 (c19_0, c19_1) hc19) <|
ww (rows_flat rwf_iiiii (c18_a :: c18_t) 37) <|
yy 104 (vt) <|
ww (p := (Value.bool (!c19_1)) = (Value.bool true)) (vBn (Bool.eq_false_iff.2 hc20)) <|
zz 108 (xeT hc21) ee) (by kernel_rfl))
               ·rw [if_neg hc21] at h
                cases h
           ·rw [if_neg hc16] at h
            cases h
          ·rw [if_neg hc14] at h; cases h
         | cons c13_a c13_t =>
          dsimp only at h
          by_cases hc14 : 0 ≤ (0 : Int) ∧ (0 : Int) ≤ ((((c5_a :: c5_t)).length : Nat) : Int)
          ·rw [if_pos hc14] at h
           obtain ⟨c15_, hc15, h⟩ := Option.bind_eq_some_iff.1 h
           by_cases hc16 : c15_ = true
           ·rw [if_pos hc16] at h
            obtain ⟨c17_, hc17, h⟩ := Option.bind_eq_some_iff.1 h
            cases c17_ with
            | nil =>
             dsimp only at h
             obtain ⟨c18_, hc18, h⟩ := Option.bind_eq_some_iff.1 h
             cases c18_ with
             | nil =>
              dsimp only at h
              obtain ⟨_, hc19, h⟩ := Option.bind_eq_some_iff.1 h
              obtain rfl := oI h; exact (runF2 hm (L := lT [(91, ⟨⟨[2, 4, 7, 8, 9], [(0, 0, false), (1, 2, true)], 3, 0⟩, (X_V_1 g2 g10 g11 (c5_a :: c5_t) ([] : List (Int × Int × Int × Int × Int))).1, (X_V_1 g2 g10 g11 (c5_a :: c5_t) ([] : List (Int × Int × Int × Int × Int))).2⟩)]) ⟨[6], [], 0, 0⟩ (yy 5 (.call ⟨0, [], (Value.bool true), Ax.h0, []⟩) <|
ww (m_viewportlaw24lives_ok n  () hc1) <|
zz 12 (xdF hc2) <|
yy 15 (.call (C_viewportref22Checkq1  c3_ [] [])) <|
ww (m_viewportref22Checkq1_ok n  c3_ hc3) <|
zz 16 (xnF hc4) <|
yy 23 (.call (C_jobsOrderq1 g10 g11 g2 (c5_a :: c5_t) [] [(2, 1, true)])) <|
ww (m_jobsOrderq1_ok n g10 g11 g2 (c5_a :: c5_t) hc5) <|
ww (iv_flat (c5_a :: c5_t) 3) <|
zz 31 (xnF hc6) <|
zz 46 (xdT hc7) <|
yy 54 (.call (C_jobsNextq1 g10 g11 g2 (c8_0, c8_1) [] [])) <|
ww (m_jobsNextq1_ok n g10 g11 g2 (c8_0, c8_1) hc8) <|
yy 63 (vf) <|
ww (p := (Value.bool (!c8_1)) = (Value.bool false)) (vBn hc9) <|
zz 68 (xk6 2 U1 hc10) <|
zz 69 (xivN hc11 (toNatLt hc10)) <|
zz 70 (xnF hc12) <|
yy 76 (.call (C_jobsOrderq1 g10 g11 g2 (c13_a :: c13_t) [] [(4, 1, true)])) <|
ww (m_jobsOrderq1_ok n g10 g11 g2 (c13_a :: c13_t) hc13) <|
ww (iv_flat (c13_a :: c13_t) 3) <|
yy 79 (.pur (sN 2 (((0 : Int)).toNat * 1) (((c5_a :: c5_t)).length - ((0 : Int)).toNat) (Nat.add big 1))) <|
ww (p := opSlice P 28 (sN 2 0 ((c5_a :: c5_t)).length (Nat.add big 1)) (some (i6 (0 : Int))) none none Ax.h0 = some ((sN 2 (((0 : Int)).toNat * 1) (((c5_a :: c5_t)).length - ((0 : Int)).toNat) (Nat.add big 1)), Ax.h0)) (slRow (e := 3) (es := 1) (by kernel_rfl) (by kernel_rfl) rfl rfl hc14) <|
yy 80 (.call (C_viewportkitSameintq2 (c13_a :: c13_t) (c5_a :: c5_t) (((0 : Int)).toNat) (((c5_a :: c5_t)).length - ((0 : Int)).toNat) c15_ [(0, 4, true), (1, 2, true)] [])) <|
ww (m_viewportkitSameintq2_ok n (c13_a :: c13_t) (c5_a :: c5_t) (((0 : Int)).toNat) (((c5_a :: c5_t)).length - ((0 : Int)).toNat) c15_ hc15) <|
ww (iv_flat (c13_a :: c13_t) 3) <|
ww (iv_flat (c5_a :: c5_t) 3) <|
yy 81 (vf) <|
ww (p := (Value.bool (!c15_)) = (Value.bool false)) (vBn hc16) <|
yy 86 (.call (C_viewportref22Dropq1 c8_0 ([] : List (Int × Int × Int × Int × Int)) [] [])) <|
ww (m_viewportref22Dropq1_ok n c8_0 ([] : List (Int × Int × Int × Int × Int)) hc17) <|
ww (p := LG P none (fnN P 3) 0 (codeOf P 3 [false, false, true, false, true, true, true, true, true, true]) (S_V_1 g2 g10 g11 (c5_a :: c5_t) (([] : List (Int × Int × Int × Int × Int)), 1)) (X_V_1 g2 g10 g11 (c5_a :: c5_t) ([] : List (Int × Int × Int × Int × Int)))) (m_V_1_ok n g2 g10 g11 (c5_a :: c5_t) (([] : List (Int × Int × Int × Int × Int)), 1) ([] : List (Int × Int × Int × Int × Int)) hc18) <|
ww (iv_flat (c5_a :: c5_t) 3) <|
yy 96 (.call (C_jobsNextq2 g10 g11 g2 () [] [])) <|
ww (m_jobsNextq2_ok n g10 g11 g2 () hc19) ee) (by kernel_rfl))
             | cons c18_a c18_t =>
              dsimp only at h
              obtain ⟨⟨c19_0, c19_1⟩, hc19, h⟩ := Option.bind_eq_some_iff.1 h
              dsimp only at h
              by_cases hc20 : c19_1 = true
              ·rw [if_pos hc20] at h
               cases h
              ·rw [if_neg hc20] at h
               by_cases hc21 : ((((c18_a :: c18_t)).length : Nat) : Int) = (0 : Int)
               ·rw [if_pos hc21] at h
                obtain rfl := oI h; exact (runF2 hm (L := lT [(91, ⟨⟨[2, 4, 7, 8, 9], [(0, 0, false), (1, 2, true)], 3, 0⟩, (X_V_1 g2 g10 g11 (c5_a :: c5_t) (c18_a :: c18_t)).1, (X_V_1 g2 g10 g11 (c5_a :: c5_t) (c18_a :: c18_t)).2⟩)]) ⟨[6], [], 0, 0⟩ (yy 5 (.call ⟨0, [], (Value.bool true), Ax.h0, []⟩) <|
ww (m_viewportlaw24lives_ok n  () hc1) <|
zz 12 (xdF hc2) <|
yy 15 (.call (C_viewportref22Checkq1  c3_ [] [])) <|
ww (m_viewportref22Checkq1_ok n  c3_ hc3) <|
zz 16 (xnF hc4) <|
yy 23 (.call (C_jobsOrderq1 g10 g11 g2 (c5_a :: c5_t) [] [(2, 1, true)])) <|
ww (m_jobsOrderq1_ok n g10 g11 g2 (c5_a :: c5_t) hc5) <|
ww (iv_flat (c5_a :: c5_t) 3) <|
zz 31 (xnF hc6) <|
zz 46 (xdT hc7) <|
yy 54 (.call (C_jobsNextq1 g10 g11 g2 (c8_0, c8_1) [] [])) <|
ww (m_jobsNextq1_ok n g10 g11 g2 (c8_0, c8_1) hc8) <|
yy 63 (vf) <|
ww (p := (Value.bool (!c8_1)) = (Value.bool false)) (vBn hc9) <|
zz 68 (xk6 2 U1 hc10) <|
zz 69 (xivN hc11 (toNatLt hc10)) <|
zz 70 (xnF hc12) <|
yy 76 (.call (C_jobsOrderq1 g10 g11 g2 (c13_a :: c13_t) [] [(4, 1, true)])) <|
ww (m_jobsOrderq1_ok n g10 g11 g2 (c13_a :: c13_t) hc13) <|
ww (iv_flat (c13_a :: c13_t) 3) <|
yy 79 (.pur (sN 2 (((0 : Int)).toNat * 1) (((c5_a :: c5_t)).length - ((0 : Int)).toNat) (Nat.add big 1))) <|
ww (p := opSlice P 28 (sN 2 0 ((c5_a :: c5_t)).length (Nat.add big 1)) (some (i6 (0 : Int))) none none Ax.h0 = some ((sN 2 (((0 : Int)).toNat * 1) (((c5_a :: c5_t)).length - ((0 : Int)).toNat) (Nat.add big 1)), Ax.h0)) (slRow (e := 3) (es := 1) (by kernel_rfl) (by kernel_rfl) rfl rfl hc14) <|
yy 80 (.call (C_viewportkitSameintq2 (c13_a :: c13_t) (c5_a :: c5_t) (((0 : Int)).toNat) (((c5_a :: c5_t)).length - ((0 : Int)).toNat) c15_ [(0, 4, true), (1, 2, true)] [])) <|
ww (m_viewportkitSameintq2_ok n (c13_a :: c13_t) (c5_a :: c5_t) (((0 : Int)).toNat) (((c5_a :: c5_t)).length - ((0 : Int)).toNat) c15_ hc15) <|
ww (iv_flat (c13_a :: c13_t) 3) <|
ww (iv_flat (c5_a :: c5_t) 3) <|
yy 81 (vf) <|
ww (p := (Value.bool (!c15_)) = (Value.bool false)) (vBn hc16) <|
yy 86 (.call (C_viewportref22Dropq1 c8_0 ([] : List (Int × Int × Int × Int × Int)) [] [])) <|
ww (m_viewportref22Dropq1_ok n c8_0 ([] : List (Int × Int × Int × Int × Int)) hc17) <|
ww (p := LG P none (fnN P 3) 0 (codeOf P 3 [false, false, true, false, true, true, true, true, true, true]) (S_V_1 g2 g10 g11 (c5_a :: c5_t) (([] : List (Int × Int × Int × Int × Int)), 1)) (X_V_1 g2 g10 g11 (c5_a :: c5_t) (c18_a :: c18_t))) (m_V_1_ok n g2 g10 g11 (c5_a :: c5_t) (([] : List (Int × Int × Int × Int × Int)), 1) (c18_a :: c18_t) hc18) <|
ww (iv_flat (c5_a :: c5_t) 3) <|
yy 96 (.call (C_jobsNextq3 (c18_a :: c18_t) g10 g11 g2 (c19_0, c19_1) [(0, 1, true)] [])) <|
ww (m_jobsNextq3_ok n (c18_a :: c18_t) g10 g11 g2 (c19_0, c19_1) hc19) <|
ww (rows_flat rwf_iiiii (c18_a :: c18_t) 37) <|
yy 104 (vt) <|
ww (p := (Value.bool (!c19_1)) = (Value.bool true)) (vBn (Bool.eq_false_iff.2 hc20)) <|
zz 108 (xeT hc21) ee) (by kernel_rfl))
               ·rw [if_neg hc21] at h
                cases h
            | cons c17_a c17_t =>
             dsimp only at h
             obtain ⟨c18_, hc18, h⟩ := Option.bind_eq_some_iff.1 h
             cases c18_ with
             | nil =>
              dsimp only at h
              obtain ⟨_, hc19, h⟩ := Option.bind_eq_some_iff.1 h
              obtain rfl := oI h; exact (runF2 hm (L := lT [(91, ⟨⟨[2, 4, 7, 8, 9], [(0, 0, false), (1, 2, true), (2, 5, true)], 3, 0⟩, (X_V_1 g2 g10 g11 (c5_a :: c5_t) ([] : List (Int × Int × Int × Int × Int))).1, (X_V_1 g2 g10 g11 (c5_a :: c5_t) ([] : List (Int × Int × Int × Int × Int))).2⟩)]) ⟨[6], [], 0, 0⟩ (yy 5 (.call ⟨0, [], (Value.bool true), Ax.h0, []⟩) <|
ww (m_viewportlaw24lives_ok n  () hc1) <|
zz 12 (xdF hc2) <|
yy 15 (.call (C_viewportref22Checkq1  c3_ [] [])) <|
ww (m_viewportref22Checkq1_ok n  c3_ hc3) <|
zz 16 (xnF hc4) <|
yy 23 (.call (C_jobsOrderq1 g10 g11 g2 (c5_a :: c5_t) [] [(2, 1, true)])) <|
ww (m_jobsOrderq1_ok n g10 g11 g2 (c5_a :: c5_t) hc5) <|
ww (iv_flat (c5_a :: c5_t) 3) <|
zz 31 (xnF hc6) <|
zz 46 (xdT hc7) <|
yy 54 (.call (C_jobsNextq1 g10 g11 g2 (c8_0, c8_1) [] [])) <|
ww (m_jobsNextq1_ok n g10 g11 g2 (c8_0, c8_1) hc8) <|
yy 63 (vf) <|
ww (p := (Value.bool (!c8_1)) = (Value.bool false)) (vBn hc9) <|
zz 68 (xk6 2 U1 hc10) <|
zz 69 (xivN hc11 (toNatLt hc10)) <|
zz 70 (xnF hc12) <|
yy 76 (.call (C_jobsOrderq1 g10 g11 g2 (c13_a :: c13_t) [] [(4, 1, true)])) <|
ww (m_jobsOrderq1_ok n g10 g11 g2 (c13_a :: c13_t) hc13) <|
ww (iv_flat (c13_a :: c13_t) 3) <|
yy 79 (.pur (sN 2 (((0 : Int)).toNat * 1) (((c5_a :: c5_t)).length - ((0 : Int)).toNat) (Nat.add big 1))) <|
ww (p := opSlice P 28 (sN 2 0 ((c5_a :: c5_t)).length (Nat.add big 1)) (some (i6 (0 : Int))) none none Ax.h0 = some ((sN 2 (((0 : Int)).toNat * 1) (((c5_a :: c5_t)).length - ((0 : Int)).toNat) (Nat.add big 1)), Ax.h0)) (slRow (e := 3) (es := 1) (by kernel_rfl) (by kernel_rfl) rfl rfl hc14) <|
yy 80 (.call (C_viewportkitSameintq2 (c13_a :: c13_t) (c5_a :: c5_t) (((0 : Int)).toNat) (((c5_a :: c5_t)).length - ((0 : Int)).toNat) c15_ [(0, 4, true), (1, 2, true)] [])) <|
ww (m_viewportkitSameintq2_ok n (c13_a :: c13_t) (c5_a :: c5_t) (((0 : Int)).toNat) (((c5_a :: c5_t)).length - ((0 : Int)).toNat) c15_ hc15) <|
ww (iv_flat (c13_a :: c13_t) 3) <|
ww (iv_flat (c5_a :: c5_t) 3) <|
yy 81 (vf) <|
ww (p := (Value.bool (!c15_)) = (Value.bool false)) (vBn hc16) <|
yy 86 (.call (C_viewportref22Dropq1 c8_0 (c17_a :: c17_t) [] [(5, 0, true)])) <|
ww (m_viewportref22Dropq1_ok n c8_0 (c17_a :: c17_t) hc17) <|
ww (rows_flat rwf_iiiii (c17_a :: c17_t) 37) <|
ww (p := LG P none (fnN P 3) 0 (codeOf P 3 [false, false, true, false, true, true, true, true, true, true]) (S_V_1 g2 g10 g11 (c5_a :: c5_t) ((c17_a :: c17_t), 1)) (X_V_1 g2 g10 g11 (c5_a :: c5_t) ([] : List (Int × Int × Int × Int × Int)))) (m_V_1_ok n g2 g10 g11 (c5_a :: c5_t) ((c17_a :: c17_t), 1) ([] : List (Int × Int × Int × Int × Int)) hc18) <|
ww (iv_flat (c5_a :: c5_t) 3) <|
ww (rows_flat rwf_iiiii (c17_a :: c17_t) 37) <|
yy 96 (.call (C_jobsNextq2 g10 g11 g2 () [] [])) <|
ww (m_jobsNextq2_ok n g10 g11 g2 () hc19) ee) (by kernel_rfl))
             | cons c18_a c18_t =>
              dsimp only at h
              obtain ⟨⟨c19_0, c19_1⟩, hc19, h⟩ := Option.bind_eq_some_iff.1 h
              dsimp only at h
              by_cases hc20 : c19_1 = true
              ·rw [if_pos hc20] at h
               cases h
              ·rw [if_neg hc20] at h
               by_cases hc21 : ((((c18_a :: c18_t)).length : Nat) : Int) = (0 : Int)
               ·rw [if_pos hc21] at h
                obtain rfl := oI h; exact (runF2 hm (L := lT [(91, ⟨⟨[2, 4, 7, 8, 9], [(0, 0, false), (1, 2, true), (2, 5, true)], 3, 0⟩, (X_V_1 g2 g10 g11 (c5_a :: c5_t) (c18_a :: c18_t)).1, (X_V_1 g2 g10 g11 (c5_a :: c5_t) (c18_a :: c18_t)).2⟩)]) ⟨[6], [], 0, 0⟩ (yy 5 (.call ⟨0, [], (Value.bool true), Ax.h0, []⟩) <|
ww (m_viewportlaw24lives_ok n  () hc1) <|
zz 12 (xdF hc2) <|
yy 15 (.call (C_viewportref22Checkq1  c3_ [] [])) <|
ww (m_viewportref22Checkq1_ok n  c3_ hc3) <|
zz 16 (xnF hc4) <|
yy 23 (.call (C_jobsOrderq1 g10 g11 g2 (c5_a :: c5_t) [] [(2, 1, true)])) <|
ww (m_jobsOrderq1_ok n g10 g11 g2 (c5_a :: c5_t) hc5) <|
ww (iv_flat (c5_a :: c5_t) 3) <|
zz 31 (xnF hc6) <|
zz 46 (xdT hc7) <|
yy 54 (.call (C_jobsNextq1 g10 g11 g2 (c8_0, c8_1) [] [])) <|
ww (m_jobsNextq1_ok n g10 g11 g2 (c8_0, c8_1) hc8) <|
yy 63 (vf) <|
ww (p := (Value.bool (!c8_1)) = (Value.bool false)) (vBn hc9) <|
zz 68 (xk6 2 U1 hc10) <|
zz 69 (xivN hc11 (toNatLt hc10)) <|
zz 70 (xnF hc12) <|
yy 76 (.call (C_jobsOrderq1 g10 g11 g2 (c13_a :: c13_t) [] [(4, 1, true)])) <|
ww (m_jobsOrderq1_ok n g10 g11 g2 (c13_a :: c13_t) hc13) <|
ww (iv_flat (c13_a :: c13_t) 3) <|
yy 79 (.pur (sN 2 (((0 : Int)).toNat * 1) (((c5_a :: c5_t)).length - ((0 : Int)).toNat) (Nat.add big 1))) <|
ww (p := opSlice P 28 (sN 2 0 ((c5_a :: c5_t)).length (Nat.add big 1)) (some (i6 (0 : Int))) none none Ax.h0 = some ((sN 2 (((0 : Int)).toNat * 1) (((c5_a :: c5_t)).length - ((0 : Int)).toNat) (Nat.add big 1)), Ax.h0)) (slRow (e := 3) (es := 1) (by kernel_rfl) (by kernel_rfl) rfl rfl hc14) <|
yy 80 (.call (C_viewportkitSameintq2 (c13_a :: c13_t) (c5_a :: c5_t) (((0 : Int)).toNat) (((c5_a :: c5_t)).length - ((0 : Int)).toNat) c15_ [(0, 4, true), (1, 2, true)] [])) <|
ww (m_viewportkitSameintq2_ok n (c13_a :: c13_t) (c5_a :: c5_t) (((0 : Int)).toNat) (((c5_a :: c5_t)).length - ((0 : Int)).toNat) c15_ hc15) <|
ww (iv_flat (c13_a :: c13_t) 3) <|
ww (iv_flat (c5_a :: c5_t) 3) <|
yy 81 (vf) <|
ww (p := (Value.bool (!c15_)) = (Value.bool false)) (vBn hc16) <|
yy 86 (.call (C_viewportref22Dropq1 c8_0 (c17_a :: c17_t) [] [(5, 0, true)])) <|
ww (m_viewportref22Dropq1_ok n c8_0 (c17_a :: c17_t) hc17) <|
ww (rows_flat rwf_iiiii (c17_a :: c17_t) 37) <|
ww (p := LG P none (fnN P 3) 0 (codeOf P 3 [false, false, true, false, true, true, true, true, true, true]) (S_V_1 g2 g10 g11 (c5_a :: c5_t) ((c17_a :: c17_t), 1)) (X_V_1 g2 g10 g11 (c5_a :: c5_t) (c18_a :: c18_t))) (m_V_1_ok n g2 g10 g11 (c5_a :: c5_t) ((c17_a :: c17_t), 1) (c18_a :: c18_t) hc18) <|
ww (iv_flat (c5_a :: c5_t) 3) <|
ww (rows_flat rwf_iiiii (c17_a :: c17_t) 37) <|
yy 96 (.call (C_jobsNextq3 (c18_a :: c18_t) g10 g11 g2 (c19_0, c19_1) [(0, 1, true)] [])) <|
ww (m_jobsNextq3_ok n (c18_a :: c18_t) g10 g11 g2 (c19_0, c19_1) hc19) <|
ww (rows_flat rwf_iiiii (c18_a :: c18_t) 37) <|
yy 104 (vt) <|
ww (p := (Value.bool (!c19_1)) = (Value.bool true)) (vBn (Bool.eq_false_iff.2 hc20)) <|
zz 108 (xeT hc21) ee) (by kernel_rfl))
               ·rw [if_neg hc21] at h
                cases h
           ·rw [if_neg hc16] at h
            cases h
          ·rw [if_neg hc14] at h; cases h
        ·rw [if_neg hc12] at h
         cases h
       ·rw [if_neg hc10] at h; cases h
      ·rw [if_neg hc9] at h
       cases h
     ·rw [if_neg hc7] at h
      obtain ⟨⟨c8_0, c8_1⟩, hc8, h⟩ := Option.bind_eq_some_iff.1 h
      dsimp only at h
      by_cases hc9 : c8_1 = true
      ·rw [if_pos hc9] at h
       cases h
      ·rw [if_neg hc9] at h
       by_cases hc10 : (Args.A.length : Int) = (0 : Int)
       ·rw [if_pos hc10] at h
        obtain rfl := oI h; exact (runF2 hm (L := lT []) ⟨[6], [], 0, 0⟩ (yy 5 (.call ⟨0, [], (Value.bool true), Ax.h0, []⟩) <|
ww (m_viewportlaw24lives_ok n  () hc1) <|
zz 12 (xdF hc2) <|
yy 15 (.call (C_viewportref22Checkq1  c3_ [] [])) <|
ww (m_viewportref22Checkq1_ok n  c3_ hc3) <|
zz 16 (xnF hc4) <|
yy 23 (.call (C_jobsOrderq1 g10 g11 g2 (c5_a :: c5_t) [] [(2, 1, true)])) <|
ww (m_jobsOrderq1_ok n g10 g11 g2 (c5_a :: c5_t) hc5) <|
ww (iv_flat (c5_a :: c5_t) 3) <|
zz 31 (xnF hc6) <|
zz 46 (xdF hc7) <|
yy 52 (.call (C_jobsNextq1 g10 g11 g2 (c8_0, c8_1) [] [])) <|
ww (m_jobsNextq1_ok n g10 g11 g2 (c8_0, c8_1) hc8) <|
yy 60 (vt) <|
ww (p := (Value.bool (!c8_1)) = (Value.bool true)) (vBn (Bool.eq_false_iff.2 hc9)) <|
zz 64 (xeT hc10) ee) (by kernel_rfl))
       ·rw [if_neg hc10] at h
        cases h
    ·rw [if_neg hc6] at h
     cases h
  ·rw [if_neg hc4] at h
   obtain rfl := oI h; exact (runF2 hm (L := lT []) ⟨[6], [], 0, 0⟩ (yy 5 (.call ⟨0, [], (Value.bool true), Ax.h0, []⟩) <|
ww (m_viewportlaw24lives_ok n  () hc1) <|
zz 12 (xdF hc2) <|
yy 15 (.call (C_viewportref22Checkq1  c3_ [] [])) <|
ww (m_viewportref22Checkq1_ok n  c3_ hc3) <|
zz 16 (xnT hc4) ee) (by kernel_rfl))

end Go.Proofs.Ytpbaplmodomfeaa.jbo24
