/-
  What functions do, told by pure functions. No condition.
-/
import Derived.Test.YtgcbagchpjpmoaaFirLives
set_option linter.unusedSimpArgs false
set_option linter.unusedVariables false
set_option linter.unusedSectionVars false
set_option linter.unnecessarySimpa false
namespace Go.Proofs.Ytgcbagchpjpmoaa.firw
open Go Go.Proofs.Ytgcbagchpjpmoaa Ax
variable [Args]
def rw_s (x : ByteArray) : List Value := [Value.string x]
theorem rwf_s : RowF rw_s 1 := ⟨fun _ => rfl, fun a v h => by
  simp only [rw_s, List.mem_cons, List.not_mem_nil, or_false] at h
  rcases h with rfl <;> rfl, fun _ => rfl⟩
def rw_y (x : Int) : List Value := [Value.int .u8 x]
theorem rwf_y : RowF rw_y 1 := ⟨fun _ => rfl, fun a v h => by
  simp only [rw_y, List.mem_cons, List.not_mem_nil, or_false] at h
  rcases h with rfl <;> rfl, fun _ => rfl⟩

def m_viewportlaw12lives (n : Nat) : Option Unit := some ()
theorem m_viewportlaw12lives_ok (n : Nat) (r : Unit) (h : m_viewportlaw12lives n = some r) : Gv P (.func 4) [] Ax.h0 (.bool true) Ax.h0 := lives_gv

noncomputable def A_firstRowsq1 (a0 : Int) (a1 : Int) : List Value := [(Value.int .i64 a0), (Value.int .i64 a1)]
noncomputable def H_firstRowsq1 (a0 : Int) (a1 : Int) : AH := ⟨sB [], 0, 0⟩
noncomputable def V_firstRowsq1 (a0 : Int) (a1 : Int) (r : Unit) : Value := match r with
  | _ => (Value.func (.func 11) #[] #[(Value.pointer (some ⟨0, 0, none⟩)), (Value.pointer (some ⟨1, 0, none⟩))])
noncomputable def R_firstRowsq1 (a0 : Int) (a1 : Int) (r : Unit) : AH := match r with
  | _ => ⟨sB [(0, (some (.cells (layT [(Value.int .i64 a0)]) 3))), (1, (some (.cells (layT [(Value.int .i64 a1)]) 3)))], 2, 0⟩
def m_firstRowsq1 (n : Nat) (a0 : Int) (a1 : Int) : Option (Unit) :=
  some ()
set_option maxRecDepth 100000 in
theorem p_firstRowsq1_0 (n : Nat) (a0 : Int) (a1 : Int) : Gv P (.func 7) (A_firstRowsq1 a0 a1) (H_firstRowsq1 a0 a1) (V_firstRowsq1 a0 a1 ()) (R_firstRowsq1 a0 a1 ()) :=
  runF_ok hm (A := aT []) (L := lT []) (wk := ⟨[4], [(0, 0, false), (1, 1, false)], 2, 0⟩)
    (ps := []) (by kernel_rfl) trivial
theorem m_firstRowsq1_ok (n : Nat) (a0 : Int) (a1 : Int) (r : Unit) (h : m_firstRowsq1 n a0 a1 = some r) : Gv P (.func 7) (A_firstRowsq1 a0 a1) (H_firstRowsq1 a0 a1) (V_firstRowsq1 a0 a1 r) (R_firstRowsq1 a0 a1 r) := by
  unfold m_firstRowsq1 at h
  obtain rfl := Option.some.inj h; exact p_firstRowsq1_0 n a0 a1

noncomputable def A_firstclockq1 (a0 : Int) (a1 : Int) : List Value := [(Value.int .i64 a0), (Value.int .i64 a1)]
noncomputable def H_firstclockq1 (a0 : Int) (a1 : Int) : AH := ⟨sB [], 0, 0⟩
noncomputable def V_firstclockq1 (a0 : Int) (a1 : Int) (r : Unit) : Value := match r with
  | _ => (Value.func (.func 17) #[] #[(Value.pointer (some ⟨0, 0, none⟩)), (Value.pointer (some ⟨1, 0, none⟩))])
noncomputable def R_firstclockq1 (a0 : Int) (a1 : Int) (r : Unit) : AH := match r with
  | _ => ⟨sB [(0, (some (.cells (layT [(Value.int .i64 a0)]) 3))), (1, (some (.cells (layT [(Value.int .i64 a1)]) 3)))], 2, 0⟩
def m_firstclockq1 (n : Nat) (a0 : Int) (a1 : Int) : Option (Unit) :=
  some ()
set_option maxRecDepth 100000 in
theorem p_firstclockq1_0 (n : Nat) (a0 : Int) (a1 : Int) : Gv P (.func 12) (A_firstclockq1 a0 a1) (H_firstclockq1 a0 a1) (V_firstclockq1 a0 a1 ()) (R_firstclockq1 a0 a1 ()) :=
  runF_ok hm (A := aT []) (L := lT []) (wk := ⟨[4], [(0, 0, false), (1, 1, false)], 2, 0⟩)
    (ps := []) (by kernel_rfl) trivial
theorem m_firstclockq1_ok (n : Nat) (a0 : Int) (a1 : Int) (r : Unit) (h : m_firstclockq1 n a0 a1 = some r) : Gv P (.func 12) (A_firstclockq1 a0 a1) (H_firstclockq1 a0 a1) (V_firstclockq1 a0 a1 r) (R_firstclockq1 a0 a1 r) := by
  unfold m_firstclockq1 at h
  obtain rfl := Option.some.inj h; exact p_firstclockq1_0 n a0 a1

noncomputable def S_firstfillq1_1 (x1_1 : Int) (st : List (Int)) : XSt := match st with
  | x1_0 => (sT 20 [(0, (slR x1_0 0 1)), (2, (Value.int .i64 x1_1))], [], ⟨sB [(0, (nblkR rw_y x1_0 5))], 1, 0⟩)
noncomputable def X_firstfillq1_1 (x1_1 : Int) (r : List (Int)) : Ex × XSt := match r with
  | z1_0 => (.exit 0, (sT 20 [(0, (slR z1_0 0 1))], [], ⟨sB [(0, (nblkR rw_y z1_0 5))], 1, 0⟩))
def B_firstfillq1_1 (n : Nat) (x1_1 : Int) (st : List (Int)) : Option ((List (Int)) ⊕ (List (Int))) := match st with
  | x1_0 =>
    match x1_0 with
    | [] =>
      if (0 : Int) < x1_1 then
        some (.inl [(0 : Int)])
      else
        some (.inr ([] : List (Int)))
    | x1_0a :: x1_0t =>
      if ((((x1_0a :: x1_0t)).length : Nat) : Int) < x1_1 then
        if (((x1_0a :: x1_0t)).length + 1) * 1 ≤ 140737488355328 then
          some (.inl ((x1_0a :: x1_0t) ++ [(0 : Int)]))
        else none
      else
        some (.inr (x1_0a :: x1_0t))
def m_firstfillq1_1 (n : Nat) (x1_1 : Int) (st : List (Int)) : Option (List (Int)) := iterM (B_firstfillq1_1 n x1_1) n st
set_option maxRecDepth 100000 in
theorem q_firstfillq1_1_0 (n : Nat) {rnd : Option Nat} (x1_1 : Int) (hy1_1 : (0 : Int) < x1_1) : CG P rnd (fnN P 18) 0 (codeOf P 18 [false, false, false, true, true]) (S_firstfillq1_1 x1_1 ([] : List (Int))) (.normal, S_firstfillq1_1 x1_1 [(0 : Int)]) :=
  runC_ok hm (A := aT [(5, .val (.bool true))]) (L := lT []) (wk := ⟨[0, 2], [(0, 2, false)], 1, 0⟩)
    (ps := [(Value.bool (decide ((0 : Int) < x1_1))) = (Value.bool true)]) (by kernel_rfl) ⟨(vbT hy1_1), trivial⟩
set_option maxRecDepth 100000 in
theorem q_firstfillq1_1_1 (n : Nat) {rnd : Option Nat} (x1_1 : Int) (hy1_1 : ¬ ((0 : Int) < x1_1)) : CG P rnd (fnN P 18) 0 (codeOf P 18 [false, false, false, true, true]) (S_firstfillq1_1 x1_1 ([] : List (Int))) (X_firstfillq1_1 x1_1 ([] : List (Int))) :=
  runC_ok hm (A := aT [(5, .val (.bool false))]) (L := lT []) (wk := ⟨[0], [], 1, 0⟩)
    (ps := [(Value.bool (decide ((0 : Int) < x1_1))) = (Value.bool false)]) (by kernel_rfl) ⟨(vbF hy1_1), trivial⟩
set_option maxRecDepth 100000 in
theorem q_firstfillq1_1_2 (n : Nat) {rnd : Option Nat} (x1_0a : Int) (x1_0t : List (Int)) (x1_1 : Int) (hy1_1 : ((((x1_0a :: x1_0t)).length : Nat) : Int) < x1_1) (hy1_2 : (((x1_0a :: x1_0t)).length + 1) * 1 ≤ 140737488355328) : CG P rnd (fnN P 18) 0 (codeOf P 18 [false, false, false, true, true]) (S_firstfillq1_1 x1_1 (x1_0a :: x1_0t)) (.normal, S_firstfillq1_1 x1_1 ((x1_0a :: x1_0t) ++ [(0 : Int)])) :=
  runC_ok hm (A := aT [(5, .val (.bool true)), (10, .app ⟨none, rows rw_y (x1_0a :: x1_0t), (rows rw_y ((x1_0a :: x1_0t) ++ [(0 : Int)])), (((x1_0a :: x1_0t) ++ [(0 : Int)])).length, false⟩)]) (L := lT []) (wk := ⟨[0, 2], [(0, 2, true)], 1, 0⟩)
    (ps := [(Value.bool (decide (((((x1_0a :: x1_0t)).length : Nat) : Int) < x1_1))) = (Value.bool true),
    0 < 1,
    rdT (layT (rows rw_y (x1_0a :: x1_0t))) (Nat.mul ((x1_0a :: x1_0t)).length 1) 0 = some (rows rw_y (x1_0a :: x1_0t)),
    fits (Nat.add ((x1_0a :: x1_0t)).length 1) 1 = true,
    allCells [(Value.int .u8 (0 : Int))] = true,
    allCells (rows rw_y (x1_0a :: x1_0t)) = true,
    rows rw_y (x1_0a :: x1_0t) ++ [(Value.int .u8 (0 : Int))] = (rows rw_y ((x1_0a :: x1_0t) ++ [(0 : Int)])),
    Nat.add ((x1_0a :: x1_0t)).length 1 = (((x1_0a :: x1_0t) ++ [(0 : Int)])).length,
    FlatB (.cells (layT (rows rw_y ((x1_0a :: x1_0t) ++ [(0 : Int)]))) 5)]) (by kernel_rfl) ⟨(vbT hy1_1), ((by decide)), (rows_rd rwf_y _ _ rfl), (fits_ok hy1_2 (by have := hy1_2; show (_ : Nat) + _ ≤ _; omega)), (rfl), (rows_cells rwf_y _), (rows_app rw_y (x1_0a :: x1_0t) [(0 : Int)]), (by simp), (rows_flat rwf_y _ _), trivial⟩
set_option maxRecDepth 100000 in
theorem q_firstfillq1_1_3 (n : Nat) {rnd : Option Nat} (x1_0a : Int) (x1_0t : List (Int)) (x1_1 : Int) (hy1_1 : ¬ (((((x1_0a :: x1_0t)).length : Nat) : Int) < x1_1)) : CG P rnd (fnN P 18) 0 (codeOf P 18 [false, false, false, true, true]) (S_firstfillq1_1 x1_1 (x1_0a :: x1_0t)) (X_firstfillq1_1 x1_1 (x1_0a :: x1_0t)) :=
  runC_ok hm (A := aT [(5, .val (.bool false))]) (L := lT []) (wk := ⟨[0], [(0, 0, true)], 1, 0⟩)
    (ps := [(Value.bool (decide (((((x1_0a :: x1_0t)).length : Nat) : Int) < x1_1))) = (Value.bool false),
    FlatB (.cells (layT (rows rw_y (x1_0a :: x1_0t))) 5)]) (by kernel_rfl) ⟨(vbF hy1_1), (rows_flat rwf_y _ _), trivial⟩
theorem m_firstfillq1_1_ok (n : Nat) {rnd : Option Nat} (x1_1 : Int) (st : List (Int)) (r : List (Int)) (h : m_firstfillq1_1 n x1_1 st = some r) : CG P rnd (fnN P 18) 0 (codeOf P 18 [false, false, true, true]) (S_firstfillq1_1 x1_1 st) (X_firstfillq1_1 x1_1 r) :=
  CG.iter (b := codeOf P 18 [false, false, false, true, true]) (by kernel_rfl) (body := B_firstfillq1_1 n x1_1) (S := S_firstfillq1_1 x1_1) (X := X_firstfillq1_1 x1_1)
    (fun x1_0 s' h => by
    unfold B_firstfillq1_1 at h
    dsimp only at h
    cases x1_0 with
    | nil =>
      dsimp only at h
      by_cases hy1_1 : (0 : Int) < x1_1
      · rw [if_pos hy1_1] at h
        obtain rfl := Sum.inl.inj (Option.some.inj h); exact q_firstfillq1_1_0 n x1_1 hy1_1
      · rw [if_neg hy1_1] at h
        cases h
    | cons x1_0a x1_0t =>
      dsimp only at h
      by_cases hy1_1 : ((((x1_0a :: x1_0t)).length : Nat) : Int) < x1_1
      · rw [if_pos hy1_1] at h
        by_cases hy1_2 : (((x1_0a :: x1_0t)).length + 1) * 1 ≤ 140737488355328
        · rw [if_pos hy1_2] at h
          obtain rfl := Sum.inl.inj (Option.some.inj h); exact q_firstfillq1_1_2 n x1_0a x1_0t x1_1 hy1_1 hy1_2
        · rw [if_neg hy1_2] at h; cases h
      · rw [if_neg hy1_1] at h
        cases h)
    (fun x1_0 r h => by
    unfold B_firstfillq1_1 at h
    dsimp only at h
    cases x1_0 with
    | nil =>
      dsimp only at h
      by_cases hy1_1 : (0 : Int) < x1_1
      · rw [if_pos hy1_1] at h
        cases h
      · rw [if_neg hy1_1] at h
        obtain rfl := Sum.inr.inj (Option.some.inj h); exact q_firstfillq1_1_1 n x1_1 hy1_1
    | cons x1_0a x1_0t =>
      dsimp only at h
      by_cases hy1_1 : ((((x1_0a :: x1_0t)).length : Nat) : Int) < x1_1
      · rw [if_pos hy1_1] at h
        by_cases hy1_2 : (((x1_0a :: x1_0t)).length + 1) * 1 ≤ 140737488355328
        · rw [if_pos hy1_2] at h
          cases h
        · rw [if_neg hy1_2] at h; cases h
      · rw [if_neg hy1_1] at h
        obtain rfl := Sum.inr.inj (Option.some.inj h); exact q_firstfillq1_1_3 n x1_0a x1_0t x1_1 hy1_1)
    (fun r => by intro hx; cases hx) h
noncomputable def A_firstfillq1 (a0 : Int) (a1 : Int) : List Value := [(Value.slice none 0 0), (Value.int .i64 a0), (Value.int .i64 a1)]
noncomputable def H_firstfillq1 (a0 : Int) (a1 : Int) : AH := ⟨sB [], 0, 0⟩
noncomputable def V_firstfillq1 (a0 : Int) (a1 : Int) (r : List (Int)) : Value := match r with
  | o0 => (Value.slice (some ⟨0, 0, none⟩) (o0).length (Nat.add big 1))
noncomputable def R_firstfillq1 (a0 : Int) (a1 : Int) (r : List (Int)) : AH := match r with
  | o0 => ⟨sB [(0, (some (.cells (layT (rows rw_y o0)) 5)))], 1, 0⟩
def m_firstfillq1 (n : Nat) (a0 : Int) (a1 : Int) : Option (List (Int)) :=
  if a0 = (0 : Int) then
    some [(255 : Int)]
  else
    (m_firstfillq1_1 n a1 ([] : List (Int))).bind fun c2_ =>
    match c2_ with
    | [] =>
      none
    | c2_a :: c2_t =>
      some (c2_a :: c2_t)
set_option maxRecDepth 100000 in
theorem p_firstfillq1_0 (n : Nat) (a0 : Int) (a1 : Int) (hc1 : a0 = (0 : Int)) : Gv P (.func 18) (A_firstfillq1 a0 a1) (H_firstfillq1 a0 a1) (V_firstfillq1 a0 a1 [(255 : Int)]) (R_firstfillq1 a0 a1 [(255 : Int)]) :=
  runF_ok hm (A := aT [(5, .val (.bool true))]) (L := lT []) (wk := ⟨[6], [(0, 1, false)], 1, 0⟩)
    (ps := [(Value.bool (a0 == (0 : Int))) = (Value.bool true)]) (by kernel_rfl) ⟨(veT hc1), trivial⟩
set_option maxRecDepth 100000 in
theorem p_firstfillq1_1 (n : Nat) (a0 : Int) (a1 : Int) (hc1 : ¬ (a0 = (0 : Int))) (c2_a : Int) (c2_t : List (Int)) (hc2 : m_firstfillq1_1 n a1 ([] : List (Int)) = some (c2_a :: c2_t)) : Gv P (.func 18) (A_firstfillq1 a0 a1) (H_firstfillq1 a0 a1) (V_firstfillq1 a0 a1 (c2_a :: c2_t)) (R_firstfillq1 a0 a1 (c2_a :: c2_t)) :=
  runF_ok hm (A := aT [(5, .val (.bool false))]) (L := lT [(9, ⟨⟨[0, 2], [], 1, 0⟩, (X_firstfillq1_1 a1 (c2_a :: c2_t)).1, (X_firstfillq1_1 a1 (c2_a :: c2_t)).2⟩)]) (wk := ⟨[6], [(0, 0, true)], 1, 0⟩)
    (ps := [(Value.bool (a0 == (0 : Int))) = (Value.bool false),
    CG P none (fnN P 18) 0 (codeOf P 18 [false, false, true, true]) (S_firstfillq1_1 a1 ([] : List (Int))) (X_firstfillq1_1 a1 (c2_a :: c2_t)),
    FlatB (.cells (layT (rows rw_y (c2_a :: c2_t))) 5)]) (by kernel_rfl) ⟨(veF hc1), (m_firstfillq1_1_ok n a1 ([] : List (Int)) (c2_a :: c2_t) hc2), (rows_flat rwf_y _ _), trivial⟩
theorem m_firstfillq1_ok (n : Nat) (a0 : Int) (a1 : Int) (r : List (Int)) (h : m_firstfillq1 n a0 a1 = some r) : Gv P (.func 18) (A_firstfillq1 a0 a1) (H_firstfillq1 a0 a1) (V_firstfillq1 a0 a1 r) (R_firstfillq1 a0 a1 r) := by
  unfold m_firstfillq1 at h
  by_cases hc1 : a0 = (0 : Int)
  · rw [if_pos hc1] at h
    obtain rfl := Option.some.inj h; exact p_firstfillq1_0 n a0 a1 hc1
  · rw [if_neg hc1] at h
    obtain ⟨c2_, hc2, h⟩ := Option.bind_eq_some_iff.1 h
    cases c2_ with
    | nil =>
      dsimp only at h
      cases h
    | cons c2_a c2_t =>
      dsimp only at h
      obtain rfl := Option.some.inj h; exact p_firstfillq1_1 n a0 a1 hc1 c2_a c2_t hc2

noncomputable def A_viewportlaw12rows_111010y1 (a0 : Bool) (a1 : Int) (a2 : Int) (a3 : ByteArray) : List Value := [(Value.string a3)]
noncomputable def H_viewportlaw12rows_111010y1 (a0 : Bool) (a1 : Int) (a2 : Int) (a3 : ByteArray) : AH := ⟨sB [(0, (some (rblk P 5 [false, true, false, true, true, true, true] .ready none [(4, (Value.pointer (some ⟨2, 0, none⟩))), (5, (Value.pointer (some ⟨3, 0, none⟩))), (7, (Value.pointer (some ⟨4, 0, none⟩))), (14, (Value.func (.func 11) #[] #[(Value.pointer (some ⟨5, 0, none⟩)), (Value.pointer (some ⟨6, 0, none⟩))]))] 1))), (1, (some (.marks true))), (2, (some (.cells (layT [(Value.slice none 0 0)]) 23))), (3, (some (.cells (layT [(Value.bool a0)]) 4))), (4, (some (.cells (layT [(Value.slice none 0 0)]) 23))), (5, (some (.cells (layT [(Value.int .i64 a1)]) 3))), (6, (some (.cells (layT [(Value.int .i64 a2)]) 3)))], 7, 7⟩
noncomputable def V_viewportlaw12rows_111010y1 (a0 : Bool) (a1 : Int) (a2 : Int) (a3 : ByteArray) (r : Unit) : Value := match r with
  | _ => (Value.bool true)
noncomputable def R_viewportlaw12rows_111010y1 (a0 : Bool) (a1 : Int) (a2 : Int) (a3 : ByteArray) (r : Unit) : AH := match r with
  | _ => ⟨sB [(0, (some (rblk P 5 [false, true, false, true, true, true, true] .ready none [(4, (Value.pointer (some ⟨2, 0, none⟩))), (5, (Value.pointer (some ⟨3, 0, none⟩))), (7, (Value.pointer (some ⟨4, 0, none⟩))), (14, (Value.func (.func 11) #[] #[(Value.pointer (some ⟨5, 0, none⟩)), (Value.pointer (some ⟨6, 0, none⟩))]))] 1))), (1, (some (.marks true))), (2, (some (.cells (layT [(Value.slice none 0 0)]) 23))), (3, (some (.cells (layT [(Value.bool a0)]) 4))), (4, (some (.cells (layT [(Value.slice (some ⟨7, 0, none⟩) 1 (Nat.add big 1))]) 23))), (5, (some (.cells (layT [(Value.int .i64 a1)]) 3))), (6, (some (.cells (layT [(Value.int .i64 a2)]) 3))), (7, (some (.cells (layT [(Value.string a3)]) 9)))], 8, 0⟩
def m_viewportlaw12rows_111010y1 (n : Nat) (a0 : Bool) (a1 : Int) (a2 : Int) (a3 : ByteArray) : Option (Unit) :=
  some ()
set_option maxRecDepth 100000 in
theorem p_viewportlaw12rows_111010y1_0 (n : Nat) (a0 : Bool) (a1 : Int) (a2 : Int) (a3 : ByteArray) : Gv P (.yield 0) (A_viewportlaw12rows_111010y1 a0 a1 a2 a3) (H_viewportlaw12rows_111010y1 a0 a1 a2 a3) (V_viewportlaw12rows_111010y1 a0 a1 a2 a3 ()) (R_viewportlaw12rows_111010y1 a0 a1 a2 a3 ()) :=
  runY_ok hm (A1 := aT []) (L1 := lT []) (A2 := aT []) (L2 := lT []) (wk := ⟨[], [(0, 0, false), (1, 1, false), (2, 2, false), (3, 3, false), (4, 4, false), (5, 5, false), (6, 6, false), (7, 8, false)], 8, 0⟩)
    (ps := []) (by kernel_rfl) trivial
theorem m_viewportlaw12rows_111010y1_ok (n : Nat) (a0 : Bool) (a1 : Int) (a2 : Int) (a3 : ByteArray) (r : Unit) (h : m_viewportlaw12rows_111010y1 n a0 a1 a2 a3 = some r) : Gv P (.yield 0) (A_viewportlaw12rows_111010y1 a0 a1 a2 a3) (H_viewportlaw12rows_111010y1 a0 a1 a2 a3) (V_viewportlaw12rows_111010y1 a0 a1 a2 a3 r) (R_viewportlaw12rows_111010y1 a0 a1 a2 a3 r) := by
  unfold m_viewportlaw12rows_111010y1 at h
  obtain rfl := Option.some.inj h; exact p_viewportlaw12rows_111010y1_0 n a0 a1 a2 a3

noncomputable def A_firstRows1_1110y1 (a0 : Bool) (a1 : Int) (a2 : Int) (a3 : Int) (a4 : Int) (a5 : List (Int)) : List Value := [(Value.slice (some ⟨12, 0, none⟩) (a5).length (Nat.add big 1))]
noncomputable def H_firstRows1_1110y1 (a0 : Bool) (a1 : Int) (a2 : Int) (a3 : Int) (a4 : Int) (a5 : List (Int)) : AH := ⟨sB [(0, (some (rblk P 11 [false, true, true, true] .ready none [(3, (Value.pointer (some ⟨2, 0, none⟩))), (21, (Value.func (.func 17) #[] #[(Value.pointer (some ⟨10, 0, none⟩)), (Value.pointer (some ⟨11, 0, none⟩))]))] 1))), (1, (some (.marks true))), (2, (some (.cells (layT [(Value.func (.yield 3) #[] #[])]) 38))), (3, (some (rblk P 5 [false, true, false, true, true, true, true] .ready none [(4, (Value.pointer (some ⟨5, 0, none⟩))), (5, (Value.pointer (some ⟨6, 0, none⟩))), (7, (Value.pointer (some ⟨7, 0, none⟩))), (14, (Value.func (.func 11) #[] #[(Value.pointer (some ⟨8, 0, none⟩)), (Value.pointer (some ⟨9, 0, none⟩))]))] 4))), (4, (some (.marks true))), (5, (some (.cells (layT [(Value.slice none 0 0)]) 23))), (6, (some (.cells (layT [(Value.bool a0)]) 4))), (7, (some (.cells (layT [(Value.slice none 0 0)]) 23))), (8, (some (.cells (layT [(Value.int .i64 a1)]) 3))), (9, (some (.cells (layT [(Value.int .i64 a2)]) 3))), (10, (some (.cells (layT [(Value.int .i64 a3)]) 3))), (11, (some (.cells (layT [(Value.int .i64 a4)]) 3))), (12, (some (.cells (layT (rows rw_y a5)) 5)))], 13, 13⟩
noncomputable def V_firstRows1_1110y1 (a0 : Bool) (a1 : Int) (a2 : Int) (a3 : Int) (a4 : Int) (a5 : List (Int)) (r : ByteArray) : Value := match r with
  | o0 => (Value.bool true)
noncomputable def R_firstRows1_1110y1 (a0 : Bool) (a1 : Int) (a2 : Int) (a3 : Int) (a4 : Int) (a5 : List (Int)) (r : ByteArray) : AH := match r with
  | o0 => ⟨sB [(0, (some (rblk P 11 [false, true, true, true] .ready none [(3, (Value.pointer (some ⟨2, 0, none⟩))), (21, (Value.func (.func 17) #[] #[(Value.pointer (some ⟨10, 0, none⟩)), (Value.pointer (some ⟨11, 0, none⟩))]))] 1))), (1, (some (.marks true))), (2, (some (.cells (layT [(Value.func (.yield 3) #[] #[])]) 38))), (3, (some (rblk P 5 [false, true, false, true, true, true, true] .ready none [(4, (Value.pointer (some ⟨5, 0, none⟩))), (5, (Value.pointer (some ⟨6, 0, none⟩))), (7, (Value.pointer (some ⟨7, 0, none⟩))), (14, (Value.func (.func 11) #[] #[(Value.pointer (some ⟨8, 0, none⟩)), (Value.pointer (some ⟨9, 0, none⟩))]))] 4))), (4, (some (.marks true))), (5, (some (.cells (layT [(Value.slice none 0 0)]) 23))), (6, (some (.cells (layT [(Value.bool a0)]) 4))), (7, (some (.cells (layT [(Value.slice (some ⟨13, 0, none⟩) 1 (Nat.add big 1))]) 23))), (8, (some (.cells (layT [(Value.int .i64 a1)]) 3))), (9, (some (.cells (layT [(Value.int .i64 a2)]) 3))), (10, (some (.cells (layT [(Value.int .i64 a3)]) 3))), (11, (some (.cells (layT [(Value.int .i64 a4)]) 3))), (12, (some (.cells (layT (rows rw_y a5)) 5))), (13, (some (.cells (layT [(Value.string o0)]) 9)))], 14, 0⟩
def m_firstRows1_1110y1 (n : Nat) (a0 : Bool) (a1 : Int) (a2 : Int) (a3 : Int) (a4 : Int) (a5 : List (Int)) : Option (ByteArray) :=
  (m_viewportlaw12rows_111010y1 n a0 a1 a2 (txtOf (List.take (a5).length a5))).bind fun _ =>
  some (txtOf (List.take (a5).length a5))
set_option maxRecDepth 100000 in
theorem p_firstRows1_1110y1_0 (n : Nat) (a0 : Bool) (a1 : Int) (a2 : Int) (a3 : Int) (a4 : Int) (a5 : List (Int)) (hc1 : m_viewportlaw12rows_111010y1 n a0 a1 a2 (txtOf (List.take (a5).length a5)) = some ()) : Gv P (.yield 0) (A_firstRows1_1110y1 a0 a1 a2 a3 a4 a5) (H_firstRows1_1110y1 a0 a1 a2 a3 a4 a5) (V_firstRows1_1110y1 a0 a1 a2 a3 a4 a5 (txtOf (List.take (a5).length a5))) (R_firstRows1_1110y1 a0 a1 a2 a3 a4 a5 (txtOf (List.take (a5).length a5))) :=
  runY_ok hm (A1 := aT []) (L1 := lT []) (A2 := aT [(4, .str (Value.string (txtOf (List.take (a5).length a5)))), (5, .call ⟨7, [(0, 3, false), (1, 4, false), (2, 5, false), (3, 6, false), (4, 7, false), (5, 8, false), (6, 9, false)], (V_viewportlaw12rows_111010y1 a0 a1 a2 (txtOf (List.take (a5).length a5)) ()), (R_viewportlaw12rows_111010y1 a0 a1 a2 (txtOf (List.take (a5).length a5)) ()), [(3, 0, false), (4, 1, false), (5, 2, false), (6, 3, false), (7, 4, false), (8, 5, false), (9, 6, false), (13, 7, false)]⟩)]) (L2 := lT []) (wk := ⟨[], [(0, 0, false), (1, 1, false), (2, 2, false), (3, 3, false), (4, 4, false), (5, 5, false), (6, 6, false), (7, 7, false), (8, 8, false), (9, 9, false), (10, 10, false), (11, 11, false), (12, 12, true), (13, 13, false)], 14, 0⟩)
    (ps := [∃ r, (oc (rdT (layT (rows rw_y a5)) (a5).length 0) none fun l => bytesL l) = some r ∧ (Value.string (txtOf (List.take (a5).length a5))) = .string ⟨⟨r⟩⟩,
    Gv P (.yield 0) (A_viewportlaw12rows_111010y1 a0 a1 a2 (txtOf (List.take (a5).length a5))) (H_viewportlaw12rows_111010y1 a0 a1 a2 (txtOf (List.take (a5).length a5))) (V_viewportlaw12rows_111010y1 a0 a1 a2 (txtOf (List.take (a5).length a5)) ()) (R_viewportlaw12rows_111010y1 a0 a1 a2 (txtOf (List.take (a5).length a5)) ()),
    FlatB (.cells (layT (rows rw_y a5)) 5)]) (by kernel_rfl) ⟨(str_rows rwf_y (fun _ => rfl) _ _ (Nat.le_refl _)), (m_viewportlaw12rows_111010y1_ok n a0 a1 a2 (txtOf (List.take (a5).length a5)) () hc1), (rows_flat rwf_y _ _), trivial⟩
theorem m_firstRows1_1110y1_ok (n : Nat) (a0 : Bool) (a1 : Int) (a2 : Int) (a3 : Int) (a4 : Int) (a5 : List (Int)) (r : ByteArray) (h : m_firstRows1_1110y1 n a0 a1 a2 a3 a4 a5 = some r) : Gv P (.yield 0) (A_firstRows1_1110y1 a0 a1 a2 a3 a4 a5) (H_firstRows1_1110y1 a0 a1 a2 a3 a4 a5) (V_firstRows1_1110y1 a0 a1 a2 a3 a4 a5 r) (R_firstRows1_1110y1 a0 a1 a2 a3 a4 a5 r) := by
  unfold m_firstRows1_1110y1 at h
  obtain ⟨_, hc1, h⟩ := Option.bind_eq_some_iff.1 h
  obtain rfl := Option.some.inj h; exact p_firstRows1_1110y1_0 n a0 a1 a2 a3 a4 a5 hc1

noncomputable def S_firstfillq2_1 (x1_2 : Int) (st : List (Int) × Nat) : XSt := match st with
  | (x1_0, x1_1) => (sT 20 [(0, (Value.slice (some ⟨1, 0, none⟩) x1_1 (Nat.add big 1))), (2, (Value.int .i64 x1_2))], [], ⟨sB [(1, (some (.cells (layT (rows rw_y x1_0)) 5)))], 2, 0⟩)
noncomputable def X_firstfillq2_1 (x1_2 : Int) (r : List (Int) × Nat) : Ex × XSt := match r with
  | (z1_0, z1_1) => (.exit 0, (sT 20 [(0, (Value.slice (some ⟨1, 0, none⟩) z1_1 (Nat.add big 1)))], [], ⟨sB [(1, (some (.cells (layT (rows rw_y z1_0)) 5)))], 2, 0⟩))
def B_firstfillq2_1 (n : Nat) (x1_2 : Int) (st : List (Int) × Nat) : Option ((List (Int) × Nat) ⊕ (List (Int) × Nat)) := match st with
  | (x1_0, x1_1) =>
    if ((x1_1 : Nat) : Int) < x1_2 then
      if x1_1 ≤ (x1_0).length then
        if (x1_1 + 1) * 1 ≤ 140737488355328 then
          some (.inl (((List.take x1_1 x1_0) ++ [(0 : Int)]), ((((List.take x1_1 x1_0) ++ [(0 : Int)])).length)))
        else none
      else none
    else
      some (.inr (x1_0, x1_1))
def m_firstfillq2_1 (n : Nat) (x1_2 : Int) (st : List (Int) × Nat) : Option (List (Int) × Nat) := iterM (B_firstfillq2_1 n x1_2) n st
set_option maxRecDepth 100000 in
theorem q_firstfillq2_1_0 (n : Nat) {rnd : Option Nat} (x1_0 : List (Int)) (x1_1 : Nat) (x1_2 : Int) (hy1_1 : ((x1_1 : Nat) : Int) < x1_2) (hy1_2 : x1_1 ≤ (x1_0).length) (hy1_3 : (x1_1 + 1) * 1 ≤ 140737488355328) : CG P rnd (fnN P 18) 1 (codeOf P 18 [false, false, false, true, true]) (S_firstfillq2_1 x1_2 (x1_0, x1_1)) (.normal, S_firstfillq2_1 x1_2 (((List.take x1_1 x1_0) ++ [(0 : Int)]), ((((List.take x1_1 x1_0) ++ [(0 : Int)])).length))) :=
  runC_ok hm (A := aT [(5, .val (.bool true)), (10, .app ⟨none, rows rw_y (List.take x1_1 x1_0), (rows rw_y ((List.take x1_1 x1_0) ++ [(0 : Int)])), (((List.take x1_1 x1_0) ++ [(0 : Int)])).length, false⟩)]) (L := lT []) (wk := ⟨[0, 2], [(1, 3, true)], 2, 0⟩)
    (ps := [(Value.bool (decide (((x1_1 : Nat) : Int) < x1_2))) = (Value.bool true),
    0 < 1,
    rdT (layT (rows rw_y x1_0)) (Nat.mul x1_1 1) 0 = some (rows rw_y (List.take x1_1 x1_0)),
    fits (Nat.add x1_1 1) 1 = true,
    allCells [(Value.int .u8 (0 : Int))] = true,
    allCells (rows rw_y (List.take x1_1 x1_0)) = true,
    rows rw_y (List.take x1_1 x1_0) ++ [(Value.int .u8 (0 : Int))] = (rows rw_y ((List.take x1_1 x1_0) ++ [(0 : Int)])),
    Nat.add x1_1 1 = (((List.take x1_1 x1_0) ++ [(0 : Int)])).length,
    FlatB (.cells (layT (rows rw_y ((List.take x1_1 x1_0) ++ [(0 : Int)]))) 5)]) (by kernel_rfl) ⟨(vbT hy1_1), ((by decide)), (rows_rdTake rwf_y _ _ hy1_2), (fits_ok hy1_3 (by have := hy1_3; show (_ : Nat) + _ ≤ _; omega)), (rfl), (rows_cells rwf_y _), (rows_app rw_y (List.take x1_1 x1_0) [(0 : Int)]), (take_len hy1_2 rfl), (rows_flat rwf_y _ _), trivial⟩
set_option maxRecDepth 100000 in
theorem q_firstfillq2_1_1 (n : Nat) {rnd : Option Nat} (x1_0 : List (Int)) (x1_1 : Nat) (x1_2 : Int) (hy1_1 : ¬ (((x1_1 : Nat) : Int) < x1_2)) : CG P rnd (fnN P 18) 1 (codeOf P 18 [false, false, false, true, true]) (S_firstfillq2_1 x1_2 (x1_0, x1_1)) (X_firstfillq2_1 x1_2 (x1_0, x1_1)) :=
  runC_ok hm (A := aT [(5, .val (.bool false))]) (L := lT []) (wk := ⟨[0], [(1, 1, true)], 2, 0⟩)
    (ps := [(Value.bool (decide (((x1_1 : Nat) : Int) < x1_2))) = (Value.bool false),
    FlatB (.cells (layT (rows rw_y x1_0)) 5)]) (by kernel_rfl) ⟨(vbF hy1_1), (rows_flat rwf_y _ _), trivial⟩
theorem m_firstfillq2_1_ok (n : Nat) {rnd : Option Nat} (x1_2 : Int) (st : List (Int) × Nat) (r : List (Int) × Nat) (h : m_firstfillq2_1 n x1_2 st = some r) : CG P rnd (fnN P 18) 1 (codeOf P 18 [false, false, true, true]) (S_firstfillq2_1 x1_2 st) (X_firstfillq2_1 x1_2 r) :=
  CG.iter (b := codeOf P 18 [false, false, false, true, true]) (by kernel_rfl) (body := B_firstfillq2_1 n x1_2) (S := S_firstfillq2_1 x1_2) (X := X_firstfillq2_1 x1_2)
    (fun s s' h => by
    obtain ⟨x1_0, x1_1⟩ := s
    unfold B_firstfillq2_1 at h
    dsimp only at h
    by_cases hy1_1 : ((x1_1 : Nat) : Int) < x1_2
    · rw [if_pos hy1_1] at h
      by_cases hy1_2 : x1_1 ≤ (x1_0).length
      · rw [if_pos hy1_2] at h
        by_cases hy1_3 : (x1_1 + 1) * 1 ≤ 140737488355328
        · rw [if_pos hy1_3] at h
          obtain rfl := Sum.inl.inj (Option.some.inj h); exact q_firstfillq2_1_0 n x1_0 x1_1 x1_2 hy1_1 hy1_2 hy1_3
        · rw [if_neg hy1_3] at h; cases h
      · rw [if_neg hy1_2] at h; cases h
    · rw [if_neg hy1_1] at h
      cases h)
    (fun s r h => by
    obtain ⟨x1_0, x1_1⟩ := s
    unfold B_firstfillq2_1 at h
    dsimp only at h
    by_cases hy1_1 : ((x1_1 : Nat) : Int) < x1_2
    · rw [if_pos hy1_1] at h
      by_cases hy1_2 : x1_1 ≤ (x1_0).length
      · rw [if_pos hy1_2] at h
        by_cases hy1_3 : (x1_1 + 1) * 1 ≤ 140737488355328
        · rw [if_pos hy1_3] at h
          cases h
        · rw [if_neg hy1_3] at h; cases h
      · rw [if_neg hy1_2] at h; cases h
    · rw [if_neg hy1_1] at h
      obtain rfl := Sum.inr.inj (Option.some.inj h); exact q_firstfillq2_1_1 n x1_0 x1_1 x1_2 hy1_1)
    (fun r => by intro hx; cases hx) h
noncomputable def A_firstfillq2 (a0 : List (Int)) (a1 : Nat) (a2 : Int) (a3 : Int) : List Value := [(Value.slice (some ⟨0, 0, none⟩) a1 (Nat.add big 1)), (Value.int .i64 a2), (Value.int .i64 a3)]
noncomputable def H_firstfillq2 (a0 : List (Int)) (a1 : Nat) (a2 : Int) (a3 : Int) : AH := ⟨sB [(0, (some (.cells (layT (rows rw_y a0)) 5)))], 1, 1⟩
noncomputable def V_firstfillq2 (a0 : List (Int)) (a1 : Nat) (a2 : Int) (a3 : Int) (r : List (Int) × Nat) : Value := match r with
  | (o0, o1) => (Value.slice (some ⟨1, 0, none⟩) o1 (Nat.add big 1))
noncomputable def R_firstfillq2 (a0 : List (Int)) (a1 : Nat) (a2 : Int) (a3 : Int) (r : List (Int) × Nat) : AH := match r with
  | (o0, o1) => ⟨sB [(1, (some (.cells (layT (rows rw_y o0)) 5)))], 2, 0⟩
def m_firstfillq2 (n : Nat) (a0 : List (Int)) (a1 : Nat) (a2 : Int) (a3 : Int) : Option (List (Int) × Nat) :=
  if a2 = (0 : Int) then
    if a1 ≤ (a0).length then
      if (a1 + 1) * 1 ≤ 140737488355328 then
        some (((List.take a1 a0) ++ [(255 : Int)]), ((((List.take a1 a0) ++ [(255 : Int)])).length))
      else none
    else none
  else
    (m_firstfillq2_1 n a3 (a0, a1)).bind fun t => match t with
    | (c2_0, c2_1) =>
      some (c2_0, c2_1)
set_option maxRecDepth 100000 in
theorem p_firstfillq2_0 (n : Nat) (a0 : List (Int)) (a1 : Nat) (a2 : Int) (a3 : Int) (hc1 : a2 = (0 : Int)) (hc2 : a1 ≤ (a0).length) (hc3 : (a1 + 1) * 1 ≤ 140737488355328) : Gv P (.func 18) (A_firstfillq2 a0 a1 a2 a3) (H_firstfillq2 a0 a1 a2 a3) (V_firstfillq2 a0 a1 a2 a3 (((List.take a1 a0) ++ [(255 : Int)]), ((((List.take a1 a0) ++ [(255 : Int)])).length))) (R_firstfillq2 a0 a1 a2 a3 (((List.take a1 a0) ++ [(255 : Int)]), ((((List.take a1 a0) ++ [(255 : Int)])).length))) :=
  runF_ok hm (A := aT [(5, .val (.bool true)), (10, .app ⟨none, rows rw_y (List.take a1 a0), (rows rw_y ((List.take a1 a0) ++ [(255 : Int)])), (((List.take a1 a0) ++ [(255 : Int)])).length, false⟩)]) (L := lT []) (wk := ⟨[6], [(1, 2, true)], 2, 0⟩)
    (ps := [(Value.bool (a2 == (0 : Int))) = (Value.bool true),
    0 < 1,
    rdT (layT (rows rw_y a0)) (Nat.mul a1 1) 0 = some (rows rw_y (List.take a1 a0)),
    fits (Nat.add a1 1) 1 = true,
    allCells [(Value.int .u8 (255 : Int))] = true,
    allCells (rows rw_y (List.take a1 a0)) = true,
    rows rw_y (List.take a1 a0) ++ [(Value.int .u8 (255 : Int))] = (rows rw_y ((List.take a1 a0) ++ [(255 : Int)])),
    Nat.add a1 1 = (((List.take a1 a0) ++ [(255 : Int)])).length,
    FlatB (.cells (layT (rows rw_y ((List.take a1 a0) ++ [(255 : Int)]))) 5)]) (by kernel_rfl) ⟨(veT hc1), ((by decide)), (rows_rdTake rwf_y _ _ hc2), (fits_ok hc3 (by have := hc3; show (_ : Nat) + _ ≤ _; omega)), (rfl), (rows_cells rwf_y _), (rows_app rw_y (List.take a1 a0) [(255 : Int)]), (take_len hc2 rfl), (rows_flat rwf_y _ _), trivial⟩
set_option maxRecDepth 100000 in
theorem p_firstfillq2_1 (n : Nat) (a0 : List (Int)) (a1 : Nat) (a2 : Int) (a3 : Int) (hc1 : ¬ (a2 = (0 : Int))) (c2_0 : List (Int)) (c2_1 : Nat) (hc2 : m_firstfillq2_1 n a3 (a0, a1) = some (c2_0, c2_1)) : Gv P (.func 18) (A_firstfillq2 a0 a1 a2 a3) (H_firstfillq2 a0 a1 a2 a3) (V_firstfillq2 a0 a1 a2 a3 (c2_0, c2_1)) (R_firstfillq2 a0 a1 a2 a3 (c2_0, c2_1)) :=
  runF_ok hm (A := aT [(5, .val (.bool false))]) (L := lT [(9, ⟨⟨[0, 2], [(1, 0, true)], 2, 0⟩, (X_firstfillq2_1 a3 (c2_0, c2_1)).1, (X_firstfillq2_1 a3 (c2_0, c2_1)).2⟩)]) (wk := ⟨[6], [(1, 1, true)], 2, 0⟩)
    (ps := [(Value.bool (a2 == (0 : Int))) = (Value.bool false),
    CG P none (fnN P 18) 1 (codeOf P 18 [false, false, true, true]) (S_firstfillq2_1 a3 (a0, a1)) (X_firstfillq2_1 a3 (c2_0, c2_1)),
    FlatB (.cells (layT (rows rw_y a0)) 5),
    FlatB (.cells (layT (rows rw_y c2_0)) 5)]) (by kernel_rfl) ⟨(veF hc1), (m_firstfillq2_1_ok n a3 (a0, a1) (c2_0, c2_1) hc2), (rows_flat rwf_y _ _), (rows_flat rwf_y _ _), trivial⟩
theorem m_firstfillq2_ok (n : Nat) (a0 : List (Int)) (a1 : Nat) (a2 : Int) (a3 : Int) (r : List (Int) × Nat) (h : m_firstfillq2 n a0 a1 a2 a3 = some r) : Gv P (.func 18) (A_firstfillq2 a0 a1 a2 a3) (H_firstfillq2 a0 a1 a2 a3) (V_firstfillq2 a0 a1 a2 a3 r) (R_firstfillq2 a0 a1 a2 a3 r) := by
  unfold m_firstfillq2 at h
  by_cases hc1 : a2 = (0 : Int)
  · rw [if_pos hc1] at h
    by_cases hc2 : a1 ≤ (a0).length
    · rw [if_pos hc2] at h
      by_cases hc3 : (a1 + 1) * 1 ≤ 140737488355328
      · rw [if_pos hc3] at h
        obtain rfl := Option.some.inj h; exact p_firstfillq2_0 n a0 a1 a2 a3 hc1 hc2 hc3
      · rw [if_neg hc3] at h; cases h
    · rw [if_neg hc2] at h; cases h
  · rw [if_neg hc1] at h
    obtain ⟨⟨c2_0, c2_1⟩, hc2, h⟩ := Option.bind_eq_some_iff.1 h
    dsimp only at h
    obtain rfl := Option.some.inj h; exact p_firstfillq2_1 n a0 a1 a2 a3 hc1 c2_0 c2_1 hc2

noncomputable def S_firsttickq1_1 (x1_0 : List (Int)) (x1_2 : Int) (x1_3 : Int) (st : Nat) : XSt := match st with
  | x1_1 => (sT 51 [(0, (Value.slice (some ⟨0, 0, none⟩) x1_1 (Nat.add big 1))), (1, (Value.int .i64 x1_2)), (2, (Value.int .i64 x1_3))], [], ⟨sB [(0, (some (.cells (layT (rows rw_y x1_0)) 5)))], 1, 1⟩)
noncomputable def X_firsttickq1_1 (x1_0 : List (Int)) (x1_2 : Int) (x1_3 : Int) (r : Nat) : Ex × XSt := match r with
  | z1_0 => (.exit 0, (sT 51 [(0, (Value.slice (some ⟨0, 0, none⟩) z1_0 (Nat.add big 1))), (1, (Value.int .i64 x1_2)), (2, (Value.int .i64 x1_3))], [], ⟨sB [(0, (some (.cells (layT (rows rw_y x1_0)) 5)))], 1, 1⟩))
def B_firsttickq1_1 (n : Nat) (x1_0 : List (Int)) (x1_2 : Int) (x1_3 : Int) (st : Nat) : Option ((Nat) ⊕ (Nat)) := match st with
  | x1_1 =>
    if ((x1_1 : Nat) : Int) > (0 : Int) then
      if 0 ≤ (w64 (((x1_1 : Nat) : Int) - (1 : Int))) ∧ (w64 (((x1_1 : Nat) : Int) - (1 : Int))) < ((x1_1 : Nat) : Int) then
        if ((w64 (((x1_1 : Nat) : Int) - (1 : Int)))).toNat < (x1_0).length then
          if ((x1_0).getD ((w64 (((x1_1 : Nat) : Int) - (1 : Int)))).toNat (0)) = (255 : Int) then
            if 0 ≤ (w64 (((x1_1 : Nat) : Int) - (1 : Int))) ∧ (w64 (((x1_1 : Nat) : Int) - (1 : Int))) ≤ ((x1_1 : Nat) : Int) then
              some (.inl (((w64 (((x1_1 : Nat) : Int) - (1 : Int)))).toNat))
            else none
          else
            some (.inr x1_1)
        else none
      else none
    else
      some (.inr x1_1)
def m_firsttickq1_1 (n : Nat) (x1_0 : List (Int)) (x1_2 : Int) (x1_3 : Int) (st : Nat) : Option (Nat) := iterM (B_firsttickq1_1 n x1_0 x1_2 x1_3) n st
set_option maxRecDepth 100000 in
theorem q_firsttickq1_1_0 (n : Nat) {rnd : Option Nat} (x1_0 : List (Int)) (x1_1 : Nat) (x1_2 : Int) (x1_3 : Int) (hy1_1 : ((x1_1 : Nat) : Int) > (0 : Int)) (hy1_2 : 0 ≤ (w64 (((x1_1 : Nat) : Int) - (1 : Int))) ∧ (w64 (((x1_1 : Nat) : Int) - (1 : Int))) < ((x1_1 : Nat) : Int)) (hy1_3 : ((w64 (((x1_1 : Nat) : Int) - (1 : Int)))).toNat < (x1_0).length) (hy1_4 : ((x1_0).getD ((w64 (((x1_1 : Nat) : Int) - (1 : Int)))).toNat (0)) = (255 : Int)) (hy1_5 : 0 ≤ (w64 (((x1_1 : Nat) : Int) - (1 : Int))) ∧ (w64 (((x1_1 : Nat) : Int) - (1 : Int))) ≤ ((x1_1 : Nat) : Int)) : CG P rnd (fnN P 19) 1 (codeOf P 19 [false, false, false, true]) (S_firsttickq1_1 x1_0 x1_2 x1_3 x1_1) (.normal, S_firsttickq1_1 x1_0 x1_2 x1_3 (((w64 (((x1_1 : Nat) : Int) - (1 : Int)))).toNat)) :=
  runC_ok hm (A := aT [(4, .val (.bool true)), (10, .pur (Value.pointer (some ⟨0, (((w64 (((x1_1 : Nat) : Int) - (1 : Int)))).toNat * 1), none⟩))), (11, .ld (Value.int .u8 ((x1_0).getD ((w64 (((x1_1 : Nat) : Int) - (1 : Int)))).toNat (0)))), (12, .val (.bool true)), (20, .pur (Value.slice (some ⟨0, 0, none⟩) ((w64 (((x1_1 : Nat) : Int) - (1 : Int)))).toNat (Nat.add big 1)))]) (L := lT []) (wk := ⟨[0, 1, 2], [(0, 0, true)], 1, 1⟩)
    (ps := [(Value.bool (decide (((x1_1 : Nat) : Int) > (0 : Int)))) = (Value.bool true),
    opIndexAddr P 42 (Value.slice (some ⟨0, 0, none⟩) x1_1 (Nat.add big 1)) (Value.int .i64 (w64 (((x1_1 : Nat) : Int) - (1 : Int)))) Ax.h0 = some ((Value.pointer (some ⟨0, (((w64 (((x1_1 : Nat) : Int) - (1 : Int)))).toNat * 1), none⟩)), Ax.h0),
    (layT (rows rw_y x1_0)).get (((w64 (((x1_1 : Nat) : Int) - (1 : Int)))).toNat * 1) = some (Value.int .u8 ((x1_0).getD ((w64 (((x1_1 : Nat) : Int) - (1 : Int)))).toNat (0))),
    (Value.bool (((x1_0).getD ((w64 (((x1_1 : Nat) : Int) - (1 : Int)))).toNat (0)) == (255 : Int))) = (Value.bool true),
    opSlice P 42 (Value.slice (some ⟨0, 0, none⟩) x1_1 (Nat.add big 1)) none (some (Value.int .i64 (w64 (((x1_1 : Nat) : Int) - (1 : Int))))) none Ax.h0 = some ((Value.slice (some ⟨0, 0, none⟩) ((w64 (((x1_1 : Nat) : Int) - (1 : Int)))).toNat (Nat.add big 1)), Ax.h0),
    FlatB (.cells (layT (rows rw_y x1_0)) 5)]) (by kernel_rfl) ⟨(vbT hy1_1), (ixS (e := 5) (by kernel_rfl) (by kernel_rfl) (hy1_2).1 (hy1_2).2), (rows_ld rwf_y (0) (i := ((w64 (((x1_1 : Nat) : Int) - (1 : Int)))).toNat) (j := 0) (((w64 (((x1_1 : Nat) : Int) - (1 : Int)))).toNat * 1) rfl (hy1_3) (by decide) rfl), (veT hy1_4), (slRowHi (e := 5) (es := 1) (by kernel_rfl) (by kernel_rfl) rfl rfl hy1_5), (rows_flat rwf_y _ _), trivial⟩
set_option maxRecDepth 100000 in
theorem q_firsttickq1_1_1 (n : Nat) {rnd : Option Nat} (x1_0 : List (Int)) (x1_1 : Nat) (x1_2 : Int) (x1_3 : Int) (hy1_1 : ((x1_1 : Nat) : Int) > (0 : Int)) (hy1_2 : 0 ≤ (w64 (((x1_1 : Nat) : Int) - (1 : Int))) ∧ (w64 (((x1_1 : Nat) : Int) - (1 : Int))) < ((x1_1 : Nat) : Int)) (hy1_3 : ((w64 (((x1_1 : Nat) : Int) - (1 : Int)))).toNat < (x1_0).length) (hy1_4 : ¬ (((x1_0).getD ((w64 (((x1_1 : Nat) : Int) - (1 : Int)))).toNat (0)) = (255 : Int))) : CG P rnd (fnN P 19) 1 (codeOf P 19 [false, false, false, true]) (S_firsttickq1_1 x1_0 x1_2 x1_3 x1_1) (X_firsttickq1_1 x1_0 x1_2 x1_3 x1_1) :=
  runC_ok hm (A := aT [(4, .val (.bool true)), (10, .pur (Value.pointer (some ⟨0, (((w64 (((x1_1 : Nat) : Int) - (1 : Int)))).toNat * 1), none⟩))), (11, .ld (Value.int .u8 ((x1_0).getD ((w64 (((x1_1 : Nat) : Int) - (1 : Int)))).toNat (0)))), (12, .val (.bool false))]) (L := lT []) (wk := ⟨[0, 1, 2], [(0, 0, true)], 1, 1⟩)
    (ps := [(Value.bool (decide (((x1_1 : Nat) : Int) > (0 : Int)))) = (Value.bool true),
    opIndexAddr P 42 (Value.slice (some ⟨0, 0, none⟩) x1_1 (Nat.add big 1)) (Value.int .i64 (w64 (((x1_1 : Nat) : Int) - (1 : Int)))) Ax.h0 = some ((Value.pointer (some ⟨0, (((w64 (((x1_1 : Nat) : Int) - (1 : Int)))).toNat * 1), none⟩)), Ax.h0),
    (layT (rows rw_y x1_0)).get (((w64 (((x1_1 : Nat) : Int) - (1 : Int)))).toNat * 1) = some (Value.int .u8 ((x1_0).getD ((w64 (((x1_1 : Nat) : Int) - (1 : Int)))).toNat (0))),
    (Value.bool (((x1_0).getD ((w64 (((x1_1 : Nat) : Int) - (1 : Int)))).toNat (0)) == (255 : Int))) = (Value.bool false),
    FlatB (.cells (layT (rows rw_y x1_0)) 5)]) (by kernel_rfl) ⟨(vbT hy1_1), (ixS (e := 5) (by kernel_rfl) (by kernel_rfl) (hy1_2).1 (hy1_2).2), (rows_ld rwf_y (0) (i := ((w64 (((x1_1 : Nat) : Int) - (1 : Int)))).toNat) (j := 0) (((w64 (((x1_1 : Nat) : Int) - (1 : Int)))).toNat * 1) rfl (hy1_3) (by decide) rfl), (veF hy1_4), (rows_flat rwf_y _ _), trivial⟩
set_option maxRecDepth 100000 in
theorem q_firsttickq1_1_2 (n : Nat) {rnd : Option Nat} (x1_0 : List (Int)) (x1_1 : Nat) (x1_2 : Int) (x1_3 : Int) (hy1_1 : ¬ (((x1_1 : Nat) : Int) > (0 : Int))) : CG P rnd (fnN P 19) 1 (codeOf P 19 [false, false, false, true]) (S_firsttickq1_1 x1_0 x1_2 x1_3 x1_1) (X_firsttickq1_1 x1_0 x1_2 x1_3 x1_1) :=
  runC_ok hm (A := aT [(4, .val (.bool false))]) (L := lT []) (wk := ⟨[0, 1, 2], [(0, 0, true)], 1, 1⟩)
    (ps := [(Value.bool (decide (((x1_1 : Nat) : Int) > (0 : Int)))) = (Value.bool false),
    FlatB (.cells (layT (rows rw_y x1_0)) 5)]) (by kernel_rfl) ⟨(vbF hy1_1), (rows_flat rwf_y _ _), trivial⟩
theorem m_firsttickq1_1_ok (n : Nat) {rnd : Option Nat} (x1_0 : List (Int)) (x1_2 : Int) (x1_3 : Int) (st : Nat) (r : Nat) (h : m_firsttickq1_1 n x1_0 x1_2 x1_3 st = some r) : CG P rnd (fnN P 19) 1 (codeOf P 19 [false, false, true]) (S_firsttickq1_1 x1_0 x1_2 x1_3 st) (X_firsttickq1_1 x1_0 x1_2 x1_3 r) :=
  CG.iter (b := codeOf P 19 [false, false, false, true]) (by kernel_rfl) (body := B_firsttickq1_1 n x1_0 x1_2 x1_3) (S := S_firsttickq1_1 x1_0 x1_2 x1_3) (X := X_firsttickq1_1 x1_0 x1_2 x1_3)
    (fun x1_1 s' h => by
    unfold B_firsttickq1_1 at h
    dsimp only at h
    by_cases hy1_1 : ((x1_1 : Nat) : Int) > (0 : Int)
    · rw [if_pos hy1_1] at h
      by_cases hy1_2 : 0 ≤ (w64 (((x1_1 : Nat) : Int) - (1 : Int))) ∧ (w64 (((x1_1 : Nat) : Int) - (1 : Int))) < ((x1_1 : Nat) : Int)
      · rw [if_pos hy1_2] at h
        by_cases hy1_3 : ((w64 (((x1_1 : Nat) : Int) - (1 : Int)))).toNat < (x1_0).length
        · rw [if_pos hy1_3] at h
          by_cases hy1_4 : ((x1_0).getD ((w64 (((x1_1 : Nat) : Int) - (1 : Int)))).toNat (0)) = (255 : Int)
          · rw [if_pos hy1_4] at h
            by_cases hy1_5 : 0 ≤ (w64 (((x1_1 : Nat) : Int) - (1 : Int))) ∧ (w64 (((x1_1 : Nat) : Int) - (1 : Int))) ≤ ((x1_1 : Nat) : Int)
            · rw [if_pos hy1_5] at h
              obtain rfl := Sum.inl.inj (Option.some.inj h); exact q_firsttickq1_1_0 n x1_0 x1_1 x1_2 x1_3 hy1_1 hy1_2 hy1_3 hy1_4 hy1_5
            · rw [if_neg hy1_5] at h; cases h
          · rw [if_neg hy1_4] at h
            cases h
        · rw [if_neg hy1_3] at h; cases h
      · rw [if_neg hy1_2] at h; cases h
    · rw [if_neg hy1_1] at h
      cases h)
    (fun x1_1 r h => by
    unfold B_firsttickq1_1 at h
    dsimp only at h
    by_cases hy1_1 : ((x1_1 : Nat) : Int) > (0 : Int)
    · rw [if_pos hy1_1] at h
      by_cases hy1_2 : 0 ≤ (w64 (((x1_1 : Nat) : Int) - (1 : Int))) ∧ (w64 (((x1_1 : Nat) : Int) - (1 : Int))) < ((x1_1 : Nat) : Int)
      · rw [if_pos hy1_2] at h
        by_cases hy1_3 : ((w64 (((x1_1 : Nat) : Int) - (1 : Int)))).toNat < (x1_0).length
        · rw [if_pos hy1_3] at h
          by_cases hy1_4 : ((x1_0).getD ((w64 (((x1_1 : Nat) : Int) - (1 : Int)))).toNat (0)) = (255 : Int)
          · rw [if_pos hy1_4] at h
            by_cases hy1_5 : 0 ≤ (w64 (((x1_1 : Nat) : Int) - (1 : Int))) ∧ (w64 (((x1_1 : Nat) : Int) - (1 : Int))) ≤ ((x1_1 : Nat) : Int)
            · rw [if_pos hy1_5] at h
              cases h
            · rw [if_neg hy1_5] at h; cases h
          · rw [if_neg hy1_4] at h
            obtain rfl := Sum.inr.inj (Option.some.inj h); exact q_firsttickq1_1_1 n x1_0 x1_1 x1_2 x1_3 hy1_1 hy1_2 hy1_3 hy1_4
        · rw [if_neg hy1_3] at h; cases h
      · rw [if_neg hy1_2] at h; cases h
    · rw [if_neg hy1_1] at h
      obtain rfl := Sum.inr.inj (Option.some.inj h); exact q_firsttickq1_1_2 n x1_0 x1_1 x1_2 x1_3 hy1_1)
    (fun r => by intro hx; cases hx) h
noncomputable def A_firsttickq1 (a0 : List (Int)) (a1 : Int) (a2 : Int) : List Value := [(Value.slice (some ⟨0, 0, none⟩) (a0).length (Nat.add big 1)), (Value.int .i64 a1), (Value.int .i64 a2)]
noncomputable def H_firsttickq1 (a0 : List (Int)) (a1 : Int) (a2 : Int) : AH := ⟨sB [(0, (some (.cells (layT (rows rw_y a0)) 5)))], 1, 1⟩
noncomputable def V_firsttickq1 (a0 : List (Int)) (a1 : Int) (a2 : Int) (r : (Unit) ⊕ (List (Int) × Nat)) : Value := match r with
  | .inl _ => (Value.slice none 0 0)
  | .inr (o0, o1) => (Value.slice (some ⟨1, 0, none⟩) o1 (Nat.add big 1))
noncomputable def R_firsttickq1 (a0 : List (Int)) (a1 : Int) (a2 : Int) (r : (Unit) ⊕ (List (Int) × Nat)) : AH := match r with
  | .inl _ => ⟨sB [(0, (some (.cells (layT (rows rw_y a0)) 5)))], 1, 1⟩
  | .inr (o0, o1) => ⟨sB [(1, (some (.cells (layT (rows rw_y o0)) 5)))], 2, 0⟩
def m_firsttickq1 (n : Nat) (a0 : List (Int)) (a1 : Int) (a2 : Int) : Option ((Unit) ⊕ (List (Int) × Nat)) :=
  (m_firsttickq1_1 n a0 a1 a2 ((a0).length)).bind fun c1_ =>
  if ((c1_ : Nat) : Int) = (0 : Int) then
    some (.inl ())
  else
    if 0 ≤ (w64 (((c1_ : Nat) : Int) - (1 : Int))) ∧ (w64 (((c1_ : Nat) : Int) - (1 : Int))) < ((c1_ : Nat) : Int) then
      if ((w64 (((c1_ : Nat) : Int) - (1 : Int)))).toNat < (a0).length then
        if (IntKind.i64.wrap (IntKind.u8.wrap (((a0).getD ((w64 (((c1_ : Nat) : Int) - (1 : Int)))).toNat (0)) + (1 : Int)))) < a1 then
          (m_firstfillq2 n ((a0).set ((w64 (((c1_ : Nat) : Int) - (1 : Int)))).toNat (IntKind.u8.wrap (((a0).getD ((w64 (((c1_ : Nat) : Int) - (1 : Int)))).toNat (0)) + (1 : Int)))) c1_ a1 a2).bind fun t => match t with
          | (c6_0, c6_1) =>
            some (.inr (c6_0, c6_1))
        else
          some (.inr (((a0).set ((w64 (((c1_ : Nat) : Int) - (1 : Int)))).toNat (255 : Int)), c1_))
      else none
    else none
set_option maxRecDepth 100000 in
theorem p_firsttickq1_0 (n : Nat) (a0 : List (Int)) (a1 : Int) (a2 : Int) (c1_ : Nat) (hc1 : m_firsttickq1_1 n a0 a1 a2 ((a0).length) = some c1_) (hc2 : ((c1_ : Nat) : Int) = (0 : Int)) : Gv P (.func 19) (A_firsttickq1 a0 a1 a2) (H_firsttickq1 a0 a1 a2) (V_firsttickq1 a0 a1 a2 (.inl ())) (R_firsttickq1 a0 a1 a2 (.inl ())) :=
  runF_ok hm (A := aT [(9, .val (.bool true))]) (L := lT [(4, ⟨⟨[0, 1, 2], [(0, 0, true)], 1, 1⟩, (X_firsttickq1_1 a0 a1 a2 c1_).1, (X_firsttickq1_1 a0 a1 a2 c1_).2⟩)]) (wk := ⟨[6], [(0, 0, true)], 1, 1⟩)
    (ps := [CG P none (fnN P 19) 1 (codeOf P 19 [false, false, true]) (S_firsttickq1_1 a0 a1 a2 ((a0).length)) (X_firsttickq1_1 a0 a1 a2 c1_),
    FlatB (.cells (layT (rows rw_y a0)) 5),
    (Value.bool (((c1_ : Nat) : Int) == (0 : Int))) = (Value.bool true),
    FlatB (.cells (layT (rows rw_y a0)) 5)]) (by kernel_rfl) ⟨(m_firsttickq1_1_ok n a0 a1 a2 ((a0).length) c1_ hc1), (rows_flat rwf_y _ _), (veT hc2), (rows_flat rwf_y _ _), trivial⟩
set_option maxRecDepth 100000 in
theorem p_firsttickq1_1 (n : Nat) (a0 : List (Int)) (a1 : Int) (a2 : Int) (c1_ : Nat) (hc1 : m_firsttickq1_1 n a0 a1 a2 ((a0).length) = some c1_) (hc2 : ¬ (((c1_ : Nat) : Int) = (0 : Int))) (hc3 : 0 ≤ (w64 (((c1_ : Nat) : Int) - (1 : Int))) ∧ (w64 (((c1_ : Nat) : Int) - (1 : Int))) < ((c1_ : Nat) : Int)) (hc4 : ((w64 (((c1_ : Nat) : Int) - (1 : Int)))).toNat < (a0).length) (hc5 : (IntKind.i64.wrap (IntKind.u8.wrap (((a0).getD ((w64 (((c1_ : Nat) : Int) - (1 : Int)))).toNat (0)) + (1 : Int)))) < a1) (c6_0 : List (Int)) (c6_1 : Nat) (hc6 : m_firstfillq2 n ((a0).set ((w64 (((c1_ : Nat) : Int) - (1 : Int)))).toNat (IntKind.u8.wrap (((a0).getD ((w64 (((c1_ : Nat) : Int) - (1 : Int)))).toNat (0)) + (1 : Int)))) c1_ a1 a2 = some (c6_0, c6_1)) : Gv P (.func 19) (A_firsttickq1 a0 a1 a2) (H_firsttickq1 a0 a1 a2) (V_firsttickq1 a0 a1 a2 (.inr (c6_0, c6_1))) (R_firsttickq1 a0 a1 a2 (.inr (c6_0, c6_1))) :=
  runF_ok hm (A := aT [(9, .val (.bool false)), (16, .pur (Value.pointer (some ⟨0, (((w64 (((c1_ : Nat) : Int) - (1 : Int)))).toNat * 1), none⟩))), (21, .ld (Value.int .u8 ((a0).getD ((w64 (((c1_ : Nat) : Int) - (1 : Int)))).toNat (0)))), (24, .sto (layT (rows rw_y ((a0).set ((w64 (((c1_ : Nat) : Int) - (1 : Int)))).toNat (IntKind.u8.wrap (((a0).getD ((w64 (((c1_ : Nat) : Int) - (1 : Int)))).toNat (0)) + (1 : Int))))))), (29, .ld (Value.int .u8 (IntKind.u8.wrap (((a0).getD ((w64 (((c1_ : Nat) : Int) - (1 : Int)))).toNat (0)) + (1 : Int))))), (32, .val (.bool true)), (38, .call ⟨1, [(0, 0, true)], (V_firstfillq2 ((a0).set ((w64 (((c1_ : Nat) : Int) - (1 : Int)))).toNat (IntKind.u8.wrap (((a0).getD ((w64 (((c1_ : Nat) : Int) - (1 : Int)))).toNat (0)) + (1 : Int)))) c1_ a1 a2 (c6_0, c6_1)), (R_firstfillq2 ((a0).set ((w64 (((c1_ : Nat) : Int) - (1 : Int)))).toNat (IntKind.u8.wrap (((a0).getD ((w64 (((c1_ : Nat) : Int) - (1 : Int)))).toNat (0)) + (1 : Int)))) c1_ a1 a2 (c6_0, c6_1)), [(1, 1, true)]⟩)]) (L := lT [(4, ⟨⟨[0, 1, 2], [(0, 0, true)], 1, 1⟩, (X_firsttickq1_1 a0 a1 a2 c1_).1, (X_firsttickq1_1 a0 a1 a2 c1_).2⟩)]) (wk := ⟨[6], [(1, 1, true)], 2, 0⟩)
    (ps := [CG P none (fnN P 19) 1 (codeOf P 19 [false, false, true]) (S_firsttickq1_1 a0 a1 a2 ((a0).length)) (X_firsttickq1_1 a0 a1 a2 c1_),
    FlatB (.cells (layT (rows rw_y a0)) 5),
    (Value.bool (((c1_ : Nat) : Int) == (0 : Int))) = (Value.bool false),
    opIndexAddr P 42 (Value.slice (some ⟨0, 0, none⟩) c1_ (Nat.add big 1)) (Value.int .i64 (w64 (((c1_ : Nat) : Int) - (1 : Int)))) Ax.h0 = some ((Value.pointer (some ⟨0, (((w64 (((c1_ : Nat) : Int) - (1 : Int)))).toNat * 1), none⟩)), Ax.h0),
    (layT (rows rw_y a0)).get (((w64 (((c1_ : Nat) : Int) - (1 : Int)))).toNat * 1) = some (Value.int .u8 ((a0).getD ((w64 (((c1_ : Nat) : Int) - (1 : Int)))).toNat (0))),
    ∃ old, rdT (layT (rows rw_y a0)) 1 (((w64 (((c1_ : Nat) : Int) - (1 : Int)))).toNat * 1) = some old,
    layL [(Value.int .u8 (IntKind.u8.wrap (((a0).getD ((w64 (((c1_ : Nat) : Int) - (1 : Int)))).toNat (0)) + (1 : Int))))] (((w64 (((c1_ : Nat) : Int) - (1 : Int)))).toNat * 1) (layT (rows rw_y a0)) = layT (rows rw_y ((a0).set ((w64 (((c1_ : Nat) : Int) - (1 : Int)))).toNat (IntKind.u8.wrap (((a0).getD ((w64 (((c1_ : Nat) : Int) - (1 : Int)))).toNat (0)) + (1 : Int))))),
    (layT (rows rw_y ((a0).set ((w64 (((c1_ : Nat) : Int) - (1 : Int)))).toNat (IntKind.u8.wrap (((a0).getD ((w64 (((c1_ : Nat) : Int) - (1 : Int)))).toNat (0)) + (1 : Int)))))).get (((w64 (((c1_ : Nat) : Int) - (1 : Int)))).toNat * 1) = some (Value.int .u8 (IntKind.u8.wrap (((a0).getD ((w64 (((c1_ : Nat) : Int) - (1 : Int)))).toNat (0)) + (1 : Int)))),
    (Value.bool (decide ((IntKind.i64.wrap (IntKind.u8.wrap (((a0).getD ((w64 (((c1_ : Nat) : Int) - (1 : Int)))).toNat (0)) + (1 : Int)))) < a1))) = (Value.bool true),
    Gv P (.func 18) (A_firstfillq2 ((a0).set ((w64 (((c1_ : Nat) : Int) - (1 : Int)))).toNat (IntKind.u8.wrap (((a0).getD ((w64 (((c1_ : Nat) : Int) - (1 : Int)))).toNat (0)) + (1 : Int)))) c1_ a1 a2) (H_firstfillq2 ((a0).set ((w64 (((c1_ : Nat) : Int) - (1 : Int)))).toNat (IntKind.u8.wrap (((a0).getD ((w64 (((c1_ : Nat) : Int) - (1 : Int)))).toNat (0)) + (1 : Int)))) c1_ a1 a2) (V_firstfillq2 ((a0).set ((w64 (((c1_ : Nat) : Int) - (1 : Int)))).toNat (IntKind.u8.wrap (((a0).getD ((w64 (((c1_ : Nat) : Int) - (1 : Int)))).toNat (0)) + (1 : Int)))) c1_ a1 a2 (c6_0, c6_1)) (R_firstfillq2 ((a0).set ((w64 (((c1_ : Nat) : Int) - (1 : Int)))).toNat (IntKind.u8.wrap (((a0).getD ((w64 (((c1_ : Nat) : Int) - (1 : Int)))).toNat (0)) + (1 : Int)))) c1_ a1 a2 (c6_0, c6_1)),
    FlatB (.cells (layT (rows rw_y ((a0).set ((w64 (((c1_ : Nat) : Int) - (1 : Int)))).toNat (IntKind.u8.wrap (((a0).getD ((w64 (((c1_ : Nat) : Int) - (1 : Int)))).toNat (0)) + (1 : Int)))))) 5),
    FlatB (.cells (layT (rows rw_y c6_0)) 5),
    FlatB (.cells (layT (rows rw_y c6_0)) 5)]) (by kernel_rfl) ⟨(m_firsttickq1_1_ok n a0 a1 a2 ((a0).length) c1_ hc1), (rows_flat rwf_y _ _), (veF hc2), (ixS (e := 5) (by kernel_rfl) (by kernel_rfl) (hc3).1 (hc3).2), (rows_ld rwf_y (0) (i := ((w64 (((c1_ : Nat) : Int) - (1 : Int)))).toNat) (j := 0) (((w64 (((c1_ : Nat) : Int) - (1 : Int)))).toNat * 1) rfl (hc4) (by decide) rfl), (Exists.elim (rows_st rwf_y (0) (i := ((w64 (((c1_ : Nat) : Int) - (1 : Int)))).toNat) (j := 0) (l := [(Value.int .u8 (IntKind.u8.wrap (((a0).getD ((w64 (((c1_ : Nat) : Int) - (1 : Int)))).toNat (0)) + (1 : Int))))]) (IntKind.u8.wrap (((a0).getD ((w64 (((c1_ : Nat) : Int) - (1 : Int)))).toNat (0)) + (1 : Int))) (((w64 (((c1_ : Nat) : Int) - (1 : Int)))).toNat * 1) rfl (hc4) (Nat.le_of_ble_eq_true rfl) rfl) fun o h => ⟨o, h.1⟩), (Exists.elim (rows_st rwf_y (0) (i := ((w64 (((c1_ : Nat) : Int) - (1 : Int)))).toNat) (j := 0) (l := [(Value.int .u8 (IntKind.u8.wrap (((a0).getD ((w64 (((c1_ : Nat) : Int) - (1 : Int)))).toNat (0)) + (1 : Int))))]) (IntKind.u8.wrap (((a0).getD ((w64 (((c1_ : Nat) : Int) - (1 : Int)))).toNat (0)) + (1 : Int))) (((w64 (((c1_ : Nat) : Int) - (1 : Int)))).toNat * 1) rfl (hc4) (Nat.le_of_ble_eq_true rfl) rfl) fun o h => h.2), (rows_ldS rwf_y (i := ((w64 (((c1_ : Nat) : Int) - (1 : Int)))).toNat) (j := 0) (IntKind.u8.wrap (((a0).getD ((w64 (((c1_ : Nat) : Int) - (1 : Int)))).toNat (0)) + (1 : Int))) (((w64 (((c1_ : Nat) : Int) - (1 : Int)))).toNat * 1) rfl (hc4) (by decide) rfl), (vbT hc5), (m_firstfillq2_ok n ((a0).set ((w64 (((c1_ : Nat) : Int) - (1 : Int)))).toNat (IntKind.u8.wrap (((a0).getD ((w64 (((c1_ : Nat) : Int) - (1 : Int)))).toNat (0)) + (1 : Int)))) c1_ a1 a2 (c6_0, c6_1) hc6), (rows_flat rwf_y _ _), (rows_flat rwf_y _ _), (rows_flat rwf_y _ _), trivial⟩
set_option maxRecDepth 100000 in
theorem p_firsttickq1_2 (n : Nat) (a0 : List (Int)) (a1 : Int) (a2 : Int) (c1_ : Nat) (hc1 : m_firsttickq1_1 n a0 a1 a2 ((a0).length) = some c1_) (hc2 : ¬ (((c1_ : Nat) : Int) = (0 : Int))) (hc3 : 0 ≤ (w64 (((c1_ : Nat) : Int) - (1 : Int))) ∧ (w64 (((c1_ : Nat) : Int) - (1 : Int))) < ((c1_ : Nat) : Int)) (hc4 : ((w64 (((c1_ : Nat) : Int) - (1 : Int)))).toNat < (a0).length) (hc5 : ¬ ((IntKind.i64.wrap (IntKind.u8.wrap (((a0).getD ((w64 (((c1_ : Nat) : Int) - (1 : Int)))).toNat (0)) + (1 : Int)))) < a1)) : Gv P (.func 19) (A_firsttickq1 a0 a1 a2) (H_firsttickq1 a0 a1 a2) (V_firsttickq1 a0 a1 a2 (.inr (((a0).set ((w64 (((c1_ : Nat) : Int) - (1 : Int)))).toNat (255 : Int)), c1_))) (R_firsttickq1 a0 a1 a2 (.inr (((a0).set ((w64 (((c1_ : Nat) : Int) - (1 : Int)))).toNat (255 : Int)), c1_))) :=
  runF_ok hm (A := aT [(9, .val (.bool false)), (16, .pur (Value.pointer (some ⟨0, (((w64 (((c1_ : Nat) : Int) - (1 : Int)))).toNat * 1), none⟩))), (21, .ld (Value.int .u8 ((a0).getD ((w64 (((c1_ : Nat) : Int) - (1 : Int)))).toNat (0)))), (24, .sto (layT (rows rw_y ((a0).set ((w64 (((c1_ : Nat) : Int) - (1 : Int)))).toNat (IntKind.u8.wrap (((a0).getD ((w64 (((c1_ : Nat) : Int) - (1 : Int)))).toNat (0)) + (1 : Int))))))), (29, .ld (Value.int .u8 (IntKind.u8.wrap (((a0).getD ((w64 (((c1_ : Nat) : Int) - (1 : Int)))).toNat (0)) + (1 : Int))))), (32, .val (.bool false)), (37, .sto (layT (rows rw_y ((a0).set ((w64 (((c1_ : Nat) : Int) - (1 : Int)))).toNat (255 : Int)))))]) (L := lT [(4, ⟨⟨[0, 1, 2], [(0, 0, true)], 1, 1⟩, (X_firsttickq1_1 a0 a1 a2 c1_).1, (X_firsttickq1_1 a0 a1 a2 c1_).2⟩)]) (wk := ⟨[6], [(1, 0, true)], 2, 0⟩)
    (ps := [CG P none (fnN P 19) 1 (codeOf P 19 [false, false, true]) (S_firsttickq1_1 a0 a1 a2 ((a0).length)) (X_firsttickq1_1 a0 a1 a2 c1_),
    FlatB (.cells (layT (rows rw_y a0)) 5),
    (Value.bool (((c1_ : Nat) : Int) == (0 : Int))) = (Value.bool false),
    opIndexAddr P 42 (Value.slice (some ⟨0, 0, none⟩) c1_ (Nat.add big 1)) (Value.int .i64 (w64 (((c1_ : Nat) : Int) - (1 : Int)))) Ax.h0 = some ((Value.pointer (some ⟨0, (((w64 (((c1_ : Nat) : Int) - (1 : Int)))).toNat * 1), none⟩)), Ax.h0),
    (layT (rows rw_y a0)).get (((w64 (((c1_ : Nat) : Int) - (1 : Int)))).toNat * 1) = some (Value.int .u8 ((a0).getD ((w64 (((c1_ : Nat) : Int) - (1 : Int)))).toNat (0))),
    ∃ old, rdT (layT (rows rw_y a0)) 1 (((w64 (((c1_ : Nat) : Int) - (1 : Int)))).toNat * 1) = some old,
    layL [(Value.int .u8 (IntKind.u8.wrap (((a0).getD ((w64 (((c1_ : Nat) : Int) - (1 : Int)))).toNat (0)) + (1 : Int))))] (((w64 (((c1_ : Nat) : Int) - (1 : Int)))).toNat * 1) (layT (rows rw_y a0)) = layT (rows rw_y ((a0).set ((w64 (((c1_ : Nat) : Int) - (1 : Int)))).toNat (IntKind.u8.wrap (((a0).getD ((w64 (((c1_ : Nat) : Int) - (1 : Int)))).toNat (0)) + (1 : Int))))),
    (layT (rows rw_y ((a0).set ((w64 (((c1_ : Nat) : Int) - (1 : Int)))).toNat (IntKind.u8.wrap (((a0).getD ((w64 (((c1_ : Nat) : Int) - (1 : Int)))).toNat (0)) + (1 : Int)))))).get (((w64 (((c1_ : Nat) : Int) - (1 : Int)))).toNat * 1) = some (Value.int .u8 (IntKind.u8.wrap (((a0).getD ((w64 (((c1_ : Nat) : Int) - (1 : Int)))).toNat (0)) + (1 : Int)))),
    (Value.bool (decide ((IntKind.i64.wrap (IntKind.u8.wrap (((a0).getD ((w64 (((c1_ : Nat) : Int) - (1 : Int)))).toNat (0)) + (1 : Int)))) < a1))) = (Value.bool false),
    ∃ old, rdT (layT (rows rw_y ((a0).set ((w64 (((c1_ : Nat) : Int) - (1 : Int)))).toNat (IntKind.u8.wrap (((a0).getD ((w64 (((c1_ : Nat) : Int) - (1 : Int)))).toNat (0)) + (1 : Int)))))) 1 (((w64 (((c1_ : Nat) : Int) - (1 : Int)))).toNat * 1) = some old,
    layL [(Value.int .u8 (255 : Int))] (((w64 (((c1_ : Nat) : Int) - (1 : Int)))).toNat * 1) (layT (rows rw_y ((a0).set ((w64 (((c1_ : Nat) : Int) - (1 : Int)))).toNat (IntKind.u8.wrap (((a0).getD ((w64 (((c1_ : Nat) : Int) - (1 : Int)))).toNat (0)) + (1 : Int)))))) = layT (rows rw_y ((a0).set ((w64 (((c1_ : Nat) : Int) - (1 : Int)))).toNat (255 : Int))),
    FlatB (.cells (layT (rows rw_y ((a0).set ((w64 (((c1_ : Nat) : Int) - (1 : Int)))).toNat (255 : Int)))) 5)]) (by kernel_rfl) ⟨(m_firsttickq1_1_ok n a0 a1 a2 ((a0).length) c1_ hc1), (rows_flat rwf_y _ _), (veF hc2), (ixS (e := 5) (by kernel_rfl) (by kernel_rfl) (hc3).1 (hc3).2), (rows_ld rwf_y (0) (i := ((w64 (((c1_ : Nat) : Int) - (1 : Int)))).toNat) (j := 0) (((w64 (((c1_ : Nat) : Int) - (1 : Int)))).toNat * 1) rfl (hc4) (by decide) rfl), (Exists.elim (rows_st rwf_y (0) (i := ((w64 (((c1_ : Nat) : Int) - (1 : Int)))).toNat) (j := 0) (l := [(Value.int .u8 (IntKind.u8.wrap (((a0).getD ((w64 (((c1_ : Nat) : Int) - (1 : Int)))).toNat (0)) + (1 : Int))))]) (IntKind.u8.wrap (((a0).getD ((w64 (((c1_ : Nat) : Int) - (1 : Int)))).toNat (0)) + (1 : Int))) (((w64 (((c1_ : Nat) : Int) - (1 : Int)))).toNat * 1) rfl (hc4) (Nat.le_of_ble_eq_true rfl) rfl) fun o h => ⟨o, h.1⟩), (Exists.elim (rows_st rwf_y (0) (i := ((w64 (((c1_ : Nat) : Int) - (1 : Int)))).toNat) (j := 0) (l := [(Value.int .u8 (IntKind.u8.wrap (((a0).getD ((w64 (((c1_ : Nat) : Int) - (1 : Int)))).toNat (0)) + (1 : Int))))]) (IntKind.u8.wrap (((a0).getD ((w64 (((c1_ : Nat) : Int) - (1 : Int)))).toNat (0)) + (1 : Int))) (((w64 (((c1_ : Nat) : Int) - (1 : Int)))).toNat * 1) rfl (hc4) (Nat.le_of_ble_eq_true rfl) rfl) fun o h => h.2), (rows_ldS rwf_y (i := ((w64 (((c1_ : Nat) : Int) - (1 : Int)))).toNat) (j := 0) (IntKind.u8.wrap (((a0).getD ((w64 (((c1_ : Nat) : Int) - (1 : Int)))).toNat (0)) + (1 : Int))) (((w64 (((c1_ : Nat) : Int) - (1 : Int)))).toNat * 1) rfl (hc4) (by decide) rfl), (vbF hc5), (Exists.elim (rows_stS rwf_y (i := ((w64 (((c1_ : Nat) : Int) - (1 : Int)))).toNat) (j := 0) (l := [(Value.int .u8 (255 : Int))]) (IntKind.u8.wrap (((a0).getD ((w64 (((c1_ : Nat) : Int) - (1 : Int)))).toNat (0)) + (1 : Int))) (255 : Int) (((w64 (((c1_ : Nat) : Int) - (1 : Int)))).toNat * 1) rfl (hc4) (Nat.le_of_ble_eq_true rfl) rfl) fun o h => ⟨o, h.1⟩), (Exists.elim (rows_stS rwf_y (i := ((w64 (((c1_ : Nat) : Int) - (1 : Int)))).toNat) (j := 0) (l := [(Value.int .u8 (255 : Int))]) (IntKind.u8.wrap (((a0).getD ((w64 (((c1_ : Nat) : Int) - (1 : Int)))).toNat (0)) + (1 : Int))) (255 : Int) (((w64 (((c1_ : Nat) : Int) - (1 : Int)))).toNat * 1) rfl (hc4) (Nat.le_of_ble_eq_true rfl) rfl) fun o h => h.2), (rows_flat rwf_y _ _), trivial⟩
theorem m_firsttickq1_ok (n : Nat) (a0 : List (Int)) (a1 : Int) (a2 : Int) (r : (Unit) ⊕ (List (Int) × Nat)) (h : m_firsttickq1 n a0 a1 a2 = some r) : Gv P (.func 19) (A_firsttickq1 a0 a1 a2) (H_firsttickq1 a0 a1 a2) (V_firsttickq1 a0 a1 a2 r) (R_firsttickq1 a0 a1 a2 r) := by
  unfold m_firsttickq1 at h
  obtain ⟨c1_, hc1, h⟩ := Option.bind_eq_some_iff.1 h
  by_cases hc2 : ((c1_ : Nat) : Int) = (0 : Int)
  · rw [if_pos hc2] at h
    obtain rfl := Option.some.inj h; exact p_firsttickq1_0 n a0 a1 a2 c1_ hc1 hc2
  · rw [if_neg hc2] at h
    by_cases hc3 : 0 ≤ (w64 (((c1_ : Nat) : Int) - (1 : Int))) ∧ (w64 (((c1_ : Nat) : Int) - (1 : Int))) < ((c1_ : Nat) : Int)
    · rw [if_pos hc3] at h
      by_cases hc4 : ((w64 (((c1_ : Nat) : Int) - (1 : Int)))).toNat < (a0).length
      · rw [if_pos hc4] at h
        by_cases hc5 : (IntKind.i64.wrap (IntKind.u8.wrap (((a0).getD ((w64 (((c1_ : Nat) : Int) - (1 : Int)))).toNat (0)) + (1 : Int)))) < a1
        · rw [if_pos hc5] at h
          obtain ⟨⟨c6_0, c6_1⟩, hc6, h⟩ := Option.bind_eq_some_iff.1 h
          dsimp only at h
          obtain rfl := Option.some.inj h; exact p_firsttickq1_1 n a0 a1 a2 c1_ hc1 hc2 hc3 hc4 hc5 c6_0 c6_1 hc6
        · rw [if_neg hc5] at h
          obtain rfl := Option.some.inj h; exact p_firsttickq1_2 n a0 a1 a2 c1_ hc1 hc2 hc3 hc4 hc5
      · rw [if_neg hc4] at h; cases h
    · rw [if_neg hc3] at h; cases h

noncomputable def A_firstRows1_1110y2 (a0 : Bool) (a1 : Int) (a2 : Int) (a3 : Int) (a4 : Int) (a5 : List (Int)) (a6 : Nat) : List Value := [(Value.slice (some ⟨12, 0, none⟩) a6 (Nat.add big 1))]
noncomputable def H_firstRows1_1110y2 (a0 : Bool) (a1 : Int) (a2 : Int) (a3 : Int) (a4 : Int) (a5 : List (Int)) (a6 : Nat) : AH := ⟨sB [(0, (some (rblk P 11 [false, true, true, true] .ready none [(3, (Value.pointer (some ⟨2, 0, none⟩))), (21, (Value.func (.func 17) #[] #[(Value.pointer (some ⟨10, 0, none⟩)), (Value.pointer (some ⟨11, 0, none⟩))]))] 1))), (1, (some (.marks true))), (2, (some (.cells (layT [(Value.func (.yield 3) #[] #[])]) 38))), (3, (some (rblk P 5 [false, true, false, true, true, true, true] .ready none [(4, (Value.pointer (some ⟨5, 0, none⟩))), (5, (Value.pointer (some ⟨6, 0, none⟩))), (7, (Value.pointer (some ⟨7, 0, none⟩))), (14, (Value.func (.func 11) #[] #[(Value.pointer (some ⟨8, 0, none⟩)), (Value.pointer (some ⟨9, 0, none⟩))]))] 4))), (4, (some (.marks true))), (5, (some (.cells (layT [(Value.slice none 0 0)]) 23))), (6, (some (.cells (layT [(Value.bool a0)]) 4))), (7, (some (.cells (layT [(Value.slice none 0 0)]) 23))), (8, (some (.cells (layT [(Value.int .i64 a1)]) 3))), (9, (some (.cells (layT [(Value.int .i64 a2)]) 3))), (10, (some (.cells (layT [(Value.int .i64 a3)]) 3))), (11, (some (.cells (layT [(Value.int .i64 a4)]) 3))), (12, (some (.cells (layT (rows rw_y a5)) 5)))], 13, 13⟩
noncomputable def V_firstRows1_1110y2 (a0 : Bool) (a1 : Int) (a2 : Int) (a3 : Int) (a4 : Int) (a5 : List (Int)) (a6 : Nat) (r : ByteArray) : Value := match r with
  | o0 => (Value.bool true)
noncomputable def R_firstRows1_1110y2 (a0 : Bool) (a1 : Int) (a2 : Int) (a3 : Int) (a4 : Int) (a5 : List (Int)) (a6 : Nat) (r : ByteArray) : AH := match r with
  | o0 => ⟨sB [(0, (some (rblk P 11 [false, true, true, true] .ready none [(3, (Value.pointer (some ⟨2, 0, none⟩))), (21, (Value.func (.func 17) #[] #[(Value.pointer (some ⟨10, 0, none⟩)), (Value.pointer (some ⟨11, 0, none⟩))]))] 1))), (1, (some (.marks true))), (2, (some (.cells (layT [(Value.func (.yield 3) #[] #[])]) 38))), (3, (some (rblk P 5 [false, true, false, true, true, true, true] .ready none [(4, (Value.pointer (some ⟨5, 0, none⟩))), (5, (Value.pointer (some ⟨6, 0, none⟩))), (7, (Value.pointer (some ⟨7, 0, none⟩))), (14, (Value.func (.func 11) #[] #[(Value.pointer (some ⟨8, 0, none⟩)), (Value.pointer (some ⟨9, 0, none⟩))]))] 4))), (4, (some (.marks true))), (5, (some (.cells (layT [(Value.slice none 0 0)]) 23))), (6, (some (.cells (layT [(Value.bool a0)]) 4))), (7, (some (.cells (layT [(Value.slice (some ⟨13, 0, none⟩) 1 (Nat.add big 1))]) 23))), (8, (some (.cells (layT [(Value.int .i64 a1)]) 3))), (9, (some (.cells (layT [(Value.int .i64 a2)]) 3))), (10, (some (.cells (layT [(Value.int .i64 a3)]) 3))), (11, (some (.cells (layT [(Value.int .i64 a4)]) 3))), (12, (some (.cells (layT (rows rw_y a5)) 5))), (13, (some (.cells (layT [(Value.string o0)]) 9)))], 14, 0⟩
def m_firstRows1_1110y2 (n : Nat) (a0 : Bool) (a1 : Int) (a2 : Int) (a3 : Int) (a4 : Int) (a5 : List (Int)) (a6 : Nat) : Option (ByteArray) :=
  if a6 ≤ (a5).length then
    (m_viewportlaw12rows_111010y1 n a0 a1 a2 (txtOf (List.take a6 a5))).bind fun _ =>
    some (txtOf (List.take a6 a5))
  else none
set_option maxRecDepth 100000 in
theorem p_firstRows1_1110y2_0 (n : Nat) (a0 : Bool) (a1 : Int) (a2 : Int) (a3 : Int) (a4 : Int) (a5 : List (Int)) (a6 : Nat) (hc1 : a6 ≤ (a5).length) (hc2 : m_viewportlaw12rows_111010y1 n a0 a1 a2 (txtOf (List.take a6 a5)) = some ()) : Gv P (.yield 0) (A_firstRows1_1110y2 a0 a1 a2 a3 a4 a5 a6) (H_firstRows1_1110y2 a0 a1 a2 a3 a4 a5 a6) (V_firstRows1_1110y2 a0 a1 a2 a3 a4 a5 a6 (txtOf (List.take a6 a5))) (R_firstRows1_1110y2 a0 a1 a2 a3 a4 a5 a6 (txtOf (List.take a6 a5))) :=
  runY_ok hm (A1 := aT []) (L1 := lT []) (A2 := aT [(4, .str (Value.string (txtOf (List.take a6 a5)))), (5, .call ⟨7, [(0, 3, false), (1, 4, false), (2, 5, false), (3, 6, false), (4, 7, false), (5, 8, false), (6, 9, false)], (V_viewportlaw12rows_111010y1 a0 a1 a2 (txtOf (List.take a6 a5)) ()), (R_viewportlaw12rows_111010y1 a0 a1 a2 (txtOf (List.take a6 a5)) ()), [(3, 0, false), (4, 1, false), (5, 2, false), (6, 3, false), (7, 4, false), (8, 5, false), (9, 6, false), (13, 7, false)]⟩)]) (L2 := lT []) (wk := ⟨[], [(0, 0, false), (1, 1, false), (2, 2, false), (3, 3, false), (4, 4, false), (5, 5, false), (6, 6, false), (7, 7, false), (8, 8, false), (9, 9, false), (10, 10, false), (11, 11, false), (12, 12, true), (13, 13, false)], 14, 0⟩)
    (ps := [∃ r, (oc (rdT (layT (rows rw_y a5)) a6 0) none fun l => bytesL l) = some r ∧ (Value.string (txtOf (List.take a6 a5))) = .string ⟨⟨r⟩⟩,
    Gv P (.yield 0) (A_viewportlaw12rows_111010y1 a0 a1 a2 (txtOf (List.take a6 a5))) (H_viewportlaw12rows_111010y1 a0 a1 a2 (txtOf (List.take a6 a5))) (V_viewportlaw12rows_111010y1 a0 a1 a2 (txtOf (List.take a6 a5)) ()) (R_viewportlaw12rows_111010y1 a0 a1 a2 (txtOf (List.take a6 a5)) ()),
    FlatB (.cells (layT (rows rw_y a5)) 5)]) (by kernel_rfl) ⟨(str_rows rwf_y (fun _ => rfl) _ _ hc1), (m_viewportlaw12rows_111010y1_ok n a0 a1 a2 (txtOf (List.take a6 a5)) () hc2), (rows_flat rwf_y _ _), trivial⟩
theorem m_firstRows1_1110y2_ok (n : Nat) (a0 : Bool) (a1 : Int) (a2 : Int) (a3 : Int) (a4 : Int) (a5 : List (Int)) (a6 : Nat) (r : ByteArray) (h : m_firstRows1_1110y2 n a0 a1 a2 a3 a4 a5 a6 = some r) : Gv P (.yield 0) (A_firstRows1_1110y2 a0 a1 a2 a3 a4 a5 a6) (H_firstRows1_1110y2 a0 a1 a2 a3 a4 a5 a6) (V_firstRows1_1110y2 a0 a1 a2 a3 a4 a5 a6 r) (R_firstRows1_1110y2 a0 a1 a2 a3 a4 a5 a6 r) := by
  unfold m_firstRows1_1110y2 at h
  by_cases hc1 : a6 ≤ (a5).length
  · rw [if_pos hc1] at h
    obtain ⟨_, hc2, h⟩ := Option.bind_eq_some_iff.1 h
    obtain rfl := Option.some.inj h; exact p_firstRows1_1110y2_0 n a0 a1 a2 a3 a4 a5 a6 hc1 hc2
  · rw [if_neg hc1] at h; cases h

noncomputable def S_firsttickq2_1 (x1_0 : List (Int)) (x1_2 : Int) (x1_3 : Int) (st : Nat) : XSt := match st with
  | x1_1 => (sT 51 [(0, (Value.slice (some ⟨0, 0, none⟩) x1_1 (Nat.add big 1))), (1, (Value.int .i64 x1_2)), (2, (Value.int .i64 x1_3))], [], ⟨sB [(0, (some (.cells (layT (rows rw_y x1_0)) 5)))], 1, 1⟩)
noncomputable def X_firsttickq2_1 (x1_0 : List (Int)) (x1_2 : Int) (x1_3 : Int) (r : Nat) : Ex × XSt := match r with
  | z1_0 => (.exit 0, (sT 51 [(0, (Value.slice (some ⟨0, 0, none⟩) z1_0 (Nat.add big 1))), (1, (Value.int .i64 x1_2)), (2, (Value.int .i64 x1_3))], [], ⟨sB [(0, (some (.cells (layT (rows rw_y x1_0)) 5)))], 1, 1⟩))
def B_firsttickq2_1 (n : Nat) (x1_0 : List (Int)) (x1_2 : Int) (x1_3 : Int) (st : Nat) : Option ((Nat) ⊕ (Nat)) := match st with
  | x1_1 =>
    if ((x1_1 : Nat) : Int) > (0 : Int) then
      if 0 ≤ (w64 (((x1_1 : Nat) : Int) - (1 : Int))) ∧ (w64 (((x1_1 : Nat) : Int) - (1 : Int))) < ((x1_1 : Nat) : Int) then
        if ((w64 (((x1_1 : Nat) : Int) - (1 : Int)))).toNat < (x1_0).length then
          if ((x1_0).getD ((w64 (((x1_1 : Nat) : Int) - (1 : Int)))).toNat (0)) = (255 : Int) then
            if 0 ≤ (w64 (((x1_1 : Nat) : Int) - (1 : Int))) ∧ (w64 (((x1_1 : Nat) : Int) - (1 : Int))) ≤ ((x1_1 : Nat) : Int) then
              some (.inl (((w64 (((x1_1 : Nat) : Int) - (1 : Int)))).toNat))
            else none
          else
            some (.inr x1_1)
        else none
      else none
    else
      some (.inr x1_1)
def m_firsttickq2_1 (n : Nat) (x1_0 : List (Int)) (x1_2 : Int) (x1_3 : Int) (st : Nat) : Option (Nat) := iterM (B_firsttickq2_1 n x1_0 x1_2 x1_3) n st
set_option maxRecDepth 100000 in
theorem q_firsttickq2_1_0 (n : Nat) {rnd : Option Nat} (x1_0 : List (Int)) (x1_1 : Nat) (x1_2 : Int) (x1_3 : Int) (hy1_1 : ((x1_1 : Nat) : Int) > (0 : Int)) (hy1_2 : 0 ≤ (w64 (((x1_1 : Nat) : Int) - (1 : Int))) ∧ (w64 (((x1_1 : Nat) : Int) - (1 : Int))) < ((x1_1 : Nat) : Int)) (hy1_3 : ((w64 (((x1_1 : Nat) : Int) - (1 : Int)))).toNat < (x1_0).length) (hy1_4 : ((x1_0).getD ((w64 (((x1_1 : Nat) : Int) - (1 : Int)))).toNat (0)) = (255 : Int)) (hy1_5 : 0 ≤ (w64 (((x1_1 : Nat) : Int) - (1 : Int))) ∧ (w64 (((x1_1 : Nat) : Int) - (1 : Int))) ≤ ((x1_1 : Nat) : Int)) : CG P rnd (fnN P 19) 1 (codeOf P 19 [false, false, false, true]) (S_firsttickq2_1 x1_0 x1_2 x1_3 x1_1) (.normal, S_firsttickq2_1 x1_0 x1_2 x1_3 (((w64 (((x1_1 : Nat) : Int) - (1 : Int)))).toNat)) :=
  runC_ok hm (A := aT [(4, .val (.bool true)), (10, .pur (Value.pointer (some ⟨0, (((w64 (((x1_1 : Nat) : Int) - (1 : Int)))).toNat * 1), none⟩))), (11, .ld (Value.int .u8 ((x1_0).getD ((w64 (((x1_1 : Nat) : Int) - (1 : Int)))).toNat (0)))), (12, .val (.bool true)), (20, .pur (Value.slice (some ⟨0, 0, none⟩) ((w64 (((x1_1 : Nat) : Int) - (1 : Int)))).toNat (Nat.add big 1)))]) (L := lT []) (wk := ⟨[0, 1, 2], [(0, 0, true)], 1, 1⟩)
    (ps := [(Value.bool (decide (((x1_1 : Nat) : Int) > (0 : Int)))) = (Value.bool true),
    opIndexAddr P 42 (Value.slice (some ⟨0, 0, none⟩) x1_1 (Nat.add big 1)) (Value.int .i64 (w64 (((x1_1 : Nat) : Int) - (1 : Int)))) Ax.h0 = some ((Value.pointer (some ⟨0, (((w64 (((x1_1 : Nat) : Int) - (1 : Int)))).toNat * 1), none⟩)), Ax.h0),
    (layT (rows rw_y x1_0)).get (((w64 (((x1_1 : Nat) : Int) - (1 : Int)))).toNat * 1) = some (Value.int .u8 ((x1_0).getD ((w64 (((x1_1 : Nat) : Int) - (1 : Int)))).toNat (0))),
    (Value.bool (((x1_0).getD ((w64 (((x1_1 : Nat) : Int) - (1 : Int)))).toNat (0)) == (255 : Int))) = (Value.bool true),
    opSlice P 42 (Value.slice (some ⟨0, 0, none⟩) x1_1 (Nat.add big 1)) none (some (Value.int .i64 (w64 (((x1_1 : Nat) : Int) - (1 : Int))))) none Ax.h0 = some ((Value.slice (some ⟨0, 0, none⟩) ((w64 (((x1_1 : Nat) : Int) - (1 : Int)))).toNat (Nat.add big 1)), Ax.h0),
    FlatB (.cells (layT (rows rw_y x1_0)) 5)]) (by kernel_rfl) ⟨(vbT hy1_1), (ixS (e := 5) (by kernel_rfl) (by kernel_rfl) (hy1_2).1 (hy1_2).2), (rows_ld rwf_y (0) (i := ((w64 (((x1_1 : Nat) : Int) - (1 : Int)))).toNat) (j := 0) (((w64 (((x1_1 : Nat) : Int) - (1 : Int)))).toNat * 1) rfl (hy1_3) (by decide) rfl), (veT hy1_4), (slRowHi (e := 5) (es := 1) (by kernel_rfl) (by kernel_rfl) rfl rfl hy1_5), (rows_flat rwf_y _ _), trivial⟩
set_option maxRecDepth 100000 in
theorem q_firsttickq2_1_1 (n : Nat) {rnd : Option Nat} (x1_0 : List (Int)) (x1_1 : Nat) (x1_2 : Int) (x1_3 : Int) (hy1_1 : ((x1_1 : Nat) : Int) > (0 : Int)) (hy1_2 : 0 ≤ (w64 (((x1_1 : Nat) : Int) - (1 : Int))) ∧ (w64 (((x1_1 : Nat) : Int) - (1 : Int))) < ((x1_1 : Nat) : Int)) (hy1_3 : ((w64 (((x1_1 : Nat) : Int) - (1 : Int)))).toNat < (x1_0).length) (hy1_4 : ¬ (((x1_0).getD ((w64 (((x1_1 : Nat) : Int) - (1 : Int)))).toNat (0)) = (255 : Int))) : CG P rnd (fnN P 19) 1 (codeOf P 19 [false, false, false, true]) (S_firsttickq2_1 x1_0 x1_2 x1_3 x1_1) (X_firsttickq2_1 x1_0 x1_2 x1_3 x1_1) :=
  runC_ok hm (A := aT [(4, .val (.bool true)), (10, .pur (Value.pointer (some ⟨0, (((w64 (((x1_1 : Nat) : Int) - (1 : Int)))).toNat * 1), none⟩))), (11, .ld (Value.int .u8 ((x1_0).getD ((w64 (((x1_1 : Nat) : Int) - (1 : Int)))).toNat (0)))), (12, .val (.bool false))]) (L := lT []) (wk := ⟨[0, 1, 2], [(0, 0, true)], 1, 1⟩)
    (ps := [(Value.bool (decide (((x1_1 : Nat) : Int) > (0 : Int)))) = (Value.bool true),
    opIndexAddr P 42 (Value.slice (some ⟨0, 0, none⟩) x1_1 (Nat.add big 1)) (Value.int .i64 (w64 (((x1_1 : Nat) : Int) - (1 : Int)))) Ax.h0 = some ((Value.pointer (some ⟨0, (((w64 (((x1_1 : Nat) : Int) - (1 : Int)))).toNat * 1), none⟩)), Ax.h0),
    (layT (rows rw_y x1_0)).get (((w64 (((x1_1 : Nat) : Int) - (1 : Int)))).toNat * 1) = some (Value.int .u8 ((x1_0).getD ((w64 (((x1_1 : Nat) : Int) - (1 : Int)))).toNat (0))),
    (Value.bool (((x1_0).getD ((w64 (((x1_1 : Nat) : Int) - (1 : Int)))).toNat (0)) == (255 : Int))) = (Value.bool false),
    FlatB (.cells (layT (rows rw_y x1_0)) 5)]) (by kernel_rfl) ⟨(vbT hy1_1), (ixS (e := 5) (by kernel_rfl) (by kernel_rfl) (hy1_2).1 (hy1_2).2), (rows_ld rwf_y (0) (i := ((w64 (((x1_1 : Nat) : Int) - (1 : Int)))).toNat) (j := 0) (((w64 (((x1_1 : Nat) : Int) - (1 : Int)))).toNat * 1) rfl (hy1_3) (by decide) rfl), (veF hy1_4), (rows_flat rwf_y _ _), trivial⟩
set_option maxRecDepth 100000 in
theorem q_firsttickq2_1_2 (n : Nat) {rnd : Option Nat} (x1_0 : List (Int)) (x1_1 : Nat) (x1_2 : Int) (x1_3 : Int) (hy1_1 : ¬ (((x1_1 : Nat) : Int) > (0 : Int))) : CG P rnd (fnN P 19) 1 (codeOf P 19 [false, false, false, true]) (S_firsttickq2_1 x1_0 x1_2 x1_3 x1_1) (X_firsttickq2_1 x1_0 x1_2 x1_3 x1_1) :=
  runC_ok hm (A := aT [(4, .val (.bool false))]) (L := lT []) (wk := ⟨[0, 1, 2], [(0, 0, true)], 1, 1⟩)
    (ps := [(Value.bool (decide (((x1_1 : Nat) : Int) > (0 : Int)))) = (Value.bool false),
    FlatB (.cells (layT (rows rw_y x1_0)) 5)]) (by kernel_rfl) ⟨(vbF hy1_1), (rows_flat rwf_y _ _), trivial⟩
theorem m_firsttickq2_1_ok (n : Nat) {rnd : Option Nat} (x1_0 : List (Int)) (x1_2 : Int) (x1_3 : Int) (st : Nat) (r : Nat) (h : m_firsttickq2_1 n x1_0 x1_2 x1_3 st = some r) : CG P rnd (fnN P 19) 1 (codeOf P 19 [false, false, true]) (S_firsttickq2_1 x1_0 x1_2 x1_3 st) (X_firsttickq2_1 x1_0 x1_2 x1_3 r) :=
  CG.iter (b := codeOf P 19 [false, false, false, true]) (by kernel_rfl) (body := B_firsttickq2_1 n x1_0 x1_2 x1_3) (S := S_firsttickq2_1 x1_0 x1_2 x1_3) (X := X_firsttickq2_1 x1_0 x1_2 x1_3)
    (fun x1_1 s' h => by
    unfold B_firsttickq2_1 at h
    dsimp only at h
    by_cases hy1_1 : ((x1_1 : Nat) : Int) > (0 : Int)
    · rw [if_pos hy1_1] at h
      by_cases hy1_2 : 0 ≤ (w64 (((x1_1 : Nat) : Int) - (1 : Int))) ∧ (w64 (((x1_1 : Nat) : Int) - (1 : Int))) < ((x1_1 : Nat) : Int)
      · rw [if_pos hy1_2] at h
        by_cases hy1_3 : ((w64 (((x1_1 : Nat) : Int) - (1 : Int)))).toNat < (x1_0).length
        · rw [if_pos hy1_3] at h
          by_cases hy1_4 : ((x1_0).getD ((w64 (((x1_1 : Nat) : Int) - (1 : Int)))).toNat (0)) = (255 : Int)
          · rw [if_pos hy1_4] at h
            by_cases hy1_5 : 0 ≤ (w64 (((x1_1 : Nat) : Int) - (1 : Int))) ∧ (w64 (((x1_1 : Nat) : Int) - (1 : Int))) ≤ ((x1_1 : Nat) : Int)
            · rw [if_pos hy1_5] at h
              obtain rfl := Sum.inl.inj (Option.some.inj h); exact q_firsttickq2_1_0 n x1_0 x1_1 x1_2 x1_3 hy1_1 hy1_2 hy1_3 hy1_4 hy1_5
            · rw [if_neg hy1_5] at h; cases h
          · rw [if_neg hy1_4] at h
            cases h
        · rw [if_neg hy1_3] at h; cases h
      · rw [if_neg hy1_2] at h; cases h
    · rw [if_neg hy1_1] at h
      cases h)
    (fun x1_1 r h => by
    unfold B_firsttickq2_1 at h
    dsimp only at h
    by_cases hy1_1 : ((x1_1 : Nat) : Int) > (0 : Int)
    · rw [if_pos hy1_1] at h
      by_cases hy1_2 : 0 ≤ (w64 (((x1_1 : Nat) : Int) - (1 : Int))) ∧ (w64 (((x1_1 : Nat) : Int) - (1 : Int))) < ((x1_1 : Nat) : Int)
      · rw [if_pos hy1_2] at h
        by_cases hy1_3 : ((w64 (((x1_1 : Nat) : Int) - (1 : Int)))).toNat < (x1_0).length
        · rw [if_pos hy1_3] at h
          by_cases hy1_4 : ((x1_0).getD ((w64 (((x1_1 : Nat) : Int) - (1 : Int)))).toNat (0)) = (255 : Int)
          · rw [if_pos hy1_4] at h
            by_cases hy1_5 : 0 ≤ (w64 (((x1_1 : Nat) : Int) - (1 : Int))) ∧ (w64 (((x1_1 : Nat) : Int) - (1 : Int))) ≤ ((x1_1 : Nat) : Int)
            · rw [if_pos hy1_5] at h
              cases h
            · rw [if_neg hy1_5] at h; cases h
          · rw [if_neg hy1_4] at h
            obtain rfl := Sum.inr.inj (Option.some.inj h); exact q_firsttickq2_1_1 n x1_0 x1_1 x1_2 x1_3 hy1_1 hy1_2 hy1_3 hy1_4
        · rw [if_neg hy1_3] at h; cases h
      · rw [if_neg hy1_2] at h; cases h
    · rw [if_neg hy1_1] at h
      obtain rfl := Sum.inr.inj (Option.some.inj h); exact q_firsttickq2_1_2 n x1_0 x1_1 x1_2 x1_3 hy1_1)
    (fun r => by intro hx; cases hx) h
noncomputable def A_firsttickq2 (a0 : List (Int)) (a1 : Nat) (a2 : Int) (a3 : Int) : List Value := [(Value.slice (some ⟨0, 0, none⟩) a1 (Nat.add big 1)), (Value.int .i64 a2), (Value.int .i64 a3)]
noncomputable def H_firsttickq2 (a0 : List (Int)) (a1 : Nat) (a2 : Int) (a3 : Int) : AH := ⟨sB [(0, (some (.cells (layT (rows rw_y a0)) 5)))], 1, 1⟩
noncomputable def V_firsttickq2 (a0 : List (Int)) (a1 : Nat) (a2 : Int) (a3 : Int) (r : (Unit) ⊕ (List (Int) × Nat)) : Value := match r with
  | .inl _ => (Value.slice none 0 0)
  | .inr (o0, o1) => (Value.slice (some ⟨1, 0, none⟩) o1 (Nat.add big 1))
noncomputable def R_firsttickq2 (a0 : List (Int)) (a1 : Nat) (a2 : Int) (a3 : Int) (r : (Unit) ⊕ (List (Int) × Nat)) : AH := match r with
  | .inl _ => ⟨sB [(0, (some (.cells (layT (rows rw_y a0)) 5)))], 1, 1⟩
  | .inr (o0, o1) => ⟨sB [(1, (some (.cells (layT (rows rw_y o0)) 5)))], 2, 0⟩
def m_firsttickq2 (n : Nat) (a0 : List (Int)) (a1 : Nat) (a2 : Int) (a3 : Int) : Option ((Unit) ⊕ (List (Int) × Nat)) :=
  (m_firsttickq2_1 n a0 a2 a3 a1).bind fun c1_ =>
  if ((c1_ : Nat) : Int) = (0 : Int) then
    some (.inl ())
  else
    if 0 ≤ (w64 (((c1_ : Nat) : Int) - (1 : Int))) ∧ (w64 (((c1_ : Nat) : Int) - (1 : Int))) < ((c1_ : Nat) : Int) then
      if ((w64 (((c1_ : Nat) : Int) - (1 : Int)))).toNat < (a0).length then
        if (IntKind.i64.wrap (IntKind.u8.wrap (((a0).getD ((w64 (((c1_ : Nat) : Int) - (1 : Int)))).toNat (0)) + (1 : Int)))) < a2 then
          (m_firstfillq2 n ((a0).set ((w64 (((c1_ : Nat) : Int) - (1 : Int)))).toNat (IntKind.u8.wrap (((a0).getD ((w64 (((c1_ : Nat) : Int) - (1 : Int)))).toNat (0)) + (1 : Int)))) c1_ a2 a3).bind fun t => match t with
          | (c6_0, c6_1) =>
            some (.inr (c6_0, c6_1))
        else
          some (.inr (((a0).set ((w64 (((c1_ : Nat) : Int) - (1 : Int)))).toNat (255 : Int)), c1_))
      else none
    else none
set_option maxRecDepth 100000 in
theorem p_firsttickq2_0 (n : Nat) (a0 : List (Int)) (a1 : Nat) (a2 : Int) (a3 : Int) (c1_ : Nat) (hc1 : m_firsttickq2_1 n a0 a2 a3 a1 = some c1_) (hc2 : ((c1_ : Nat) : Int) = (0 : Int)) : Gv P (.func 19) (A_firsttickq2 a0 a1 a2 a3) (H_firsttickq2 a0 a1 a2 a3) (V_firsttickq2 a0 a1 a2 a3 (.inl ())) (R_firsttickq2 a0 a1 a2 a3 (.inl ())) :=
  runF_ok hm (A := aT [(9, .val (.bool true))]) (L := lT [(4, ⟨⟨[0, 1, 2], [(0, 0, true)], 1, 1⟩, (X_firsttickq2_1 a0 a2 a3 c1_).1, (X_firsttickq2_1 a0 a2 a3 c1_).2⟩)]) (wk := ⟨[6], [(0, 0, true)], 1, 1⟩)
    (ps := [CG P none (fnN P 19) 1 (codeOf P 19 [false, false, true]) (S_firsttickq2_1 a0 a2 a3 a1) (X_firsttickq2_1 a0 a2 a3 c1_),
    FlatB (.cells (layT (rows rw_y a0)) 5),
    (Value.bool (((c1_ : Nat) : Int) == (0 : Int))) = (Value.bool true),
    FlatB (.cells (layT (rows rw_y a0)) 5)]) (by kernel_rfl) ⟨(m_firsttickq2_1_ok n a0 a2 a3 a1 c1_ hc1), (rows_flat rwf_y _ _), (veT hc2), (rows_flat rwf_y _ _), trivial⟩
set_option maxRecDepth 100000 in
theorem p_firsttickq2_1 (n : Nat) (a0 : List (Int)) (a1 : Nat) (a2 : Int) (a3 : Int) (c1_ : Nat) (hc1 : m_firsttickq2_1 n a0 a2 a3 a1 = some c1_) (hc2 : ¬ (((c1_ : Nat) : Int) = (0 : Int))) (hc3 : 0 ≤ (w64 (((c1_ : Nat) : Int) - (1 : Int))) ∧ (w64 (((c1_ : Nat) : Int) - (1 : Int))) < ((c1_ : Nat) : Int)) (hc4 : ((w64 (((c1_ : Nat) : Int) - (1 : Int)))).toNat < (a0).length) (hc5 : (IntKind.i64.wrap (IntKind.u8.wrap (((a0).getD ((w64 (((c1_ : Nat) : Int) - (1 : Int)))).toNat (0)) + (1 : Int)))) < a2) (c6_0 : List (Int)) (c6_1 : Nat) (hc6 : m_firstfillq2 n ((a0).set ((w64 (((c1_ : Nat) : Int) - (1 : Int)))).toNat (IntKind.u8.wrap (((a0).getD ((w64 (((c1_ : Nat) : Int) - (1 : Int)))).toNat (0)) + (1 : Int)))) c1_ a2 a3 = some (c6_0, c6_1)) : Gv P (.func 19) (A_firsttickq2 a0 a1 a2 a3) (H_firsttickq2 a0 a1 a2 a3) (V_firsttickq2 a0 a1 a2 a3 (.inr (c6_0, c6_1))) (R_firsttickq2 a0 a1 a2 a3 (.inr (c6_0, c6_1))) :=
  runF_ok hm (A := aT [(9, .val (.bool false)), (16, .pur (Value.pointer (some ⟨0, (((w64 (((c1_ : Nat) : Int) - (1 : Int)))).toNat * 1), none⟩))), (21, .ld (Value.int .u8 ((a0).getD ((w64 (((c1_ : Nat) : Int) - (1 : Int)))).toNat (0)))), (24, .sto (layT (rows rw_y ((a0).set ((w64 (((c1_ : Nat) : Int) - (1 : Int)))).toNat (IntKind.u8.wrap (((a0).getD ((w64 (((c1_ : Nat) : Int) - (1 : Int)))).toNat (0)) + (1 : Int))))))), (29, .ld (Value.int .u8 (IntKind.u8.wrap (((a0).getD ((w64 (((c1_ : Nat) : Int) - (1 : Int)))).toNat (0)) + (1 : Int))))), (32, .val (.bool true)), (38, .call ⟨1, [(0, 0, true)], (V_firstfillq2 ((a0).set ((w64 (((c1_ : Nat) : Int) - (1 : Int)))).toNat (IntKind.u8.wrap (((a0).getD ((w64 (((c1_ : Nat) : Int) - (1 : Int)))).toNat (0)) + (1 : Int)))) c1_ a2 a3 (c6_0, c6_1)), (R_firstfillq2 ((a0).set ((w64 (((c1_ : Nat) : Int) - (1 : Int)))).toNat (IntKind.u8.wrap (((a0).getD ((w64 (((c1_ : Nat) : Int) - (1 : Int)))).toNat (0)) + (1 : Int)))) c1_ a2 a3 (c6_0, c6_1)), [(1, 1, true)]⟩)]) (L := lT [(4, ⟨⟨[0, 1, 2], [(0, 0, true)], 1, 1⟩, (X_firsttickq2_1 a0 a2 a3 c1_).1, (X_firsttickq2_1 a0 a2 a3 c1_).2⟩)]) (wk := ⟨[6], [(1, 1, true)], 2, 0⟩)
    (ps := [CG P none (fnN P 19) 1 (codeOf P 19 [false, false, true]) (S_firsttickq2_1 a0 a2 a3 a1) (X_firsttickq2_1 a0 a2 a3 c1_),
    FlatB (.cells (layT (rows rw_y a0)) 5),
    (Value.bool (((c1_ : Nat) : Int) == (0 : Int))) = (Value.bool false),
    opIndexAddr P 42 (Value.slice (some ⟨0, 0, none⟩) c1_ (Nat.add big 1)) (Value.int .i64 (w64 (((c1_ : Nat) : Int) - (1 : Int)))) Ax.h0 = some ((Value.pointer (some ⟨0, (((w64 (((c1_ : Nat) : Int) - (1 : Int)))).toNat * 1), none⟩)), Ax.h0),
    (layT (rows rw_y a0)).get (((w64 (((c1_ : Nat) : Int) - (1 : Int)))).toNat * 1) = some (Value.int .u8 ((a0).getD ((w64 (((c1_ : Nat) : Int) - (1 : Int)))).toNat (0))),
    ∃ old, rdT (layT (rows rw_y a0)) 1 (((w64 (((c1_ : Nat) : Int) - (1 : Int)))).toNat * 1) = some old,
    layL [(Value.int .u8 (IntKind.u8.wrap (((a0).getD ((w64 (((c1_ : Nat) : Int) - (1 : Int)))).toNat (0)) + (1 : Int))))] (((w64 (((c1_ : Nat) : Int) - (1 : Int)))).toNat * 1) (layT (rows rw_y a0)) = layT (rows rw_y ((a0).set ((w64 (((c1_ : Nat) : Int) - (1 : Int)))).toNat (IntKind.u8.wrap (((a0).getD ((w64 (((c1_ : Nat) : Int) - (1 : Int)))).toNat (0)) + (1 : Int))))),
    (layT (rows rw_y ((a0).set ((w64 (((c1_ : Nat) : Int) - (1 : Int)))).toNat (IntKind.u8.wrap (((a0).getD ((w64 (((c1_ : Nat) : Int) - (1 : Int)))).toNat (0)) + (1 : Int)))))).get (((w64 (((c1_ : Nat) : Int) - (1 : Int)))).toNat * 1) = some (Value.int .u8 (IntKind.u8.wrap (((a0).getD ((w64 (((c1_ : Nat) : Int) - (1 : Int)))).toNat (0)) + (1 : Int)))),
    (Value.bool (decide ((IntKind.i64.wrap (IntKind.u8.wrap (((a0).getD ((w64 (((c1_ : Nat) : Int) - (1 : Int)))).toNat (0)) + (1 : Int)))) < a2))) = (Value.bool true),
    Gv P (.func 18) (A_firstfillq2 ((a0).set ((w64 (((c1_ : Nat) : Int) - (1 : Int)))).toNat (IntKind.u8.wrap (((a0).getD ((w64 (((c1_ : Nat) : Int) - (1 : Int)))).toNat (0)) + (1 : Int)))) c1_ a2 a3) (H_firstfillq2 ((a0).set ((w64 (((c1_ : Nat) : Int) - (1 : Int)))).toNat (IntKind.u8.wrap (((a0).getD ((w64 (((c1_ : Nat) : Int) - (1 : Int)))).toNat (0)) + (1 : Int)))) c1_ a2 a3) (V_firstfillq2 ((a0).set ((w64 (((c1_ : Nat) : Int) - (1 : Int)))).toNat (IntKind.u8.wrap (((a0).getD ((w64 (((c1_ : Nat) : Int) - (1 : Int)))).toNat (0)) + (1 : Int)))) c1_ a2 a3 (c6_0, c6_1)) (R_firstfillq2 ((a0).set ((w64 (((c1_ : Nat) : Int) - (1 : Int)))).toNat (IntKind.u8.wrap (((a0).getD ((w64 (((c1_ : Nat) : Int) - (1 : Int)))).toNat (0)) + (1 : Int)))) c1_ a2 a3 (c6_0, c6_1)),
    FlatB (.cells (layT (rows rw_y ((a0).set ((w64 (((c1_ : Nat) : Int) - (1 : Int)))).toNat (IntKind.u8.wrap (((a0).getD ((w64 (((c1_ : Nat) : Int) - (1 : Int)))).toNat (0)) + (1 : Int)))))) 5),
    FlatB (.cells (layT (rows rw_y c6_0)) 5),
    FlatB (.cells (layT (rows rw_y c6_0)) 5)]) (by kernel_rfl) ⟨(m_firsttickq2_1_ok n a0 a2 a3 a1 c1_ hc1), (rows_flat rwf_y _ _), (veF hc2), (ixS (e := 5) (by kernel_rfl) (by kernel_rfl) (hc3).1 (hc3).2), (rows_ld rwf_y (0) (i := ((w64 (((c1_ : Nat) : Int) - (1 : Int)))).toNat) (j := 0) (((w64 (((c1_ : Nat) : Int) - (1 : Int)))).toNat * 1) rfl (hc4) (by decide) rfl), (Exists.elim (rows_st rwf_y (0) (i := ((w64 (((c1_ : Nat) : Int) - (1 : Int)))).toNat) (j := 0) (l := [(Value.int .u8 (IntKind.u8.wrap (((a0).getD ((w64 (((c1_ : Nat) : Int) - (1 : Int)))).toNat (0)) + (1 : Int))))]) (IntKind.u8.wrap (((a0).getD ((w64 (((c1_ : Nat) : Int) - (1 : Int)))).toNat (0)) + (1 : Int))) (((w64 (((c1_ : Nat) : Int) - (1 : Int)))).toNat * 1) rfl (hc4) (Nat.le_of_ble_eq_true rfl) rfl) fun o h => ⟨o, h.1⟩), (Exists.elim (rows_st rwf_y (0) (i := ((w64 (((c1_ : Nat) : Int) - (1 : Int)))).toNat) (j := 0) (l := [(Value.int .u8 (IntKind.u8.wrap (((a0).getD ((w64 (((c1_ : Nat) : Int) - (1 : Int)))).toNat (0)) + (1 : Int))))]) (IntKind.u8.wrap (((a0).getD ((w64 (((c1_ : Nat) : Int) - (1 : Int)))).toNat (0)) + (1 : Int))) (((w64 (((c1_ : Nat) : Int) - (1 : Int)))).toNat * 1) rfl (hc4) (Nat.le_of_ble_eq_true rfl) rfl) fun o h => h.2), (rows_ldS rwf_y (i := ((w64 (((c1_ : Nat) : Int) - (1 : Int)))).toNat) (j := 0) (IntKind.u8.wrap (((a0).getD ((w64 (((c1_ : Nat) : Int) - (1 : Int)))).toNat (0)) + (1 : Int))) (((w64 (((c1_ : Nat) : Int) - (1 : Int)))).toNat * 1) rfl (hc4) (by decide) rfl), (vbT hc5), (m_firstfillq2_ok n ((a0).set ((w64 (((c1_ : Nat) : Int) - (1 : Int)))).toNat (IntKind.u8.wrap (((a0).getD ((w64 (((c1_ : Nat) : Int) - (1 : Int)))).toNat (0)) + (1 : Int)))) c1_ a2 a3 (c6_0, c6_1) hc6), (rows_flat rwf_y _ _), (rows_flat rwf_y _ _), (rows_flat rwf_y _ _), trivial⟩
set_option maxRecDepth 100000 in
theorem p_firsttickq2_2 (n : Nat) (a0 : List (Int)) (a1 : Nat) (a2 : Int) (a3 : Int) (c1_ : Nat) (hc1 : m_firsttickq2_1 n a0 a2 a3 a1 = some c1_) (hc2 : ¬ (((c1_ : Nat) : Int) = (0 : Int))) (hc3 : 0 ≤ (w64 (((c1_ : Nat) : Int) - (1 : Int))) ∧ (w64 (((c1_ : Nat) : Int) - (1 : Int))) < ((c1_ : Nat) : Int)) (hc4 : ((w64 (((c1_ : Nat) : Int) - (1 : Int)))).toNat < (a0).length) (hc5 : ¬ ((IntKind.i64.wrap (IntKind.u8.wrap (((a0).getD ((w64 (((c1_ : Nat) : Int) - (1 : Int)))).toNat (0)) + (1 : Int)))) < a2)) : Gv P (.func 19) (A_firsttickq2 a0 a1 a2 a3) (H_firsttickq2 a0 a1 a2 a3) (V_firsttickq2 a0 a1 a2 a3 (.inr (((a0).set ((w64 (((c1_ : Nat) : Int) - (1 : Int)))).toNat (255 : Int)), c1_))) (R_firsttickq2 a0 a1 a2 a3 (.inr (((a0).set ((w64 (((c1_ : Nat) : Int) - (1 : Int)))).toNat (255 : Int)), c1_))) :=
  runF_ok hm (A := aT [(9, .val (.bool false)), (16, .pur (Value.pointer (some ⟨0, (((w64 (((c1_ : Nat) : Int) - (1 : Int)))).toNat * 1), none⟩))), (21, .ld (Value.int .u8 ((a0).getD ((w64 (((c1_ : Nat) : Int) - (1 : Int)))).toNat (0)))), (24, .sto (layT (rows rw_y ((a0).set ((w64 (((c1_ : Nat) : Int) - (1 : Int)))).toNat (IntKind.u8.wrap (((a0).getD ((w64 (((c1_ : Nat) : Int) - (1 : Int)))).toNat (0)) + (1 : Int))))))), (29, .ld (Value.int .u8 (IntKind.u8.wrap (((a0).getD ((w64 (((c1_ : Nat) : Int) - (1 : Int)))).toNat (0)) + (1 : Int))))), (32, .val (.bool false)), (37, .sto (layT (rows rw_y ((a0).set ((w64 (((c1_ : Nat) : Int) - (1 : Int)))).toNat (255 : Int)))))]) (L := lT [(4, ⟨⟨[0, 1, 2], [(0, 0, true)], 1, 1⟩, (X_firsttickq2_1 a0 a2 a3 c1_).1, (X_firsttickq2_1 a0 a2 a3 c1_).2⟩)]) (wk := ⟨[6], [(1, 0, true)], 2, 0⟩)
    (ps := [CG P none (fnN P 19) 1 (codeOf P 19 [false, false, true]) (S_firsttickq2_1 a0 a2 a3 a1) (X_firsttickq2_1 a0 a2 a3 c1_),
    FlatB (.cells (layT (rows rw_y a0)) 5),
    (Value.bool (((c1_ : Nat) : Int) == (0 : Int))) = (Value.bool false),
    opIndexAddr P 42 (Value.slice (some ⟨0, 0, none⟩) c1_ (Nat.add big 1)) (Value.int .i64 (w64 (((c1_ : Nat) : Int) - (1 : Int)))) Ax.h0 = some ((Value.pointer (some ⟨0, (((w64 (((c1_ : Nat) : Int) - (1 : Int)))).toNat * 1), none⟩)), Ax.h0),
    (layT (rows rw_y a0)).get (((w64 (((c1_ : Nat) : Int) - (1 : Int)))).toNat * 1) = some (Value.int .u8 ((a0).getD ((w64 (((c1_ : Nat) : Int) - (1 : Int)))).toNat (0))),
    ∃ old, rdT (layT (rows rw_y a0)) 1 (((w64 (((c1_ : Nat) : Int) - (1 : Int)))).toNat * 1) = some old,
    layL [(Value.int .u8 (IntKind.u8.wrap (((a0).getD ((w64 (((c1_ : Nat) : Int) - (1 : Int)))).toNat (0)) + (1 : Int))))] (((w64 (((c1_ : Nat) : Int) - (1 : Int)))).toNat * 1) (layT (rows rw_y a0)) = layT (rows rw_y ((a0).set ((w64 (((c1_ : Nat) : Int) - (1 : Int)))).toNat (IntKind.u8.wrap (((a0).getD ((w64 (((c1_ : Nat) : Int) - (1 : Int)))).toNat (0)) + (1 : Int))))),
    (layT (rows rw_y ((a0).set ((w64 (((c1_ : Nat) : Int) - (1 : Int)))).toNat (IntKind.u8.wrap (((a0).getD ((w64 (((c1_ : Nat) : Int) - (1 : Int)))).toNat (0)) + (1 : Int)))))).get (((w64 (((c1_ : Nat) : Int) - (1 : Int)))).toNat * 1) = some (Value.int .u8 (IntKind.u8.wrap (((a0).getD ((w64 (((c1_ : Nat) : Int) - (1 : Int)))).toNat (0)) + (1 : Int)))),
    (Value.bool (decide ((IntKind.i64.wrap (IntKind.u8.wrap (((a0).getD ((w64 (((c1_ : Nat) : Int) - (1 : Int)))).toNat (0)) + (1 : Int)))) < a2))) = (Value.bool false),
    ∃ old, rdT (layT (rows rw_y ((a0).set ((w64 (((c1_ : Nat) : Int) - (1 : Int)))).toNat (IntKind.u8.wrap (((a0).getD ((w64 (((c1_ : Nat) : Int) - (1 : Int)))).toNat (0)) + (1 : Int)))))) 1 (((w64 (((c1_ : Nat) : Int) - (1 : Int)))).toNat * 1) = some old,
    layL [(Value.int .u8 (255 : Int))] (((w64 (((c1_ : Nat) : Int) - (1 : Int)))).toNat * 1) (layT (rows rw_y ((a0).set ((w64 (((c1_ : Nat) : Int) - (1 : Int)))).toNat (IntKind.u8.wrap (((a0).getD ((w64 (((c1_ : Nat) : Int) - (1 : Int)))).toNat (0)) + (1 : Int)))))) = layT (rows rw_y ((a0).set ((w64 (((c1_ : Nat) : Int) - (1 : Int)))).toNat (255 : Int))),
    FlatB (.cells (layT (rows rw_y ((a0).set ((w64 (((c1_ : Nat) : Int) - (1 : Int)))).toNat (255 : Int)))) 5)]) (by kernel_rfl) ⟨(m_firsttickq2_1_ok n a0 a2 a3 a1 c1_ hc1), (rows_flat rwf_y _ _), (veF hc2), (ixS (e := 5) (by kernel_rfl) (by kernel_rfl) (hc3).1 (hc3).2), (rows_ld rwf_y (0) (i := ((w64 (((c1_ : Nat) : Int) - (1 : Int)))).toNat) (j := 0) (((w64 (((c1_ : Nat) : Int) - (1 : Int)))).toNat * 1) rfl (hc4) (by decide) rfl), (Exists.elim (rows_st rwf_y (0) (i := ((w64 (((c1_ : Nat) : Int) - (1 : Int)))).toNat) (j := 0) (l := [(Value.int .u8 (IntKind.u8.wrap (((a0).getD ((w64 (((c1_ : Nat) : Int) - (1 : Int)))).toNat (0)) + (1 : Int))))]) (IntKind.u8.wrap (((a0).getD ((w64 (((c1_ : Nat) : Int) - (1 : Int)))).toNat (0)) + (1 : Int))) (((w64 (((c1_ : Nat) : Int) - (1 : Int)))).toNat * 1) rfl (hc4) (Nat.le_of_ble_eq_true rfl) rfl) fun o h => ⟨o, h.1⟩), (Exists.elim (rows_st rwf_y (0) (i := ((w64 (((c1_ : Nat) : Int) - (1 : Int)))).toNat) (j := 0) (l := [(Value.int .u8 (IntKind.u8.wrap (((a0).getD ((w64 (((c1_ : Nat) : Int) - (1 : Int)))).toNat (0)) + (1 : Int))))]) (IntKind.u8.wrap (((a0).getD ((w64 (((c1_ : Nat) : Int) - (1 : Int)))).toNat (0)) + (1 : Int))) (((w64 (((c1_ : Nat) : Int) - (1 : Int)))).toNat * 1) rfl (hc4) (Nat.le_of_ble_eq_true rfl) rfl) fun o h => h.2), (rows_ldS rwf_y (i := ((w64 (((c1_ : Nat) : Int) - (1 : Int)))).toNat) (j := 0) (IntKind.u8.wrap (((a0).getD ((w64 (((c1_ : Nat) : Int) - (1 : Int)))).toNat (0)) + (1 : Int))) (((w64 (((c1_ : Nat) : Int) - (1 : Int)))).toNat * 1) rfl (hc4) (by decide) rfl), (vbF hc5), (Exists.elim (rows_stS rwf_y (i := ((w64 (((c1_ : Nat) : Int) - (1 : Int)))).toNat) (j := 0) (l := [(Value.int .u8 (255 : Int))]) (IntKind.u8.wrap (((a0).getD ((w64 (((c1_ : Nat) : Int) - (1 : Int)))).toNat (0)) + (1 : Int))) (255 : Int) (((w64 (((c1_ : Nat) : Int) - (1 : Int)))).toNat * 1) rfl (hc4) (Nat.le_of_ble_eq_true rfl) rfl) fun o h => ⟨o, h.1⟩), (Exists.elim (rows_stS rwf_y (i := ((w64 (((c1_ : Nat) : Int) - (1 : Int)))).toNat) (j := 0) (l := [(Value.int .u8 (255 : Int))]) (IntKind.u8.wrap (((a0).getD ((w64 (((c1_ : Nat) : Int) - (1 : Int)))).toNat (0)) + (1 : Int))) (255 : Int) (((w64 (((c1_ : Nat) : Int) - (1 : Int)))).toNat * 1) rfl (hc4) (Nat.le_of_ble_eq_true rfl) rfl) fun o h => h.2), (rows_flat rwf_y _ _), trivial⟩
theorem m_firsttickq2_ok (n : Nat) (a0 : List (Int)) (a1 : Nat) (a2 : Int) (a3 : Int) (r : (Unit) ⊕ (List (Int) × Nat)) (h : m_firsttickq2 n a0 a1 a2 a3 = some r) : Gv P (.func 19) (A_firsttickq2 a0 a1 a2 a3) (H_firsttickq2 a0 a1 a2 a3) (V_firsttickq2 a0 a1 a2 a3 r) (R_firsttickq2 a0 a1 a2 a3 r) := by
  unfold m_firsttickq2 at h
  obtain ⟨c1_, hc1, h⟩ := Option.bind_eq_some_iff.1 h
  by_cases hc2 : ((c1_ : Nat) : Int) = (0 : Int)
  · rw [if_pos hc2] at h
    obtain rfl := Option.some.inj h; exact p_firsttickq2_0 n a0 a1 a2 a3 c1_ hc1 hc2
  · rw [if_neg hc2] at h
    by_cases hc3 : 0 ≤ (w64 (((c1_ : Nat) : Int) - (1 : Int))) ∧ (w64 (((c1_ : Nat) : Int) - (1 : Int))) < ((c1_ : Nat) : Int)
    · rw [if_pos hc3] at h
      by_cases hc4 : ((w64 (((c1_ : Nat) : Int) - (1 : Int)))).toNat < (a0).length
      · rw [if_pos hc4] at h
        by_cases hc5 : (IntKind.i64.wrap (IntKind.u8.wrap (((a0).getD ((w64 (((c1_ : Nat) : Int) - (1 : Int)))).toNat (0)) + (1 : Int)))) < a2
        · rw [if_pos hc5] at h
          obtain ⟨⟨c6_0, c6_1⟩, hc6, h⟩ := Option.bind_eq_some_iff.1 h
          dsimp only at h
          obtain rfl := Option.some.inj h; exact p_firsttickq2_1 n a0 a1 a2 a3 c1_ hc1 hc2 hc3 hc4 hc5 c6_0 c6_1 hc6
        · rw [if_neg hc5] at h
          obtain rfl := Option.some.inj h; exact p_firsttickq2_2 n a0 a1 a2 a3 c1_ hc1 hc2 hc3 hc4 hc5
      · rw [if_neg hc4] at h; cases h
    · rw [if_neg hc3] at h; cases h

noncomputable def A_viewportlaw12rows_111010y2 (a0 : Bool) (a1 : List (ByteArray)) (a2 : Int) (a3 : Int) (a4 : ByteArray) : List Value := [(Value.string a4)]
noncomputable def H_viewportlaw12rows_111010y2 (a0 : Bool) (a1 : List (ByteArray)) (a2 : Int) (a3 : Int) (a4 : ByteArray) : AH := ⟨sB [(0, (some (rblk P 5 [false, true, false, true, true, true, true] .ready none [(4, (Value.pointer (some ⟨2, 0, none⟩))), (5, (Value.pointer (some ⟨3, 0, none⟩))), (7, (Value.pointer (some ⟨4, 0, none⟩))), (14, (Value.func (.func 11) #[] #[(Value.pointer (some ⟨6, 0, none⟩)), (Value.pointer (some ⟨7, 0, none⟩))]))] 1))), (1, (some (.marks true))), (2, (some (.cells (layT [(Value.slice none 0 0)]) 23))), (3, (some (.cells (layT [(Value.bool a0)]) 4))), (4, (some (.cells (layT [(Value.slice (some ⟨5, 0, none⟩) (a1).length (Nat.add big 1))]) 23))), (5, (some (.cells (layT (rows rw_s a1)) 9))), (6, (some (.cells (layT [(Value.int .i64 a2)]) 3))), (7, (some (.cells (layT [(Value.int .i64 a3)]) 3)))], 8, 8⟩
noncomputable def V_viewportlaw12rows_111010y2 (a0 : Bool) (a1 : List (ByteArray)) (a2 : Int) (a3 : Int) (a4 : ByteArray) (r : (Unit) ⊕ (Unit)) : Value := match r with
  | .inl _ => (Value.bool false)
  | .inr _ => (Value.bool true)
noncomputable def R_viewportlaw12rows_111010y2 (a0 : Bool) (a1 : List (ByteArray)) (a2 : Int) (a3 : Int) (a4 : ByteArray) (r : (Unit) ⊕ (Unit)) : AH := match r with
  | .inl _ => ⟨sB [(0, (some (rblk P 5 [false, true, false, true, true, true, true] .done (some .ret) [(4, (Value.pointer (some ⟨2, 0, none⟩))), (5, (Value.pointer (some ⟨3, 0, none⟩))), (7, (Value.pointer (some ⟨4, 0, none⟩))), (14, (Value.func (.func 11) #[] #[(Value.pointer (some ⟨6, 0, none⟩)), (Value.pointer (some ⟨7, 0, none⟩))]))] 1))), (1, (some (.marks true))), (2, (some (.cells (layT [(Value.slice none 0 0)]) 23))), (3, (some (.cells (layT [(Value.bool false)]) 4))), (4, (some (.cells (layT [(Value.slice (some ⟨5, 0, none⟩) (a1).length (Nat.add big 1))]) 23))), (5, (some (.cells (layT (rows rw_s a1)) 9))), (6, (some (.cells (layT [(Value.int .i64 a2)]) 3))), (7, (some (.cells (layT [(Value.int .i64 a3)]) 3)))], 8, 0⟩
  | .inr _ => ⟨sB [(0, (some (rblk P 5 [false, true, false, true, true, true, true] .ready none [(4, (Value.pointer (some ⟨2, 0, none⟩))), (5, (Value.pointer (some ⟨3, 0, none⟩))), (7, (Value.pointer (some ⟨4, 0, none⟩))), (14, (Value.func (.func 11) #[] #[(Value.pointer (some ⟨6, 0, none⟩)), (Value.pointer (some ⟨7, 0, none⟩))]))] 1))), (1, (some (.marks true))), (2, (some (.cells (layT [(Value.slice none 0 0)]) 23))), (3, (some (.cells (layT [(Value.bool a0)]) 4))), (4, (some (.cells (layT [(Value.slice (some ⟨8, 0, none⟩) ((a1 ++ [a4])).length (Nat.add big 1))]) 23))), (6, (some (.cells (layT [(Value.int .i64 a2)]) 3))), (7, (some (.cells (layT [(Value.int .i64 a3)]) 3))), (8, (some (.cells (layT (rows rw_s (a1 ++ [a4]))) 9)))], 9, 0⟩
def m_viewportlaw12rows_111010y2 (n : Nat) (a0 : Bool) (a1 : List (ByteArray)) (a2 : Int) (a3 : Int) (a4 : ByteArray) : Option ((Unit) ⊕ (Unit)) :=
  if (((a1).length : Nat) : Int) > (700 : Int) then
    some (.inl ())
  else
    if ((a1).length + 1) * 16 ≤ 140737488355328 then
      some (.inr ())
    else none
set_option maxRecDepth 100000 in
theorem p_viewportlaw12rows_111010y2_0 (n : Nat) (a0 : Bool) (a1 : List (ByteArray)) (a2 : Int) (a3 : Int) (a4 : ByteArray) (hc1 : (((a1).length : Nat) : Int) > (700 : Int)) : Gv P (.yield 0) (A_viewportlaw12rows_111010y2 a0 a1 a2 a3 a4) (H_viewportlaw12rows_111010y2 a0 a1 a2 a3 a4) (V_viewportlaw12rows_111010y2 a0 a1 a2 a3 a4 (.inl ())) (R_viewportlaw12rows_111010y2 a0 a1 a2 a3 a4 (.inl ())) :=
  runY_ok hm (A1 := aT []) (L1 := lT []) (A2 := aT [(5, .val (.bool true))]) (L2 := lT []) (wk := ⟨[], [(0, 0, false), (1, 1, false), (2, 2, false), (3, 3, false), (4, 4, false), (5, 5, true), (6, 6, false), (7, 7, false)], 8, 0⟩)
    (ps := [(Value.bool (decide ((((a1).length : Nat) : Int) > (700 : Int)))) = (Value.bool true),
    FlatB (.cells (layT (rows rw_s a1)) 9)]) (by kernel_rfl) ⟨(vbT hc1), (rows_flat rwf_s _ _), trivial⟩
set_option maxRecDepth 100000 in
theorem p_viewportlaw12rows_111010y2_1 (n : Nat) (a0 : Bool) (a1 : List (ByteArray)) (a2 : Int) (a3 : Int) (a4 : ByteArray) (hc1 : ¬ ((((a1).length : Nat) : Int) > (700 : Int))) (hc2 : ((a1).length + 1) * 16 ≤ 140737488355328) : Gv P (.yield 0) (A_viewportlaw12rows_111010y2 a0 a1 a2 a3 a4) (H_viewportlaw12rows_111010y2 a0 a1 a2 a3 a4) (V_viewportlaw12rows_111010y2 a0 a1 a2 a3 a4 (.inr ())) (R_viewportlaw12rows_111010y2 a0 a1 a2 a3 a4 (.inr ())) :=
  runY_ok hm (A1 := aT []) (L1 := lT []) (A2 := aT [(5, .val (.bool false)), (10, .app ⟨none, rows rw_s a1, (rows rw_s (a1 ++ [a4])), ((a1 ++ [a4])).length, false⟩)]) (L2 := lT []) (wk := ⟨[], [(0, 0, false), (1, 1, false), (2, 2, false), (3, 3, false), (4, 4, false), (6, 6, false), (7, 7, false), (8, 9, true)], 9, 0⟩)
    (ps := [(Value.bool (decide ((((a1).length : Nat) : Int) > (700 : Int)))) = (Value.bool false),
    0 < 1,
    rdT (layT (rows rw_s a1)) (Nat.mul (a1).length 1) 0 = some (rows rw_s a1),
    fits (Nat.add (a1).length 1) 16 = true,
    allCells [(Value.string a4)] = true,
    allCells (rows rw_s a1) = true,
    rows rw_s a1 ++ [(Value.string a4)] = (rows rw_s (a1 ++ [a4])),
    Nat.add (a1).length 1 = ((a1 ++ [a4])).length,
    FlatB (.cells (layT (rows rw_s (a1 ++ [a4]))) 9)]) (by kernel_rfl) ⟨(vbF hc1), ((by decide)), (rows_rd rwf_s _ _ rfl), (fits_ok hc2 (by have := hc2; show (_ : Nat) + _ ≤ _; omega)), (rfl), (rows_cells rwf_s _), (rows_app rw_s a1 [a4]), (by simp), (rows_flat rwf_s _ _), trivial⟩
theorem m_viewportlaw12rows_111010y2_ok (n : Nat) (a0 : Bool) (a1 : List (ByteArray)) (a2 : Int) (a3 : Int) (a4 : ByteArray) (r : (Unit) ⊕ (Unit)) (h : m_viewportlaw12rows_111010y2 n a0 a1 a2 a3 a4 = some r) : Gv P (.yield 0) (A_viewportlaw12rows_111010y2 a0 a1 a2 a3 a4) (H_viewportlaw12rows_111010y2 a0 a1 a2 a3 a4) (V_viewportlaw12rows_111010y2 a0 a1 a2 a3 a4 r) (R_viewportlaw12rows_111010y2 a0 a1 a2 a3 a4 r) := by
  unfold m_viewportlaw12rows_111010y2 at h
  by_cases hc1 : (((a1).length : Nat) : Int) > (700 : Int)
  · rw [if_pos hc1] at h
    obtain rfl := Option.some.inj h; exact p_viewportlaw12rows_111010y2_0 n a0 a1 a2 a3 a4 hc1
  · rw [if_neg hc1] at h
    by_cases hc2 : ((a1).length + 1) * 16 ≤ 140737488355328
    · rw [if_pos hc2] at h
      obtain rfl := Option.some.inj h; exact p_viewportlaw12rows_111010y2_1 n a0 a1 a2 a3 a4 hc1 hc2
    · rw [if_neg hc2] at h; cases h

noncomputable def A_firstRows1_1110y3 (a0 : Bool) (a1 : List (ByteArray)) (a2 : Int) (a3 : Int) (a4 : Int) (a5 : Int) (a6 : List (Int)) (a7 : Nat) : List Value := [(Value.slice (some ⟨13, 0, none⟩) a7 (Nat.add big 1))]
noncomputable def H_firstRows1_1110y3 (a0 : Bool) (a1 : List (ByteArray)) (a2 : Int) (a3 : Int) (a4 : Int) (a5 : Int) (a6 : List (Int)) (a7 : Nat) : AH := ⟨sB [(0, (some (rblk P 11 [false, true, true, true] .ready none [(3, (Value.pointer (some ⟨2, 0, none⟩))), (21, (Value.func (.func 17) #[] #[(Value.pointer (some ⟨11, 0, none⟩)), (Value.pointer (some ⟨12, 0, none⟩))]))] 1))), (1, (some (.marks true))), (2, (some (.cells (layT [(Value.func (.yield 3) #[] #[])]) 38))), (3, (some (rblk P 5 [false, true, false, true, true, true, true] .ready none [(4, (Value.pointer (some ⟨5, 0, none⟩))), (5, (Value.pointer (some ⟨6, 0, none⟩))), (7, (Value.pointer (some ⟨7, 0, none⟩))), (14, (Value.func (.func 11) #[] #[(Value.pointer (some ⟨9, 0, none⟩)), (Value.pointer (some ⟨10, 0, none⟩))]))] 4))), (4, (some (.marks true))), (5, (some (.cells (layT [(Value.slice none 0 0)]) 23))), (6, (some (.cells (layT [(Value.bool a0)]) 4))), (7, (some (.cells (layT [(Value.slice (some ⟨8, 0, none⟩) (a1).length (Nat.add big 1))]) 23))), (8, (some (.cells (layT (rows rw_s a1)) 9))), (9, (some (.cells (layT [(Value.int .i64 a2)]) 3))), (10, (some (.cells (layT [(Value.int .i64 a3)]) 3))), (11, (some (.cells (layT [(Value.int .i64 a4)]) 3))), (12, (some (.cells (layT [(Value.int .i64 a5)]) 3))), (13, (some (.cells (layT (rows rw_y a6)) 5)))], 14, 14⟩
noncomputable def V_firstRows1_1110y3 (a0 : Bool) (a1 : List (ByteArray)) (a2 : Int) (a3 : Int) (a4 : Int) (a5 : Int) (a6 : List (Int)) (a7 : Nat) (r : (Unit) ⊕ (List (ByteArray))) : Value := match r with
  | .inl _ => (Value.bool false)
  | .inr o0 => (Value.bool true)
noncomputable def R_firstRows1_1110y3 (a0 : Bool) (a1 : List (ByteArray)) (a2 : Int) (a3 : Int) (a4 : Int) (a5 : Int) (a6 : List (Int)) (a7 : Nat) (r : (Unit) ⊕ (List (ByteArray))) : AH := match r with
  | .inl _ => ⟨sB [(0, (some (rblk P 11 [false, true, true, true] .done (some .ret) [(3, (Value.pointer (some ⟨2, 0, none⟩))), (21, (Value.func (.func 17) #[] #[(Value.pointer (some ⟨11, 0, none⟩)), (Value.pointer (some ⟨12, 0, none⟩))]))] 1))), (1, (some (.marks true))), (2, (some (.cells (layT [(Value.func (.yield 3) #[] #[])]) 38))), (3, (some (rblk P 5 [false, true, false, true, true, true, true] .done (some .ret) [(4, (Value.pointer (some ⟨5, 0, none⟩))), (5, (Value.pointer (some ⟨6, 0, none⟩))), (7, (Value.pointer (some ⟨7, 0, none⟩))), (14, (Value.func (.func 11) #[] #[(Value.pointer (some ⟨9, 0, none⟩)), (Value.pointer (some ⟨10, 0, none⟩))]))] 4))), (4, (some (.marks true))), (5, (some (.cells (layT [(Value.slice none 0 0)]) 23))), (6, (some (.cells (layT [(Value.bool false)]) 4))), (7, (some (.cells (layT [(Value.slice (some ⟨8, 0, none⟩) (a1).length (Nat.add big 1))]) 23))), (8, (some (.cells (layT (rows rw_s a1)) 9))), (9, (some (.cells (layT [(Value.int .i64 a2)]) 3))), (10, (some (.cells (layT [(Value.int .i64 a3)]) 3))), (11, (some (.cells (layT [(Value.int .i64 a4)]) 3))), (12, (some (.cells (layT [(Value.int .i64 a5)]) 3))), (13, (some (.cells (layT (rows rw_y a6)) 5)))], 14, 0⟩
  | .inr o0 => ⟨sB [(0, (some (rblk P 11 [false, true, true, true] .ready none [(3, (Value.pointer (some ⟨2, 0, none⟩))), (21, (Value.func (.func 17) #[] #[(Value.pointer (some ⟨11, 0, none⟩)), (Value.pointer (some ⟨12, 0, none⟩))]))] 1))), (1, (some (.marks true))), (2, (some (.cells (layT [(Value.func (.yield 3) #[] #[])]) 38))), (3, (some (rblk P 5 [false, true, false, true, true, true, true] .ready none [(4, (Value.pointer (some ⟨5, 0, none⟩))), (5, (Value.pointer (some ⟨6, 0, none⟩))), (7, (Value.pointer (some ⟨7, 0, none⟩))), (14, (Value.func (.func 11) #[] #[(Value.pointer (some ⟨9, 0, none⟩)), (Value.pointer (some ⟨10, 0, none⟩))]))] 4))), (4, (some (.marks true))), (5, (some (.cells (layT [(Value.slice none 0 0)]) 23))), (6, (some (.cells (layT [(Value.bool a0)]) 4))), (7, (some (.cells (layT [(Value.slice (some ⟨14, 0, none⟩) (o0).length (Nat.add big 1))]) 23))), (9, (some (.cells (layT [(Value.int .i64 a2)]) 3))), (10, (some (.cells (layT [(Value.int .i64 a3)]) 3))), (11, (some (.cells (layT [(Value.int .i64 a4)]) 3))), (12, (some (.cells (layT [(Value.int .i64 a5)]) 3))), (13, (some (.cells (layT (rows rw_y a6)) 5))), (14, (some (.cells (layT (rows rw_s o0)) 9)))], 15, 0⟩
def m_firstRows1_1110y3 (n : Nat) (a0 : Bool) (a1 : List (ByteArray)) (a2 : Int) (a3 : Int) (a4 : Int) (a5 : Int) (a6 : List (Int)) (a7 : Nat) : Option ((Unit) ⊕ (List (ByteArray))) :=
  if a7 ≤ (a6).length then
    match m_viewportlaw12rows_111010y2 n a0 a1 a2 a3 (txtOf (List.take a7 a6)) with
    | none => none
    | some (.inl _) =>
      some (.inl ())
    | some (.inr _) =>
      some (.inr (a1 ++ [(txtOf (List.take a7 a6))]))
  else none
set_option maxRecDepth 100000 in
theorem p_firstRows1_1110y3_0 (n : Nat) (a0 : Bool) (a1 : List (ByteArray)) (a2 : Int) (a3 : Int) (a4 : Int) (a5 : Int) (a6 : List (Int)) (a7 : Nat) (hc1 : a7 ≤ (a6).length) (hc2 : m_viewportlaw12rows_111010y2 n a0 a1 a2 a3 (txtOf (List.take a7 a6)) = some (.inl ())) : Gv P (.yield 0) (A_firstRows1_1110y3 a0 a1 a2 a3 a4 a5 a6 a7) (H_firstRows1_1110y3 a0 a1 a2 a3 a4 a5 a6 a7) (V_firstRows1_1110y3 a0 a1 a2 a3 a4 a5 a6 a7 (.inl ())) (R_firstRows1_1110y3 a0 a1 a2 a3 a4 a5 a6 a7 (.inl ())) :=
  runY_ok hm (A1 := aT []) (L1 := lT []) (A2 := aT [(4, .str (Value.string (txtOf (List.take a7 a6)))), (5, .call ⟨8, [(0, 3, false), (1, 4, false), (2, 5, false), (3, 6, false), (4, 7, false), (5, 8, true), (6, 9, false), (7, 10, false)], (V_viewportlaw12rows_111010y2 a0 a1 a2 a3 (txtOf (List.take a7 a6)) (.inl ())), (R_viewportlaw12rows_111010y2 a0 a1 a2 a3 (txtOf (List.take a7 a6)) (.inl ())), [(3, 0, false), (4, 1, false), (5, 2, false), (6, 3, false), (7, 4, false), (8, 5, true), (9, 6, false), (10, 7, false)]⟩)]) (L2 := lT []) (wk := ⟨[], [(0, 0, false), (1, 1, false), (2, 2, false), (3, 3, false), (4, 4, false), (5, 5, false), (6, 6, false), (7, 7, false), (8, 8, true), (9, 9, false), (10, 10, false), (11, 11, false), (12, 12, false), (13, 13, true)], 14, 0⟩)
    (ps := [∃ r, (oc (rdT (layT (rows rw_y a6)) a7 0) none fun l => bytesL l) = some r ∧ (Value.string (txtOf (List.take a7 a6))) = .string ⟨⟨r⟩⟩,
    Gv P (.yield 0) (A_viewportlaw12rows_111010y2 a0 a1 a2 a3 (txtOf (List.take a7 a6))) (H_viewportlaw12rows_111010y2 a0 a1 a2 a3 (txtOf (List.take a7 a6))) (V_viewportlaw12rows_111010y2 a0 a1 a2 a3 (txtOf (List.take a7 a6)) (.inl ())) (R_viewportlaw12rows_111010y2 a0 a1 a2 a3 (txtOf (List.take a7 a6)) (.inl ())),
    FlatB (.cells (layT (rows rw_s a1)) 9),
    FlatB (.cells (layT (rows rw_s a1)) 9),
    FlatB (.cells (layT (rows rw_s a1)) 9),
    FlatB (.cells (layT (rows rw_y a6)) 5)]) (by kernel_rfl) ⟨(str_rows rwf_y (fun _ => rfl) _ _ hc1), (m_viewportlaw12rows_111010y2_ok n a0 a1 a2 a3 (txtOf (List.take a7 a6)) (.inl ()) hc2), (rows_flat rwf_s _ _), (rows_flat rwf_s _ _), (rows_flat rwf_s _ _), (rows_flat rwf_y _ _), trivial⟩
set_option maxRecDepth 100000 in
theorem p_firstRows1_1110y3_1 (n : Nat) (a0 : Bool) (a1 : List (ByteArray)) (a2 : Int) (a3 : Int) (a4 : Int) (a5 : Int) (a6 : List (Int)) (a7 : Nat) (hc1 : a7 ≤ (a6).length) (hc2 : m_viewportlaw12rows_111010y2 n a0 a1 a2 a3 (txtOf (List.take a7 a6)) = some (.inr ())) : Gv P (.yield 0) (A_firstRows1_1110y3 a0 a1 a2 a3 a4 a5 a6 a7) (H_firstRows1_1110y3 a0 a1 a2 a3 a4 a5 a6 a7) (V_firstRows1_1110y3 a0 a1 a2 a3 a4 a5 a6 a7 (.inr (a1 ++ [(txtOf (List.take a7 a6))]))) (R_firstRows1_1110y3 a0 a1 a2 a3 a4 a5 a6 a7 (.inr (a1 ++ [(txtOf (List.take a7 a6))]))) :=
  runY_ok hm (A1 := aT []) (L1 := lT []) (A2 := aT [(4, .str (Value.string (txtOf (List.take a7 a6)))), (5, .call ⟨8, [(0, 3, false), (1, 4, false), (2, 5, false), (3, 6, false), (4, 7, false), (5, 8, true), (6, 9, false), (7, 10, false)], (V_viewportlaw12rows_111010y2 a0 a1 a2 a3 (txtOf (List.take a7 a6)) (.inr ())), (R_viewportlaw12rows_111010y2 a0 a1 a2 a3 (txtOf (List.take a7 a6)) (.inr ())), [(3, 0, false), (4, 1, false), (5, 2, false), (6, 3, false), (7, 4, false), (9, 6, false), (10, 7, false), (14, 8, true)]⟩)]) (L2 := lT []) (wk := ⟨[], [(0, 0, false), (1, 1, false), (2, 2, false), (3, 3, false), (4, 4, false), (5, 5, false), (6, 6, false), (7, 7, false), (9, 9, false), (10, 10, false), (11, 11, false), (12, 12, false), (13, 13, true), (14, 14, true)], 15, 0⟩)
    (ps := [∃ r, (oc (rdT (layT (rows rw_y a6)) a7 0) none fun l => bytesL l) = some r ∧ (Value.string (txtOf (List.take a7 a6))) = .string ⟨⟨r⟩⟩,
    Gv P (.yield 0) (A_viewportlaw12rows_111010y2 a0 a1 a2 a3 (txtOf (List.take a7 a6))) (H_viewportlaw12rows_111010y2 a0 a1 a2 a3 (txtOf (List.take a7 a6))) (V_viewportlaw12rows_111010y2 a0 a1 a2 a3 (txtOf (List.take a7 a6)) (.inr ())) (R_viewportlaw12rows_111010y2 a0 a1 a2 a3 (txtOf (List.take a7 a6)) (.inr ())),
    FlatB (.cells (layT (rows rw_s a1)) 9),
    FlatB (.cells (layT (rows rw_s (a1 ++ [(txtOf (List.take a7 a6))]))) 9),
    FlatB (.cells (layT (rows rw_y a6)) 5),
    FlatB (.cells (layT (rows rw_s (a1 ++ [(txtOf (List.take a7 a6))]))) 9)]) (by kernel_rfl) ⟨(str_rows rwf_y (fun _ => rfl) _ _ hc1), (m_viewportlaw12rows_111010y2_ok n a0 a1 a2 a3 (txtOf (List.take a7 a6)) (.inr ()) hc2), (rows_flat rwf_s _ _), (rows_flat rwf_s _ _), (rows_flat rwf_y _ _), (rows_flat rwf_s _ _), trivial⟩
theorem m_firstRows1_1110y3_ok (n : Nat) (a0 : Bool) (a1 : List (ByteArray)) (a2 : Int) (a3 : Int) (a4 : Int) (a5 : Int) (a6 : List (Int)) (a7 : Nat) (r : (Unit) ⊕ (List (ByteArray))) (h : m_firstRows1_1110y3 n a0 a1 a2 a3 a4 a5 a6 a7 = some r) : Gv P (.yield 0) (A_firstRows1_1110y3 a0 a1 a2 a3 a4 a5 a6 a7) (H_firstRows1_1110y3 a0 a1 a2 a3 a4 a5 a6 a7) (V_firstRows1_1110y3 a0 a1 a2 a3 a4 a5 a6 a7 r) (R_firstRows1_1110y3 a0 a1 a2 a3 a4 a5 a6 a7 r) := by
  unfold m_firstRows1_1110y3 at h
  by_cases hc1 : a7 ≤ (a6).length
  · rw [if_pos hc1] at h
    rcases hc2 : m_viewportlaw12rows_111010y2 n a0 a1 a2 a3 (txtOf (List.take a7 a6)) with _ | (⟨⟩ | ⟨⟩)
    · rw [hc2] at h; cases h
    · rw [hc2] at h
      dsimp only at h
      obtain rfl := Option.some.inj h; exact p_firstRows1_1110y3_0 n a0 a1 a2 a3 a4 a5 a6 a7 hc1 hc2
    · rw [hc2] at h
      dsimp only at h
      obtain rfl := Option.some.inj h; exact p_firstRows1_1110y3_1 n a0 a1 a2 a3 a4 a5 a6 a7 hc1 hc2
  · rw [if_neg hc1] at h; cases h

noncomputable def S_firstclock1q1_1 (x1_0 : Bool) (x1_2 : Int) (x1_3 : Int) (x1_4 : Int) (x1_5 : Int) (st : List (ByteArray) × List (Int) × Nat) : XSt := match st with
  | (x1_1, x1_6, x1_7) => (sT 20 [(0, (Value.func (.yield 0) #[] #[])), (1, (Value.pointer (some ⟨10, 0, none⟩))), (2, (Value.pointer (some ⟨11, 0, none⟩))), (4, (slQ x1_6 13 x1_7 1))], [], ⟨sB [(0, (some (rblk P 11 [false, true, true, true] .ready none [(3, (Value.pointer (some ⟨2, 0, none⟩))), (21, (Value.func (.func 17) #[] #[(Value.pointer (some ⟨10, 0, none⟩)), (Value.pointer (some ⟨11, 0, none⟩))]))] 1))), (1, (some (.marks true))), (2, (some (.cells (layT [(Value.func (.yield 3) #[] #[])]) 38))), (3, (some (rblk P 5 [false, true, false, true, true, true, true] .ready none [(4, (Value.pointer (some ⟨5, 0, none⟩))), (5, (Value.pointer (some ⟨6, 0, none⟩))), (7, (Value.pointer (some ⟨7, 0, none⟩))), (14, (Value.func (.func 11) #[] #[(Value.pointer (some ⟨8, 0, none⟩)), (Value.pointer (some ⟨9, 0, none⟩))]))] 4))), (4, (some (.marks true))), (5, (some (.cells (layT [(Value.slice none 0 0)]) 23))), (6, (some (.cells (layT [(Value.bool x1_0)]) 4))), (7, (some (.cells (layT [(slR x1_1 12 1)]) 23))), (8, (some (.cells (layT [(Value.int .i64 x1_2)]) 3))), (9, (some (.cells (layT [(Value.int .i64 x1_3)]) 3))), (10, (some (.cells (layT [(Value.int .i64 x1_4)]) 3))), (11, (some (.cells (layT [(Value.int .i64 x1_5)]) 3))), (12, (nblkR rw_s x1_1 9)), (13, (nblkR rw_y x1_6 5))], 14, 0⟩)
noncomputable def X_firstclock1q1_1 (x1_0 : Bool) (x1_2 : Int) (x1_3 : Int) (x1_4 : Int) (x1_5 : Int) (r : (List (ByteArray)) ⊕ (List (ByteArray))) : Ex × XSt := match r with
  | .inl z1_0 => (.exit 0, (sT 20 [], [], ⟨sB [(0, (some (rblk P 11 [false, true, true, true] .ready none [(3, (Value.pointer (some ⟨2, 0, none⟩))), (21, (Value.func (.func 17) #[] #[(Value.pointer (some ⟨10, 0, none⟩)), (Value.pointer (some ⟨11, 0, none⟩))]))] 1))), (1, (some (.marks true))), (2, (some (.cells (layT [(Value.func (.yield 3) #[] #[])]) 38))), (3, (some (rblk P 5 [false, true, false, true, true, true, true] .ready none [(4, (Value.pointer (some ⟨5, 0, none⟩))), (5, (Value.pointer (some ⟨6, 0, none⟩))), (7, (Value.pointer (some ⟨7, 0, none⟩))), (14, (Value.func (.func 11) #[] #[(Value.pointer (some ⟨8, 0, none⟩)), (Value.pointer (some ⟨9, 0, none⟩))]))] 4))), (4, (some (.marks true))), (5, (some (.cells (layT [(Value.slice none 0 0)]) 23))), (6, (some (.cells (layT [(Value.bool x1_0)]) 4))), (7, (some (.cells (layT [(slR z1_0 12 1)]) 23))), (8, (some (.cells (layT [(Value.int .i64 x1_2)]) 3))), (9, (some (.cells (layT [(Value.int .i64 x1_3)]) 3))), (10, (some (.cells (layT [(Value.int .i64 x1_4)]) 3))), (11, (some (.cells (layT [(Value.int .i64 x1_5)]) 3))), (12, (nblkR rw_s z1_0 9))], 13, 0⟩))
  | .inr z1_0 => (.exit 0, (sT 20 [], [], ⟨sB [(0, (some (rblk P 11 [false, true, true, true] .done (some .ret) [(3, (Value.pointer (some ⟨2, 0, none⟩))), (21, (Value.func (.func 17) #[] #[(Value.pointer (some ⟨10, 0, none⟩)), (Value.pointer (some ⟨11, 0, none⟩))]))] 1))), (1, (some (.marks true))), (2, (some (.cells (layT [(Value.func (.yield 3) #[] #[])]) 38))), (3, (some (rblk P 5 [false, true, false, true, true, true, true] .done (some .ret) [(4, (Value.pointer (some ⟨5, 0, none⟩))), (5, (Value.pointer (some ⟨6, 0, none⟩))), (7, (Value.pointer (some ⟨7, 0, none⟩))), (14, (Value.func (.func 11) #[] #[(Value.pointer (some ⟨8, 0, none⟩)), (Value.pointer (some ⟨9, 0, none⟩))]))] 4))), (4, (some (.marks true))), (5, (some (.cells (layT [(Value.slice none 0 0)]) 23))), (6, (some (.cells (layT [(Value.bool false)]) 4))), (7, (some (.cells (layT [(Value.slice (some ⟨12, 0, none⟩) (z1_0).length (Nat.add big 1))]) 23))), (8, (some (.cells (layT [(Value.int .i64 x1_2)]) 3))), (9, (some (.cells (layT [(Value.int .i64 x1_3)]) 3))), (10, (some (.cells (layT [(Value.int .i64 x1_4)]) 3))), (11, (some (.cells (layT [(Value.int .i64 x1_5)]) 3))), (12, (some (.cells (layT (rows rw_s z1_0)) 9)))], 13, 0⟩))
def B_firstclock1q1_1 (n : Nat) (x1_0 : Bool) (x1_2 : Int) (x1_3 : Int) (x1_4 : Int) (x1_5 : Int) (st : List (ByteArray) × List (Int) × Nat) : Option ((List (ByteArray) × List (Int) × Nat) ⊕ ((List (ByteArray)) ⊕ (List (ByteArray)))) := match st with
  | (x1_1, x1_6, x1_7) =>
    match x1_1 with
    | [] =>
      match x1_6 with
      | [] =>
        some (.inr (.inl ([] : List (ByteArray))))
      | x1_6a :: x1_6t =>
        if ((x1_7 : Nat) : Int) > (0 : Int) then
          (m_firstRows1_1110y2 n x1_0 x1_2 x1_3 x1_4 x1_5 (x1_6a :: x1_6t) x1_7).bind fun y1_2_ =>
          match m_firsttickq2 n (x1_6a :: x1_6t) x1_7 x1_4 x1_5 with
          | none => none
          | some (.inl _) =>
            some (.inl ([y1_2_], ([] : List (Int)), 0))
          | some (.inr (y1_3_0, y1_3_1)) =>
            match y1_3_0 with
            | [] =>
              none
            | y1_3_0a :: y1_3_0t =>
              some (.inl ([y1_2_], (y1_3_0a :: y1_3_0t), y1_3_1))
        else
          some (.inr (.inl ([] : List (ByteArray))))
    | x1_1a :: x1_1t =>
      match x1_6 with
      | [] =>
        some (.inr (.inl (x1_1a :: x1_1t)))
      | x1_6a :: x1_6t =>
        if ((x1_7 : Nat) : Int) > (0 : Int) then
          match m_firstRows1_1110y3 n x1_0 (x1_1a :: x1_1t) x1_2 x1_3 x1_4 x1_5 (x1_6a :: x1_6t) x1_7 with
          | none => none
          | some (.inl _) =>
            some (.inr (.inr (x1_1a :: x1_1t)))
          | some (.inr y1_2_) =>
            match y1_2_ with
            | [] =>
              none
            | y1_2_a :: y1_2_t =>
              match m_firsttickq2 n (x1_6a :: x1_6t) x1_7 x1_4 x1_5 with
              | none => none
              | some (.inl _) =>
                some (.inl ((y1_2_a :: y1_2_t), ([] : List (Int)), 0))
              | some (.inr (y1_3_0, y1_3_1)) =>
                match y1_3_0 with
                | [] =>
                  none
                | y1_3_0a :: y1_3_0t =>
                  some (.inl ((y1_2_a :: y1_2_t), (y1_3_0a :: y1_3_0t), y1_3_1))
        else
          some (.inr (.inl (x1_1a :: x1_1t)))
def m_firstclock1q1_1 (n : Nat) (x1_0 : Bool) (x1_2 : Int) (x1_3 : Int) (x1_4 : Int) (x1_5 : Int) (st : List (ByteArray) × List (Int) × Nat) : Option ((List (ByteArray)) ⊕ (List (ByteArray))) := iterM (B_firstclock1q1_1 n x1_0 x1_2 x1_3 x1_4 x1_5) n st
set_option maxRecDepth 100000 in
theorem q_firstclock1q1_1_0 (n : Nat) {rnd : Option Nat} (x1_0 : Bool) (x1_2 : Int) (x1_3 : Int) (x1_4 : Int) (x1_5 : Int) (x1_7 : Nat) : CG P rnd (fnN P 17) 12 (codeOf P 17 [false, false, true]) (S_firstclock1q1_1 x1_0 x1_2 x1_3 x1_4 x1_5 (([] : List (ByteArray)), ([] : List (Int)), x1_7)) (X_firstclock1q1_1 x1_0 x1_2 x1_3 x1_4 x1_5 (.inl ([] : List (ByteArray)))) :=
  runC_ok hm (A := aT []) (L := lT []) (wk := ⟨[], [(0, 0, false), (1, 1, false), (2, 2, false), (3, 3, false), (4, 4, false), (5, 5, false), (6, 6, false), (7, 7, false), (8, 8, false), (9, 9, false), (10, 10, false), (11, 11, false)], 13, 0⟩)
    (ps := []) (by kernel_rfl) trivial
set_option maxRecDepth 100000 in
theorem q_firstclock1q1_1_1 (n : Nat) {rnd : Option Nat} (x1_0 : Bool) (x1_2 : Int) (x1_3 : Int) (x1_4 : Int) (x1_5 : Int) (x1_6a : Int) (x1_6t : List (Int)) (x1_7 : Nat) (hy1_1 : ((x1_7 : Nat) : Int) > (0 : Int)) (y1_2_ : ByteArray) (hy1_2 : m_firstRows1_1110y2 n x1_0 x1_2 x1_3 x1_4 x1_5 (x1_6a :: x1_6t) x1_7 = some y1_2_) (hy1_3 : m_firsttickq2 n (x1_6a :: x1_6t) x1_7 x1_4 x1_5 = some (.inl ())) : CG P rnd (fnN P 17) 12 (codeOf P 17 [false, false, true]) (S_firstclock1q1_1 x1_0 x1_2 x1_3 x1_4 x1_5 (([] : List (ByteArray)), (x1_6a :: x1_6t), x1_7)) (.normal, S_firstclock1q1_1 x1_0 x1_2 x1_3 x1_4 x1_5 ([y1_2_], ([] : List (Int)), 0)) :=
  runC_ok hm (A := aT [(4, .val (.bool true)), (8, .call ⟨13, [(0, 0, false), (1, 1, false), (2, 2, false), (3, 3, false), (4, 4, false), (5, 5, false), (6, 6, false), (7, 7, false), (8, 8, false), (9, 9, false), (10, 10, false), (11, 11, false), (12, 13, true)], (V_firstRows1_1110y2 x1_0 x1_2 x1_3 x1_4 x1_5 (x1_6a :: x1_6t) x1_7 y1_2_), (R_firstRows1_1110y2 x1_0 x1_2 x1_3 x1_4 x1_5 (x1_6a :: x1_6t) x1_7 y1_2_), [(0, 0, false), (1, 1, false), (2, 2, false), (3, 3, false), (4, 4, false), (5, 5, false), (6, 6, false), (7, 7, false), (8, 8, false), (9, 9, false), (10, 10, false), (11, 11, false), (13, 12, true), (14, 13, false)]⟩), (15, .call ⟨1, [(0, 13, true)], (V_firsttickq2 (x1_6a :: x1_6t) x1_7 x1_4 x1_5 (.inl ())), (R_firsttickq2 (x1_6a :: x1_6t) x1_7 x1_4 x1_5 (.inl ())), [(13, 0, true)]⟩)]) (L := lT []) (wk := ⟨[0, 1, 2, 4], [(0, 0, false), (1, 1, false), (2, 2, false), (3, 3, false), (4, 4, false), (5, 5, false), (6, 6, false), (7, 7, false), (8, 8, false), (9, 9, false), (10, 10, false), (11, 11, false), (12, 14, false)], 14, 0⟩)
    (ps := [(Value.bool (decide (((x1_7 : Nat) : Int) > (0 : Int)))) = (Value.bool true),
    Gv P (.yield 0) (A_firstRows1_1110y2 x1_0 x1_2 x1_3 x1_4 x1_5 (x1_6a :: x1_6t) x1_7) (H_firstRows1_1110y2 x1_0 x1_2 x1_3 x1_4 x1_5 (x1_6a :: x1_6t) x1_7) (V_firstRows1_1110y2 x1_0 x1_2 x1_3 x1_4 x1_5 (x1_6a :: x1_6t) x1_7 y1_2_) (R_firstRows1_1110y2 x1_0 x1_2 x1_3 x1_4 x1_5 (x1_6a :: x1_6t) x1_7 y1_2_),
    FlatB (.cells (layT (rows rw_y (x1_6a :: x1_6t))) 5),
    FlatB (.cells (layT (rows rw_y (x1_6a :: x1_6t))) 5),
    Gv P (.func 19) (A_firsttickq2 (x1_6a :: x1_6t) x1_7 x1_4 x1_5) (H_firsttickq2 (x1_6a :: x1_6t) x1_7 x1_4 x1_5) (V_firsttickq2 (x1_6a :: x1_6t) x1_7 x1_4 x1_5 (.inl ())) (R_firsttickq2 (x1_6a :: x1_6t) x1_7 x1_4 x1_5 (.inl ())),
    FlatB (.cells (layT (rows rw_y (x1_6a :: x1_6t))) 5),
    FlatB (.cells (layT (rows rw_y (x1_6a :: x1_6t))) 5)]) (by kernel_rfl) ⟨(vbT hy1_1), (m_firstRows1_1110y2_ok n x1_0 x1_2 x1_3 x1_4 x1_5 (x1_6a :: x1_6t) x1_7 y1_2_ hy1_2), (rows_flat rwf_y _ _), (rows_flat rwf_y _ _), (m_firsttickq2_ok n (x1_6a :: x1_6t) x1_7 x1_4 x1_5 (.inl ()) hy1_3), (rows_flat rwf_y _ _), (rows_flat rwf_y _ _), trivial⟩
set_option maxRecDepth 100000 in
theorem q_firstclock1q1_1_2 (n : Nat) {rnd : Option Nat} (x1_0 : Bool) (x1_2 : Int) (x1_3 : Int) (x1_4 : Int) (x1_5 : Int) (x1_6a : Int) (x1_6t : List (Int)) (x1_7 : Nat) (hy1_1 : ((x1_7 : Nat) : Int) > (0 : Int)) (y1_2_ : ByteArray) (hy1_2 : m_firstRows1_1110y2 n x1_0 x1_2 x1_3 x1_4 x1_5 (x1_6a :: x1_6t) x1_7 = some y1_2_) (y1_3_0a : Int) (y1_3_0t : List (Int)) (y1_3_1 : Nat) (hy1_3 : m_firsttickq2 n (x1_6a :: x1_6t) x1_7 x1_4 x1_5 = some (.inr ((y1_3_0a :: y1_3_0t), y1_3_1))) : CG P rnd (fnN P 17) 12 (codeOf P 17 [false, false, true]) (S_firstclock1q1_1 x1_0 x1_2 x1_3 x1_4 x1_5 (([] : List (ByteArray)), (x1_6a :: x1_6t), x1_7)) (.normal, S_firstclock1q1_1 x1_0 x1_2 x1_3 x1_4 x1_5 ([y1_2_], (y1_3_0a :: y1_3_0t), y1_3_1)) :=
  runC_ok hm (A := aT [(4, .val (.bool true)), (8, .call ⟨13, [(0, 0, false), (1, 1, false), (2, 2, false), (3, 3, false), (4, 4, false), (5, 5, false), (6, 6, false), (7, 7, false), (8, 8, false), (9, 9, false), (10, 10, false), (11, 11, false), (12, 13, true)], (V_firstRows1_1110y2 x1_0 x1_2 x1_3 x1_4 x1_5 (x1_6a :: x1_6t) x1_7 y1_2_), (R_firstRows1_1110y2 x1_0 x1_2 x1_3 x1_4 x1_5 (x1_6a :: x1_6t) x1_7 y1_2_), [(0, 0, false), (1, 1, false), (2, 2, false), (3, 3, false), (4, 4, false), (5, 5, false), (6, 6, false), (7, 7, false), (8, 8, false), (9, 9, false), (10, 10, false), (11, 11, false), (13, 12, true), (14, 13, false)]⟩), (15, .call ⟨1, [(0, 13, true)], (V_firsttickq2 (x1_6a :: x1_6t) x1_7 x1_4 x1_5 (.inr ((y1_3_0a :: y1_3_0t), y1_3_1))), (R_firsttickq2 (x1_6a :: x1_6t) x1_7 x1_4 x1_5 (.inr ((y1_3_0a :: y1_3_0t), y1_3_1))), [(15, 1, true)]⟩)]) (L := lT []) (wk := ⟨[0, 1, 2, 4], [(0, 0, false), (1, 1, false), (2, 2, false), (3, 3, false), (4, 4, false), (5, 5, false), (6, 6, false), (7, 7, false), (8, 8, false), (9, 9, false), (10, 10, false), (11, 11, false), (12, 14, false), (13, 15, true)], 14, 0⟩)
    (ps := [(Value.bool (decide (((x1_7 : Nat) : Int) > (0 : Int)))) = (Value.bool true),
    Gv P (.yield 0) (A_firstRows1_1110y2 x1_0 x1_2 x1_3 x1_4 x1_5 (x1_6a :: x1_6t) x1_7) (H_firstRows1_1110y2 x1_0 x1_2 x1_3 x1_4 x1_5 (x1_6a :: x1_6t) x1_7) (V_firstRows1_1110y2 x1_0 x1_2 x1_3 x1_4 x1_5 (x1_6a :: x1_6t) x1_7 y1_2_) (R_firstRows1_1110y2 x1_0 x1_2 x1_3 x1_4 x1_5 (x1_6a :: x1_6t) x1_7 y1_2_),
    FlatB (.cells (layT (rows rw_y (x1_6a :: x1_6t))) 5),
    FlatB (.cells (layT (rows rw_y (x1_6a :: x1_6t))) 5),
    Gv P (.func 19) (A_firsttickq2 (x1_6a :: x1_6t) x1_7 x1_4 x1_5) (H_firsttickq2 (x1_6a :: x1_6t) x1_7 x1_4 x1_5) (V_firsttickq2 (x1_6a :: x1_6t) x1_7 x1_4 x1_5 (.inr ((y1_3_0a :: y1_3_0t), y1_3_1))) (R_firsttickq2 (x1_6a :: x1_6t) x1_7 x1_4 x1_5 (.inr ((y1_3_0a :: y1_3_0t), y1_3_1))),
    FlatB (.cells (layT (rows rw_y (x1_6a :: x1_6t))) 5),
    FlatB (.cells (layT (rows rw_y (y1_3_0a :: y1_3_0t))) 5),
    FlatB (.cells (layT (rows rw_y (y1_3_0a :: y1_3_0t))) 5)]) (by kernel_rfl) ⟨(vbT hy1_1), (m_firstRows1_1110y2_ok n x1_0 x1_2 x1_3 x1_4 x1_5 (x1_6a :: x1_6t) x1_7 y1_2_ hy1_2), (rows_flat rwf_y _ _), (rows_flat rwf_y _ _), (m_firsttickq2_ok n (x1_6a :: x1_6t) x1_7 x1_4 x1_5 (.inr ((y1_3_0a :: y1_3_0t), y1_3_1)) hy1_3), (rows_flat rwf_y _ _), (rows_flat rwf_y _ _), (rows_flat rwf_y _ _), trivial⟩
set_option maxRecDepth 100000 in
theorem q_firstclock1q1_1_3 (n : Nat) {rnd : Option Nat} (x1_0 : Bool) (x1_2 : Int) (x1_3 : Int) (x1_4 : Int) (x1_5 : Int) (x1_6a : Int) (x1_6t : List (Int)) (x1_7 : Nat) (hy1_1 : ¬ (((x1_7 : Nat) : Int) > (0 : Int))) : CG P rnd (fnN P 17) 12 (codeOf P 17 [false, false, true]) (S_firstclock1q1_1 x1_0 x1_2 x1_3 x1_4 x1_5 (([] : List (ByteArray)), (x1_6a :: x1_6t), x1_7)) (X_firstclock1q1_1 x1_0 x1_2 x1_3 x1_4 x1_5 (.inl ([] : List (ByteArray)))) :=
  runC_ok hm (A := aT [(4, .val (.bool false))]) (L := lT []) (wk := ⟨[], [(0, 0, false), (1, 1, false), (2, 2, false), (3, 3, false), (4, 4, false), (5, 5, false), (6, 6, false), (7, 7, false), (8, 8, false), (9, 9, false), (10, 10, false), (11, 11, false)], 13, 0⟩)
    (ps := [(Value.bool (decide (((x1_7 : Nat) : Int) > (0 : Int)))) = (Value.bool false)]) (by kernel_rfl) ⟨(vbF hy1_1), trivial⟩
set_option maxRecDepth 100000 in
theorem q_firstclock1q1_1_4 (n : Nat) {rnd : Option Nat} (x1_0 : Bool) (x1_1a : ByteArray) (x1_1t : List (ByteArray)) (x1_2 : Int) (x1_3 : Int) (x1_4 : Int) (x1_5 : Int) (x1_7 : Nat) : CG P rnd (fnN P 17) 12 (codeOf P 17 [false, false, true]) (S_firstclock1q1_1 x1_0 x1_2 x1_3 x1_4 x1_5 ((x1_1a :: x1_1t), ([] : List (Int)), x1_7)) (X_firstclock1q1_1 x1_0 x1_2 x1_3 x1_4 x1_5 (.inl (x1_1a :: x1_1t))) :=
  runC_ok hm (A := aT []) (L := lT []) (wk := ⟨[], [(0, 0, false), (1, 1, false), (2, 2, false), (3, 3, false), (4, 4, false), (5, 5, false), (6, 6, false), (7, 7, false), (8, 8, false), (9, 9, false), (10, 10, false), (11, 11, false), (12, 12, true)], 13, 0⟩)
    (ps := [FlatB (.cells (layT (rows rw_s (x1_1a :: x1_1t))) 9)]) (by kernel_rfl) ⟨(rows_flat rwf_s _ _), trivial⟩
set_option maxRecDepth 100000 in
theorem q_firstclock1q1_1_5 (n : Nat) {rnd : Option Nat} (x1_0 : Bool) (x1_1a : ByteArray) (x1_1t : List (ByteArray)) (x1_2 : Int) (x1_3 : Int) (x1_4 : Int) (x1_5 : Int) (x1_6a : Int) (x1_6t : List (Int)) (x1_7 : Nat) (hy1_1 : ((x1_7 : Nat) : Int) > (0 : Int)) (hy1_2 : m_firstRows1_1110y3 n x1_0 (x1_1a :: x1_1t) x1_2 x1_3 x1_4 x1_5 (x1_6a :: x1_6t) x1_7 = some (.inl ())) : CG P rnd (fnN P 17) 12 (codeOf P 17 [false, false, true]) (S_firstclock1q1_1 x1_0 x1_2 x1_3 x1_4 x1_5 ((x1_1a :: x1_1t), (x1_6a :: x1_6t), x1_7)) (X_firstclock1q1_1 x1_0 x1_2 x1_3 x1_4 x1_5 (.inr (x1_1a :: x1_1t))) :=
  runC_ok hm (A := aT [(4, .val (.bool true)), (8, .call ⟨14, [(0, 0, false), (1, 1, false), (2, 2, false), (3, 3, false), (4, 4, false), (5, 5, false), (6, 6, false), (7, 7, false), (8, 12, true), (9, 8, false), (10, 9, false), (11, 10, false), (12, 11, false), (13, 13, true)], (V_firstRows1_1110y3 x1_0 (x1_1a :: x1_1t) x1_2 x1_3 x1_4 x1_5 (x1_6a :: x1_6t) x1_7 (.inl ())), (R_firstRows1_1110y3 x1_0 (x1_1a :: x1_1t) x1_2 x1_3 x1_4 x1_5 (x1_6a :: x1_6t) x1_7 (.inl ())), [(0, 0, false), (1, 1, false), (2, 2, false), (3, 3, false), (4, 4, false), (5, 5, false), (6, 6, false), (7, 7, false), (12, 8, true), (8, 9, false), (9, 10, false), (10, 11, false), (11, 12, false), (13, 13, true)]⟩)]) (L := lT []) (wk := ⟨[], [(0, 0, false), (1, 1, false), (2, 2, false), (3, 3, false), (4, 4, false), (5, 5, false), (6, 6, false), (7, 7, false), (8, 8, false), (9, 9, false), (10, 10, false), (11, 11, false), (12, 12, true)], 13, 0⟩)
    (ps := [(Value.bool (decide (((x1_7 : Nat) : Int) > (0 : Int)))) = (Value.bool true),
    Gv P (.yield 0) (A_firstRows1_1110y3 x1_0 (x1_1a :: x1_1t) x1_2 x1_3 x1_4 x1_5 (x1_6a :: x1_6t) x1_7) (H_firstRows1_1110y3 x1_0 (x1_1a :: x1_1t) x1_2 x1_3 x1_4 x1_5 (x1_6a :: x1_6t) x1_7) (V_firstRows1_1110y3 x1_0 (x1_1a :: x1_1t) x1_2 x1_3 x1_4 x1_5 (x1_6a :: x1_6t) x1_7 (.inl ())) (R_firstRows1_1110y3 x1_0 (x1_1a :: x1_1t) x1_2 x1_3 x1_4 x1_5 (x1_6a :: x1_6t) x1_7 (.inl ())),
    FlatB (.cells (layT (rows rw_s (x1_1a :: x1_1t))) 9),
    FlatB (.cells (layT (rows rw_y (x1_6a :: x1_6t))) 5),
    FlatB (.cells (layT (rows rw_s (x1_1a :: x1_1t))) 9),
    FlatB (.cells (layT (rows rw_y (x1_6a :: x1_6t))) 5),
    FlatB (.cells (layT (rows rw_s (x1_1a :: x1_1t))) 9)]) (by kernel_rfl) ⟨(vbT hy1_1), (m_firstRows1_1110y3_ok n x1_0 (x1_1a :: x1_1t) x1_2 x1_3 x1_4 x1_5 (x1_6a :: x1_6t) x1_7 (.inl ()) hy1_2), (rows_flat rwf_s _ _), (rows_flat rwf_y _ _), (rows_flat rwf_s _ _), (rows_flat rwf_y _ _), (rows_flat rwf_s _ _), trivial⟩
set_option maxRecDepth 100000 in
theorem q_firstclock1q1_1_6 (n : Nat) {rnd : Option Nat} (x1_0 : Bool) (x1_1a : ByteArray) (x1_1t : List (ByteArray)) (x1_2 : Int) (x1_3 : Int) (x1_4 : Int) (x1_5 : Int) (x1_6a : Int) (x1_6t : List (Int)) (x1_7 : Nat) (hy1_1 : ((x1_7 : Nat) : Int) > (0 : Int)) (y1_2_a : ByteArray) (y1_2_t : List (ByteArray)) (hy1_2 : m_firstRows1_1110y3 n x1_0 (x1_1a :: x1_1t) x1_2 x1_3 x1_4 x1_5 (x1_6a :: x1_6t) x1_7 = some (.inr (y1_2_a :: y1_2_t))) (hy1_3 : m_firsttickq2 n (x1_6a :: x1_6t) x1_7 x1_4 x1_5 = some (.inl ())) : CG P rnd (fnN P 17) 12 (codeOf P 17 [false, false, true]) (S_firstclock1q1_1 x1_0 x1_2 x1_3 x1_4 x1_5 ((x1_1a :: x1_1t), (x1_6a :: x1_6t), x1_7)) (.normal, S_firstclock1q1_1 x1_0 x1_2 x1_3 x1_4 x1_5 ((y1_2_a :: y1_2_t), ([] : List (Int)), 0)) :=
  runC_ok hm (A := aT [(4, .val (.bool true)), (8, .call ⟨14, [(0, 0, false), (1, 1, false), (2, 2, false), (3, 3, false), (4, 4, false), (5, 5, false), (6, 6, false), (7, 7, false), (8, 12, true), (9, 8, false), (10, 9, false), (11, 10, false), (12, 11, false), (13, 13, true)], (V_firstRows1_1110y3 x1_0 (x1_1a :: x1_1t) x1_2 x1_3 x1_4 x1_5 (x1_6a :: x1_6t) x1_7 (.inr (y1_2_a :: y1_2_t))), (R_firstRows1_1110y3 x1_0 (x1_1a :: x1_1t) x1_2 x1_3 x1_4 x1_5 (x1_6a :: x1_6t) x1_7 (.inr (y1_2_a :: y1_2_t))), [(0, 0, false), (1, 1, false), (2, 2, false), (3, 3, false), (4, 4, false), (5, 5, false), (6, 6, false), (7, 7, false), (8, 9, false), (9, 10, false), (10, 11, false), (11, 12, false), (13, 13, true), (14, 14, true)]⟩), (15, .call ⟨1, [(0, 13, true)], (V_firsttickq2 (x1_6a :: x1_6t) x1_7 x1_4 x1_5 (.inl ())), (R_firsttickq2 (x1_6a :: x1_6t) x1_7 x1_4 x1_5 (.inl ())), [(13, 0, true)]⟩)]) (L := lT []) (wk := ⟨[0, 1, 2, 4], [(0, 0, false), (1, 1, false), (2, 2, false), (3, 3, false), (4, 4, false), (5, 5, false), (6, 6, false), (7, 7, false), (8, 8, false), (9, 9, false), (10, 10, false), (11, 11, false), (12, 14, true)], 14, 0⟩)
    (ps := [(Value.bool (decide (((x1_7 : Nat) : Int) > (0 : Int)))) = (Value.bool true),
    Gv P (.yield 0) (A_firstRows1_1110y3 x1_0 (x1_1a :: x1_1t) x1_2 x1_3 x1_4 x1_5 (x1_6a :: x1_6t) x1_7) (H_firstRows1_1110y3 x1_0 (x1_1a :: x1_1t) x1_2 x1_3 x1_4 x1_5 (x1_6a :: x1_6t) x1_7) (V_firstRows1_1110y3 x1_0 (x1_1a :: x1_1t) x1_2 x1_3 x1_4 x1_5 (x1_6a :: x1_6t) x1_7 (.inr (y1_2_a :: y1_2_t))) (R_firstRows1_1110y3 x1_0 (x1_1a :: x1_1t) x1_2 x1_3 x1_4 x1_5 (x1_6a :: x1_6t) x1_7 (.inr (y1_2_a :: y1_2_t))),
    FlatB (.cells (layT (rows rw_s (x1_1a :: x1_1t))) 9),
    FlatB (.cells (layT (rows rw_y (x1_6a :: x1_6t))) 5),
    FlatB (.cells (layT (rows rw_y (x1_6a :: x1_6t))) 5),
    FlatB (.cells (layT (rows rw_s (y1_2_a :: y1_2_t))) 9),
    Gv P (.func 19) (A_firsttickq2 (x1_6a :: x1_6t) x1_7 x1_4 x1_5) (H_firsttickq2 (x1_6a :: x1_6t) x1_7 x1_4 x1_5) (V_firsttickq2 (x1_6a :: x1_6t) x1_7 x1_4 x1_5 (.inl ())) (R_firsttickq2 (x1_6a :: x1_6t) x1_7 x1_4 x1_5 (.inl ())),
    FlatB (.cells (layT (rows rw_y (x1_6a :: x1_6t))) 5),
    FlatB (.cells (layT (rows rw_y (x1_6a :: x1_6t))) 5),
    FlatB (.cells (layT (rows rw_s (y1_2_a :: y1_2_t))) 9)]) (by kernel_rfl) ⟨(vbT hy1_1), (m_firstRows1_1110y3_ok n x1_0 (x1_1a :: x1_1t) x1_2 x1_3 x1_4 x1_5 (x1_6a :: x1_6t) x1_7 (.inr (y1_2_a :: y1_2_t)) hy1_2), (rows_flat rwf_s _ _), (rows_flat rwf_y _ _), (rows_flat rwf_y _ _), (rows_flat rwf_s _ _), (m_firsttickq2_ok n (x1_6a :: x1_6t) x1_7 x1_4 x1_5 (.inl ()) hy1_3), (rows_flat rwf_y _ _), (rows_flat rwf_y _ _), (rows_flat rwf_s _ _), trivial⟩
set_option maxRecDepth 100000 in
theorem q_firstclock1q1_1_7 (n : Nat) {rnd : Option Nat} (x1_0 : Bool) (x1_1a : ByteArray) (x1_1t : List (ByteArray)) (x1_2 : Int) (x1_3 : Int) (x1_4 : Int) (x1_5 : Int) (x1_6a : Int) (x1_6t : List (Int)) (x1_7 : Nat) (hy1_1 : ((x1_7 : Nat) : Int) > (0 : Int)) (y1_2_a : ByteArray) (y1_2_t : List (ByteArray)) (hy1_2 : m_firstRows1_1110y3 n x1_0 (x1_1a :: x1_1t) x1_2 x1_3 x1_4 x1_5 (x1_6a :: x1_6t) x1_7 = some (.inr (y1_2_a :: y1_2_t))) (y1_3_0a : Int) (y1_3_0t : List (Int)) (y1_3_1 : Nat) (hy1_3 : m_firsttickq2 n (x1_6a :: x1_6t) x1_7 x1_4 x1_5 = some (.inr ((y1_3_0a :: y1_3_0t), y1_3_1))) : CG P rnd (fnN P 17) 12 (codeOf P 17 [false, false, true]) (S_firstclock1q1_1 x1_0 x1_2 x1_3 x1_4 x1_5 ((x1_1a :: x1_1t), (x1_6a :: x1_6t), x1_7)) (.normal, S_firstclock1q1_1 x1_0 x1_2 x1_3 x1_4 x1_5 ((y1_2_a :: y1_2_t), (y1_3_0a :: y1_3_0t), y1_3_1)) :=
  runC_ok hm (A := aT [(4, .val (.bool true)), (8, .call ⟨14, [(0, 0, false), (1, 1, false), (2, 2, false), (3, 3, false), (4, 4, false), (5, 5, false), (6, 6, false), (7, 7, false), (8, 12, true), (9, 8, false), (10, 9, false), (11, 10, false), (12, 11, false), (13, 13, true)], (V_firstRows1_1110y3 x1_0 (x1_1a :: x1_1t) x1_2 x1_3 x1_4 x1_5 (x1_6a :: x1_6t) x1_7 (.inr (y1_2_a :: y1_2_t))), (R_firstRows1_1110y3 x1_0 (x1_1a :: x1_1t) x1_2 x1_3 x1_4 x1_5 (x1_6a :: x1_6t) x1_7 (.inr (y1_2_a :: y1_2_t))), [(0, 0, false), (1, 1, false), (2, 2, false), (3, 3, false), (4, 4, false), (5, 5, false), (6, 6, false), (7, 7, false), (8, 9, false), (9, 10, false), (10, 11, false), (11, 12, false), (13, 13, true), (14, 14, true)]⟩), (15, .call ⟨1, [(0, 13, true)], (V_firsttickq2 (x1_6a :: x1_6t) x1_7 x1_4 x1_5 (.inr ((y1_3_0a :: y1_3_0t), y1_3_1))), (R_firsttickq2 (x1_6a :: x1_6t) x1_7 x1_4 x1_5 (.inr ((y1_3_0a :: y1_3_0t), y1_3_1))), [(15, 1, true)]⟩)]) (L := lT []) (wk := ⟨[0, 1, 2, 4], [(0, 0, false), (1, 1, false), (2, 2, false), (3, 3, false), (4, 4, false), (5, 5, false), (6, 6, false), (7, 7, false), (8, 8, false), (9, 9, false), (10, 10, false), (11, 11, false), (12, 14, true), (13, 15, true)], 14, 0⟩)
    (ps := [(Value.bool (decide (((x1_7 : Nat) : Int) > (0 : Int)))) = (Value.bool true),
    Gv P (.yield 0) (A_firstRows1_1110y3 x1_0 (x1_1a :: x1_1t) x1_2 x1_3 x1_4 x1_5 (x1_6a :: x1_6t) x1_7) (H_firstRows1_1110y3 x1_0 (x1_1a :: x1_1t) x1_2 x1_3 x1_4 x1_5 (x1_6a :: x1_6t) x1_7) (V_firstRows1_1110y3 x1_0 (x1_1a :: x1_1t) x1_2 x1_3 x1_4 x1_5 (x1_6a :: x1_6t) x1_7 (.inr (y1_2_a :: y1_2_t))) (R_firstRows1_1110y3 x1_0 (x1_1a :: x1_1t) x1_2 x1_3 x1_4 x1_5 (x1_6a :: x1_6t) x1_7 (.inr (y1_2_a :: y1_2_t))),
    FlatB (.cells (layT (rows rw_s (x1_1a :: x1_1t))) 9),
    FlatB (.cells (layT (rows rw_y (x1_6a :: x1_6t))) 5),
    FlatB (.cells (layT (rows rw_y (x1_6a :: x1_6t))) 5),
    FlatB (.cells (layT (rows rw_s (y1_2_a :: y1_2_t))) 9),
    Gv P (.func 19) (A_firsttickq2 (x1_6a :: x1_6t) x1_7 x1_4 x1_5) (H_firsttickq2 (x1_6a :: x1_6t) x1_7 x1_4 x1_5) (V_firsttickq2 (x1_6a :: x1_6t) x1_7 x1_4 x1_5 (.inr ((y1_3_0a :: y1_3_0t), y1_3_1))) (R_firsttickq2 (x1_6a :: x1_6t) x1_7 x1_4 x1_5 (.inr ((y1_3_0a :: y1_3_0t), y1_3_1))),
    FlatB (.cells (layT (rows rw_y (x1_6a :: x1_6t))) 5),
    FlatB (.cells (layT (rows rw_y (y1_3_0a :: y1_3_0t))) 5),
    FlatB (.cells (layT (rows rw_s (y1_2_a :: y1_2_t))) 9),
    FlatB (.cells (layT (rows rw_y (y1_3_0a :: y1_3_0t))) 5)]) (by kernel_rfl) ⟨(vbT hy1_1), (m_firstRows1_1110y3_ok n x1_0 (x1_1a :: x1_1t) x1_2 x1_3 x1_4 x1_5 (x1_6a :: x1_6t) x1_7 (.inr (y1_2_a :: y1_2_t)) hy1_2), (rows_flat rwf_s _ _), (rows_flat rwf_y _ _), (rows_flat rwf_y _ _), (rows_flat rwf_s _ _), (m_firsttickq2_ok n (x1_6a :: x1_6t) x1_7 x1_4 x1_5 (.inr ((y1_3_0a :: y1_3_0t), y1_3_1)) hy1_3), (rows_flat rwf_y _ _), (rows_flat rwf_y _ _), (rows_flat rwf_s _ _), (rows_flat rwf_y _ _), trivial⟩
set_option maxRecDepth 100000 in
theorem q_firstclock1q1_1_8 (n : Nat) {rnd : Option Nat} (x1_0 : Bool) (x1_1a : ByteArray) (x1_1t : List (ByteArray)) (x1_2 : Int) (x1_3 : Int) (x1_4 : Int) (x1_5 : Int) (x1_6a : Int) (x1_6t : List (Int)) (x1_7 : Nat) (hy1_1 : ¬ (((x1_7 : Nat) : Int) > (0 : Int))) : CG P rnd (fnN P 17) 12 (codeOf P 17 [false, false, true]) (S_firstclock1q1_1 x1_0 x1_2 x1_3 x1_4 x1_5 ((x1_1a :: x1_1t), (x1_6a :: x1_6t), x1_7)) (X_firstclock1q1_1 x1_0 x1_2 x1_3 x1_4 x1_5 (.inl (x1_1a :: x1_1t))) :=
  runC_ok hm (A := aT [(4, .val (.bool false))]) (L := lT []) (wk := ⟨[], [(0, 0, false), (1, 1, false), (2, 2, false), (3, 3, false), (4, 4, false), (5, 5, false), (6, 6, false), (7, 7, false), (8, 8, false), (9, 9, false), (10, 10, false), (11, 11, false), (12, 12, true)], 13, 0⟩)
    (ps := [(Value.bool (decide (((x1_7 : Nat) : Int) > (0 : Int)))) = (Value.bool false),
    FlatB (.cells (layT (rows rw_s (x1_1a :: x1_1t))) 9)]) (by kernel_rfl) ⟨(vbF hy1_1), (rows_flat rwf_s _ _), trivial⟩
theorem m_firstclock1q1_1_ok (n : Nat) {rnd : Option Nat} (x1_0 : Bool) (x1_2 : Int) (x1_3 : Int) (x1_4 : Int) (x1_5 : Int) (st : List (ByteArray) × List (Int) × Nat) (r : (List (ByteArray)) ⊕ (List (ByteArray))) (h : m_firstclock1q1_1 n x1_0 x1_2 x1_3 x1_4 x1_5 st = some r) : CG P rnd (fnN P 17) 12 (codeOf P 17 [false, true]) (S_firstclock1q1_1 x1_0 x1_2 x1_3 x1_4 x1_5 st) (X_firstclock1q1_1 x1_0 x1_2 x1_3 x1_4 x1_5 r) :=
  CG.iter (b := codeOf P 17 [false, false, true]) (by kernel_rfl) (body := B_firstclock1q1_1 n x1_0 x1_2 x1_3 x1_4 x1_5) (S := S_firstclock1q1_1 x1_0 x1_2 x1_3 x1_4 x1_5) (X := X_firstclock1q1_1 x1_0 x1_2 x1_3 x1_4 x1_5)
    (fun s s' h => by
    obtain ⟨x1_1, x1_6, x1_7⟩ := s
    unfold B_firstclock1q1_1 at h
    dsimp only at h
    cases x1_1 with
    | nil =>
      dsimp only at h
      cases x1_6 with
      | nil =>
        dsimp only at h
        cases h
      | cons x1_6a x1_6t =>
        dsimp only at h
        by_cases hy1_1 : ((x1_7 : Nat) : Int) > (0 : Int)
        · rw [if_pos hy1_1] at h
          obtain ⟨y1_2_, hy1_2, h⟩ := Option.bind_eq_some_iff.1 h
          rcases hy1_3 : m_firsttickq2 n (x1_6a :: x1_6t) x1_7 x1_4 x1_5 with _ | (⟨⟩ | ⟨y1_3_0, y1_3_1⟩)
          · rw [hy1_3] at h; cases h
          · rw [hy1_3] at h
            dsimp only at h
            obtain rfl := Sum.inl.inj (Option.some.inj h); exact q_firstclock1q1_1_1 n x1_0 x1_2 x1_3 x1_4 x1_5 x1_6a x1_6t x1_7 hy1_1 y1_2_ hy1_2 hy1_3
          · rw [hy1_3] at h
            dsimp only at h
            cases y1_3_0 with
            | nil =>
              dsimp only at h
              cases h
            | cons y1_3_0a y1_3_0t =>
              dsimp only at h
              obtain rfl := Sum.inl.inj (Option.some.inj h); exact q_firstclock1q1_1_2 n x1_0 x1_2 x1_3 x1_4 x1_5 x1_6a x1_6t x1_7 hy1_1 y1_2_ hy1_2 y1_3_0a y1_3_0t y1_3_1 hy1_3
        · rw [if_neg hy1_1] at h
          cases h
    | cons x1_1a x1_1t =>
      dsimp only at h
      cases x1_6 with
      | nil =>
        dsimp only at h
        cases h
      | cons x1_6a x1_6t =>
        dsimp only at h
        by_cases hy1_1 : ((x1_7 : Nat) : Int) > (0 : Int)
        · rw [if_pos hy1_1] at h
          rcases hy1_2 : m_firstRows1_1110y3 n x1_0 (x1_1a :: x1_1t) x1_2 x1_3 x1_4 x1_5 (x1_6a :: x1_6t) x1_7 with _ | (⟨⟩ | y1_2_)
          · rw [hy1_2] at h; cases h
          · rw [hy1_2] at h
            dsimp only at h
            cases h
          · rw [hy1_2] at h
            dsimp only at h
            cases y1_2_ with
            | nil =>
              dsimp only at h
              cases h
            | cons y1_2_a y1_2_t =>
              dsimp only at h
              rcases hy1_3 : m_firsttickq2 n (x1_6a :: x1_6t) x1_7 x1_4 x1_5 with _ | (⟨⟩ | ⟨y1_3_0, y1_3_1⟩)
              · rw [hy1_3] at h; cases h
              · rw [hy1_3] at h
                dsimp only at h
                obtain rfl := Sum.inl.inj (Option.some.inj h); exact q_firstclock1q1_1_6 n x1_0 x1_1a x1_1t x1_2 x1_3 x1_4 x1_5 x1_6a x1_6t x1_7 hy1_1 y1_2_a y1_2_t hy1_2 hy1_3
              · rw [hy1_3] at h
                dsimp only at h
                cases y1_3_0 with
                | nil =>
                  dsimp only at h
                  cases h
                | cons y1_3_0a y1_3_0t =>
                  dsimp only at h
                  obtain rfl := Sum.inl.inj (Option.some.inj h); exact q_firstclock1q1_1_7 n x1_0 x1_1a x1_1t x1_2 x1_3 x1_4 x1_5 x1_6a x1_6t x1_7 hy1_1 y1_2_a y1_2_t hy1_2 y1_3_0a y1_3_0t y1_3_1 hy1_3
        · rw [if_neg hy1_1] at h
          cases h)
    (fun s r h => by
    obtain ⟨x1_1, x1_6, x1_7⟩ := s
    unfold B_firstclock1q1_1 at h
    dsimp only at h
    cases x1_1 with
    | nil =>
      dsimp only at h
      cases x1_6 with
      | nil =>
        dsimp only at h
        obtain rfl := Sum.inr.inj (Option.some.inj h); exact q_firstclock1q1_1_0 n x1_0 x1_2 x1_3 x1_4 x1_5 x1_7
      | cons x1_6a x1_6t =>
        dsimp only at h
        by_cases hy1_1 : ((x1_7 : Nat) : Int) > (0 : Int)
        · rw [if_pos hy1_1] at h
          obtain ⟨y1_2_, hy1_2, h⟩ := Option.bind_eq_some_iff.1 h
          rcases hy1_3 : m_firsttickq2 n (x1_6a :: x1_6t) x1_7 x1_4 x1_5 with _ | (⟨⟩ | ⟨y1_3_0, y1_3_1⟩)
          · rw [hy1_3] at h; cases h
          · rw [hy1_3] at h
            dsimp only at h
            cases h
          · rw [hy1_3] at h
            dsimp only at h
            cases y1_3_0 with
            | nil =>
              dsimp only at h
              cases h
            | cons y1_3_0a y1_3_0t =>
              dsimp only at h
              cases h
        · rw [if_neg hy1_1] at h
          obtain rfl := Sum.inr.inj (Option.some.inj h); exact q_firstclock1q1_1_3 n x1_0 x1_2 x1_3 x1_4 x1_5 x1_6a x1_6t x1_7 hy1_1
    | cons x1_1a x1_1t =>
      dsimp only at h
      cases x1_6 with
      | nil =>
        dsimp only at h
        obtain rfl := Sum.inr.inj (Option.some.inj h); exact q_firstclock1q1_1_4 n x1_0 x1_1a x1_1t x1_2 x1_3 x1_4 x1_5 x1_7
      | cons x1_6a x1_6t =>
        dsimp only at h
        by_cases hy1_1 : ((x1_7 : Nat) : Int) > (0 : Int)
        · rw [if_pos hy1_1] at h
          rcases hy1_2 : m_firstRows1_1110y3 n x1_0 (x1_1a :: x1_1t) x1_2 x1_3 x1_4 x1_5 (x1_6a :: x1_6t) x1_7 with _ | (⟨⟩ | y1_2_)
          · rw [hy1_2] at h; cases h
          · rw [hy1_2] at h
            dsimp only at h
            obtain rfl := Sum.inr.inj (Option.some.inj h); exact q_firstclock1q1_1_5 n x1_0 x1_1a x1_1t x1_2 x1_3 x1_4 x1_5 x1_6a x1_6t x1_7 hy1_1 hy1_2
          · rw [hy1_2] at h
            dsimp only at h
            cases y1_2_ with
            | nil =>
              dsimp only at h
              cases h
            | cons y1_2_a y1_2_t =>
              dsimp only at h
              rcases hy1_3 : m_firsttickq2 n (x1_6a :: x1_6t) x1_7 x1_4 x1_5 with _ | (⟨⟩ | ⟨y1_3_0, y1_3_1⟩)
              · rw [hy1_3] at h; cases h
              · rw [hy1_3] at h
                dsimp only at h
                cases h
              · rw [hy1_3] at h
                dsimp only at h
                cases y1_3_0 with
                | nil =>
                  dsimp only at h
                  cases h
                | cons y1_3_0a y1_3_0t =>
                  dsimp only at h
                  cases h
        · rw [if_neg hy1_1] at h
          obtain rfl := Sum.inr.inj (Option.some.inj h); exact q_firstclock1q1_1_8 n x1_0 x1_1a x1_1t x1_2 x1_3 x1_4 x1_5 x1_6a x1_6t x1_7 hy1_1)
    (fun r => by intro hx; rcases r with _ | _ <;> cases hx) h
noncomputable def A_firstclock1q1 (a0 : Bool) (a1 : Int) (a2 : Int) (a3 : Int) (a4 : Int) : List Value := [(Value.func (.yield 0) #[] #[]), (Value.pointer (some ⟨10, 0, none⟩)), (Value.pointer (some ⟨11, 0, none⟩))]
noncomputable def H_firstclock1q1 (a0 : Bool) (a1 : Int) (a2 : Int) (a3 : Int) (a4 : Int) : AH := ⟨sB [(0, (some (rblk P 11 [false, true, true, true] .ready none [(3, (Value.pointer (some ⟨2, 0, none⟩))), (21, (Value.func (.func 17) #[] #[(Value.pointer (some ⟨10, 0, none⟩)), (Value.pointer (some ⟨11, 0, none⟩))]))] 1))), (1, (some (.marks true))), (2, (some (.cells (layT [(Value.func (.yield 3) #[] #[])]) 38))), (3, (some (rblk P 5 [false, true, false, true, true, true, true] .ready none [(4, (Value.pointer (some ⟨5, 0, none⟩))), (5, (Value.pointer (some ⟨6, 0, none⟩))), (7, (Value.pointer (some ⟨7, 0, none⟩))), (14, (Value.func (.func 11) #[] #[(Value.pointer (some ⟨8, 0, none⟩)), (Value.pointer (some ⟨9, 0, none⟩))]))] 4))), (4, (some (.marks true))), (5, (some (.cells (layT [(Value.slice none 0 0)]) 23))), (6, (some (.cells (layT [(Value.bool a0)]) 4))), (7, (some (.cells (layT [(Value.slice none 0 0)]) 23))), (8, (some (.cells (layT [(Value.int .i64 a1)]) 3))), (9, (some (.cells (layT [(Value.int .i64 a2)]) 3))), (10, (some (.cells (layT [(Value.int .i64 a3)]) 3))), (11, (some (.cells (layT [(Value.int .i64 a4)]) 3)))], 12, 12⟩
noncomputable def V_firstclock1q1 (a0 : Bool) (a1 : Int) (a2 : Int) (a3 : Int) (a4 : Int) (r : (List (ByteArray)) ⊕ (List (ByteArray))) : Value := match r with
  | .inl o0 => (Value.tuple #[])
  | .inr o0 => (Value.tuple #[])
noncomputable def R_firstclock1q1 (a0 : Bool) (a1 : Int) (a2 : Int) (a3 : Int) (a4 : Int) (r : (List (ByteArray)) ⊕ (List (ByteArray))) : AH := match r with
  | .inl o0 => ⟨sB [(0, (some (rblk P 11 [false, true, true, true] .ready none [(3, (Value.pointer (some ⟨2, 0, none⟩))), (21, (Value.func (.func 17) #[] #[(Value.pointer (some ⟨10, 0, none⟩)), (Value.pointer (some ⟨11, 0, none⟩))]))] 1))), (1, (some (.marks true))), (2, (some (.cells (layT [(Value.func (.yield 3) #[] #[])]) 38))), (3, (some (rblk P 5 [false, true, false, true, true, true, true] .ready none [(4, (Value.pointer (some ⟨5, 0, none⟩))), (5, (Value.pointer (some ⟨6, 0, none⟩))), (7, (Value.pointer (some ⟨7, 0, none⟩))), (14, (Value.func (.func 11) #[] #[(Value.pointer (some ⟨8, 0, none⟩)), (Value.pointer (some ⟨9, 0, none⟩))]))] 4))), (4, (some (.marks true))), (5, (some (.cells (layT [(Value.slice none 0 0)]) 23))), (6, (some (.cells (layT [(Value.bool a0)]) 4))), (7, (some (.cells (layT [(slR o0 12 1)]) 23))), (8, (some (.cells (layT [(Value.int .i64 a1)]) 3))), (9, (some (.cells (layT [(Value.int .i64 a2)]) 3))), (10, (some (.cells (layT [(Value.int .i64 a3)]) 3))), (11, (some (.cells (layT [(Value.int .i64 a4)]) 3))), (12, (nblkR rw_s o0 9))], 13, 0⟩
  | .inr o0 => ⟨sB [(0, (some (rblk P 11 [false, true, true, true] .done (some .ret) [(3, (Value.pointer (some ⟨2, 0, none⟩))), (21, (Value.func (.func 17) #[] #[(Value.pointer (some ⟨10, 0, none⟩)), (Value.pointer (some ⟨11, 0, none⟩))]))] 1))), (1, (some (.marks true))), (2, (some (.cells (layT [(Value.func (.yield 3) #[] #[])]) 38))), (3, (some (rblk P 5 [false, true, false, true, true, true, true] .done (some .ret) [(4, (Value.pointer (some ⟨5, 0, none⟩))), (5, (Value.pointer (some ⟨6, 0, none⟩))), (7, (Value.pointer (some ⟨7, 0, none⟩))), (14, (Value.func (.func 11) #[] #[(Value.pointer (some ⟨8, 0, none⟩)), (Value.pointer (some ⟨9, 0, none⟩))]))] 4))), (4, (some (.marks true))), (5, (some (.cells (layT [(Value.slice none 0 0)]) 23))), (6, (some (.cells (layT [(Value.bool false)]) 4))), (7, (some (.cells (layT [(Value.slice (some ⟨12, 0, none⟩) (o0).length (Nat.add big 1))]) 23))), (8, (some (.cells (layT [(Value.int .i64 a1)]) 3))), (9, (some (.cells (layT [(Value.int .i64 a2)]) 3))), (10, (some (.cells (layT [(Value.int .i64 a3)]) 3))), (11, (some (.cells (layT [(Value.int .i64 a4)]) 3))), (12, (some (.cells (layT (rows rw_s o0)) 9)))], 13, 0⟩
def m_firstclock1q1 (n : Nat) (a0 : Bool) (a1 : Int) (a2 : Int) (a3 : Int) (a4 : Int) : Option ((List (ByteArray)) ⊕ (List (ByteArray))) :=
  (m_firstfillq1 n a3 a4).bind fun c1_ =>
  match c1_ with
  | [] =>
    none
  | c1_a :: c1_t =>
    match m_firstclock1q1_1 n a0 a1 a2 a3 a4 (([] : List (ByteArray)), (c1_a :: c1_t), (((c1_a :: c1_t)).length)) with
    | none => none
    | some (.inl c2_) =>
      match c2_ with
      | [] =>
        some (.inl ([] : List (ByteArray)))
      | c2_a :: c2_t =>
        some (.inl (c2_a :: c2_t))
    | some (.inr c2_) =>
      some (.inr c2_)
set_option maxRecDepth 100000 in
theorem p_firstclock1q1_0 (n : Nat) (a0 : Bool) (a1 : Int) (a2 : Int) (a3 : Int) (a4 : Int) (c1_a : Int) (c1_t : List (Int)) (hc1 : m_firstfillq1 n a3 a4 = some (c1_a :: c1_t)) (hc2 : m_firstclock1q1_1 n a0 a1 a2 a3 a4 (([] : List (ByteArray)), (c1_a :: c1_t), (((c1_a :: c1_t)).length)) = some (.inl [])) : Gv P (.func 17) (A_firstclock1q1 a0 a1 a2 a3 a4) (H_firstclock1q1 a0 a1 a2 a3 a4) (V_firstclock1q1 a0 a1 a2 a3 a4 (.inl ([] : List (ByteArray)))) (R_firstclock1q1 a0 a1 a2 a3 a4 (.inl ([] : List (ByteArray)))) :=
  runF_ok hm (A := aT [(3, .call ⟨0, [], (V_firstfillq1 a3 a4 (c1_a :: c1_t)), (R_firstfillq1 a3 a4 (c1_a :: c1_t)), [(12, 0, true)]⟩)]) (L := lT [(6, ⟨⟨[0, 1, 2, 4], [(0, 0, false), (1, 1, false), (2, 2, false), (3, 3, false), (4, 4, false), (5, 5, false), (6, 6, false), (7, 7, false), (8, 8, false), (9, 9, false), (10, 10, false), (11, 11, false), (13, 12, true)], 14, 0⟩, (X_firstclock1q1_1 a0 a1 a2 a3 a4 (.inl ([] : List (ByteArray)))).1, (X_firstclock1q1_1 a0 a1 a2 a3 a4 (.inl ([] : List (ByteArray)))).2⟩)]) (wk := ⟨[], [(0, 0, false), (1, 1, false), (2, 2, false), (3, 3, false), (4, 4, false), (5, 5, false), (6, 6, false), (7, 7, false), (8, 8, false), (9, 9, false), (10, 10, false), (11, 11, false)], 13, 0⟩)
    (ps := [Gv P (.func 18) (A_firstfillq1 a3 a4) (H_firstfillq1 a3 a4) (V_firstfillq1 a3 a4 (c1_a :: c1_t)) (R_firstfillq1 a3 a4 (c1_a :: c1_t)),
    FlatB (.cells (layT (rows rw_y (c1_a :: c1_t))) 5),
    CG P none (fnN P 17) 12 (codeOf P 17 [false, true]) (S_firstclock1q1_1 a0 a1 a2 a3 a4 (([] : List (ByteArray)), (c1_a :: c1_t), (((c1_a :: c1_t)).length))) (X_firstclock1q1_1 a0 a1 a2 a3 a4 (.inl ([] : List (ByteArray)))),
    FlatB (.cells (layT (rows rw_y (c1_a :: c1_t))) 5)]) (by kernel_rfl) ⟨(m_firstfillq1_ok n a3 a4 (c1_a :: c1_t) hc1), (rows_flat rwf_y _ _), (m_firstclock1q1_1_ok n a0 a1 a2 a3 a4 (([] : List (ByteArray)), (c1_a :: c1_t), (((c1_a :: c1_t)).length)) (.inl ([] : List (ByteArray))) hc2), (rows_flat rwf_y _ _), trivial⟩
set_option maxRecDepth 100000 in
theorem p_firstclock1q1_1 (n : Nat) (a0 : Bool) (a1 : Int) (a2 : Int) (a3 : Int) (a4 : Int) (c1_a : Int) (c1_t : List (Int)) (hc1 : m_firstfillq1 n a3 a4 = some (c1_a :: c1_t)) (c2_a : ByteArray) (c2_t : List (ByteArray)) (hc2 : m_firstclock1q1_1 n a0 a1 a2 a3 a4 (([] : List (ByteArray)), (c1_a :: c1_t), (((c1_a :: c1_t)).length)) = some (.inl (c2_a :: c2_t))) : Gv P (.func 17) (A_firstclock1q1 a0 a1 a2 a3 a4) (H_firstclock1q1 a0 a1 a2 a3 a4) (V_firstclock1q1 a0 a1 a2 a3 a4 (.inl (c2_a :: c2_t))) (R_firstclock1q1 a0 a1 a2 a3 a4 (.inl (c2_a :: c2_t))) :=
  runF_ok hm (A := aT [(3, .call ⟨0, [], (V_firstfillq1 a3 a4 (c1_a :: c1_t)), (R_firstfillq1 a3 a4 (c1_a :: c1_t)), [(12, 0, true)]⟩)]) (L := lT [(6, ⟨⟨[0, 1, 2, 4], [(0, 0, false), (1, 1, false), (2, 2, false), (3, 3, false), (4, 4, false), (5, 5, false), (6, 6, false), (7, 7, false), (8, 8, false), (9, 9, false), (10, 10, false), (11, 11, false), (13, 12, true)], 14, 0⟩, (X_firstclock1q1_1 a0 a1 a2 a3 a4 (.inl (c2_a :: c2_t))).1, (X_firstclock1q1_1 a0 a1 a2 a3 a4 (.inl (c2_a :: c2_t))).2⟩)]) (wk := ⟨[], [(0, 0, false), (1, 1, false), (2, 2, false), (3, 3, false), (4, 4, false), (5, 5, false), (6, 6, false), (7, 7, false), (8, 8, false), (9, 9, false), (10, 10, false), (11, 11, false), (12, 12, true)], 13, 0⟩)
    (ps := [Gv P (.func 18) (A_firstfillq1 a3 a4) (H_firstfillq1 a3 a4) (V_firstfillq1 a3 a4 (c1_a :: c1_t)) (R_firstfillq1 a3 a4 (c1_a :: c1_t)),
    FlatB (.cells (layT (rows rw_y (c1_a :: c1_t))) 5),
    CG P none (fnN P 17) 12 (codeOf P 17 [false, true]) (S_firstclock1q1_1 a0 a1 a2 a3 a4 (([] : List (ByteArray)), (c1_a :: c1_t), (((c1_a :: c1_t)).length))) (X_firstclock1q1_1 a0 a1 a2 a3 a4 (.inl (c2_a :: c2_t))),
    FlatB (.cells (layT (rows rw_y (c1_a :: c1_t))) 5),
    FlatB (.cells (layT (rows rw_s (c2_a :: c2_t))) 9)]) (by kernel_rfl) ⟨(m_firstfillq1_ok n a3 a4 (c1_a :: c1_t) hc1), (rows_flat rwf_y _ _), (m_firstclock1q1_1_ok n a0 a1 a2 a3 a4 (([] : List (ByteArray)), (c1_a :: c1_t), (((c1_a :: c1_t)).length)) (.inl (c2_a :: c2_t)) hc2), (rows_flat rwf_y _ _), (rows_flat rwf_s _ _), trivial⟩
set_option maxRecDepth 100000 in
theorem p_firstclock1q1_2 (n : Nat) (a0 : Bool) (a1 : Int) (a2 : Int) (a3 : Int) (a4 : Int) (c1_a : Int) (c1_t : List (Int)) (hc1 : m_firstfillq1 n a3 a4 = some (c1_a :: c1_t)) (c2_ : List (ByteArray)) (hc2 : m_firstclock1q1_1 n a0 a1 a2 a3 a4 (([] : List (ByteArray)), (c1_a :: c1_t), (((c1_a :: c1_t)).length)) = some (.inr c2_)) : Gv P (.func 17) (A_firstclock1q1 a0 a1 a2 a3 a4) (H_firstclock1q1 a0 a1 a2 a3 a4) (V_firstclock1q1 a0 a1 a2 a3 a4 (.inr c2_)) (R_firstclock1q1 a0 a1 a2 a3 a4 (.inr c2_)) :=
  runF_ok hm (A := aT [(3, .call ⟨0, [], (V_firstfillq1 a3 a4 (c1_a :: c1_t)), (R_firstfillq1 a3 a4 (c1_a :: c1_t)), [(12, 0, true)]⟩)]) (L := lT [(6, ⟨⟨[0, 1, 2, 4], [(0, 0, false), (1, 1, false), (2, 2, false), (3, 3, false), (4, 4, false), (5, 5, false), (6, 6, false), (7, 7, false), (8, 8, false), (9, 9, false), (10, 10, false), (11, 11, false), (13, 12, true)], 14, 0⟩, (X_firstclock1q1_1 a0 a1 a2 a3 a4 (.inr c2_)).1, (X_firstclock1q1_1 a0 a1 a2 a3 a4 (.inr c2_)).2⟩)]) (wk := ⟨[], [(0, 0, false), (1, 1, false), (2, 2, false), (3, 3, false), (4, 4, false), (5, 5, false), (6, 6, false), (7, 7, false), (8, 8, false), (9, 9, false), (10, 10, false), (11, 11, false), (12, 12, true)], 13, 0⟩)
    (ps := [Gv P (.func 18) (A_firstfillq1 a3 a4) (H_firstfillq1 a3 a4) (V_firstfillq1 a3 a4 (c1_a :: c1_t)) (R_firstfillq1 a3 a4 (c1_a :: c1_t)),
    FlatB (.cells (layT (rows rw_y (c1_a :: c1_t))) 5),
    CG P none (fnN P 17) 12 (codeOf P 17 [false, true]) (S_firstclock1q1_1 a0 a1 a2 a3 a4 (([] : List (ByteArray)), (c1_a :: c1_t), (((c1_a :: c1_t)).length))) (X_firstclock1q1_1 a0 a1 a2 a3 a4 (.inr c2_)),
    FlatB (.cells (layT (rows rw_y (c1_a :: c1_t))) 5),
    FlatB (.cells (layT (rows rw_s c2_)) 9)]) (by kernel_rfl) ⟨(m_firstfillq1_ok n a3 a4 (c1_a :: c1_t) hc1), (rows_flat rwf_y _ _), (m_firstclock1q1_1_ok n a0 a1 a2 a3 a4 (([] : List (ByteArray)), (c1_a :: c1_t), (((c1_a :: c1_t)).length)) (.inr c2_) hc2), (rows_flat rwf_y _ _), (rows_flat rwf_s _ _), trivial⟩
theorem m_firstclock1q1_ok (n : Nat) (a0 : Bool) (a1 : Int) (a2 : Int) (a3 : Int) (a4 : Int) (r : (List (ByteArray)) ⊕ (List (ByteArray))) (h : m_firstclock1q1 n a0 a1 a2 a3 a4 = some r) : Gv P (.func 17) (A_firstclock1q1 a0 a1 a2 a3 a4) (H_firstclock1q1 a0 a1 a2 a3 a4) (V_firstclock1q1 a0 a1 a2 a3 a4 r) (R_firstclock1q1 a0 a1 a2 a3 a4 r) := by
  unfold m_firstclock1q1 at h
  obtain ⟨c1_, hc1, h⟩ := Option.bind_eq_some_iff.1 h
  cases c1_ with
  | nil =>
    dsimp only at h
    cases h
  | cons c1_a c1_t =>
    dsimp only at h
    rcases hc2 : m_firstclock1q1_1 n a0 a1 a2 a3 a4 (([] : List (ByteArray)), (c1_a :: c1_t), (((c1_a :: c1_t)).length)) with _ | (c2_ | c2_)
    · rw [hc2] at h; cases h
    · rw [hc2] at h
      dsimp only at h
      cases c2_ with
      | nil =>
        dsimp only at h
        obtain rfl := Option.some.inj h; exact p_firstclock1q1_0 n a0 a1 a2 a3 a4 c1_a c1_t hc1 hc2
      | cons c2_a c2_t =>
        dsimp only at h
        obtain rfl := Option.some.inj h; exact p_firstclock1q1_1 n a0 a1 a2 a3 a4 c1_a c1_t hc1 c2_a c2_t hc2
    · rw [hc2] at h
      dsimp only at h
      obtain rfl := Option.some.inj h; exact p_firstclock1q1_2 n a0 a1 a2 a3 a4 c1_a c1_t hc1 c2_ hc2

noncomputable def A_firstRows1q1 (a0 : Bool) (a1 : Int) (a2 : Int) : List Value := [(Value.func (.yield 0) #[] #[]), (Value.pointer (some ⟨5, 0, none⟩)), (Value.pointer (some ⟨6, 0, none⟩))]
noncomputable def H_firstRows1q1 (a0 : Bool) (a1 : Int) (a2 : Int) : AH := ⟨sB [(0, (some (rblk P 5 [false, true, false, true, true, true, true] .ready none [(4, (Value.pointer (some ⟨2, 0, none⟩))), (5, (Value.pointer (some ⟨3, 0, none⟩))), (7, (Value.pointer (some ⟨4, 0, none⟩))), (14, (Value.func (.func 11) #[] #[(Value.pointer (some ⟨5, 0, none⟩)), (Value.pointer (some ⟨6, 0, none⟩))]))] 1))), (1, (some (.marks true))), (2, (some (.cells (layT [(Value.slice none 0 0)]) 23))), (3, (some (.cells (layT [(Value.bool a0)]) 4))), (4, (some (.cells (layT [(Value.slice none 0 0)]) 23))), (5, (some (.cells (layT [(Value.int .i64 a1)]) 3))), (6, (some (.cells (layT [(Value.int .i64 a2)]) 3)))], 7, 7⟩
noncomputable def V_firstRows1q1 (a0 : Bool) (a1 : Int) (a2 : Int) (r : (Unit) ⊕ ((List (ByteArray)) ⊕ (List (ByteArray)))) : Value := match r with
  | .inl _ => (Value.tuple #[])
  | .inr (.inl o0) => (Value.tuple #[])
  | .inr (.inr o0) => (Value.tuple #[])
noncomputable def R_firstRows1q1 (a0 : Bool) (a1 : Int) (a2 : Int) (r : (Unit) ⊕ ((List (ByteArray)) ⊕ (List (ByteArray)))) : AH := match r with
  | .inl _ => ⟨sB [(0, (some (rblk P 5 [false, true, false, true, true, true, true] .ready none [(4, (Value.pointer (some ⟨2, 0, none⟩))), (5, (Value.pointer (some ⟨3, 0, none⟩))), (7, (Value.pointer (some ⟨4, 0, none⟩))), (14, (Value.func (.func 11) #[] #[(Value.pointer (some ⟨5, 0, none⟩)), (Value.pointer (some ⟨6, 0, none⟩))]))] 1))), (1, (some (.marks true))), (2, (some (.cells (layT [(Value.slice none 0 0)]) 23))), (3, (some (.cells (layT [(Value.bool a0)]) 4))), (4, (some (.cells (layT [(Value.slice none 0 0)]) 23))), (5, (some (.cells (layT [(Value.int .i64 a1)]) 3))), (6, (some (.cells (layT [(Value.int .i64 a2)]) 3)))], 7, 7⟩
  | .inr (.inl o0) => ⟨sB [(0, (some (rblk P 5 [false, true, false, true, true, true, true] .ready none [(4, (Value.pointer (some ⟨2, 0, none⟩))), (5, (Value.pointer (some ⟨3, 0, none⟩))), (7, (Value.pointer (some ⟨4, 0, none⟩))), (14, (Value.func (.func 11) #[] #[(Value.pointer (some ⟨5, 0, none⟩)), (Value.pointer (some ⟨6, 0, none⟩))]))] 1))), (1, (some (.marks true))), (2, (some (.cells (layT [(Value.slice none 0 0)]) 23))), (3, (some (.cells (layT [(Value.bool a0)]) 4))), (4, (some (.cells (layT [(slR o0 7 1)]) 23))), (5, (some (.cells (layT [(Value.int .i64 a1)]) 3))), (6, (some (.cells (layT [(Value.int .i64 a2)]) 3))), (7, (nblkR rw_s o0 9)), (8, (some (.marks false)))], 9, 0⟩
  | .inr (.inr o0) => ⟨sB [(0, (some (rblk P 5 [false, true, false, true, true, true, true] .done (some .ret) [(4, (Value.pointer (some ⟨2, 0, none⟩))), (5, (Value.pointer (some ⟨3, 0, none⟩))), (7, (Value.pointer (some ⟨4, 0, none⟩))), (14, (Value.func (.func 11) #[] #[(Value.pointer (some ⟨5, 0, none⟩)), (Value.pointer (some ⟨6, 0, none⟩))]))] 1))), (1, (some (.marks true))), (2, (some (.cells (layT [(Value.slice none 0 0)]) 23))), (3, (some (.cells (layT [(Value.bool false)]) 4))), (4, (some (.cells (layT [(Value.slice (some ⟨7, 0, none⟩) (o0).length (Nat.add big 1))]) 23))), (5, (some (.cells (layT [(Value.int .i64 a1)]) 3))), (6, (some (.cells (layT [(Value.int .i64 a2)]) 3))), (7, (some (.cells (layT (rows rw_s o0)) 9))), (8, (some (.marks false)))], 9, 0⟩
def m_firstRows1q1 (n : Nat) (a0 : Bool) (a1 : Int) (a2 : Int) : Option ((Unit) ⊕ ((List (ByteArray)) ⊕ (List (ByteArray)))) :=
  if a1 < (0 : Int) then
    some (.inl ())
  else
    if a1 > (8 : Int) then
      some (.inl ())
    else
      if a2 < (1 : Int) then
        some (.inl ())
      else
        if a2 > (3 : Int) then
          some (.inl ())
        else
          (m_firstclockq1 n a1 a2).bind fun _ =>
          match m_firstclock1q1 n a0 a1 a2 a1 a2 with
          | none => none
          | some (.inl c6_) =>
            match c6_ with
            | [] =>
              some (.inr (.inl ([] : List (ByteArray))))
            | c6_a :: c6_t =>
              some (.inr (.inl (c6_a :: c6_t)))
          | some (.inr c6_) =>
            some (.inr (.inr c6_))
set_option maxRecDepth 100000 in
theorem p_firstRows1q1_0 (n : Nat) (a0 : Bool) (a1 : Int) (a2 : Int) (hc1 : a1 < (0 : Int)) : Gv P (.func 11) (A_firstRows1q1 a0 a1 a2) (H_firstRows1q1 a0 a1 a2) (V_firstRows1q1 a0 a1 a2 (.inl ())) (R_firstRows1q1 a0 a1 a2 (.inl ())) :=
  runF_ok hm (A := aT [(5, .val (.bool true))]) (L := lT []) (wk := ⟨[], [(0, 0, false), (1, 1, false), (2, 2, false), (3, 3, false), (4, 4, false), (5, 5, false), (6, 6, false)], 7, 7⟩)
    (ps := [(Value.bool (decide (a1 < (0 : Int)))) = (Value.bool true)]) (by kernel_rfl) ⟨(vbT hc1), trivial⟩
set_option maxRecDepth 100000 in
theorem p_firstRows1q1_1 (n : Nat) (a0 : Bool) (a1 : Int) (a2 : Int) (hc1 : ¬ (a1 < (0 : Int))) (hc2 : a1 > (8 : Int)) : Gv P (.func 11) (A_firstRows1q1 a0 a1 a2) (H_firstRows1q1 a0 a1 a2) (V_firstRows1q1 a0 a1 a2 (.inl ())) (R_firstRows1q1 a0 a1 a2 (.inl ())) :=
  runF_ok hm (A := aT [(5, .val (.bool false)), (8, .val (.bool true))]) (L := lT []) (wk := ⟨[], [(0, 0, false), (1, 1, false), (2, 2, false), (3, 3, false), (4, 4, false), (5, 5, false), (6, 6, false)], 7, 7⟩)
    (ps := [(Value.bool (decide (a1 < (0 : Int)))) = (Value.bool false),
    (Value.bool (decide (a1 > (8 : Int)))) = (Value.bool true)]) (by kernel_rfl) ⟨(vbF hc1), (vbT hc2), trivial⟩
set_option maxRecDepth 100000 in
theorem p_firstRows1q1_2 (n : Nat) (a0 : Bool) (a1 : Int) (a2 : Int) (hc1 : ¬ (a1 < (0 : Int))) (hc2 : ¬ (a1 > (8 : Int))) (hc3 : a2 < (1 : Int)) : Gv P (.func 11) (A_firstRows1q1 a0 a1 a2) (H_firstRows1q1 a0 a1 a2) (V_firstRows1q1 a0 a1 a2 (.inl ())) (R_firstRows1q1 a0 a1 a2 (.inl ())) :=
  runF_ok hm (A := aT [(5, .val (.bool false)), (8, .val (.bool false)), (12, .val (.bool true))]) (L := lT []) (wk := ⟨[], [(0, 0, false), (1, 1, false), (2, 2, false), (3, 3, false), (4, 4, false), (5, 5, false), (6, 6, false)], 7, 7⟩)
    (ps := [(Value.bool (decide (a1 < (0 : Int)))) = (Value.bool false),
    (Value.bool (decide (a1 > (8 : Int)))) = (Value.bool false),
    (Value.bool (decide (a2 < (1 : Int)))) = (Value.bool true)]) (by kernel_rfl) ⟨(vbF hc1), (vbF hc2), (vbT hc3), trivial⟩
set_option maxRecDepth 100000 in
theorem p_firstRows1q1_3 (n : Nat) (a0 : Bool) (a1 : Int) (a2 : Int) (hc1 : ¬ (a1 < (0 : Int))) (hc2 : ¬ (a1 > (8 : Int))) (hc3 : ¬ (a2 < (1 : Int))) (hc4 : a2 > (3 : Int)) : Gv P (.func 11) (A_firstRows1q1 a0 a1 a2) (H_firstRows1q1 a0 a1 a2) (V_firstRows1q1 a0 a1 a2 (.inl ())) (R_firstRows1q1 a0 a1 a2 (.inl ())) :=
  runF_ok hm (A := aT [(5, .val (.bool false)), (8, .val (.bool false)), (12, .val (.bool false)), (16, .val (.bool true))]) (L := lT []) (wk := ⟨[], [(0, 0, false), (1, 1, false), (2, 2, false), (3, 3, false), (4, 4, false), (5, 5, false), (6, 6, false)], 7, 7⟩)
    (ps := [(Value.bool (decide (a1 < (0 : Int)))) = (Value.bool false),
    (Value.bool (decide (a1 > (8 : Int)))) = (Value.bool false),
    (Value.bool (decide (a2 < (1 : Int)))) = (Value.bool false),
    (Value.bool (decide (a2 > (3 : Int)))) = (Value.bool true)]) (by kernel_rfl) ⟨(vbF hc1), (vbF hc2), (vbF hc3), (vbT hc4), trivial⟩
set_option maxRecDepth 100000 in
theorem p_firstRows1q1_4 (n : Nat) (a0 : Bool) (a1 : Int) (a2 : Int) (hc1 : ¬ (a1 < (0 : Int))) (hc2 : ¬ (a1 > (8 : Int))) (hc3 : ¬ (a2 < (1 : Int))) (hc4 : ¬ (a2 > (3 : Int))) (hc5 : m_firstclockq1 n a1 a2 = some ()) (hc6 : m_firstclock1q1 n a0 a1 a2 a1 a2 = some (.inl [])) : Gv P (.func 11) (A_firstRows1q1 a0 a1 a2) (H_firstRows1q1 a0 a1 a2) (V_firstRows1q1 a0 a1 a2 (.inr (.inl ([] : List (ByteArray))))) (R_firstRows1q1 a0 a1 a2 (.inr (.inl ([] : List (ByteArray))))) :=
  runF_ok hm (A := aT [(5, .val (.bool false)), (8, .val (.bool false)), (12, .val (.bool false)), (16, .val (.bool false)), (22, .call ⟨0, [], (V_firstclockq1 a1 a2 ()), (R_firstclockq1 a1 a2 ()), [(8, 0, false), (9, 1, false)]⟩), (24, .rng ⟨12, [(0, 11, false), (1, 10, false), (2, 7, false), (3, 0, false), (4, 1, false), (5, 2, false), (6, 3, false), (7, 4, false), (8, 5, false), (9, 6, false), (10, 8, false), (11, 9, false)], (V_firstclock1q1 a0 a1 a2 a1 a2 (.inl ([] : List (ByteArray)))), (R_firstclock1q1 a0 a1 a2 a1 a2 (.inl ([] : List (ByteArray)))), [(11, 0, false), (10, 1, false), (7, 2, false), (0, 3, false), (1, 4, false), (2, 5, false), (3, 6, false), (4, 7, false), (5, 8, false), (6, 9, false), (8, 10, false), (9, 11, false)]⟩ [3, 21])]) (L := lT []) (wk := ⟨[], [(0, 0, false), (1, 1, false), (2, 2, false), (3, 3, false), (4, 4, false), (5, 5, false), (6, 6, false), (8, 10, false)], 9, 0⟩)
    (ps := [(Value.bool (decide (a1 < (0 : Int)))) = (Value.bool false),
    (Value.bool (decide (a1 > (8 : Int)))) = (Value.bool false),
    (Value.bool (decide (a2 < (1 : Int)))) = (Value.bool false),
    (Value.bool (decide (a2 > (3 : Int)))) = (Value.bool false),
    Gv P (.func 12) (A_firstclockq1 a1 a2) (H_firstclockq1 a1 a2) (V_firstclockq1 a1 a2 ()) (R_firstclockq1 a1 a2 ()),
    Gv P (.func 17) (A_firstclock1q1 a0 a1 a2 a1 a2) (H_firstclock1q1 a0 a1 a2 a1 a2) (V_firstclock1q1 a0 a1 a2 a1 a2 (.inl ([] : List (ByteArray)))) (R_firstclock1q1 a0 a1 a2 a1 a2 (.inl ([] : List (ByteArray))))]) (by kernel_rfl) ⟨(vbF hc1), (vbF hc2), (vbF hc3), (vbF hc4), (m_firstclockq1_ok n a1 a2 () hc5), (m_firstclock1q1_ok n a0 a1 a2 a1 a2 (.inl ([] : List (ByteArray))) hc6), trivial⟩
set_option maxRecDepth 100000 in
theorem p_firstRows1q1_5 (n : Nat) (a0 : Bool) (a1 : Int) (a2 : Int) (hc1 : ¬ (a1 < (0 : Int))) (hc2 : ¬ (a1 > (8 : Int))) (hc3 : ¬ (a2 < (1 : Int))) (hc4 : ¬ (a2 > (3 : Int))) (hc5 : m_firstclockq1 n a1 a2 = some ()) (c6_a : ByteArray) (c6_t : List (ByteArray)) (hc6 : m_firstclock1q1 n a0 a1 a2 a1 a2 = some (.inl (c6_a :: c6_t))) : Gv P (.func 11) (A_firstRows1q1 a0 a1 a2) (H_firstRows1q1 a0 a1 a2) (V_firstRows1q1 a0 a1 a2 (.inr (.inl (c6_a :: c6_t)))) (R_firstRows1q1 a0 a1 a2 (.inr (.inl (c6_a :: c6_t)))) :=
  runF_ok hm (A := aT [(5, .val (.bool false)), (8, .val (.bool false)), (12, .val (.bool false)), (16, .val (.bool false)), (22, .call ⟨0, [], (V_firstclockq1 a1 a2 ()), (R_firstclockq1 a1 a2 ()), [(8, 0, false), (9, 1, false)]⟩), (24, .rng ⟨12, [(0, 11, false), (1, 10, false), (2, 7, false), (3, 0, false), (4, 1, false), (5, 2, false), (6, 3, false), (7, 4, false), (8, 5, false), (9, 6, false), (10, 8, false), (11, 9, false)], (V_firstclock1q1 a0 a1 a2 a1 a2 (.inl (c6_a :: c6_t))), (R_firstclock1q1 a0 a1 a2 a1 a2 (.inl (c6_a :: c6_t))), [(11, 0, false), (10, 1, false), (7, 2, false), (0, 3, false), (1, 4, false), (2, 5, false), (3, 6, false), (4, 7, false), (5, 8, false), (6, 9, false), (8, 10, false), (9, 11, false), (12, 12, true)]⟩ [3, 21])]) (L := lT []) (wk := ⟨[], [(0, 0, false), (1, 1, false), (2, 2, false), (3, 3, false), (4, 4, false), (5, 5, false), (6, 6, false), (7, 12, true), (8, 10, false)], 9, 0⟩)
    (ps := [(Value.bool (decide (a1 < (0 : Int)))) = (Value.bool false),
    (Value.bool (decide (a1 > (8 : Int)))) = (Value.bool false),
    (Value.bool (decide (a2 < (1 : Int)))) = (Value.bool false),
    (Value.bool (decide (a2 > (3 : Int)))) = (Value.bool false),
    Gv P (.func 12) (A_firstclockq1 a1 a2) (H_firstclockq1 a1 a2) (V_firstclockq1 a1 a2 ()) (R_firstclockq1 a1 a2 ()),
    Gv P (.func 17) (A_firstclock1q1 a0 a1 a2 a1 a2) (H_firstclock1q1 a0 a1 a2 a1 a2) (V_firstclock1q1 a0 a1 a2 a1 a2 (.inl (c6_a :: c6_t))) (R_firstclock1q1 a0 a1 a2 a1 a2 (.inl (c6_a :: c6_t))),
    FlatB (.cells (layT (rows rw_s (c6_a :: c6_t))) 9),
    FlatB (.cells (layT (rows rw_s (c6_a :: c6_t))) 9)]) (by kernel_rfl) ⟨(vbF hc1), (vbF hc2), (vbF hc3), (vbF hc4), (m_firstclockq1_ok n a1 a2 () hc5), (m_firstclock1q1_ok n a0 a1 a2 a1 a2 (.inl (c6_a :: c6_t)) hc6), (rows_flat rwf_s _ _), (rows_flat rwf_s _ _), trivial⟩
set_option maxRecDepth 100000 in
theorem p_firstRows1q1_6 (n : Nat) (a0 : Bool) (a1 : Int) (a2 : Int) (hc1 : ¬ (a1 < (0 : Int))) (hc2 : ¬ (a1 > (8 : Int))) (hc3 : ¬ (a2 < (1 : Int))) (hc4 : ¬ (a2 > (3 : Int))) (hc5 : m_firstclockq1 n a1 a2 = some ()) (c6_ : List (ByteArray)) (hc6 : m_firstclock1q1 n a0 a1 a2 a1 a2 = some (.inr c6_)) : Gv P (.func 11) (A_firstRows1q1 a0 a1 a2) (H_firstRows1q1 a0 a1 a2) (V_firstRows1q1 a0 a1 a2 (.inr (.inr c6_))) (R_firstRows1q1 a0 a1 a2 (.inr (.inr c6_))) :=
  runF_ok hm (A := aT [(5, .val (.bool false)), (8, .val (.bool false)), (12, .val (.bool false)), (16, .val (.bool false)), (22, .call ⟨0, [], (V_firstclockq1 a1 a2 ()), (R_firstclockq1 a1 a2 ()), [(8, 0, false), (9, 1, false)]⟩), (24, .rng ⟨12, [(0, 11, false), (1, 10, false), (2, 7, false), (3, 0, false), (4, 1, false), (5, 2, false), (6, 3, false), (7, 4, false), (8, 5, false), (9, 6, false), (10, 8, false), (11, 9, false)], (V_firstclock1q1 a0 a1 a2 a1 a2 (.inr c6_)), (R_firstclock1q1 a0 a1 a2 a1 a2 (.inr c6_)), [(11, 0, false), (10, 1, false), (7, 2, false), (0, 3, false), (1, 4, false), (2, 5, false), (3, 6, false), (4, 7, false), (5, 8, false), (6, 9, false), (8, 10, false), (9, 11, false), (12, 12, true)]⟩ [3, 21])]) (L := lT []) (wk := ⟨[], [(0, 0, false), (1, 1, false), (2, 2, false), (3, 3, false), (4, 4, false), (5, 5, false), (6, 6, false), (7, 12, true), (8, 10, false)], 9, 0⟩)
    (ps := [(Value.bool (decide (a1 < (0 : Int)))) = (Value.bool false),
    (Value.bool (decide (a1 > (8 : Int)))) = (Value.bool false),
    (Value.bool (decide (a2 < (1 : Int)))) = (Value.bool false),
    (Value.bool (decide (a2 > (3 : Int)))) = (Value.bool false),
    Gv P (.func 12) (A_firstclockq1 a1 a2) (H_firstclockq1 a1 a2) (V_firstclockq1 a1 a2 ()) (R_firstclockq1 a1 a2 ()),
    Gv P (.func 17) (A_firstclock1q1 a0 a1 a2 a1 a2) (H_firstclock1q1 a0 a1 a2 a1 a2) (V_firstclock1q1 a0 a1 a2 a1 a2 (.inr c6_)) (R_firstclock1q1 a0 a1 a2 a1 a2 (.inr c6_)),
    FlatB (.cells (layT (rows rw_s c6_)) 9),
    FlatB (.cells (layT (rows rw_s c6_)) 9)]) (by kernel_rfl) ⟨(vbF hc1), (vbF hc2), (vbF hc3), (vbF hc4), (m_firstclockq1_ok n a1 a2 () hc5), (m_firstclock1q1_ok n a0 a1 a2 a1 a2 (.inr c6_) hc6), (rows_flat rwf_s _ _), (rows_flat rwf_s _ _), trivial⟩
theorem m_firstRows1q1_ok (n : Nat) (a0 : Bool) (a1 : Int) (a2 : Int) (r : (Unit) ⊕ ((List (ByteArray)) ⊕ (List (ByteArray)))) (h : m_firstRows1q1 n a0 a1 a2 = some r) : Gv P (.func 11) (A_firstRows1q1 a0 a1 a2) (H_firstRows1q1 a0 a1 a2) (V_firstRows1q1 a0 a1 a2 r) (R_firstRows1q1 a0 a1 a2 r) := by
  unfold m_firstRows1q1 at h
  by_cases hc1 : a1 < (0 : Int)
  · rw [if_pos hc1] at h
    obtain rfl := Option.some.inj h; exact p_firstRows1q1_0 n a0 a1 a2 hc1
  · rw [if_neg hc1] at h
    by_cases hc2 : a1 > (8 : Int)
    · rw [if_pos hc2] at h
      obtain rfl := Option.some.inj h; exact p_firstRows1q1_1 n a0 a1 a2 hc1 hc2
    · rw [if_neg hc2] at h
      by_cases hc3 : a2 < (1 : Int)
      · rw [if_pos hc3] at h
        obtain rfl := Option.some.inj h; exact p_firstRows1q1_2 n a0 a1 a2 hc1 hc2 hc3
      · rw [if_neg hc3] at h
        by_cases hc4 : a2 > (3 : Int)
        · rw [if_pos hc4] at h
          obtain rfl := Option.some.inj h; exact p_firstRows1q1_3 n a0 a1 a2 hc1 hc2 hc3 hc4
        · rw [if_neg hc4] at h
          obtain ⟨_, hc5, h⟩ := Option.bind_eq_some_iff.1 h
          rcases hc6 : m_firstclock1q1 n a0 a1 a2 a1 a2 with _ | (c6_ | c6_)
          · rw [hc6] at h; cases h
          · rw [hc6] at h
            dsimp only at h
            cases c6_ with
            | nil =>
              dsimp only at h
              obtain rfl := Option.some.inj h; exact p_firstRows1q1_4 n a0 a1 a2 hc1 hc2 hc3 hc4 hc5 hc6
            | cons c6_a c6_t =>
              dsimp only at h
              obtain rfl := Option.some.inj h; exact p_firstRows1q1_5 n a0 a1 a2 hc1 hc2 hc3 hc4 hc5 c6_a c6_t hc6
          · rw [hc6] at h
            dsimp only at h
            obtain rfl := Option.some.inj h; exact p_firstRows1q1_6 n a0 a1 a2 hc1 hc2 hc3 hc4 hc5 c6_ hc6


end Go.Proofs.Ytgcbagchpjpmoaa.firw
