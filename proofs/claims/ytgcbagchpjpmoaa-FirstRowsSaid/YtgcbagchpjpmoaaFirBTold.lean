/-
  What functions do, told by pure functions. No condition.
-/
import Derived.Test.YtgcbagchpjpmoaaFirATold
set_option linter.unusedSimpArgs false
set_option linter.unusedVariables false
set_option linter.unusedSectionVars false
set_option linter.unnecessarySimpa false
namespace Go.Proofs.Ytgcbagchpjpmoaa.firw
open Go Go.Proofs.Ytgcbagchpjpmoaa Ax
variable [Args]
noncomputable def A_viewportlaw12rowsq1 (a0 : Int) (a1 : Int) : List Value := [(Value.int .i64 a0), (Value.int .i64 a1)]
noncomputable def H_viewportlaw12rowsq1 (a0 : Int) (a1 : Int) : AH := ⟨sB [], 0, 0⟩
noncomputable def V_viewportlaw12rowsq1 (a0 : Int) (a1 : Int) (r : List (ByteArray) × Bool) : Value := match r with
  | (o0, o1) => (Value.tuple #[(slR o0 2 1), (Value.bool o1)])
noncomputable def R_viewportlaw12rowsq1 (a0 : Int) (a1 : Int) (r : List (ByteArray) × Bool) : AH := match r with
  | (o0, o1) => ⟨sB [(0, (some (.marks false))), (1, (some (.cells (layT [(slR o0 2 1)]) 23))), (2, (nblkR rw_s o0 9)), (3, (some (.cells (layT [(Value.bool o1)]) 4)))], 4, 0⟩
def m_viewportlaw12rowsq1 (n : Nat) (a0 : Int) (a1 : Int) : Option (List (ByteArray) × Bool) :=
  (m_firstRowsq1 n a0 a1).bind fun _ =>
  match m_firstRows1q1 n false a0 a1 with
  | none => none
  | some (.inl _) =>
    some (([] : List (ByteArray)), true)
  | some (.inr (.inl c2_)) =>
    match c2_ with
    | [] =>
      some (([] : List (ByteArray)), true)
    | c2_a :: c2_t =>
      some ((c2_a :: c2_t), true)
  | some (.inr (.inr c2_)) =>
    some (([] : List (ByteArray)), false)
set_option maxRecDepth 100000 in
theorem p_viewportlaw12rowsq1_0 (n : Nat) (a0 : Int) (a1 : Int) (hc1 : m_firstRowsq1 n a0 a1 = some ()) (hc2 : m_firstRows1q1 n false a0 a1 = some (.inl ())) : Gv P (.func 5) (A_viewportlaw12rowsq1 a0 a1) (H_viewportlaw12rowsq1 a0 a1) (V_viewportlaw12rowsq1 a0 a1 (([] : List (ByteArray)), true)) (R_viewportlaw12rowsq1 a0 a1 (([] : List (ByteArray)), true)) :=
  runF_ok hm (A := aT [(6, .call ⟨0, [], (V_firstRowsq1 a0 a1 ()), (R_firstRowsq1 a0 a1 ()), [(2, 0, false), (3, 1, false)]⟩), (19, .rng ⟨7, [(0, 6, false), (1, 5, false), (2, 0, false), (3, 1, false), (4, 4, false), (5, 2, false), (6, 3, false)], (V_firstRows1q1 false a0 a1 (.inl ())), (R_firstRows1q1 false a0 a1 (.inl ())), [(6, 0, false), (5, 1, false), (0, 2, false), (1, 3, false), (4, 4, false), (2, 5, false), (3, 6, false)]⟩ [4, 5, 7, 14])]) (L := lT []) (wk := ⟨[4, 5], [(0, 5, false), (1, 0, false), (3, 1, false)], 4, 0⟩)
    (ps := [Gv P (.func 7) (A_firstRowsq1 a0 a1) (H_firstRowsq1 a0 a1) (V_firstRowsq1 a0 a1 ()) (R_firstRowsq1 a0 a1 ()),
    Gv P (.func 11) (A_firstRows1q1 false a0 a1) (H_firstRows1q1 false a0 a1) (V_firstRows1q1 false a0 a1 (.inl ())) (R_firstRows1q1 false a0 a1 (.inl ()))]) (by kernel_rfl) ⟨(m_firstRowsq1_ok n a0 a1 () hc1), (m_firstRows1q1_ok n false a0 a1 (.inl ()) hc2), trivial⟩
set_option maxRecDepth 100000 in
theorem p_viewportlaw12rowsq1_1 (n : Nat) (a0 : Int) (a1 : Int) (hc1 : m_firstRowsq1 n a0 a1 = some ()) (hc2 : m_firstRows1q1 n false a0 a1 = some (.inr (.inl []))) : Gv P (.func 5) (A_viewportlaw12rowsq1 a0 a1) (H_viewportlaw12rowsq1 a0 a1) (V_viewportlaw12rowsq1 a0 a1 (([] : List (ByteArray)), true)) (R_viewportlaw12rowsq1 a0 a1 (([] : List (ByteArray)), true)) :=
  runF_ok hm (A := aT [(6, .call ⟨0, [], (V_firstRowsq1 a0 a1 ()), (R_firstRowsq1 a0 a1 ()), [(2, 0, false), (3, 1, false)]⟩), (19, .rng ⟨7, [(0, 6, false), (1, 5, false), (2, 0, false), (3, 1, false), (4, 4, false), (5, 2, false), (6, 3, false)], (V_firstRows1q1 false a0 a1 (.inr (.inl ([] : List (ByteArray))))), (R_firstRows1q1 false a0 a1 (.inr (.inl ([] : List (ByteArray))))), [(6, 0, false), (5, 1, false), (0, 2, false), (1, 3, false), (4, 4, false), (2, 5, false), (3, 6, false)]⟩ [4, 5, 7, 14])]) (L := lT []) (wk := ⟨[4, 5], [(0, 5, false), (1, 0, false), (3, 1, false)], 4, 0⟩)
    (ps := [Gv P (.func 7) (A_firstRowsq1 a0 a1) (H_firstRowsq1 a0 a1) (V_firstRowsq1 a0 a1 ()) (R_firstRowsq1 a0 a1 ()),
    Gv P (.func 11) (A_firstRows1q1 false a0 a1) (H_firstRows1q1 false a0 a1) (V_firstRows1q1 false a0 a1 (.inr (.inl ([] : List (ByteArray))))) (R_firstRows1q1 false a0 a1 (.inr (.inl ([] : List (ByteArray)))))]) (by kernel_rfl) ⟨(m_firstRowsq1_ok n a0 a1 () hc1), (m_firstRows1q1_ok n false a0 a1 (.inr (.inl ([] : List (ByteArray)))) hc2), trivial⟩
set_option maxRecDepth 100000 in
theorem p_viewportlaw12rowsq1_2 (n : Nat) (a0 : Int) (a1 : Int) (hc1 : m_firstRowsq1 n a0 a1 = some ()) (c2_a : ByteArray) (c2_t : List (ByteArray)) (hc2 : m_firstRows1q1 n false a0 a1 = some (.inr (.inl (c2_a :: c2_t)))) : Gv P (.func 5) (A_viewportlaw12rowsq1 a0 a1) (H_viewportlaw12rowsq1 a0 a1) (V_viewportlaw12rowsq1 a0 a1 ((c2_a :: c2_t), true)) (R_viewportlaw12rowsq1 a0 a1 ((c2_a :: c2_t), true)) :=
  runF_ok hm (A := aT [(6, .call ⟨0, [], (V_firstRowsq1 a0 a1 ()), (R_firstRowsq1 a0 a1 ()), [(2, 0, false), (3, 1, false)]⟩), (19, .rng ⟨7, [(0, 6, false), (1, 5, false), (2, 0, false), (3, 1, false), (4, 4, false), (5, 2, false), (6, 3, false)], (V_firstRows1q1 false a0 a1 (.inr (.inl (c2_a :: c2_t)))), (R_firstRows1q1 false a0 a1 (.inr (.inl (c2_a :: c2_t)))), [(6, 0, false), (5, 1, false), (0, 2, false), (1, 3, false), (4, 4, false), (2, 5, false), (3, 6, false), (7, 7, true)]⟩ [4, 5, 7, 14])]) (L := lT []) (wk := ⟨[4, 5], [(0, 5, false), (1, 0, false), (2, 7, true), (3, 1, false)], 4, 0⟩)
    (ps := [Gv P (.func 7) (A_firstRowsq1 a0 a1) (H_firstRowsq1 a0 a1) (V_firstRowsq1 a0 a1 ()) (R_firstRowsq1 a0 a1 ()),
    Gv P (.func 11) (A_firstRows1q1 false a0 a1) (H_firstRows1q1 false a0 a1) (V_firstRows1q1 false a0 a1 (.inr (.inl (c2_a :: c2_t)))) (R_firstRows1q1 false a0 a1 (.inr (.inl (c2_a :: c2_t)))),
    FlatB (.cells (layT (rows rw_s (c2_a :: c2_t))) 9),
    FlatB (.cells (layT (rows rw_s (c2_a :: c2_t))) 9)]) (by kernel_rfl) ⟨(m_firstRowsq1_ok n a0 a1 () hc1), (m_firstRows1q1_ok n false a0 a1 (.inr (.inl (c2_a :: c2_t))) hc2), (rows_flat rwf_s _ _), (rows_flat rwf_s _ _), trivial⟩
set_option maxRecDepth 100000 in
theorem p_viewportlaw12rowsq1_3 (n : Nat) (a0 : Int) (a1 : Int) (hc1 : m_firstRowsq1 n a0 a1 = some ()) (c2_ : List (ByteArray)) (hc2 : m_firstRows1q1 n false a0 a1 = some (.inr (.inr c2_))) : Gv P (.func 5) (A_viewportlaw12rowsq1 a0 a1) (H_viewportlaw12rowsq1 a0 a1) (V_viewportlaw12rowsq1 a0 a1 (([] : List (ByteArray)), false)) (R_viewportlaw12rowsq1 a0 a1 (([] : List (ByteArray)), false)) :=
  runF_ok hm (A := aT [(6, .call ⟨0, [], (V_firstRowsq1 a0 a1 ()), (R_firstRowsq1 a0 a1 ()), [(2, 0, false), (3, 1, false)]⟩), (19, .rng ⟨7, [(0, 6, false), (1, 5, false), (2, 0, false), (3, 1, false), (4, 4, false), (5, 2, false), (6, 3, false)], (V_firstRows1q1 false a0 a1 (.inr (.inr c2_))), (R_firstRows1q1 false a0 a1 (.inr (.inr c2_))), [(6, 0, false), (5, 1, false), (0, 2, false), (1, 3, false), (4, 4, false), (2, 5, false), (3, 6, false), (7, 7, true)]⟩ [4, 5, 7, 14])]) (L := lT []) (wk := ⟨[4, 5], [(0, 5, false), (1, 0, false), (3, 1, false)], 4, 0⟩)
    (ps := [Gv P (.func 7) (A_firstRowsq1 a0 a1) (H_firstRowsq1 a0 a1) (V_firstRowsq1 a0 a1 ()) (R_firstRowsq1 a0 a1 ()),
    Gv P (.func 11) (A_firstRows1q1 false a0 a1) (H_firstRows1q1 false a0 a1) (V_firstRows1q1 false a0 a1 (.inr (.inr c2_))) (R_firstRows1q1 false a0 a1 (.inr (.inr c2_))),
    FlatB (.cells (layT (rows rw_s c2_)) 9)]) (by kernel_rfl) ⟨(m_firstRowsq1_ok n a0 a1 () hc1), (m_firstRows1q1_ok n false a0 a1 (.inr (.inr c2_)) hc2), (rows_flat rwf_s _ _), trivial⟩
theorem m_viewportlaw12rowsq1_ok (n : Nat) (a0 : Int) (a1 : Int) (r : List (ByteArray) × Bool) (h : m_viewportlaw12rowsq1 n a0 a1 = some r) : Gv P (.func 5) (A_viewportlaw12rowsq1 a0 a1) (H_viewportlaw12rowsq1 a0 a1) (V_viewportlaw12rowsq1 a0 a1 r) (R_viewportlaw12rowsq1 a0 a1 r) := by
  unfold m_viewportlaw12rowsq1 at h
  obtain ⟨_, hc1, h⟩ := Option.bind_eq_some_iff.1 h
  rcases hc2 : m_firstRows1q1 n false a0 a1 with _ | (⟨⟩ | c2_ | c2_)
  · rw [hc2] at h; cases h
  · rw [hc2] at h
    dsimp only at h
    obtain rfl := Option.some.inj h; exact p_viewportlaw12rowsq1_0 n a0 a1 hc1 hc2
  · rw [hc2] at h
    dsimp only at h
    cases c2_ with
    | nil =>
      dsimp only at h
      obtain rfl := Option.some.inj h; exact p_viewportlaw12rowsq1_1 n a0 a1 hc1 hc2
    | cons c2_a c2_t =>
      dsimp only at h
      obtain rfl := Option.some.inj h; exact p_viewportlaw12rowsq1_2 n a0 a1 hc1 c2_a c2_t hc2
  · rw [hc2] at h
    dsimp only at h
    obtain rfl := Option.some.inj h; exact p_viewportlaw12rowsq1_3 n a0 a1 hc1 c2_ hc2

noncomputable def A_viewportkitPickq1 (a0 : Int) (a1 : Int) : List Value := [(Value.int .i64 a0), (Value.int .i64 a1)]
noncomputable def H_viewportkitPickq1 (a0 : Int) (a1 : Int) : AH := ⟨sB [], 0, 0⟩
noncomputable def V_viewportkitPickq1 (a0 : Int) (a1 : Int) (r : Int) : Value := match r with
  | o0 => (Value.int .i64 o0)
noncomputable def R_viewportkitPickq1 (a0 : Int) (a1 : Int) (r : Int) : AH := match r with
  | o0 => ⟨sB [], 0, 0⟩
def m_viewportkitPickq1 (n : Nat) (a0 : Int) (a1 : Int) : Option (Int) :=
  if a1 < (1 : Int) then
    some 0
  else
    if ¬ (a1 = 0) then
      if (Int.tmod a0 a1) < (0 : Int) then
        some (w64 ((Int.tmod a0 a1) + a1))
      else
        some (Int.tmod a0 a1)
    else none
set_option maxRecDepth 100000 in
theorem p_viewportkitPickq1_0 (n : Nat) (a0 : Int) (a1 : Int) (hc1 : a1 < (1 : Int)) : Gv P (.func 6) (A_viewportkitPickq1 a0 a1) (H_viewportkitPickq1 a0 a1) (V_viewportkitPickq1 a0 a1 0) (R_viewportkitPickq1 a0 a1 0) :=
  runF_ok hm (A := aT [(5, .val (.bool true))]) (L := lT []) (wk := ⟨[4], [], 0, 0⟩)
    (ps := [(Value.bool (decide (a1 < (1 : Int)))) = (Value.bool true)]) (by kernel_rfl) ⟨(vbT hc1), trivial⟩
set_option maxRecDepth 100000 in
theorem p_viewportkitPickq1_1 (n : Nat) (a0 : Int) (a1 : Int) (hc1 : ¬ (a1 < (1 : Int))) (hc2 : ¬ (a1 = 0)) (hc3 : (Int.tmod a0 a1) < (0 : Int)) : Gv P (.func 6) (A_viewportkitPickq1 a0 a1) (H_viewportkitPickq1 a0 a1) (V_viewportkitPickq1 a0 a1 (w64 ((Int.tmod a0 a1) + a1))) (R_viewportkitPickq1 a0 a1 (w64 ((Int.tmod a0 a1) + a1))) :=
  runF_ok hm (A := aT [(5, .val (.bool false)), (10, .pur (Value.int .i64 (Int.tmod a0 a1))), (15, .val (.bool true))]) (L := lT []) (wk := ⟨[4], [], 0, 0⟩)
    (ps := [(Value.bool (decide (a1 < (1 : Int)))) = (Value.bool false),
    opBin P .rem 3 (.tmp 8) (.tmp 9) (Value.int .i64 a0) (Value.int .i64 a1) Ax.h0 = some ((Value.int .i64 (Int.tmod a0 a1)), Ax.h0),
    (Value.bool (decide ((Int.tmod a0 a1) < (0 : Int)))) = (Value.bool true)]) (by kernel_rfl) ⟨(vbF hc1), (remI hc2), (vbT hc3), trivial⟩
set_option maxRecDepth 100000 in
theorem p_viewportkitPickq1_2 (n : Nat) (a0 : Int) (a1 : Int) (hc1 : ¬ (a1 < (1 : Int))) (hc2 : ¬ (a1 = 0)) (hc3 : ¬ ((Int.tmod a0 a1) < (0 : Int))) : Gv P (.func 6) (A_viewportkitPickq1 a0 a1) (H_viewportkitPickq1 a0 a1) (V_viewportkitPickq1 a0 a1 (Int.tmod a0 a1)) (R_viewportkitPickq1 a0 a1 (Int.tmod a0 a1)) :=
  runF_ok hm (A := aT [(5, .val (.bool false)), (10, .pur (Value.int .i64 (Int.tmod a0 a1))), (15, .val (.bool false))]) (L := lT []) (wk := ⟨[4], [], 0, 0⟩)
    (ps := [(Value.bool (decide (a1 < (1 : Int)))) = (Value.bool false),
    opBin P .rem 3 (.tmp 8) (.tmp 9) (Value.int .i64 a0) (Value.int .i64 a1) Ax.h0 = some ((Value.int .i64 (Int.tmod a0 a1)), Ax.h0),
    (Value.bool (decide ((Int.tmod a0 a1) < (0 : Int)))) = (Value.bool false)]) (by kernel_rfl) ⟨(vbF hc1), (remI hc2), (vbF hc3), trivial⟩
theorem m_viewportkitPickq1_ok (n : Nat) (a0 : Int) (a1 : Int) (r : Int) (h : m_viewportkitPickq1 n a0 a1 = some r) : Gv P (.func 6) (A_viewportkitPickq1 a0 a1) (H_viewportkitPickq1 a0 a1) (V_viewportkitPickq1 a0 a1 r) (R_viewportkitPickq1 a0 a1 r) := by
  unfold m_viewportkitPickq1 at h
  by_cases hc1 : a1 < (1 : Int)
  · rw [if_pos hc1] at h
    obtain rfl := Option.some.inj h; exact p_viewportkitPickq1_0 n a0 a1 hc1
  · rw [if_neg hc1] at h
    by_cases hc2 : ¬ (a1 = 0)
    · rw [if_pos hc2] at h
      by_cases hc3 : (Int.tmod a0 a1) < (0 : Int)
      · rw [if_pos hc3] at h
        obtain rfl := Option.some.inj h; exact p_viewportkitPickq1_1 n a0 a1 hc1 hc2 hc3
      · rw [if_neg hc3] at h
        obtain rfl := Option.some.inj h; exact p_viewportkitPickq1_2 n a0 a1 hc1 hc2 hc3
    · rw [if_neg hc2] at h; cases h

noncomputable def A_viewportlaw12FirstRows_111010y1 (a0 : Int) (a1 : Bool) (a2 : List (ByteArray)) (a3 : Nat) (a4 : Int) (a5 : Int) (a6 : Int) (a7 : ByteArray) : List Value := [(Value.string a7)]
noncomputable def H_viewportlaw12FirstRows_111010y1 (a0 : Int) (a1 : Bool) (a2 : List (ByteArray)) (a3 : Nat) (a4 : Int) (a5 : Int) (a6 : Int) (a7 : ByteArray) : AH := ⟨sB [(0, (some (rblk P 3 [false, true, false, true, true, true, true, true, true, true, true, true, true, true, true] .ready none [(5, (Value.pointer (some ⟨2, 0, none⟩))), (6, (Value.pointer (some ⟨3, 0, none⟩))), (7, (Value.pointer (some ⟨4, 0, none⟩))), (15, (Value.pointer (some ⟨6, 0, none⟩))), (140, (Value.func (.func 11) #[] #[(Value.pointer (some ⟨7, 0, none⟩)), (Value.pointer (some ⟨8, 0, none⟩))]))] 1))), (1, (some (.marks true))), (2, (some (.cells (layT [(Value.int .i64 a0)]) 3))), (3, (some (.cells (layT [(Value.bool a1)]) 4))), (4, (some (.cells (layT [(Value.slice (some ⟨5, 0, none⟩) (a2).length a3)]) 23))), (5, (some (.cells (layT (rows rw_s a2)) 9))), (6, (some (.cells (layT [(Value.int .i64 a4)]) 3))), (7, (some (.cells (layT [(Value.int .i64 a5)]) 3))), (8, (some (.cells (layT [(Value.int .i64 a6)]) 3)))], 9, 9⟩
noncomputable def V_viewportlaw12FirstRows_111010y1 (a0 : Int) (a1 : Bool) (a2 : List (ByteArray)) (a3 : Nat) (a4 : Int) (a5 : Int) (a6 : Int) (a7 : ByteArray) (r : (Unit) ⊕ (Unit)) : Value := match r with
  | .inl _ => (Value.bool false)
  | .inr _ => (Value.bool true)
noncomputable def R_viewportlaw12FirstRows_111010y1 (a0 : Int) (a1 : Bool) (a2 : List (ByteArray)) (a3 : Nat) (a4 : Int) (a5 : Int) (a6 : Int) (a7 : ByteArray) (r : (Unit) ⊕ (Unit)) : AH := match r with
  | .inl _ => ⟨sB [(0, (some (rblk P 3 [false, true, false, true, true, true, true, true, true, true, true, true, true, true, true] .done (some (.exit 6)) [(5, (Value.pointer (some ⟨2, 0, none⟩))), (6, (Value.pointer (some ⟨3, 0, none⟩))), (7, (Value.pointer (some ⟨4, 0, none⟩))), (15, (Value.pointer (some ⟨6, 0, none⟩))), (140, (Value.func (.func 11) #[] #[(Value.pointer (some ⟨7, 0, none⟩)), (Value.pointer (some ⟨8, 0, none⟩))]))] 1))), (1, (some (.marks true))), (2, (some (.cells (layT [(Value.int .i64 a0)]) 3))), (3, (some (.cells (layT [(Value.bool a1)]) 4))), (4, (some (.cells (layT [(Value.slice (some ⟨5, 0, none⟩) (a2).length a3)]) 23))), (5, (some (.cells (layT (rows rw_s a2)) 9))), (6, (some (.cells (layT [(Value.int .i64 a4)]) 3))), (7, (some (.cells (layT [(Value.int .i64 a5)]) 3))), (8, (some (.cells (layT [(Value.int .i64 a6)]) 3)))], 9, 0⟩
  | .inr _ => ⟨sB [(0, (some (rblk P 3 [false, true, false, true, true, true, true, true, true, true, true, true, true, true, true] .ready none [(5, (Value.pointer (some ⟨2, 0, none⟩))), (6, (Value.pointer (some ⟨3, 0, none⟩))), (7, (Value.pointer (some ⟨4, 0, none⟩))), (15, (Value.pointer (some ⟨6, 0, none⟩))), (140, (Value.func (.func 11) #[] #[(Value.pointer (some ⟨7, 0, none⟩)), (Value.pointer (some ⟨8, 0, none⟩))]))] 1))), (1, (some (.marks true))), (2, (some (.cells (layT [(Value.int .i64 a0)]) 3))), (3, (some (.cells (layT [(Value.bool a1)]) 4))), (4, (some (.cells (layT [(Value.slice (some ⟨5, 0, none⟩) (a2).length a3)]) 23))), (5, (some (.cells (layT (rows rw_s a2)) 9))), (6, (some (.cells (layT [(Value.int .i64 (w64 (a4 + (1 : Int))))]) 3))), (7, (some (.cells (layT [(Value.int .i64 a5)]) 3))), (8, (some (.cells (layT [(Value.int .i64 a6)]) 3)))], 9, 0⟩
def m_viewportlaw12FirstRows_111010y1 (n : Nat) (a0 : Int) (a1 : Bool) (a2 : List (ByteArray)) (a3 : Nat) (a4 : Int) (a5 : Int) (a6 : Int) (a7 : ByteArray) : Option ((Unit) ⊕ (Unit)) :=
  if a4 = a0 then
    some (.inl ())
  else
    if 0 ≤ a4 ∧ a4 < (((a2).length : Nat) : Int) then
      if (a7).data.toList = (((a2).getD (a4).toNat (ByteArray.empty))).data.toList then
        some (.inr ())
      else
        none
    else none
set_option maxRecDepth 100000 in
theorem p_viewportlaw12FirstRows_111010y1_0 (n : Nat) (a0 : Int) (a1 : Bool) (a2 : List (ByteArray)) (a3 : Nat) (a4 : Int) (a5 : Int) (a6 : Int) (a7 : ByteArray) (hc1 : a4 = a0) : Gv P (.yield 0) (A_viewportlaw12FirstRows_111010y1 a0 a1 a2 a3 a4 a5 a6 a7) (H_viewportlaw12FirstRows_111010y1 a0 a1 a2 a3 a4 a5 a6 a7) (V_viewportlaw12FirstRows_111010y1 a0 a1 a2 a3 a4 a5 a6 a7 (.inl ())) (R_viewportlaw12FirstRows_111010y1 a0 a1 a2 a3 a4 a5 a6 a7 (.inl ())) :=
  runY_ok hm (A1 := aT []) (L1 := lT []) (A2 := aT [(5, .val (.bool true))]) (L2 := lT []) (wk := ⟨[], [(0, 0, false), (1, 1, false), (2, 2, false), (3, 3, false), (4, 4, false), (5, 5, true), (6, 6, false), (7, 7, false), (8, 8, false)], 9, 0⟩)
    (ps := [(Value.bool (a4 == a0)) = (Value.bool true),
    FlatB (.cells (layT (rows rw_s a2)) 9)]) (by kernel_rfl) ⟨(veT hc1), (rows_flat rwf_s _ _), trivial⟩
set_option maxRecDepth 100000 in
theorem p_viewportlaw12FirstRows_111010y1_1 (n : Nat) (a0 : Int) (a1 : Bool) (a2 : List (ByteArray)) (a3 : Nat) (a4 : Int) (a5 : Int) (a6 : Int) (a7 : ByteArray) (hc1 : ¬ (a4 = a0)) (hc2 : 0 ≤ a4 ∧ a4 < (((a2).length : Nat) : Int)) (hc3 : (a7).data.toList = (((a2).getD (a4).toNat (ByteArray.empty))).data.toList) : Gv P (.yield 0) (A_viewportlaw12FirstRows_111010y1 a0 a1 a2 a3 a4 a5 a6 a7) (H_viewportlaw12FirstRows_111010y1 a0 a1 a2 a3 a4 a5 a6 a7) (V_viewportlaw12FirstRows_111010y1 a0 a1 a2 a3 a4 a5 a6 a7 (.inr ())) (R_viewportlaw12FirstRows_111010y1 a0 a1 a2 a3 a4 a5 a6 a7 (.inr ())) :=
  runY_ok hm (A1 := aT []) (L1 := lT []) (A2 := aT [(5, .val (.bool false)), (12, .pur (Value.pointer (some ⟨5, ((a4).toNat * 1), none⟩))), (13, .ld (Value.string ((a2).getD (a4).toNat (ByteArray.empty)))), (14, .val (.bool false))]) (L2 := lT []) (wk := ⟨[], [(0, 0, false), (1, 1, false), (2, 2, false), (3, 3, false), (4, 4, false), (5, 5, true), (6, 6, false), (7, 7, false), (8, 8, false)], 9, 0⟩)
    (ps := [(Value.bool (a4 == a0)) = (Value.bool false),
    opIndexAddr P 23 (Value.slice (some ⟨5, 0, none⟩) (a2).length a3) (Value.int .i64 a4) Ax.h0 = some ((Value.pointer (some ⟨5, ((a4).toNat * 1), none⟩)), Ax.h0),
    (layT (rows rw_s a2)).get ((a4).toNat * 1) = some (Value.string ((a2).getD (a4).toNat (ByteArray.empty))),
    (Value.bool (!((a7).toList == (((a2).getD (a4).toNat (ByteArray.empty))).toList))) = (Value.bool false),
    FlatB (.cells (layT (rows rw_s a2)) 9)]) (by kernel_rfl) ⟨(veF hc1), (ixS (e := 9) (by kernel_rfl) (by kernel_rfl) (hc2).1 (hc2).2), (rows_ld rwf_s (ByteArray.empty) (i := (a4).toNat) (j := 0) ((a4).toNat * 1) rfl (toNatLt hc2) (by decide) rfl), (by rw [vsEqT hc3] <;> rfl), (rows_flat rwf_s _ _), trivial⟩
theorem m_viewportlaw12FirstRows_111010y1_ok (n : Nat) (a0 : Int) (a1 : Bool) (a2 : List (ByteArray)) (a3 : Nat) (a4 : Int) (a5 : Int) (a6 : Int) (a7 : ByteArray) (r : (Unit) ⊕ (Unit)) (h : m_viewportlaw12FirstRows_111010y1 n a0 a1 a2 a3 a4 a5 a6 a7 = some r) : Gv P (.yield 0) (A_viewportlaw12FirstRows_111010y1 a0 a1 a2 a3 a4 a5 a6 a7) (H_viewportlaw12FirstRows_111010y1 a0 a1 a2 a3 a4 a5 a6 a7) (V_viewportlaw12FirstRows_111010y1 a0 a1 a2 a3 a4 a5 a6 a7 r) (R_viewportlaw12FirstRows_111010y1 a0 a1 a2 a3 a4 a5 a6 a7 r) := by
  unfold m_viewportlaw12FirstRows_111010y1 at h
  by_cases hc1 : a4 = a0
  · rw [if_pos hc1] at h
    obtain rfl := Option.some.inj h; exact p_viewportlaw12FirstRows_111010y1_0 n a0 a1 a2 a3 a4 a5 a6 a7 hc1
  · rw [if_neg hc1] at h
    by_cases hc2 : 0 ≤ a4 ∧ a4 < (((a2).length : Nat) : Int)
    · rw [if_pos hc2] at h
      by_cases hc3 : (a7).data.toList = (((a2).getD (a4).toNat (ByteArray.empty))).data.toList
      · rw [if_pos hc3] at h
        obtain rfl := Option.some.inj h; exact p_viewportlaw12FirstRows_111010y1_1 n a0 a1 a2 a3 a4 a5 a6 a7 hc1 hc2 hc3
      · rw [if_neg hc3] at h
        cases h
    · rw [if_neg hc2] at h; cases h

noncomputable def A_firstRows1_1110y4 (a0 : Int) (a1 : Bool) (a2 : List (ByteArray)) (a3 : Nat) (a4 : Int) (a5 : Int) (a6 : Int) (a7 : Int) (a8 : Int) (a9 : List (Int)) : List Value := [(Value.slice (some ⟨14, 0, none⟩) (a9).length (Nat.add big 1))]
noncomputable def H_firstRows1_1110y4 (a0 : Int) (a1 : Bool) (a2 : List (ByteArray)) (a3 : Nat) (a4 : Int) (a5 : Int) (a6 : Int) (a7 : Int) (a8 : Int) (a9 : List (Int)) : AH := ⟨sB [(0, (some (rblk P 11 [false, true, true, true] .ready none [(3, (Value.pointer (some ⟨2, 0, none⟩))), (21, (Value.func (.func 17) #[] #[(Value.pointer (some ⟨12, 0, none⟩)), (Value.pointer (some ⟨13, 0, none⟩))]))] 1))), (1, (some (.marks true))), (2, (some (.cells (layT [(Value.func (.yield 3) #[] #[])]) 38))), (3, (some (rblk P 3 [false, true, false, true, true, true, true, true, true, true, true, true, true, true, true] .ready none [(5, (Value.pointer (some ⟨5, 0, none⟩))), (6, (Value.pointer (some ⟨6, 0, none⟩))), (7, (Value.pointer (some ⟨7, 0, none⟩))), (15, (Value.pointer (some ⟨9, 0, none⟩))), (140, (Value.func (.func 11) #[] #[(Value.pointer (some ⟨10, 0, none⟩)), (Value.pointer (some ⟨11, 0, none⟩))]))] 4))), (4, (some (.marks true))), (5, (some (.cells (layT [(Value.int .i64 a0)]) 3))), (6, (some (.cells (layT [(Value.bool a1)]) 4))), (7, (some (.cells (layT [(Value.slice (some ⟨8, 0, none⟩) (a2).length a3)]) 23))), (8, (some (.cells (layT (rows rw_s a2)) 9))), (9, (some (.cells (layT [(Value.int .i64 a4)]) 3))), (10, (some (.cells (layT [(Value.int .i64 a5)]) 3))), (11, (some (.cells (layT [(Value.int .i64 a6)]) 3))), (12, (some (.cells (layT [(Value.int .i64 a7)]) 3))), (13, (some (.cells (layT [(Value.int .i64 a8)]) 3))), (14, (some (.cells (layT (rows rw_y a9)) 5)))], 15, 15⟩
noncomputable def V_firstRows1_1110y4 (a0 : Int) (a1 : Bool) (a2 : List (ByteArray)) (a3 : Nat) (a4 : Int) (a5 : Int) (a6 : Int) (a7 : Int) (a8 : Int) (a9 : List (Int)) (r : (Unit) ⊕ (Unit)) : Value := match r with
  | .inl _ => (Value.bool false)
  | .inr _ => (Value.bool true)
noncomputable def R_firstRows1_1110y4 (a0 : Int) (a1 : Bool) (a2 : List (ByteArray)) (a3 : Nat) (a4 : Int) (a5 : Int) (a6 : Int) (a7 : Int) (a8 : Int) (a9 : List (Int)) (r : (Unit) ⊕ (Unit)) : AH := match r with
  | .inl _ => ⟨sB [(0, (some (rblk P 11 [false, true, true, true] .done (some .ret) [(3, (Value.pointer (some ⟨2, 0, none⟩))), (21, (Value.func (.func 17) #[] #[(Value.pointer (some ⟨12, 0, none⟩)), (Value.pointer (some ⟨13, 0, none⟩))]))] 1))), (1, (some (.marks true))), (2, (some (.cells (layT [(Value.func (.yield 3) #[] #[])]) 38))), (3, (some (rblk P 3 [false, true, false, true, true, true, true, true, true, true, true, true, true, true, true] .done (some (.exit 6)) [(5, (Value.pointer (some ⟨5, 0, none⟩))), (6, (Value.pointer (some ⟨6, 0, none⟩))), (7, (Value.pointer (some ⟨7, 0, none⟩))), (15, (Value.pointer (some ⟨9, 0, none⟩))), (140, (Value.func (.func 11) #[] #[(Value.pointer (some ⟨10, 0, none⟩)), (Value.pointer (some ⟨11, 0, none⟩))]))] 4))), (4, (some (.marks true))), (5, (some (.cells (layT [(Value.int .i64 a0)]) 3))), (6, (some (.cells (layT [(Value.bool a1)]) 4))), (7, (some (.cells (layT [(Value.slice (some ⟨8, 0, none⟩) (a2).length a3)]) 23))), (8, (some (.cells (layT (rows rw_s a2)) 9))), (9, (some (.cells (layT [(Value.int .i64 a4)]) 3))), (10, (some (.cells (layT [(Value.int .i64 a5)]) 3))), (11, (some (.cells (layT [(Value.int .i64 a6)]) 3))), (12, (some (.cells (layT [(Value.int .i64 a7)]) 3))), (13, (some (.cells (layT [(Value.int .i64 a8)]) 3))), (14, (some (.cells (layT (rows rw_y a9)) 5)))], 15, 0⟩
  | .inr _ => ⟨sB [(0, (some (rblk P 11 [false, true, true, true] .ready none [(3, (Value.pointer (some ⟨2, 0, none⟩))), (21, (Value.func (.func 17) #[] #[(Value.pointer (some ⟨12, 0, none⟩)), (Value.pointer (some ⟨13, 0, none⟩))]))] 1))), (1, (some (.marks true))), (2, (some (.cells (layT [(Value.func (.yield 3) #[] #[])]) 38))), (3, (some (rblk P 3 [false, true, false, true, true, true, true, true, true, true, true, true, true, true, true] .ready none [(5, (Value.pointer (some ⟨5, 0, none⟩))), (6, (Value.pointer (some ⟨6, 0, none⟩))), (7, (Value.pointer (some ⟨7, 0, none⟩))), (15, (Value.pointer (some ⟨9, 0, none⟩))), (140, (Value.func (.func 11) #[] #[(Value.pointer (some ⟨10, 0, none⟩)), (Value.pointer (some ⟨11, 0, none⟩))]))] 4))), (4, (some (.marks true))), (5, (some (.cells (layT [(Value.int .i64 a0)]) 3))), (6, (some (.cells (layT [(Value.bool a1)]) 4))), (7, (some (.cells (layT [(Value.slice (some ⟨8, 0, none⟩) (a2).length a3)]) 23))), (8, (some (.cells (layT (rows rw_s a2)) 9))), (9, (some (.cells (layT [(Value.int .i64 (w64 (a4 + (1 : Int))))]) 3))), (10, (some (.cells (layT [(Value.int .i64 a5)]) 3))), (11, (some (.cells (layT [(Value.int .i64 a6)]) 3))), (12, (some (.cells (layT [(Value.int .i64 a7)]) 3))), (13, (some (.cells (layT [(Value.int .i64 a8)]) 3))), (14, (some (.cells (layT (rows rw_y a9)) 5)))], 15, 0⟩
def m_firstRows1_1110y4 (n : Nat) (a0 : Int) (a1 : Bool) (a2 : List (ByteArray)) (a3 : Nat) (a4 : Int) (a5 : Int) (a6 : Int) (a7 : Int) (a8 : Int) (a9 : List (Int)) : Option ((Unit) ⊕ (Unit)) :=
  match m_viewportlaw12FirstRows_111010y1 n a0 a1 a2 a3 a4 a5 a6 (txtOf (List.take (a9).length a9)) with
  | none => none
  | some (.inl _) =>
    some (.inl ())
  | some (.inr _) =>
    some (.inr ())
set_option maxRecDepth 100000 in
theorem p_firstRows1_1110y4_0 (n : Nat) (a0 : Int) (a1 : Bool) (a2 : List (ByteArray)) (a3 : Nat) (a4 : Int) (a5 : Int) (a6 : Int) (a7 : Int) (a8 : Int) (a9 : List (Int)) (hc1 : m_viewportlaw12FirstRows_111010y1 n a0 a1 a2 a3 a4 a5 a6 (txtOf (List.take (a9).length a9)) = some (.inl ())) : Gv P (.yield 0) (A_firstRows1_1110y4 a0 a1 a2 a3 a4 a5 a6 a7 a8 a9) (H_firstRows1_1110y4 a0 a1 a2 a3 a4 a5 a6 a7 a8 a9) (V_firstRows1_1110y4 a0 a1 a2 a3 a4 a5 a6 a7 a8 a9 (.inl ())) (R_firstRows1_1110y4 a0 a1 a2 a3 a4 a5 a6 a7 a8 a9 (.inl ())) :=
  runY_ok hm (A1 := aT []) (L1 := lT []) (A2 := aT [(4, .str (Value.string (txtOf (List.take (a9).length a9)))), (5, .call ⟨9, [(0, 3, false), (1, 4, false), (2, 5, false), (3, 6, false), (4, 7, false), (5, 8, true), (6, 9, false), (7, 10, false), (8, 11, false)], (V_viewportlaw12FirstRows_111010y1 a0 a1 a2 a3 a4 a5 a6 (txtOf (List.take (a9).length a9)) (.inl ())), (R_viewportlaw12FirstRows_111010y1 a0 a1 a2 a3 a4 a5 a6 (txtOf (List.take (a9).length a9)) (.inl ())), [(3, 0, false), (4, 1, false), (5, 2, false), (6, 3, false), (7, 4, false), (8, 5, true), (9, 6, false), (10, 7, false), (11, 8, false)]⟩)]) (L2 := lT []) (wk := ⟨[], [(0, 0, false), (1, 1, false), (2, 2, false), (3, 3, false), (4, 4, false), (5, 5, false), (6, 6, false), (7, 7, false), (8, 8, true), (9, 9, false), (10, 10, false), (11, 11, false), (12, 12, false), (13, 13, false), (14, 14, true)], 15, 0⟩)
    (ps := [∃ r, (oc (rdT (layT (rows rw_y a9)) (a9).length 0) none fun l => bytesL l) = some r ∧ (Value.string (txtOf (List.take (a9).length a9))) = .string ⟨⟨r⟩⟩,
    Gv P (.yield 0) (A_viewportlaw12FirstRows_111010y1 a0 a1 a2 a3 a4 a5 a6 (txtOf (List.take (a9).length a9))) (H_viewportlaw12FirstRows_111010y1 a0 a1 a2 a3 a4 a5 a6 (txtOf (List.take (a9).length a9))) (V_viewportlaw12FirstRows_111010y1 a0 a1 a2 a3 a4 a5 a6 (txtOf (List.take (a9).length a9)) (.inl ())) (R_viewportlaw12FirstRows_111010y1 a0 a1 a2 a3 a4 a5 a6 (txtOf (List.take (a9).length a9)) (.inl ())),
    FlatB (.cells (layT (rows rw_s a2)) 9),
    FlatB (.cells (layT (rows rw_s a2)) 9),
    FlatB (.cells (layT (rows rw_s a2)) 9),
    FlatB (.cells (layT (rows rw_y a9)) 5)]) (by kernel_rfl) ⟨(str_rows rwf_y (fun _ => rfl) _ _ (Nat.le_refl _)), (m_viewportlaw12FirstRows_111010y1_ok n a0 a1 a2 a3 a4 a5 a6 (txtOf (List.take (a9).length a9)) (.inl ()) hc1), (rows_flat rwf_s _ _), (rows_flat rwf_s _ _), (rows_flat rwf_s _ _), (rows_flat rwf_y _ _), trivial⟩
set_option maxRecDepth 100000 in
theorem p_firstRows1_1110y4_1 (n : Nat) (a0 : Int) (a1 : Bool) (a2 : List (ByteArray)) (a3 : Nat) (a4 : Int) (a5 : Int) (a6 : Int) (a7 : Int) (a8 : Int) (a9 : List (Int)) (hc1 : m_viewportlaw12FirstRows_111010y1 n a0 a1 a2 a3 a4 a5 a6 (txtOf (List.take (a9).length a9)) = some (.inr ())) : Gv P (.yield 0) (A_firstRows1_1110y4 a0 a1 a2 a3 a4 a5 a6 a7 a8 a9) (H_firstRows1_1110y4 a0 a1 a2 a3 a4 a5 a6 a7 a8 a9) (V_firstRows1_1110y4 a0 a1 a2 a3 a4 a5 a6 a7 a8 a9 (.inr ())) (R_firstRows1_1110y4 a0 a1 a2 a3 a4 a5 a6 a7 a8 a9 (.inr ())) :=
  runY_ok hm (A1 := aT []) (L1 := lT []) (A2 := aT [(4, .str (Value.string (txtOf (List.take (a9).length a9)))), (5, .call ⟨9, [(0, 3, false), (1, 4, false), (2, 5, false), (3, 6, false), (4, 7, false), (5, 8, true), (6, 9, false), (7, 10, false), (8, 11, false)], (V_viewportlaw12FirstRows_111010y1 a0 a1 a2 a3 a4 a5 a6 (txtOf (List.take (a9).length a9)) (.inr ())), (R_viewportlaw12FirstRows_111010y1 a0 a1 a2 a3 a4 a5 a6 (txtOf (List.take (a9).length a9)) (.inr ())), [(3, 0, false), (4, 1, false), (5, 2, false), (6, 3, false), (7, 4, false), (8, 5, true), (9, 6, false), (10, 7, false), (11, 8, false)]⟩)]) (L2 := lT []) (wk := ⟨[], [(0, 0, false), (1, 1, false), (2, 2, false), (3, 3, false), (4, 4, false), (5, 5, false), (6, 6, false), (7, 7, false), (8, 8, true), (9, 9, false), (10, 10, false), (11, 11, false), (12, 12, false), (13, 13, false), (14, 14, true)], 15, 0⟩)
    (ps := [∃ r, (oc (rdT (layT (rows rw_y a9)) (a9).length 0) none fun l => bytesL l) = some r ∧ (Value.string (txtOf (List.take (a9).length a9))) = .string ⟨⟨r⟩⟩,
    Gv P (.yield 0) (A_viewportlaw12FirstRows_111010y1 a0 a1 a2 a3 a4 a5 a6 (txtOf (List.take (a9).length a9))) (H_viewportlaw12FirstRows_111010y1 a0 a1 a2 a3 a4 a5 a6 (txtOf (List.take (a9).length a9))) (V_viewportlaw12FirstRows_111010y1 a0 a1 a2 a3 a4 a5 a6 (txtOf (List.take (a9).length a9)) (.inr ())) (R_viewportlaw12FirstRows_111010y1 a0 a1 a2 a3 a4 a5 a6 (txtOf (List.take (a9).length a9)) (.inr ())),
    FlatB (.cells (layT (rows rw_s a2)) 9),
    FlatB (.cells (layT (rows rw_s a2)) 9),
    FlatB (.cells (layT (rows rw_s a2)) 9),
    FlatB (.cells (layT (rows rw_y a9)) 5)]) (by kernel_rfl) ⟨(str_rows rwf_y (fun _ => rfl) _ _ (Nat.le_refl _)), (m_viewportlaw12FirstRows_111010y1_ok n a0 a1 a2 a3 a4 a5 a6 (txtOf (List.take (a9).length a9)) (.inr ()) hc1), (rows_flat rwf_s _ _), (rows_flat rwf_s _ _), (rows_flat rwf_s _ _), (rows_flat rwf_y _ _), trivial⟩
theorem m_firstRows1_1110y4_ok (n : Nat) (a0 : Int) (a1 : Bool) (a2 : List (ByteArray)) (a3 : Nat) (a4 : Int) (a5 : Int) (a6 : Int) (a7 : Int) (a8 : Int) (a9 : List (Int)) (r : (Unit) ⊕ (Unit)) (h : m_firstRows1_1110y4 n a0 a1 a2 a3 a4 a5 a6 a7 a8 a9 = some r) : Gv P (.yield 0) (A_firstRows1_1110y4 a0 a1 a2 a3 a4 a5 a6 a7 a8 a9) (H_firstRows1_1110y4 a0 a1 a2 a3 a4 a5 a6 a7 a8 a9) (V_firstRows1_1110y4 a0 a1 a2 a3 a4 a5 a6 a7 a8 a9 r) (R_firstRows1_1110y4 a0 a1 a2 a3 a4 a5 a6 a7 a8 a9 r) := by
  unfold m_firstRows1_1110y4 at h
  rcases hc1 : m_viewportlaw12FirstRows_111010y1 n a0 a1 a2 a3 a4 a5 a6 (txtOf (List.take (a9).length a9)) with _ | (⟨⟩ | ⟨⟩)
  · rw [hc1] at h; cases h
  · rw [hc1] at h
    dsimp only at h
    obtain rfl := Option.some.inj h; exact p_firstRows1_1110y4_0 n a0 a1 a2 a3 a4 a5 a6 a7 a8 a9 hc1
  · rw [hc1] at h
    dsimp only at h
    obtain rfl := Option.some.inj h; exact p_firstRows1_1110y4_1 n a0 a1 a2 a3 a4 a5 a6 a7 a8 a9 hc1

noncomputable def A_firstRows1_1110y5 (a0 : Int) (a1 : Bool) (a2 : List (ByteArray)) (a3 : Nat) (a4 : Int) (a5 : Int) (a6 : Int) (a7 : Int) (a8 : Int) (a9 : List (Int)) (a10 : Nat) : List Value := [(Value.slice (some ⟨14, 0, none⟩) a10 (Nat.add big 1))]
noncomputable def H_firstRows1_1110y5 (a0 : Int) (a1 : Bool) (a2 : List (ByteArray)) (a3 : Nat) (a4 : Int) (a5 : Int) (a6 : Int) (a7 : Int) (a8 : Int) (a9 : List (Int)) (a10 : Nat) : AH := ⟨sB [(0, (some (rblk P 11 [false, true, true, true] .ready none [(3, (Value.pointer (some ⟨2, 0, none⟩))), (21, (Value.func (.func 17) #[] #[(Value.pointer (some ⟨12, 0, none⟩)), (Value.pointer (some ⟨13, 0, none⟩))]))] 1))), (1, (some (.marks true))), (2, (some (.cells (layT [(Value.func (.yield 3) #[] #[])]) 38))), (3, (some (rblk P 3 [false, true, false, true, true, true, true, true, true, true, true, true, true, true, true] .ready none [(5, (Value.pointer (some ⟨5, 0, none⟩))), (6, (Value.pointer (some ⟨6, 0, none⟩))), (7, (Value.pointer (some ⟨7, 0, none⟩))), (15, (Value.pointer (some ⟨9, 0, none⟩))), (140, (Value.func (.func 11) #[] #[(Value.pointer (some ⟨10, 0, none⟩)), (Value.pointer (some ⟨11, 0, none⟩))]))] 4))), (4, (some (.marks true))), (5, (some (.cells (layT [(Value.int .i64 a0)]) 3))), (6, (some (.cells (layT [(Value.bool a1)]) 4))), (7, (some (.cells (layT [(Value.slice (some ⟨8, 0, none⟩) (a2).length a3)]) 23))), (8, (some (.cells (layT (rows rw_s a2)) 9))), (9, (some (.cells (layT [(Value.int .i64 a4)]) 3))), (10, (some (.cells (layT [(Value.int .i64 a5)]) 3))), (11, (some (.cells (layT [(Value.int .i64 a6)]) 3))), (12, (some (.cells (layT [(Value.int .i64 a7)]) 3))), (13, (some (.cells (layT [(Value.int .i64 a8)]) 3))), (14, (some (.cells (layT (rows rw_y a9)) 5)))], 15, 15⟩
noncomputable def V_firstRows1_1110y5 (a0 : Int) (a1 : Bool) (a2 : List (ByteArray)) (a3 : Nat) (a4 : Int) (a5 : Int) (a6 : Int) (a7 : Int) (a8 : Int) (a9 : List (Int)) (a10 : Nat) (r : (Unit) ⊕ (Unit)) : Value := match r with
  | .inl _ => (Value.bool false)
  | .inr _ => (Value.bool true)
noncomputable def R_firstRows1_1110y5 (a0 : Int) (a1 : Bool) (a2 : List (ByteArray)) (a3 : Nat) (a4 : Int) (a5 : Int) (a6 : Int) (a7 : Int) (a8 : Int) (a9 : List (Int)) (a10 : Nat) (r : (Unit) ⊕ (Unit)) : AH := match r with
  | .inl _ => ⟨sB [(0, (some (rblk P 11 [false, true, true, true] .done (some .ret) [(3, (Value.pointer (some ⟨2, 0, none⟩))), (21, (Value.func (.func 17) #[] #[(Value.pointer (some ⟨12, 0, none⟩)), (Value.pointer (some ⟨13, 0, none⟩))]))] 1))), (1, (some (.marks true))), (2, (some (.cells (layT [(Value.func (.yield 3) #[] #[])]) 38))), (3, (some (rblk P 3 [false, true, false, true, true, true, true, true, true, true, true, true, true, true, true] .done (some (.exit 6)) [(5, (Value.pointer (some ⟨5, 0, none⟩))), (6, (Value.pointer (some ⟨6, 0, none⟩))), (7, (Value.pointer (some ⟨7, 0, none⟩))), (15, (Value.pointer (some ⟨9, 0, none⟩))), (140, (Value.func (.func 11) #[] #[(Value.pointer (some ⟨10, 0, none⟩)), (Value.pointer (some ⟨11, 0, none⟩))]))] 4))), (4, (some (.marks true))), (5, (some (.cells (layT [(Value.int .i64 a0)]) 3))), (6, (some (.cells (layT [(Value.bool a1)]) 4))), (7, (some (.cells (layT [(Value.slice (some ⟨8, 0, none⟩) (a2).length a3)]) 23))), (8, (some (.cells (layT (rows rw_s a2)) 9))), (9, (some (.cells (layT [(Value.int .i64 a4)]) 3))), (10, (some (.cells (layT [(Value.int .i64 a5)]) 3))), (11, (some (.cells (layT [(Value.int .i64 a6)]) 3))), (12, (some (.cells (layT [(Value.int .i64 a7)]) 3))), (13, (some (.cells (layT [(Value.int .i64 a8)]) 3))), (14, (some (.cells (layT (rows rw_y a9)) 5)))], 15, 0⟩
  | .inr _ => ⟨sB [(0, (some (rblk P 11 [false, true, true, true] .ready none [(3, (Value.pointer (some ⟨2, 0, none⟩))), (21, (Value.func (.func 17) #[] #[(Value.pointer (some ⟨12, 0, none⟩)), (Value.pointer (some ⟨13, 0, none⟩))]))] 1))), (1, (some (.marks true))), (2, (some (.cells (layT [(Value.func (.yield 3) #[] #[])]) 38))), (3, (some (rblk P 3 [false, true, false, true, true, true, true, true, true, true, true, true, true, true, true] .ready none [(5, (Value.pointer (some ⟨5, 0, none⟩))), (6, (Value.pointer (some ⟨6, 0, none⟩))), (7, (Value.pointer (some ⟨7, 0, none⟩))), (15, (Value.pointer (some ⟨9, 0, none⟩))), (140, (Value.func (.func 11) #[] #[(Value.pointer (some ⟨10, 0, none⟩)), (Value.pointer (some ⟨11, 0, none⟩))]))] 4))), (4, (some (.marks true))), (5, (some (.cells (layT [(Value.int .i64 a0)]) 3))), (6, (some (.cells (layT [(Value.bool a1)]) 4))), (7, (some (.cells (layT [(Value.slice (some ⟨8, 0, none⟩) (a2).length a3)]) 23))), (8, (some (.cells (layT (rows rw_s a2)) 9))), (9, (some (.cells (layT [(Value.int .i64 (w64 (a4 + (1 : Int))))]) 3))), (10, (some (.cells (layT [(Value.int .i64 a5)]) 3))), (11, (some (.cells (layT [(Value.int .i64 a6)]) 3))), (12, (some (.cells (layT [(Value.int .i64 a7)]) 3))), (13, (some (.cells (layT [(Value.int .i64 a8)]) 3))), (14, (some (.cells (layT (rows rw_y a9)) 5)))], 15, 0⟩
def m_firstRows1_1110y5 (n : Nat) (a0 : Int) (a1 : Bool) (a2 : List (ByteArray)) (a3 : Nat) (a4 : Int) (a5 : Int) (a6 : Int) (a7 : Int) (a8 : Int) (a9 : List (Int)) (a10 : Nat) : Option ((Unit) ⊕ (Unit)) :=
  if a10 ≤ (a9).length then
    match m_viewportlaw12FirstRows_111010y1 n a0 a1 a2 a3 a4 a5 a6 (txtOf (List.take a10 a9)) with
    | none => none
    | some (.inl _) =>
      some (.inl ())
    | some (.inr _) =>
      some (.inr ())
  else none
set_option maxRecDepth 100000 in
theorem p_firstRows1_1110y5_0 (n : Nat) (a0 : Int) (a1 : Bool) (a2 : List (ByteArray)) (a3 : Nat) (a4 : Int) (a5 : Int) (a6 : Int) (a7 : Int) (a8 : Int) (a9 : List (Int)) (a10 : Nat) (hc1 : a10 ≤ (a9).length) (hc2 : m_viewportlaw12FirstRows_111010y1 n a0 a1 a2 a3 a4 a5 a6 (txtOf (List.take a10 a9)) = some (.inl ())) : Gv P (.yield 0) (A_firstRows1_1110y5 a0 a1 a2 a3 a4 a5 a6 a7 a8 a9 a10) (H_firstRows1_1110y5 a0 a1 a2 a3 a4 a5 a6 a7 a8 a9 a10) (V_firstRows1_1110y5 a0 a1 a2 a3 a4 a5 a6 a7 a8 a9 a10 (.inl ())) (R_firstRows1_1110y5 a0 a1 a2 a3 a4 a5 a6 a7 a8 a9 a10 (.inl ())) :=
  runY_ok hm (A1 := aT []) (L1 := lT []) (A2 := aT [(4, .str (Value.string (txtOf (List.take a10 a9)))), (5, .call ⟨9, [(0, 3, false), (1, 4, false), (2, 5, false), (3, 6, false), (4, 7, false), (5, 8, true), (6, 9, false), (7, 10, false), (8, 11, false)], (V_viewportlaw12FirstRows_111010y1 a0 a1 a2 a3 a4 a5 a6 (txtOf (List.take a10 a9)) (.inl ())), (R_viewportlaw12FirstRows_111010y1 a0 a1 a2 a3 a4 a5 a6 (txtOf (List.take a10 a9)) (.inl ())), [(3, 0, false), (4, 1, false), (5, 2, false), (6, 3, false), (7, 4, false), (8, 5, true), (9, 6, false), (10, 7, false), (11, 8, false)]⟩)]) (L2 := lT []) (wk := ⟨[], [(0, 0, false), (1, 1, false), (2, 2, false), (3, 3, false), (4, 4, false), (5, 5, false), (6, 6, false), (7, 7, false), (8, 8, true), (9, 9, false), (10, 10, false), (11, 11, false), (12, 12, false), (13, 13, false), (14, 14, true)], 15, 0⟩)
    (ps := [∃ r, (oc (rdT (layT (rows rw_y a9)) a10 0) none fun l => bytesL l) = some r ∧ (Value.string (txtOf (List.take a10 a9))) = .string ⟨⟨r⟩⟩,
    Gv P (.yield 0) (A_viewportlaw12FirstRows_111010y1 a0 a1 a2 a3 a4 a5 a6 (txtOf (List.take a10 a9))) (H_viewportlaw12FirstRows_111010y1 a0 a1 a2 a3 a4 a5 a6 (txtOf (List.take a10 a9))) (V_viewportlaw12FirstRows_111010y1 a0 a1 a2 a3 a4 a5 a6 (txtOf (List.take a10 a9)) (.inl ())) (R_viewportlaw12FirstRows_111010y1 a0 a1 a2 a3 a4 a5 a6 (txtOf (List.take a10 a9)) (.inl ())),
    FlatB (.cells (layT (rows rw_s a2)) 9),
    FlatB (.cells (layT (rows rw_s a2)) 9),
    FlatB (.cells (layT (rows rw_s a2)) 9),
    FlatB (.cells (layT (rows rw_y a9)) 5)]) (by kernel_rfl) ⟨(str_rows rwf_y (fun _ => rfl) _ _ hc1), (m_viewportlaw12FirstRows_111010y1_ok n a0 a1 a2 a3 a4 a5 a6 (txtOf (List.take a10 a9)) (.inl ()) hc2), (rows_flat rwf_s _ _), (rows_flat rwf_s _ _), (rows_flat rwf_s _ _), (rows_flat rwf_y _ _), trivial⟩
set_option maxRecDepth 100000 in
theorem p_firstRows1_1110y5_1 (n : Nat) (a0 : Int) (a1 : Bool) (a2 : List (ByteArray)) (a3 : Nat) (a4 : Int) (a5 : Int) (a6 : Int) (a7 : Int) (a8 : Int) (a9 : List (Int)) (a10 : Nat) (hc1 : a10 ≤ (a9).length) (hc2 : m_viewportlaw12FirstRows_111010y1 n a0 a1 a2 a3 a4 a5 a6 (txtOf (List.take a10 a9)) = some (.inr ())) : Gv P (.yield 0) (A_firstRows1_1110y5 a0 a1 a2 a3 a4 a5 a6 a7 a8 a9 a10) (H_firstRows1_1110y5 a0 a1 a2 a3 a4 a5 a6 a7 a8 a9 a10) (V_firstRows1_1110y5 a0 a1 a2 a3 a4 a5 a6 a7 a8 a9 a10 (.inr ())) (R_firstRows1_1110y5 a0 a1 a2 a3 a4 a5 a6 a7 a8 a9 a10 (.inr ())) :=
  runY_ok hm (A1 := aT []) (L1 := lT []) (A2 := aT [(4, .str (Value.string (txtOf (List.take a10 a9)))), (5, .call ⟨9, [(0, 3, false), (1, 4, false), (2, 5, false), (3, 6, false), (4, 7, false), (5, 8, true), (6, 9, false), (7, 10, false), (8, 11, false)], (V_viewportlaw12FirstRows_111010y1 a0 a1 a2 a3 a4 a5 a6 (txtOf (List.take a10 a9)) (.inr ())), (R_viewportlaw12FirstRows_111010y1 a0 a1 a2 a3 a4 a5 a6 (txtOf (List.take a10 a9)) (.inr ())), [(3, 0, false), (4, 1, false), (5, 2, false), (6, 3, false), (7, 4, false), (8, 5, true), (9, 6, false), (10, 7, false), (11, 8, false)]⟩)]) (L2 := lT []) (wk := ⟨[], [(0, 0, false), (1, 1, false), (2, 2, false), (3, 3, false), (4, 4, false), (5, 5, false), (6, 6, false), (7, 7, false), (8, 8, true), (9, 9, false), (10, 10, false), (11, 11, false), (12, 12, false), (13, 13, false), (14, 14, true)], 15, 0⟩)
    (ps := [∃ r, (oc (rdT (layT (rows rw_y a9)) a10 0) none fun l => bytesL l) = some r ∧ (Value.string (txtOf (List.take a10 a9))) = .string ⟨⟨r⟩⟩,
    Gv P (.yield 0) (A_viewportlaw12FirstRows_111010y1 a0 a1 a2 a3 a4 a5 a6 (txtOf (List.take a10 a9))) (H_viewportlaw12FirstRows_111010y1 a0 a1 a2 a3 a4 a5 a6 (txtOf (List.take a10 a9))) (V_viewportlaw12FirstRows_111010y1 a0 a1 a2 a3 a4 a5 a6 (txtOf (List.take a10 a9)) (.inr ())) (R_viewportlaw12FirstRows_111010y1 a0 a1 a2 a3 a4 a5 a6 (txtOf (List.take a10 a9)) (.inr ())),
    FlatB (.cells (layT (rows rw_s a2)) 9),
    FlatB (.cells (layT (rows rw_s a2)) 9),
    FlatB (.cells (layT (rows rw_s a2)) 9),
    FlatB (.cells (layT (rows rw_y a9)) 5)]) (by kernel_rfl) ⟨(str_rows rwf_y (fun _ => rfl) _ _ hc1), (m_viewportlaw12FirstRows_111010y1_ok n a0 a1 a2 a3 a4 a5 a6 (txtOf (List.take a10 a9)) (.inr ()) hc2), (rows_flat rwf_s _ _), (rows_flat rwf_s _ _), (rows_flat rwf_s _ _), (rows_flat rwf_y _ _), trivial⟩
theorem m_firstRows1_1110y5_ok (n : Nat) (a0 : Int) (a1 : Bool) (a2 : List (ByteArray)) (a3 : Nat) (a4 : Int) (a5 : Int) (a6 : Int) (a7 : Int) (a8 : Int) (a9 : List (Int)) (a10 : Nat) (r : (Unit) ⊕ (Unit)) (h : m_firstRows1_1110y5 n a0 a1 a2 a3 a4 a5 a6 a7 a8 a9 a10 = some r) : Gv P (.yield 0) (A_firstRows1_1110y5 a0 a1 a2 a3 a4 a5 a6 a7 a8 a9 a10) (H_firstRows1_1110y5 a0 a1 a2 a3 a4 a5 a6 a7 a8 a9 a10) (V_firstRows1_1110y5 a0 a1 a2 a3 a4 a5 a6 a7 a8 a9 a10 r) (R_firstRows1_1110y5 a0 a1 a2 a3 a4 a5 a6 a7 a8 a9 a10 r) := by
  unfold m_firstRows1_1110y5 at h
  by_cases hc1 : a10 ≤ (a9).length
  · rw [if_pos hc1] at h
    rcases hc2 : m_viewportlaw12FirstRows_111010y1 n a0 a1 a2 a3 a4 a5 a6 (txtOf (List.take a10 a9)) with _ | (⟨⟩ | ⟨⟩)
    · rw [hc2] at h; cases h
    · rw [hc2] at h
      dsimp only at h
      obtain rfl := Option.some.inj h; exact p_firstRows1_1110y5_0 n a0 a1 a2 a3 a4 a5 a6 a7 a8 a9 a10 hc1 hc2
    · rw [hc2] at h
      dsimp only at h
      obtain rfl := Option.some.inj h; exact p_firstRows1_1110y5_1 n a0 a1 a2 a3 a4 a5 a6 a7 a8 a9 a10 hc1 hc2
  · rw [if_neg hc1] at h; cases h

noncomputable def S_firstclock1q2_1 (x1_0 : Int) (x1_1 : Bool) (x1_2 : List (ByteArray)) (x1_3 : Nat) (x1_5 : Int) (x1_6 : Int) (x1_7 : Int) (x1_8 : Int) (st : Int × List (Int) × Nat) : XSt := match st with
  | (x1_4, x1_9, x1_10) => (sT 20 [(0, (Value.func (.yield 0) #[] #[])), (1, (Value.pointer (some ⟨12, 0, none⟩))), (2, (Value.pointer (some ⟨13, 0, none⟩))), (4, (slQ x1_9 14 x1_10 1))], [], ⟨sB [(0, (some (rblk P 11 [false, true, true, true] .ready none [(3, (Value.pointer (some ⟨2, 0, none⟩))), (21, (Value.func (.func 17) #[] #[(Value.pointer (some ⟨12, 0, none⟩)), (Value.pointer (some ⟨13, 0, none⟩))]))] 1))), (1, (some (.marks true))), (2, (some (.cells (layT [(Value.func (.yield 3) #[] #[])]) 38))), (3, (some (rblk P 3 [false, true, false, true, true, true, true, true, true, true, true, true, true, true, true] .ready none [(5, (Value.pointer (some ⟨5, 0, none⟩))), (6, (Value.pointer (some ⟨6, 0, none⟩))), (7, (Value.pointer (some ⟨7, 0, none⟩))), (15, (Value.pointer (some ⟨9, 0, none⟩))), (140, (Value.func (.func 11) #[] #[(Value.pointer (some ⟨10, 0, none⟩)), (Value.pointer (some ⟨11, 0, none⟩))]))] 4))), (4, (some (.marks true))), (5, (some (.cells (layT [(Value.int .i64 x1_0)]) 3))), (6, (some (.cells (layT [(Value.bool x1_1)]) 4))), (7, (some (.cells (layT [(Value.slice (some ⟨8, 0, none⟩) (x1_2).length x1_3)]) 23))), (8, (some (.cells (layT (rows rw_s x1_2)) 9))), (9, (some (.cells (layT [(Value.int .i64 x1_4)]) 3))), (10, (some (.cells (layT [(Value.int .i64 x1_5)]) 3))), (11, (some (.cells (layT [(Value.int .i64 x1_6)]) 3))), (12, (some (.cells (layT [(Value.int .i64 x1_7)]) 3))), (13, (some (.cells (layT [(Value.int .i64 x1_8)]) 3))), (14, (nblkR rw_y x1_9 5))], 15, 0⟩)
noncomputable def X_firstclock1q2_1 (x1_0 : Int) (x1_1 : Bool) (x1_2 : List (ByteArray)) (x1_3 : Nat) (x1_5 : Int) (x1_6 : Int) (x1_7 : Int) (x1_8 : Int) (r : (Int) ⊕ (Int)) : Ex × XSt := match r with
  | .inl z1_0 => (.exit 0, (sT 20 [], [], ⟨sB [(0, (some (rblk P 11 [false, true, true, true] .ready none [(3, (Value.pointer (some ⟨2, 0, none⟩))), (21, (Value.func (.func 17) #[] #[(Value.pointer (some ⟨12, 0, none⟩)), (Value.pointer (some ⟨13, 0, none⟩))]))] 1))), (1, (some (.marks true))), (2, (some (.cells (layT [(Value.func (.yield 3) #[] #[])]) 38))), (3, (some (rblk P 3 [false, true, false, true, true, true, true, true, true, true, true, true, true, true, true] .ready none [(5, (Value.pointer (some ⟨5, 0, none⟩))), (6, (Value.pointer (some ⟨6, 0, none⟩))), (7, (Value.pointer (some ⟨7, 0, none⟩))), (15, (Value.pointer (some ⟨9, 0, none⟩))), (140, (Value.func (.func 11) #[] #[(Value.pointer (some ⟨10, 0, none⟩)), (Value.pointer (some ⟨11, 0, none⟩))]))] 4))), (4, (some (.marks true))), (5, (some (.cells (layT [(Value.int .i64 x1_0)]) 3))), (6, (some (.cells (layT [(Value.bool x1_1)]) 4))), (7, (some (.cells (layT [(Value.slice (some ⟨8, 0, none⟩) (x1_2).length x1_3)]) 23))), (8, (some (.cells (layT (rows rw_s x1_2)) 9))), (9, (some (.cells (layT [(Value.int .i64 z1_0)]) 3))), (10, (some (.cells (layT [(Value.int .i64 x1_5)]) 3))), (11, (some (.cells (layT [(Value.int .i64 x1_6)]) 3))), (12, (some (.cells (layT [(Value.int .i64 x1_7)]) 3))), (13, (some (.cells (layT [(Value.int .i64 x1_8)]) 3)))], 14, 0⟩))
  | .inr z1_0 => (.exit 0, (sT 20 [], [], ⟨sB [(0, (some (rblk P 11 [false, true, true, true] .done (some .ret) [(3, (Value.pointer (some ⟨2, 0, none⟩))), (21, (Value.func (.func 17) #[] #[(Value.pointer (some ⟨12, 0, none⟩)), (Value.pointer (some ⟨13, 0, none⟩))]))] 1))), (1, (some (.marks true))), (2, (some (.cells (layT [(Value.func (.yield 3) #[] #[])]) 38))), (3, (some (rblk P 3 [false, true, false, true, true, true, true, true, true, true, true, true, true, true, true] .done (some (.exit 6)) [(5, (Value.pointer (some ⟨5, 0, none⟩))), (6, (Value.pointer (some ⟨6, 0, none⟩))), (7, (Value.pointer (some ⟨7, 0, none⟩))), (15, (Value.pointer (some ⟨9, 0, none⟩))), (140, (Value.func (.func 11) #[] #[(Value.pointer (some ⟨10, 0, none⟩)), (Value.pointer (some ⟨11, 0, none⟩))]))] 4))), (4, (some (.marks true))), (5, (some (.cells (layT [(Value.int .i64 x1_0)]) 3))), (6, (some (.cells (layT [(Value.bool x1_1)]) 4))), (7, (some (.cells (layT [(Value.slice (some ⟨8, 0, none⟩) (x1_2).length x1_3)]) 23))), (8, (some (.cells (layT (rows rw_s x1_2)) 9))), (9, (some (.cells (layT [(Value.int .i64 z1_0)]) 3))), (10, (some (.cells (layT [(Value.int .i64 x1_5)]) 3))), (11, (some (.cells (layT [(Value.int .i64 x1_6)]) 3))), (12, (some (.cells (layT [(Value.int .i64 x1_7)]) 3))), (13, (some (.cells (layT [(Value.int .i64 x1_8)]) 3)))], 14, 0⟩))
def B_firstclock1q2_1 (n : Nat) (x1_0 : Int) (x1_1 : Bool) (x1_2 : List (ByteArray)) (x1_3 : Nat) (x1_5 : Int) (x1_6 : Int) (x1_7 : Int) (x1_8 : Int) (st : Int × List (Int) × Nat) : Option ((Int × List (Int) × Nat) ⊕ ((Int) ⊕ (Int))) := match st with
  | (x1_4, x1_9, x1_10) =>
    match x1_9 with
    | [] =>
      some (.inr (.inl x1_4))
    | x1_9a :: x1_9t =>
      if ((x1_10 : Nat) : Int) > (0 : Int) then
        match m_firstRows1_1110y5 n x1_0 x1_1 x1_2 x1_3 x1_4 x1_5 x1_6 x1_7 x1_8 (x1_9a :: x1_9t) x1_10 with
        | none => none
        | some (.inl _) =>
          some (.inr (.inr x1_4))
        | some (.inr _) =>
          match m_firsttickq2 n (x1_9a :: x1_9t) x1_10 x1_7 x1_8 with
          | none => none
          | some (.inl _) =>
            some (.inl ((w64 (x1_4 + (1 : Int))), ([] : List (Int)), 0))
          | some (.inr (y1_3_0, y1_3_1)) =>
            match y1_3_0 with
            | [] =>
              none
            | y1_3_0a :: y1_3_0t =>
              some (.inl ((w64 (x1_4 + (1 : Int))), (y1_3_0a :: y1_3_0t), y1_3_1))
      else
        some (.inr (.inl x1_4))
def m_firstclock1q2_1 (n : Nat) (x1_0 : Int) (x1_1 : Bool) (x1_2 : List (ByteArray)) (x1_3 : Nat) (x1_5 : Int) (x1_6 : Int) (x1_7 : Int) (x1_8 : Int) (st : Int × List (Int) × Nat) : Option ((Int) ⊕ (Int)) := iterM (B_firstclock1q2_1 n x1_0 x1_1 x1_2 x1_3 x1_5 x1_6 x1_7 x1_8) n st
set_option maxRecDepth 100000 in
theorem q_firstclock1q2_1_0 (n : Nat) {rnd : Option Nat} (x1_0 : Int) (x1_1 : Bool) (x1_2 : List (ByteArray)) (x1_3 : Nat) (x1_4 : Int) (x1_5 : Int) (x1_6 : Int) (x1_7 : Int) (x1_8 : Int) (x1_10 : Nat) : CG P rnd (fnN P 17) 14 (codeOf P 17 [false, false, true]) (S_firstclock1q2_1 x1_0 x1_1 x1_2 x1_3 x1_5 x1_6 x1_7 x1_8 (x1_4, ([] : List (Int)), x1_10)) (X_firstclock1q2_1 x1_0 x1_1 x1_2 x1_3 x1_5 x1_6 x1_7 x1_8 (.inl x1_4)) :=
  runC_ok hm (A := aT []) (L := lT []) (wk := ⟨[], [(0, 0, false), (1, 1, false), (2, 2, false), (3, 3, false), (4, 4, false), (5, 5, false), (6, 6, false), (7, 7, false), (8, 8, true), (9, 9, false), (10, 10, false), (11, 11, false), (12, 12, false), (13, 13, false)], 14, 0⟩)
    (ps := [FlatB (.cells (layT (rows rw_s x1_2)) 9)]) (by kernel_rfl) ⟨(rows_flat rwf_s _ _), trivial⟩
set_option maxRecDepth 100000 in
theorem q_firstclock1q2_1_1 (n : Nat) {rnd : Option Nat} (x1_0 : Int) (x1_1 : Bool) (x1_2 : List (ByteArray)) (x1_3 : Nat) (x1_4 : Int) (x1_5 : Int) (x1_6 : Int) (x1_7 : Int) (x1_8 : Int) (x1_9a : Int) (x1_9t : List (Int)) (x1_10 : Nat) (hy1_1 : ((x1_10 : Nat) : Int) > (0 : Int)) (hy1_2 : m_firstRows1_1110y5 n x1_0 x1_1 x1_2 x1_3 x1_4 x1_5 x1_6 x1_7 x1_8 (x1_9a :: x1_9t) x1_10 = some (.inl ())) : CG P rnd (fnN P 17) 14 (codeOf P 17 [false, false, true]) (S_firstclock1q2_1 x1_0 x1_1 x1_2 x1_3 x1_5 x1_6 x1_7 x1_8 (x1_4, (x1_9a :: x1_9t), x1_10)) (X_firstclock1q2_1 x1_0 x1_1 x1_2 x1_3 x1_5 x1_6 x1_7 x1_8 (.inr x1_4)) :=
  runC_ok hm (A := aT [(4, .val (.bool true)), (8, .call ⟨15, [(0, 0, false), (1, 1, false), (2, 2, false), (3, 3, false), (4, 4, false), (5, 5, false), (6, 6, false), (7, 7, false), (8, 8, true), (9, 9, false), (10, 10, false), (11, 11, false), (12, 12, false), (13, 13, false), (14, 14, true)], (V_firstRows1_1110y5 x1_0 x1_1 x1_2 x1_3 x1_4 x1_5 x1_6 x1_7 x1_8 (x1_9a :: x1_9t) x1_10 (.inl ())), (R_firstRows1_1110y5 x1_0 x1_1 x1_2 x1_3 x1_4 x1_5 x1_6 x1_7 x1_8 (x1_9a :: x1_9t) x1_10 (.inl ())), [(0, 0, false), (1, 1, false), (2, 2, false), (3, 3, false), (4, 4, false), (5, 5, false), (6, 6, false), (7, 7, false), (8, 8, true), (9, 9, false), (10, 10, false), (11, 11, false), (12, 12, false), (13, 13, false), (14, 14, true)]⟩)]) (L := lT []) (wk := ⟨[], [(0, 0, false), (1, 1, false), (2, 2, false), (3, 3, false), (4, 4, false), (5, 5, false), (6, 6, false), (7, 7, false), (8, 8, true), (9, 9, false), (10, 10, false), (11, 11, false), (12, 12, false), (13, 13, false)], 14, 0⟩)
    (ps := [(Value.bool (decide (((x1_10 : Nat) : Int) > (0 : Int)))) = (Value.bool true),
    Gv P (.yield 0) (A_firstRows1_1110y5 x1_0 x1_1 x1_2 x1_3 x1_4 x1_5 x1_6 x1_7 x1_8 (x1_9a :: x1_9t) x1_10) (H_firstRows1_1110y5 x1_0 x1_1 x1_2 x1_3 x1_4 x1_5 x1_6 x1_7 x1_8 (x1_9a :: x1_9t) x1_10) (V_firstRows1_1110y5 x1_0 x1_1 x1_2 x1_3 x1_4 x1_5 x1_6 x1_7 x1_8 (x1_9a :: x1_9t) x1_10 (.inl ())) (R_firstRows1_1110y5 x1_0 x1_1 x1_2 x1_3 x1_4 x1_5 x1_6 x1_7 x1_8 (x1_9a :: x1_9t) x1_10 (.inl ())),
    FlatB (.cells (layT (rows rw_s x1_2)) 9),
    FlatB (.cells (layT (rows rw_y (x1_9a :: x1_9t))) 5),
    FlatB (.cells (layT (rows rw_s x1_2)) 9),
    FlatB (.cells (layT (rows rw_y (x1_9a :: x1_9t))) 5),
    FlatB (.cells (layT (rows rw_s x1_2)) 9)]) (by kernel_rfl) ⟨(vbT hy1_1), (m_firstRows1_1110y5_ok n x1_0 x1_1 x1_2 x1_3 x1_4 x1_5 x1_6 x1_7 x1_8 (x1_9a :: x1_9t) x1_10 (.inl ()) hy1_2), (rows_flat rwf_s _ _), (rows_flat rwf_y _ _), (rows_flat rwf_s _ _), (rows_flat rwf_y _ _), (rows_flat rwf_s _ _), trivial⟩
set_option maxRecDepth 100000 in
theorem q_firstclock1q2_1_2 (n : Nat) {rnd : Option Nat} (x1_0 : Int) (x1_1 : Bool) (x1_2 : List (ByteArray)) (x1_3 : Nat) (x1_4 : Int) (x1_5 : Int) (x1_6 : Int) (x1_7 : Int) (x1_8 : Int) (x1_9a : Int) (x1_9t : List (Int)) (x1_10 : Nat) (hy1_1 : ((x1_10 : Nat) : Int) > (0 : Int)) (hy1_2 : m_firstRows1_1110y5 n x1_0 x1_1 x1_2 x1_3 x1_4 x1_5 x1_6 x1_7 x1_8 (x1_9a :: x1_9t) x1_10 = some (.inr ())) (hy1_3 : m_firsttickq2 n (x1_9a :: x1_9t) x1_10 x1_7 x1_8 = some (.inl ())) : CG P rnd (fnN P 17) 14 (codeOf P 17 [false, false, true]) (S_firstclock1q2_1 x1_0 x1_1 x1_2 x1_3 x1_5 x1_6 x1_7 x1_8 (x1_4, (x1_9a :: x1_9t), x1_10)) (.normal, S_firstclock1q2_1 x1_0 x1_1 x1_2 x1_3 x1_5 x1_6 x1_7 x1_8 ((w64 (x1_4 + (1 : Int))), ([] : List (Int)), 0)) :=
  runC_ok hm (A := aT [(4, .val (.bool true)), (8, .call ⟨15, [(0, 0, false), (1, 1, false), (2, 2, false), (3, 3, false), (4, 4, false), (5, 5, false), (6, 6, false), (7, 7, false), (8, 8, true), (9, 9, false), (10, 10, false), (11, 11, false), (12, 12, false), (13, 13, false), (14, 14, true)], (V_firstRows1_1110y5 x1_0 x1_1 x1_2 x1_3 x1_4 x1_5 x1_6 x1_7 x1_8 (x1_9a :: x1_9t) x1_10 (.inr ())), (R_firstRows1_1110y5 x1_0 x1_1 x1_2 x1_3 x1_4 x1_5 x1_6 x1_7 x1_8 (x1_9a :: x1_9t) x1_10 (.inr ())), [(0, 0, false), (1, 1, false), (2, 2, false), (3, 3, false), (4, 4, false), (5, 5, false), (6, 6, false), (7, 7, false), (8, 8, true), (9, 9, false), (10, 10, false), (11, 11, false), (12, 12, false), (13, 13, false), (14, 14, true)]⟩), (15, .call ⟨1, [(0, 14, true)], (V_firsttickq2 (x1_9a :: x1_9t) x1_10 x1_7 x1_8 (.inl ())), (R_firsttickq2 (x1_9a :: x1_9t) x1_10 x1_7 x1_8 (.inl ())), [(14, 0, true)]⟩)]) (L := lT []) (wk := ⟨[0, 1, 2, 4], [(0, 0, false), (1, 1, false), (2, 2, false), (3, 3, false), (4, 4, false), (5, 5, false), (6, 6, false), (7, 7, false), (8, 8, true), (9, 9, false), (10, 10, false), (11, 11, false), (12, 12, false), (13, 13, false)], 15, 0⟩)
    (ps := [(Value.bool (decide (((x1_10 : Nat) : Int) > (0 : Int)))) = (Value.bool true),
    Gv P (.yield 0) (A_firstRows1_1110y5 x1_0 x1_1 x1_2 x1_3 x1_4 x1_5 x1_6 x1_7 x1_8 (x1_9a :: x1_9t) x1_10) (H_firstRows1_1110y5 x1_0 x1_1 x1_2 x1_3 x1_4 x1_5 x1_6 x1_7 x1_8 (x1_9a :: x1_9t) x1_10) (V_firstRows1_1110y5 x1_0 x1_1 x1_2 x1_3 x1_4 x1_5 x1_6 x1_7 x1_8 (x1_9a :: x1_9t) x1_10 (.inr ())) (R_firstRows1_1110y5 x1_0 x1_1 x1_2 x1_3 x1_4 x1_5 x1_6 x1_7 x1_8 (x1_9a :: x1_9t) x1_10 (.inr ())),
    FlatB (.cells (layT (rows rw_s x1_2)) 9),
    FlatB (.cells (layT (rows rw_y (x1_9a :: x1_9t))) 5),
    FlatB (.cells (layT (rows rw_s x1_2)) 9),
    FlatB (.cells (layT (rows rw_y (x1_9a :: x1_9t))) 5),
    Gv P (.func 19) (A_firsttickq2 (x1_9a :: x1_9t) x1_10 x1_7 x1_8) (H_firsttickq2 (x1_9a :: x1_9t) x1_10 x1_7 x1_8) (V_firsttickq2 (x1_9a :: x1_9t) x1_10 x1_7 x1_8 (.inl ())) (R_firsttickq2 (x1_9a :: x1_9t) x1_10 x1_7 x1_8 (.inl ())),
    FlatB (.cells (layT (rows rw_y (x1_9a :: x1_9t))) 5),
    FlatB (.cells (layT (rows rw_y (x1_9a :: x1_9t))) 5),
    FlatB (.cells (layT (rows rw_s x1_2)) 9)]) (by kernel_rfl) ⟨(vbT hy1_1), (m_firstRows1_1110y5_ok n x1_0 x1_1 x1_2 x1_3 x1_4 x1_5 x1_6 x1_7 x1_8 (x1_9a :: x1_9t) x1_10 (.inr ()) hy1_2), (rows_flat rwf_s _ _), (rows_flat rwf_y _ _), (rows_flat rwf_s _ _), (rows_flat rwf_y _ _), (m_firsttickq2_ok n (x1_9a :: x1_9t) x1_10 x1_7 x1_8 (.inl ()) hy1_3), (rows_flat rwf_y _ _), (rows_flat rwf_y _ _), (rows_flat rwf_s _ _), trivial⟩
set_option maxRecDepth 100000 in
theorem q_firstclock1q2_1_3 (n : Nat) {rnd : Option Nat} (x1_0 : Int) (x1_1 : Bool) (x1_2 : List (ByteArray)) (x1_3 : Nat) (x1_4 : Int) (x1_5 : Int) (x1_6 : Int) (x1_7 : Int) (x1_8 : Int) (x1_9a : Int) (x1_9t : List (Int)) (x1_10 : Nat) (hy1_1 : ((x1_10 : Nat) : Int) > (0 : Int)) (hy1_2 : m_firstRows1_1110y5 n x1_0 x1_1 x1_2 x1_3 x1_4 x1_5 x1_6 x1_7 x1_8 (x1_9a :: x1_9t) x1_10 = some (.inr ())) (y1_3_0a : Int) (y1_3_0t : List (Int)) (y1_3_1 : Nat) (hy1_3 : m_firsttickq2 n (x1_9a :: x1_9t) x1_10 x1_7 x1_8 = some (.inr ((y1_3_0a :: y1_3_0t), y1_3_1))) : CG P rnd (fnN P 17) 14 (codeOf P 17 [false, false, true]) (S_firstclock1q2_1 x1_0 x1_1 x1_2 x1_3 x1_5 x1_6 x1_7 x1_8 (x1_4, (x1_9a :: x1_9t), x1_10)) (.normal, S_firstclock1q2_1 x1_0 x1_1 x1_2 x1_3 x1_5 x1_6 x1_7 x1_8 ((w64 (x1_4 + (1 : Int))), (y1_3_0a :: y1_3_0t), y1_3_1)) :=
  runC_ok hm (A := aT [(4, .val (.bool true)), (8, .call ⟨15, [(0, 0, false), (1, 1, false), (2, 2, false), (3, 3, false), (4, 4, false), (5, 5, false), (6, 6, false), (7, 7, false), (8, 8, true), (9, 9, false), (10, 10, false), (11, 11, false), (12, 12, false), (13, 13, false), (14, 14, true)], (V_firstRows1_1110y5 x1_0 x1_1 x1_2 x1_3 x1_4 x1_5 x1_6 x1_7 x1_8 (x1_9a :: x1_9t) x1_10 (.inr ())), (R_firstRows1_1110y5 x1_0 x1_1 x1_2 x1_3 x1_4 x1_5 x1_6 x1_7 x1_8 (x1_9a :: x1_9t) x1_10 (.inr ())), [(0, 0, false), (1, 1, false), (2, 2, false), (3, 3, false), (4, 4, false), (5, 5, false), (6, 6, false), (7, 7, false), (8, 8, true), (9, 9, false), (10, 10, false), (11, 11, false), (12, 12, false), (13, 13, false), (14, 14, true)]⟩), (15, .call ⟨1, [(0, 14, true)], (V_firsttickq2 (x1_9a :: x1_9t) x1_10 x1_7 x1_8 (.inr ((y1_3_0a :: y1_3_0t), y1_3_1))), (R_firsttickq2 (x1_9a :: x1_9t) x1_10 x1_7 x1_8 (.inr ((y1_3_0a :: y1_3_0t), y1_3_1))), [(15, 1, true)]⟩)]) (L := lT []) (wk := ⟨[0, 1, 2, 4], [(0, 0, false), (1, 1, false), (2, 2, false), (3, 3, false), (4, 4, false), (5, 5, false), (6, 6, false), (7, 7, false), (8, 8, true), (9, 9, false), (10, 10, false), (11, 11, false), (12, 12, false), (13, 13, false), (14, 15, true)], 15, 0⟩)
    (ps := [(Value.bool (decide (((x1_10 : Nat) : Int) > (0 : Int)))) = (Value.bool true),
    Gv P (.yield 0) (A_firstRows1_1110y5 x1_0 x1_1 x1_2 x1_3 x1_4 x1_5 x1_6 x1_7 x1_8 (x1_9a :: x1_9t) x1_10) (H_firstRows1_1110y5 x1_0 x1_1 x1_2 x1_3 x1_4 x1_5 x1_6 x1_7 x1_8 (x1_9a :: x1_9t) x1_10) (V_firstRows1_1110y5 x1_0 x1_1 x1_2 x1_3 x1_4 x1_5 x1_6 x1_7 x1_8 (x1_9a :: x1_9t) x1_10 (.inr ())) (R_firstRows1_1110y5 x1_0 x1_1 x1_2 x1_3 x1_4 x1_5 x1_6 x1_7 x1_8 (x1_9a :: x1_9t) x1_10 (.inr ())),
    FlatB (.cells (layT (rows rw_s x1_2)) 9),
    FlatB (.cells (layT (rows rw_y (x1_9a :: x1_9t))) 5),
    FlatB (.cells (layT (rows rw_s x1_2)) 9),
    FlatB (.cells (layT (rows rw_y (x1_9a :: x1_9t))) 5),
    Gv P (.func 19) (A_firsttickq2 (x1_9a :: x1_9t) x1_10 x1_7 x1_8) (H_firsttickq2 (x1_9a :: x1_9t) x1_10 x1_7 x1_8) (V_firsttickq2 (x1_9a :: x1_9t) x1_10 x1_7 x1_8 (.inr ((y1_3_0a :: y1_3_0t), y1_3_1))) (R_firsttickq2 (x1_9a :: x1_9t) x1_10 x1_7 x1_8 (.inr ((y1_3_0a :: y1_3_0t), y1_3_1))),
    FlatB (.cells (layT (rows rw_y (x1_9a :: x1_9t))) 5),
    FlatB (.cells (layT (rows rw_y (y1_3_0a :: y1_3_0t))) 5),
    FlatB (.cells (layT (rows rw_s x1_2)) 9),
    FlatB (.cells (layT (rows rw_y (y1_3_0a :: y1_3_0t))) 5)]) (by kernel_rfl) ⟨(vbT hy1_1), (m_firstRows1_1110y5_ok n x1_0 x1_1 x1_2 x1_3 x1_4 x1_5 x1_6 x1_7 x1_8 (x1_9a :: x1_9t) x1_10 (.inr ()) hy1_2), (rows_flat rwf_s _ _), (rows_flat rwf_y _ _), (rows_flat rwf_s _ _), (rows_flat rwf_y _ _), (m_firsttickq2_ok n (x1_9a :: x1_9t) x1_10 x1_7 x1_8 (.inr ((y1_3_0a :: y1_3_0t), y1_3_1)) hy1_3), (rows_flat rwf_y _ _), (rows_flat rwf_y _ _), (rows_flat rwf_s _ _), (rows_flat rwf_y _ _), trivial⟩
set_option maxRecDepth 100000 in
theorem q_firstclock1q2_1_4 (n : Nat) {rnd : Option Nat} (x1_0 : Int) (x1_1 : Bool) (x1_2 : List (ByteArray)) (x1_3 : Nat) (x1_4 : Int) (x1_5 : Int) (x1_6 : Int) (x1_7 : Int) (x1_8 : Int) (x1_9a : Int) (x1_9t : List (Int)) (x1_10 : Nat) (hy1_1 : ¬ (((x1_10 : Nat) : Int) > (0 : Int))) : CG P rnd (fnN P 17) 14 (codeOf P 17 [false, false, true]) (S_firstclock1q2_1 x1_0 x1_1 x1_2 x1_3 x1_5 x1_6 x1_7 x1_8 (x1_4, (x1_9a :: x1_9t), x1_10)) (X_firstclock1q2_1 x1_0 x1_1 x1_2 x1_3 x1_5 x1_6 x1_7 x1_8 (.inl x1_4)) :=
  runC_ok hm (A := aT [(4, .val (.bool false))]) (L := lT []) (wk := ⟨[], [(0, 0, false), (1, 1, false), (2, 2, false), (3, 3, false), (4, 4, false), (5, 5, false), (6, 6, false), (7, 7, false), (8, 8, true), (9, 9, false), (10, 10, false), (11, 11, false), (12, 12, false), (13, 13, false)], 14, 0⟩)
    (ps := [(Value.bool (decide (((x1_10 : Nat) : Int) > (0 : Int)))) = (Value.bool false),
    FlatB (.cells (layT (rows rw_s x1_2)) 9)]) (by kernel_rfl) ⟨(vbF hy1_1), (rows_flat rwf_s _ _), trivial⟩
theorem m_firstclock1q2_1_ok (n : Nat) {rnd : Option Nat} (x1_0 : Int) (x1_1 : Bool) (x1_2 : List (ByteArray)) (x1_3 : Nat) (x1_5 : Int) (x1_6 : Int) (x1_7 : Int) (x1_8 : Int) (st : Int × List (Int) × Nat) (r : (Int) ⊕ (Int)) (h : m_firstclock1q2_1 n x1_0 x1_1 x1_2 x1_3 x1_5 x1_6 x1_7 x1_8 st = some r) : CG P rnd (fnN P 17) 14 (codeOf P 17 [false, true]) (S_firstclock1q2_1 x1_0 x1_1 x1_2 x1_3 x1_5 x1_6 x1_7 x1_8 st) (X_firstclock1q2_1 x1_0 x1_1 x1_2 x1_3 x1_5 x1_6 x1_7 x1_8 r) :=
  CG.iter (b := codeOf P 17 [false, false, true]) (by kernel_rfl) (body := B_firstclock1q2_1 n x1_0 x1_1 x1_2 x1_3 x1_5 x1_6 x1_7 x1_8) (S := S_firstclock1q2_1 x1_0 x1_1 x1_2 x1_3 x1_5 x1_6 x1_7 x1_8) (X := X_firstclock1q2_1 x1_0 x1_1 x1_2 x1_3 x1_5 x1_6 x1_7 x1_8)
    (fun s s' h => by
    obtain ⟨x1_4, x1_9, x1_10⟩ := s
    unfold B_firstclock1q2_1 at h
    dsimp only at h
    cases x1_9 with
    | nil =>
      dsimp only at h
      cases h
    | cons x1_9a x1_9t =>
      dsimp only at h
      by_cases hy1_1 : ((x1_10 : Nat) : Int) > (0 : Int)
      · rw [if_pos hy1_1] at h
        rcases hy1_2 : m_firstRows1_1110y5 n x1_0 x1_1 x1_2 x1_3 x1_4 x1_5 x1_6 x1_7 x1_8 (x1_9a :: x1_9t) x1_10 with _ | (⟨⟩ | ⟨⟩)
        · rw [hy1_2] at h; cases h
        · rw [hy1_2] at h
          dsimp only at h
          cases h
        · rw [hy1_2] at h
          dsimp only at h
          rcases hy1_3 : m_firsttickq2 n (x1_9a :: x1_9t) x1_10 x1_7 x1_8 with _ | (⟨⟩ | ⟨y1_3_0, y1_3_1⟩)
          · rw [hy1_3] at h; cases h
          · rw [hy1_3] at h
            dsimp only at h
            obtain rfl := Sum.inl.inj (Option.some.inj h); exact q_firstclock1q2_1_2 n x1_0 x1_1 x1_2 x1_3 x1_4 x1_5 x1_6 x1_7 x1_8 x1_9a x1_9t x1_10 hy1_1 hy1_2 hy1_3
          · rw [hy1_3] at h
            dsimp only at h
            cases y1_3_0 with
            | nil =>
              dsimp only at h
              cases h
            | cons y1_3_0a y1_3_0t =>
              dsimp only at h
              obtain rfl := Sum.inl.inj (Option.some.inj h); exact q_firstclock1q2_1_3 n x1_0 x1_1 x1_2 x1_3 x1_4 x1_5 x1_6 x1_7 x1_8 x1_9a x1_9t x1_10 hy1_1 hy1_2 y1_3_0a y1_3_0t y1_3_1 hy1_3
      · rw [if_neg hy1_1] at h
        cases h)
    (fun s r h => by
    obtain ⟨x1_4, x1_9, x1_10⟩ := s
    unfold B_firstclock1q2_1 at h
    dsimp only at h
    cases x1_9 with
    | nil =>
      dsimp only at h
      obtain rfl := Sum.inr.inj (Option.some.inj h); exact q_firstclock1q2_1_0 n x1_0 x1_1 x1_2 x1_3 x1_4 x1_5 x1_6 x1_7 x1_8 x1_10
    | cons x1_9a x1_9t =>
      dsimp only at h
      by_cases hy1_1 : ((x1_10 : Nat) : Int) > (0 : Int)
      · rw [if_pos hy1_1] at h
        rcases hy1_2 : m_firstRows1_1110y5 n x1_0 x1_1 x1_2 x1_3 x1_4 x1_5 x1_6 x1_7 x1_8 (x1_9a :: x1_9t) x1_10 with _ | (⟨⟩ | ⟨⟩)
        · rw [hy1_2] at h; cases h
        · rw [hy1_2] at h
          dsimp only at h
          obtain rfl := Sum.inr.inj (Option.some.inj h); exact q_firstclock1q2_1_1 n x1_0 x1_1 x1_2 x1_3 x1_4 x1_5 x1_6 x1_7 x1_8 x1_9a x1_9t x1_10 hy1_1 hy1_2
        · rw [hy1_2] at h
          dsimp only at h
          rcases hy1_3 : m_firsttickq2 n (x1_9a :: x1_9t) x1_10 x1_7 x1_8 with _ | (⟨⟩ | ⟨y1_3_0, y1_3_1⟩)
          · rw [hy1_3] at h; cases h
          · rw [hy1_3] at h
            dsimp only at h
            cases h
          · rw [hy1_3] at h
            dsimp only at h
            cases y1_3_0 with
            | nil =>
              dsimp only at h
              cases h
            | cons y1_3_0a y1_3_0t =>
              dsimp only at h
              cases h
      · rw [if_neg hy1_1] at h
        obtain rfl := Sum.inr.inj (Option.some.inj h); exact q_firstclock1q2_1_4 n x1_0 x1_1 x1_2 x1_3 x1_4 x1_5 x1_6 x1_7 x1_8 x1_9a x1_9t x1_10 hy1_1)
    (fun r => by intro hx; rcases r with _ | _ <;> cases hx) h
noncomputable def A_firstclock1q2 (a0 : Int) (a1 : Bool) (a2 : List (ByteArray)) (a3 : Nat) (a4 : Int) (a5 : Int) (a6 : Int) (a7 : Int) (a8 : Int) : List Value := [(Value.func (.yield 0) #[] #[]), (Value.pointer (some ⟨12, 0, none⟩)), (Value.pointer (some ⟨13, 0, none⟩))]
noncomputable def H_firstclock1q2 (a0 : Int) (a1 : Bool) (a2 : List (ByteArray)) (a3 : Nat) (a4 : Int) (a5 : Int) (a6 : Int) (a7 : Int) (a8 : Int) : AH := ⟨sB [(0, (some (rblk P 11 [false, true, true, true] .ready none [(3, (Value.pointer (some ⟨2, 0, none⟩))), (21, (Value.func (.func 17) #[] #[(Value.pointer (some ⟨12, 0, none⟩)), (Value.pointer (some ⟨13, 0, none⟩))]))] 1))), (1, (some (.marks true))), (2, (some (.cells (layT [(Value.func (.yield 3) #[] #[])]) 38))), (3, (some (rblk P 3 [false, true, false, true, true, true, true, true, true, true, true, true, true, true, true] .ready none [(5, (Value.pointer (some ⟨5, 0, none⟩))), (6, (Value.pointer (some ⟨6, 0, none⟩))), (7, (Value.pointer (some ⟨7, 0, none⟩))), (15, (Value.pointer (some ⟨9, 0, none⟩))), (140, (Value.func (.func 11) #[] #[(Value.pointer (some ⟨10, 0, none⟩)), (Value.pointer (some ⟨11, 0, none⟩))]))] 4))), (4, (some (.marks true))), (5, (some (.cells (layT [(Value.int .i64 a0)]) 3))), (6, (some (.cells (layT [(Value.bool a1)]) 4))), (7, (some (.cells (layT [(Value.slice (some ⟨8, 0, none⟩) (a2).length a3)]) 23))), (8, (some (.cells (layT (rows rw_s a2)) 9))), (9, (some (.cells (layT [(Value.int .i64 a4)]) 3))), (10, (some (.cells (layT [(Value.int .i64 a5)]) 3))), (11, (some (.cells (layT [(Value.int .i64 a6)]) 3))), (12, (some (.cells (layT [(Value.int .i64 a7)]) 3))), (13, (some (.cells (layT [(Value.int .i64 a8)]) 3)))], 14, 14⟩
noncomputable def V_firstclock1q2 (a0 : Int) (a1 : Bool) (a2 : List (ByteArray)) (a3 : Nat) (a4 : Int) (a5 : Int) (a6 : Int) (a7 : Int) (a8 : Int) (r : (Int) ⊕ (Int)) : Value := match r with
  | .inl o0 => (Value.tuple #[])
  | .inr o0 => (Value.tuple #[])
noncomputable def R_firstclock1q2 (a0 : Int) (a1 : Bool) (a2 : List (ByteArray)) (a3 : Nat) (a4 : Int) (a5 : Int) (a6 : Int) (a7 : Int) (a8 : Int) (r : (Int) ⊕ (Int)) : AH := match r with
  | .inl o0 => ⟨sB [(0, (some (rblk P 11 [false, true, true, true] .ready none [(3, (Value.pointer (some ⟨2, 0, none⟩))), (21, (Value.func (.func 17) #[] #[(Value.pointer (some ⟨12, 0, none⟩)), (Value.pointer (some ⟨13, 0, none⟩))]))] 1))), (1, (some (.marks true))), (2, (some (.cells (layT [(Value.func (.yield 3) #[] #[])]) 38))), (3, (some (rblk P 3 [false, true, false, true, true, true, true, true, true, true, true, true, true, true, true] .ready none [(5, (Value.pointer (some ⟨5, 0, none⟩))), (6, (Value.pointer (some ⟨6, 0, none⟩))), (7, (Value.pointer (some ⟨7, 0, none⟩))), (15, (Value.pointer (some ⟨9, 0, none⟩))), (140, (Value.func (.func 11) #[] #[(Value.pointer (some ⟨10, 0, none⟩)), (Value.pointer (some ⟨11, 0, none⟩))]))] 4))), (4, (some (.marks true))), (5, (some (.cells (layT [(Value.int .i64 a0)]) 3))), (6, (some (.cells (layT [(Value.bool a1)]) 4))), (7, (some (.cells (layT [(Value.slice (some ⟨8, 0, none⟩) (a2).length a3)]) 23))), (8, (some (.cells (layT (rows rw_s a2)) 9))), (9, (some (.cells (layT [(Value.int .i64 o0)]) 3))), (10, (some (.cells (layT [(Value.int .i64 a5)]) 3))), (11, (some (.cells (layT [(Value.int .i64 a6)]) 3))), (12, (some (.cells (layT [(Value.int .i64 a7)]) 3))), (13, (some (.cells (layT [(Value.int .i64 a8)]) 3)))], 14, 0⟩
  | .inr o0 => ⟨sB [(0, (some (rblk P 11 [false, true, true, true] .done (some .ret) [(3, (Value.pointer (some ⟨2, 0, none⟩))), (21, (Value.func (.func 17) #[] #[(Value.pointer (some ⟨12, 0, none⟩)), (Value.pointer (some ⟨13, 0, none⟩))]))] 1))), (1, (some (.marks true))), (2, (some (.cells (layT [(Value.func (.yield 3) #[] #[])]) 38))), (3, (some (rblk P 3 [false, true, false, true, true, true, true, true, true, true, true, true, true, true, true] .done (some (.exit 6)) [(5, (Value.pointer (some ⟨5, 0, none⟩))), (6, (Value.pointer (some ⟨6, 0, none⟩))), (7, (Value.pointer (some ⟨7, 0, none⟩))), (15, (Value.pointer (some ⟨9, 0, none⟩))), (140, (Value.func (.func 11) #[] #[(Value.pointer (some ⟨10, 0, none⟩)), (Value.pointer (some ⟨11, 0, none⟩))]))] 4))), (4, (some (.marks true))), (5, (some (.cells (layT [(Value.int .i64 a0)]) 3))), (6, (some (.cells (layT [(Value.bool a1)]) 4))), (7, (some (.cells (layT [(Value.slice (some ⟨8, 0, none⟩) (a2).length a3)]) 23))), (8, (some (.cells (layT (rows rw_s a2)) 9))), (9, (some (.cells (layT [(Value.int .i64 o0)]) 3))), (10, (some (.cells (layT [(Value.int .i64 a5)]) 3))), (11, (some (.cells (layT [(Value.int .i64 a6)]) 3))), (12, (some (.cells (layT [(Value.int .i64 a7)]) 3))), (13, (some (.cells (layT [(Value.int .i64 a8)]) 3)))], 14, 0⟩
def m_firstclock1q2 (n : Nat) (a0 : Int) (a1 : Bool) (a2 : List (ByteArray)) (a3 : Nat) (a4 : Int) (a5 : Int) (a6 : Int) (a7 : Int) (a8 : Int) : Option ((Int) ⊕ (Int)) :=
  (m_firstfillq1 n a7 a8).bind fun c1_ =>
  match c1_ with
  | [] =>
    none
  | c1_a :: c1_t =>
    match m_firstclock1q2_1 n a0 a1 a2 a3 a5 a6 a7 a8 (a4, (c1_a :: c1_t), (((c1_a :: c1_t)).length)) with
    | none => none
    | some (.inl c2_) =>
      some (.inl c2_)
    | some (.inr c2_) =>
      some (.inr c2_)
set_option maxRecDepth 100000 in
theorem p_firstclock1q2_0 (n : Nat) (a0 : Int) (a1 : Bool) (a2 : List (ByteArray)) (a3 : Nat) (a4 : Int) (a5 : Int) (a6 : Int) (a7 : Int) (a8 : Int) (c1_a : Int) (c1_t : List (Int)) (hc1 : m_firstfillq1 n a7 a8 = some (c1_a :: c1_t)) (c2_ : Int) (hc2 : m_firstclock1q2_1 n a0 a1 a2 a3 a5 a6 a7 a8 (a4, (c1_a :: c1_t), (((c1_a :: c1_t)).length)) = some (.inl c2_)) : Gv P (.func 17) (A_firstclock1q2 a0 a1 a2 a3 a4 a5 a6 a7 a8) (H_firstclock1q2 a0 a1 a2 a3 a4 a5 a6 a7 a8) (V_firstclock1q2 a0 a1 a2 a3 a4 a5 a6 a7 a8 (.inl c2_)) (R_firstclock1q2 a0 a1 a2 a3 a4 a5 a6 a7 a8 (.inl c2_)) :=
  runF_ok hm (A := aT [(3, .call ⟨0, [], (V_firstfillq1 a7 a8 (c1_a :: c1_t)), (R_firstfillq1 a7 a8 (c1_a :: c1_t)), [(14, 0, true)]⟩)]) (L := lT [(6, ⟨⟨[0, 1, 2, 4], [(0, 0, false), (1, 1, false), (2, 2, false), (3, 3, false), (4, 4, false), (5, 5, false), (6, 6, false), (7, 7, false), (8, 8, true), (9, 9, false), (10, 10, false), (11, 11, false), (12, 12, false), (13, 13, false), (14, 14, true)], 15, 0⟩, (X_firstclock1q2_1 a0 a1 a2 a3 a5 a6 a7 a8 (.inl c2_)).1, (X_firstclock1q2_1 a0 a1 a2 a3 a5 a6 a7 a8 (.inl c2_)).2⟩)]) (wk := ⟨[], [(0, 0, false), (1, 1, false), (2, 2, false), (3, 3, false), (4, 4, false), (5, 5, false), (6, 6, false), (7, 7, false), (8, 8, true), (9, 9, false), (10, 10, false), (11, 11, false), (12, 12, false), (13, 13, false)], 14, 0⟩)
    (ps := [Gv P (.func 18) (A_firstfillq1 a7 a8) (H_firstfillq1 a7 a8) (V_firstfillq1 a7 a8 (c1_a :: c1_t)) (R_firstfillq1 a7 a8 (c1_a :: c1_t)),
    FlatB (.cells (layT (rows rw_y (c1_a :: c1_t))) 5),
    CG P none (fnN P 17) 14 (codeOf P 17 [false, true]) (S_firstclock1q2_1 a0 a1 a2 a3 a5 a6 a7 a8 (a4, (c1_a :: c1_t), (((c1_a :: c1_t)).length))) (X_firstclock1q2_1 a0 a1 a2 a3 a5 a6 a7 a8 (.inl c2_)),
    FlatB (.cells (layT (rows rw_s a2)) 9),
    FlatB (.cells (layT (rows rw_y (c1_a :: c1_t))) 5),
    FlatB (.cells (layT (rows rw_s a2)) 9)]) (by kernel_rfl) ⟨(m_firstfillq1_ok n a7 a8 (c1_a :: c1_t) hc1), (rows_flat rwf_y _ _), (m_firstclock1q2_1_ok n a0 a1 a2 a3 a5 a6 a7 a8 (a4, (c1_a :: c1_t), (((c1_a :: c1_t)).length)) (.inl c2_) hc2), (rows_flat rwf_s _ _), (rows_flat rwf_y _ _), (rows_flat rwf_s _ _), trivial⟩
set_option maxRecDepth 100000 in
theorem p_firstclock1q2_1 (n : Nat) (a0 : Int) (a1 : Bool) (a2 : List (ByteArray)) (a3 : Nat) (a4 : Int) (a5 : Int) (a6 : Int) (a7 : Int) (a8 : Int) (c1_a : Int) (c1_t : List (Int)) (hc1 : m_firstfillq1 n a7 a8 = some (c1_a :: c1_t)) (c2_ : Int) (hc2 : m_firstclock1q2_1 n a0 a1 a2 a3 a5 a6 a7 a8 (a4, (c1_a :: c1_t), (((c1_a :: c1_t)).length)) = some (.inr c2_)) : Gv P (.func 17) (A_firstclock1q2 a0 a1 a2 a3 a4 a5 a6 a7 a8) (H_firstclock1q2 a0 a1 a2 a3 a4 a5 a6 a7 a8) (V_firstclock1q2 a0 a1 a2 a3 a4 a5 a6 a7 a8 (.inr c2_)) (R_firstclock1q2 a0 a1 a2 a3 a4 a5 a6 a7 a8 (.inr c2_)) :=
  runF_ok hm (A := aT [(3, .call ⟨0, [], (V_firstfillq1 a7 a8 (c1_a :: c1_t)), (R_firstfillq1 a7 a8 (c1_a :: c1_t)), [(14, 0, true)]⟩)]) (L := lT [(6, ⟨⟨[0, 1, 2, 4], [(0, 0, false), (1, 1, false), (2, 2, false), (3, 3, false), (4, 4, false), (5, 5, false), (6, 6, false), (7, 7, false), (8, 8, true), (9, 9, false), (10, 10, false), (11, 11, false), (12, 12, false), (13, 13, false), (14, 14, true)], 15, 0⟩, (X_firstclock1q2_1 a0 a1 a2 a3 a5 a6 a7 a8 (.inr c2_)).1, (X_firstclock1q2_1 a0 a1 a2 a3 a5 a6 a7 a8 (.inr c2_)).2⟩)]) (wk := ⟨[], [(0, 0, false), (1, 1, false), (2, 2, false), (3, 3, false), (4, 4, false), (5, 5, false), (6, 6, false), (7, 7, false), (8, 8, true), (9, 9, false), (10, 10, false), (11, 11, false), (12, 12, false), (13, 13, false)], 14, 0⟩)
    (ps := [Gv P (.func 18) (A_firstfillq1 a7 a8) (H_firstfillq1 a7 a8) (V_firstfillq1 a7 a8 (c1_a :: c1_t)) (R_firstfillq1 a7 a8 (c1_a :: c1_t)),
    FlatB (.cells (layT (rows rw_y (c1_a :: c1_t))) 5),
    CG P none (fnN P 17) 14 (codeOf P 17 [false, true]) (S_firstclock1q2_1 a0 a1 a2 a3 a5 a6 a7 a8 (a4, (c1_a :: c1_t), (((c1_a :: c1_t)).length))) (X_firstclock1q2_1 a0 a1 a2 a3 a5 a6 a7 a8 (.inr c2_)),
    FlatB (.cells (layT (rows rw_s a2)) 9),
    FlatB (.cells (layT (rows rw_y (c1_a :: c1_t))) 5),
    FlatB (.cells (layT (rows rw_s a2)) 9)]) (by kernel_rfl) ⟨(m_firstfillq1_ok n a7 a8 (c1_a :: c1_t) hc1), (rows_flat rwf_y _ _), (m_firstclock1q2_1_ok n a0 a1 a2 a3 a5 a6 a7 a8 (a4, (c1_a :: c1_t), (((c1_a :: c1_t)).length)) (.inr c2_) hc2), (rows_flat rwf_s _ _), (rows_flat rwf_y _ _), (rows_flat rwf_s _ _), trivial⟩
theorem m_firstclock1q2_ok (n : Nat) (a0 : Int) (a1 : Bool) (a2 : List (ByteArray)) (a3 : Nat) (a4 : Int) (a5 : Int) (a6 : Int) (a7 : Int) (a8 : Int) (r : (Int) ⊕ (Int)) (h : m_firstclock1q2 n a0 a1 a2 a3 a4 a5 a6 a7 a8 = some r) : Gv P (.func 17) (A_firstclock1q2 a0 a1 a2 a3 a4 a5 a6 a7 a8) (H_firstclock1q2 a0 a1 a2 a3 a4 a5 a6 a7 a8) (V_firstclock1q2 a0 a1 a2 a3 a4 a5 a6 a7 a8 r) (R_firstclock1q2 a0 a1 a2 a3 a4 a5 a6 a7 a8 r) := by
  unfold m_firstclock1q2 at h
  obtain ⟨c1_, hc1, h⟩ := Option.bind_eq_some_iff.1 h
  cases c1_ with
  | nil =>
    dsimp only at h
    cases h
  | cons c1_a c1_t =>
    dsimp only at h
    rcases hc2 : m_firstclock1q2_1 n a0 a1 a2 a3 a5 a6 a7 a8 (a4, (c1_a :: c1_t), (((c1_a :: c1_t)).length)) with _ | (c2_ | c2_)
    · rw [hc2] at h; cases h
    · rw [hc2] at h
      dsimp only at h
      obtain rfl := Option.some.inj h; exact p_firstclock1q2_0 n a0 a1 a2 a3 a4 a5 a6 a7 a8 c1_a c1_t hc1 c2_ hc2
    · rw [hc2] at h
      dsimp only at h
      obtain rfl := Option.some.inj h; exact p_firstclock1q2_1 n a0 a1 a2 a3 a4 a5 a6 a7 a8 c1_a c1_t hc1 c2_ hc2

noncomputable def A_firstRows1q2 (a0 : Int) (a1 : Bool) (a2 : List (ByteArray)) (a3 : Nat) (a4 : Int) (a5 : Int) (a6 : Int) : List Value := [(Value.func (.yield 0) #[] #[]), (Value.pointer (some ⟨7, 0, none⟩)), (Value.pointer (some ⟨8, 0, none⟩))]
noncomputable def H_firstRows1q2 (a0 : Int) (a1 : Bool) (a2 : List (ByteArray)) (a3 : Nat) (a4 : Int) (a5 : Int) (a6 : Int) : AH := ⟨sB [(0, (some (rblk P 3 [false, true, false, true, true, true, true, true, true, true, true, true, true, true, true] .ready none [(5, (Value.pointer (some ⟨2, 0, none⟩))), (6, (Value.pointer (some ⟨3, 0, none⟩))), (7, (Value.pointer (some ⟨4, 0, none⟩))), (15, (Value.pointer (some ⟨6, 0, none⟩))), (140, (Value.func (.func 11) #[] #[(Value.pointer (some ⟨7, 0, none⟩)), (Value.pointer (some ⟨8, 0, none⟩))]))] 1))), (1, (some (.marks true))), (2, (some (.cells (layT [(Value.int .i64 a0)]) 3))), (3, (some (.cells (layT [(Value.bool a1)]) 4))), (4, (some (.cells (layT [(Value.slice (some ⟨5, 0, none⟩) (a2).length a3)]) 23))), (5, (some (.cells (layT (rows rw_s a2)) 9))), (6, (some (.cells (layT [(Value.int .i64 a4)]) 3))), (7, (some (.cells (layT [(Value.int .i64 a5)]) 3))), (8, (some (.cells (layT [(Value.int .i64 a6)]) 3)))], 9, 9⟩
noncomputable def V_firstRows1q2 (a0 : Int) (a1 : Bool) (a2 : List (ByteArray)) (a3 : Nat) (a4 : Int) (a5 : Int) (a6 : Int) (r : (Unit) ⊕ ((Int) ⊕ (Int))) : Value := match r with
  | .inl _ => (Value.tuple #[])
  | .inr (.inl o0) => (Value.tuple #[])
  | .inr (.inr o0) => (Value.tuple #[])
noncomputable def R_firstRows1q2 (a0 : Int) (a1 : Bool) (a2 : List (ByteArray)) (a3 : Nat) (a4 : Int) (a5 : Int) (a6 : Int) (r : (Unit) ⊕ ((Int) ⊕ (Int))) : AH := match r with
  | .inl _ => ⟨sB [(0, (some (rblk P 3 [false, true, false, true, true, true, true, true, true, true, true, true, true, true, true] .ready none [(5, (Value.pointer (some ⟨2, 0, none⟩))), (6, (Value.pointer (some ⟨3, 0, none⟩))), (7, (Value.pointer (some ⟨4, 0, none⟩))), (15, (Value.pointer (some ⟨6, 0, none⟩))), (140, (Value.func (.func 11) #[] #[(Value.pointer (some ⟨7, 0, none⟩)), (Value.pointer (some ⟨8, 0, none⟩))]))] 1))), (1, (some (.marks true))), (2, (some (.cells (layT [(Value.int .i64 a0)]) 3))), (3, (some (.cells (layT [(Value.bool a1)]) 4))), (4, (some (.cells (layT [(Value.slice (some ⟨5, 0, none⟩) (a2).length a3)]) 23))), (5, (some (.cells (layT (rows rw_s a2)) 9))), (6, (some (.cells (layT [(Value.int .i64 a4)]) 3))), (7, (some (.cells (layT [(Value.int .i64 a5)]) 3))), (8, (some (.cells (layT [(Value.int .i64 a6)]) 3)))], 9, 9⟩
  | .inr (.inl o0) => ⟨sB [(0, (some (rblk P 3 [false, true, false, true, true, true, true, true, true, true, true, true, true, true, true] .ready none [(5, (Value.pointer (some ⟨2, 0, none⟩))), (6, (Value.pointer (some ⟨3, 0, none⟩))), (7, (Value.pointer (some ⟨4, 0, none⟩))), (15, (Value.pointer (some ⟨6, 0, none⟩))), (140, (Value.func (.func 11) #[] #[(Value.pointer (some ⟨7, 0, none⟩)), (Value.pointer (some ⟨8, 0, none⟩))]))] 1))), (1, (some (.marks true))), (2, (some (.cells (layT [(Value.int .i64 a0)]) 3))), (3, (some (.cells (layT [(Value.bool a1)]) 4))), (4, (some (.cells (layT [(Value.slice (some ⟨5, 0, none⟩) (a2).length a3)]) 23))), (5, (some (.cells (layT (rows rw_s a2)) 9))), (6, (some (.cells (layT [(Value.int .i64 o0)]) 3))), (7, (some (.cells (layT [(Value.int .i64 a5)]) 3))), (8, (some (.cells (layT [(Value.int .i64 a6)]) 3))), (9, (some (.marks false)))], 10, 0⟩
  | .inr (.inr o0) => ⟨sB [(0, (some (rblk P 3 [false, true, false, true, true, true, true, true, true, true, true, true, true, true, true] .done (some (.exit 6)) [(5, (Value.pointer (some ⟨2, 0, none⟩))), (6, (Value.pointer (some ⟨3, 0, none⟩))), (7, (Value.pointer (some ⟨4, 0, none⟩))), (15, (Value.pointer (some ⟨6, 0, none⟩))), (140, (Value.func (.func 11) #[] #[(Value.pointer (some ⟨7, 0, none⟩)), (Value.pointer (some ⟨8, 0, none⟩))]))] 1))), (1, (some (.marks true))), (2, (some (.cells (layT [(Value.int .i64 a0)]) 3))), (3, (some (.cells (layT [(Value.bool a1)]) 4))), (4, (some (.cells (layT [(Value.slice (some ⟨5, 0, none⟩) (a2).length a3)]) 23))), (5, (some (.cells (layT (rows rw_s a2)) 9))), (6, (some (.cells (layT [(Value.int .i64 o0)]) 3))), (7, (some (.cells (layT [(Value.int .i64 a5)]) 3))), (8, (some (.cells (layT [(Value.int .i64 a6)]) 3))), (9, (some (.marks false)))], 10, 0⟩
def m_firstRows1q2 (n : Nat) (a0 : Int) (a1 : Bool) (a2 : List (ByteArray)) (a3 : Nat) (a4 : Int) (a5 : Int) (a6 : Int) : Option ((Unit) ⊕ ((Int) ⊕ (Int))) :=
  if a5 < (0 : Int) then
    some (.inl ())
  else
    if a5 > (8 : Int) then
      some (.inl ())
    else
      if a6 < (1 : Int) then
        some (.inl ())
      else
        if a6 > (3 : Int) then
          some (.inl ())
        else
          (m_firstclockq1 n a5 a6).bind fun _ =>
          match m_firstclock1q2 n a0 a1 a2 a3 a4 a5 a6 a5 a6 with
          | none => none
          | some (.inl c6_) =>
            some (.inr (.inl c6_))
          | some (.inr c6_) =>
            some (.inr (.inr c6_))
set_option maxRecDepth 100000 in
theorem p_firstRows1q2_0 (n : Nat) (a0 : Int) (a1 : Bool) (a2 : List (ByteArray)) (a3 : Nat) (a4 : Int) (a5 : Int) (a6 : Int) (hc1 : a5 < (0 : Int)) : Gv P (.func 11) (A_firstRows1q2 a0 a1 a2 a3 a4 a5 a6) (H_firstRows1q2 a0 a1 a2 a3 a4 a5 a6) (V_firstRows1q2 a0 a1 a2 a3 a4 a5 a6 (.inl ())) (R_firstRows1q2 a0 a1 a2 a3 a4 a5 a6 (.inl ())) :=
  runF_ok hm (A := aT [(5, .val (.bool true))]) (L := lT []) (wk := ⟨[], [(0, 0, false), (1, 1, false), (2, 2, false), (3, 3, false), (4, 4, false), (5, 5, true), (6, 6, false), (7, 7, false), (8, 8, false)], 9, 9⟩)
    (ps := [(Value.bool (decide (a5 < (0 : Int)))) = (Value.bool true),
    FlatB (.cells (layT (rows rw_s a2)) 9)]) (by kernel_rfl) ⟨(vbT hc1), (rows_flat rwf_s _ _), trivial⟩
set_option maxRecDepth 100000 in
theorem p_firstRows1q2_1 (n : Nat) (a0 : Int) (a1 : Bool) (a2 : List (ByteArray)) (a3 : Nat) (a4 : Int) (a5 : Int) (a6 : Int) (hc1 : ¬ (a5 < (0 : Int))) (hc2 : a5 > (8 : Int)) : Gv P (.func 11) (A_firstRows1q2 a0 a1 a2 a3 a4 a5 a6) (H_firstRows1q2 a0 a1 a2 a3 a4 a5 a6) (V_firstRows1q2 a0 a1 a2 a3 a4 a5 a6 (.inl ())) (R_firstRows1q2 a0 a1 a2 a3 a4 a5 a6 (.inl ())) :=
  runF_ok hm (A := aT [(5, .val (.bool false)), (8, .val (.bool true))]) (L := lT []) (wk := ⟨[], [(0, 0, false), (1, 1, false), (2, 2, false), (3, 3, false), (4, 4, false), (5, 5, true), (6, 6, false), (7, 7, false), (8, 8, false)], 9, 9⟩)
    (ps := [(Value.bool (decide (a5 < (0 : Int)))) = (Value.bool false),
    (Value.bool (decide (a5 > (8 : Int)))) = (Value.bool true),
    FlatB (.cells (layT (rows rw_s a2)) 9)]) (by kernel_rfl) ⟨(vbF hc1), (vbT hc2), (rows_flat rwf_s _ _), trivial⟩
set_option maxRecDepth 100000 in
theorem p_firstRows1q2_2 (n : Nat) (a0 : Int) (a1 : Bool) (a2 : List (ByteArray)) (a3 : Nat) (a4 : Int) (a5 : Int) (a6 : Int) (hc1 : ¬ (a5 < (0 : Int))) (hc2 : ¬ (a5 > (8 : Int))) (hc3 : a6 < (1 : Int)) : Gv P (.func 11) (A_firstRows1q2 a0 a1 a2 a3 a4 a5 a6) (H_firstRows1q2 a0 a1 a2 a3 a4 a5 a6) (V_firstRows1q2 a0 a1 a2 a3 a4 a5 a6 (.inl ())) (R_firstRows1q2 a0 a1 a2 a3 a4 a5 a6 (.inl ())) :=
  runF_ok hm (A := aT [(5, .val (.bool false)), (8, .val (.bool false)), (12, .val (.bool true))]) (L := lT []) (wk := ⟨[], [(0, 0, false), (1, 1, false), (2, 2, false), (3, 3, false), (4, 4, false), (5, 5, true), (6, 6, false), (7, 7, false), (8, 8, false)], 9, 9⟩)
    (ps := [(Value.bool (decide (a5 < (0 : Int)))) = (Value.bool false),
    (Value.bool (decide (a5 > (8 : Int)))) = (Value.bool false),
    (Value.bool (decide (a6 < (1 : Int)))) = (Value.bool true),
    FlatB (.cells (layT (rows rw_s a2)) 9)]) (by kernel_rfl) ⟨(vbF hc1), (vbF hc2), (vbT hc3), (rows_flat rwf_s _ _), trivial⟩
set_option maxRecDepth 100000 in
theorem p_firstRows1q2_3 (n : Nat) (a0 : Int) (a1 : Bool) (a2 : List (ByteArray)) (a3 : Nat) (a4 : Int) (a5 : Int) (a6 : Int) (hc1 : ¬ (a5 < (0 : Int))) (hc2 : ¬ (a5 > (8 : Int))) (hc3 : ¬ (a6 < (1 : Int))) (hc4 : a6 > (3 : Int)) : Gv P (.func 11) (A_firstRows1q2 a0 a1 a2 a3 a4 a5 a6) (H_firstRows1q2 a0 a1 a2 a3 a4 a5 a6) (V_firstRows1q2 a0 a1 a2 a3 a4 a5 a6 (.inl ())) (R_firstRows1q2 a0 a1 a2 a3 a4 a5 a6 (.inl ())) :=
  runF_ok hm (A := aT [(5, .val (.bool false)), (8, .val (.bool false)), (12, .val (.bool false)), (16, .val (.bool true))]) (L := lT []) (wk := ⟨[], [(0, 0, false), (1, 1, false), (2, 2, false), (3, 3, false), (4, 4, false), (5, 5, true), (6, 6, false), (7, 7, false), (8, 8, false)], 9, 9⟩)
    (ps := [(Value.bool (decide (a5 < (0 : Int)))) = (Value.bool false),
    (Value.bool (decide (a5 > (8 : Int)))) = (Value.bool false),
    (Value.bool (decide (a6 < (1 : Int)))) = (Value.bool false),
    (Value.bool (decide (a6 > (3 : Int)))) = (Value.bool true),
    FlatB (.cells (layT (rows rw_s a2)) 9)]) (by kernel_rfl) ⟨(vbF hc1), (vbF hc2), (vbF hc3), (vbT hc4), (rows_flat rwf_s _ _), trivial⟩
set_option maxRecDepth 100000 in
theorem p_firstRows1q2_4 (n : Nat) (a0 : Int) (a1 : Bool) (a2 : List (ByteArray)) (a3 : Nat) (a4 : Int) (a5 : Int) (a6 : Int) (hc1 : ¬ (a5 < (0 : Int))) (hc2 : ¬ (a5 > (8 : Int))) (hc3 : ¬ (a6 < (1 : Int))) (hc4 : ¬ (a6 > (3 : Int))) (hc5 : m_firstclockq1 n a5 a6 = some ()) (c6_ : Int) (hc6 : m_firstclock1q2 n a0 a1 a2 a3 a4 a5 a6 a5 a6 = some (.inl c6_)) : Gv P (.func 11) (A_firstRows1q2 a0 a1 a2 a3 a4 a5 a6) (H_firstRows1q2 a0 a1 a2 a3 a4 a5 a6) (V_firstRows1q2 a0 a1 a2 a3 a4 a5 a6 (.inr (.inl c6_))) (R_firstRows1q2 a0 a1 a2 a3 a4 a5 a6 (.inr (.inl c6_))) :=
  runF_ok hm (A := aT [(5, .val (.bool false)), (8, .val (.bool false)), (12, .val (.bool false)), (16, .val (.bool false)), (22, .call ⟨0, [], (V_firstclockq1 a5 a6 ()), (R_firstclockq1 a5 a6 ()), [(10, 0, false), (11, 1, false)]⟩), (24, .rng ⟨14, [(0, 13, false), (1, 12, false), (2, 9, false), (3, 0, false), (4, 1, false), (5, 2, false), (6, 3, false), (7, 4, false), (8, 5, true), (9, 6, false), (10, 7, false), (11, 8, false), (12, 10, false), (13, 11, false)], (V_firstclock1q2 a0 a1 a2 a3 a4 a5 a6 a5 a6 (.inl c6_)), (R_firstclock1q2 a0 a1 a2 a3 a4 a5 a6 a5 a6 (.inl c6_)), [(13, 0, false), (12, 1, false), (9, 2, false), (0, 3, false), (1, 4, false), (2, 5, false), (3, 6, false), (4, 7, false), (5, 8, true), (6, 9, false), (7, 10, false), (8, 11, false), (10, 12, false), (11, 13, false)]⟩ [3, 21])]) (L := lT []) (wk := ⟨[], [(0, 0, false), (1, 1, false), (2, 2, false), (3, 3, false), (4, 4, false), (5, 5, true), (6, 6, false), (7, 7, false), (8, 8, false), (9, 12, false)], 10, 0⟩)
    (ps := [(Value.bool (decide (a5 < (0 : Int)))) = (Value.bool false),
    (Value.bool (decide (a5 > (8 : Int)))) = (Value.bool false),
    (Value.bool (decide (a6 < (1 : Int)))) = (Value.bool false),
    (Value.bool (decide (a6 > (3 : Int)))) = (Value.bool false),
    Gv P (.func 12) (A_firstclockq1 a5 a6) (H_firstclockq1 a5 a6) (V_firstclockq1 a5 a6 ()) (R_firstclockq1 a5 a6 ()),
    Gv P (.func 17) (A_firstclock1q2 a0 a1 a2 a3 a4 a5 a6 a5 a6) (H_firstclock1q2 a0 a1 a2 a3 a4 a5 a6 a5 a6) (V_firstclock1q2 a0 a1 a2 a3 a4 a5 a6 a5 a6 (.inl c6_)) (R_firstclock1q2 a0 a1 a2 a3 a4 a5 a6 a5 a6 (.inl c6_)),
    FlatB (.cells (layT (rows rw_s a2)) 9),
    FlatB (.cells (layT (rows rw_s a2)) 9),
    FlatB (.cells (layT (rows rw_s a2)) 9)]) (by kernel_rfl) ⟨(vbF hc1), (vbF hc2), (vbF hc3), (vbF hc4), (m_firstclockq1_ok n a5 a6 () hc5), (m_firstclock1q2_ok n a0 a1 a2 a3 a4 a5 a6 a5 a6 (.inl c6_) hc6), (rows_flat rwf_s _ _), (rows_flat rwf_s _ _), (rows_flat rwf_s _ _), trivial⟩
set_option maxRecDepth 100000 in
theorem p_firstRows1q2_5 (n : Nat) (a0 : Int) (a1 : Bool) (a2 : List (ByteArray)) (a3 : Nat) (a4 : Int) (a5 : Int) (a6 : Int) (hc1 : ¬ (a5 < (0 : Int))) (hc2 : ¬ (a5 > (8 : Int))) (hc3 : ¬ (a6 < (1 : Int))) (hc4 : ¬ (a6 > (3 : Int))) (hc5 : m_firstclockq1 n a5 a6 = some ()) (c6_ : Int) (hc6 : m_firstclock1q2 n a0 a1 a2 a3 a4 a5 a6 a5 a6 = some (.inr c6_)) : Gv P (.func 11) (A_firstRows1q2 a0 a1 a2 a3 a4 a5 a6) (H_firstRows1q2 a0 a1 a2 a3 a4 a5 a6) (V_firstRows1q2 a0 a1 a2 a3 a4 a5 a6 (.inr (.inr c6_))) (R_firstRows1q2 a0 a1 a2 a3 a4 a5 a6 (.inr (.inr c6_))) :=
  runF_ok hm (A := aT [(5, .val (.bool false)), (8, .val (.bool false)), (12, .val (.bool false)), (16, .val (.bool false)), (22, .call ⟨0, [], (V_firstclockq1 a5 a6 ()), (R_firstclockq1 a5 a6 ()), [(10, 0, false), (11, 1, false)]⟩), (24, .rng ⟨14, [(0, 13, false), (1, 12, false), (2, 9, false), (3, 0, false), (4, 1, false), (5, 2, false), (6, 3, false), (7, 4, false), (8, 5, true), (9, 6, false), (10, 7, false), (11, 8, false), (12, 10, false), (13, 11, false)], (V_firstclock1q2 a0 a1 a2 a3 a4 a5 a6 a5 a6 (.inr c6_)), (R_firstclock1q2 a0 a1 a2 a3 a4 a5 a6 a5 a6 (.inr c6_)), [(13, 0, false), (12, 1, false), (9, 2, false), (0, 3, false), (1, 4, false), (2, 5, false), (3, 6, false), (4, 7, false), (5, 8, true), (6, 9, false), (7, 10, false), (8, 11, false), (10, 12, false), (11, 13, false)]⟩ [3, 21])]) (L := lT []) (wk := ⟨[], [(0, 0, false), (1, 1, false), (2, 2, false), (3, 3, false), (4, 4, false), (5, 5, true), (6, 6, false), (7, 7, false), (8, 8, false), (9, 12, false)], 10, 0⟩)
    (ps := [(Value.bool (decide (a5 < (0 : Int)))) = (Value.bool false),
    (Value.bool (decide (a5 > (8 : Int)))) = (Value.bool false),
    (Value.bool (decide (a6 < (1 : Int)))) = (Value.bool false),
    (Value.bool (decide (a6 > (3 : Int)))) = (Value.bool false),
    Gv P (.func 12) (A_firstclockq1 a5 a6) (H_firstclockq1 a5 a6) (V_firstclockq1 a5 a6 ()) (R_firstclockq1 a5 a6 ()),
    Gv P (.func 17) (A_firstclock1q2 a0 a1 a2 a3 a4 a5 a6 a5 a6) (H_firstclock1q2 a0 a1 a2 a3 a4 a5 a6 a5 a6) (V_firstclock1q2 a0 a1 a2 a3 a4 a5 a6 a5 a6 (.inr c6_)) (R_firstclock1q2 a0 a1 a2 a3 a4 a5 a6 a5 a6 (.inr c6_)),
    FlatB (.cells (layT (rows rw_s a2)) 9),
    FlatB (.cells (layT (rows rw_s a2)) 9),
    FlatB (.cells (layT (rows rw_s a2)) 9)]) (by kernel_rfl) ⟨(vbF hc1), (vbF hc2), (vbF hc3), (vbF hc4), (m_firstclockq1_ok n a5 a6 () hc5), (m_firstclock1q2_ok n a0 a1 a2 a3 a4 a5 a6 a5 a6 (.inr c6_) hc6), (rows_flat rwf_s _ _), (rows_flat rwf_s _ _), (rows_flat rwf_s _ _), trivial⟩
theorem m_firstRows1q2_ok (n : Nat) (a0 : Int) (a1 : Bool) (a2 : List (ByteArray)) (a3 : Nat) (a4 : Int) (a5 : Int) (a6 : Int) (r : (Unit) ⊕ ((Int) ⊕ (Int))) (h : m_firstRows1q2 n a0 a1 a2 a3 a4 a5 a6 = some r) : Gv P (.func 11) (A_firstRows1q2 a0 a1 a2 a3 a4 a5 a6) (H_firstRows1q2 a0 a1 a2 a3 a4 a5 a6) (V_firstRows1q2 a0 a1 a2 a3 a4 a5 a6 r) (R_firstRows1q2 a0 a1 a2 a3 a4 a5 a6 r) := by
  unfold m_firstRows1q2 at h
  by_cases hc1 : a5 < (0 : Int)
  · rw [if_pos hc1] at h
    obtain rfl := Option.some.inj h; exact p_firstRows1q2_0 n a0 a1 a2 a3 a4 a5 a6 hc1
  · rw [if_neg hc1] at h
    by_cases hc2 : a5 > (8 : Int)
    · rw [if_pos hc2] at h
      obtain rfl := Option.some.inj h; exact p_firstRows1q2_1 n a0 a1 a2 a3 a4 a5 a6 hc1 hc2
    · rw [if_neg hc2] at h
      by_cases hc3 : a6 < (1 : Int)
      · rw [if_pos hc3] at h
        obtain rfl := Option.some.inj h; exact p_firstRows1q2_2 n a0 a1 a2 a3 a4 a5 a6 hc1 hc2 hc3
      · rw [if_neg hc3] at h
        by_cases hc4 : a6 > (3 : Int)
        · rw [if_pos hc4] at h
          obtain rfl := Option.some.inj h; exact p_firstRows1q2_3 n a0 a1 a2 a3 a4 a5 a6 hc1 hc2 hc3 hc4
        · rw [if_neg hc4] at h
          obtain ⟨_, hc5, h⟩ := Option.bind_eq_some_iff.1 h
          rcases hc6 : m_firstclock1q2 n a0 a1 a2 a3 a4 a5 a6 a5 a6 with _ | (c6_ | c6_)
          · rw [hc6] at h; cases h
          · rw [hc6] at h
            dsimp only at h
            obtain rfl := Option.some.inj h; exact p_firstRows1q2_4 n a0 a1 a2 a3 a4 a5 a6 hc1 hc2 hc3 hc4 hc5 c6_ hc6
          · rw [hc6] at h
            dsimp only at h
            obtain rfl := Option.some.inj h; exact p_firstRows1q2_5 n a0 a1 a2 a3 a4 a5 a6 hc1 hc2 hc3 hc4 hc5 c6_ hc6

noncomputable def S_viewportlaw12FirstRows_3 (x3_0 : Int) (x3_1 : Int) (x3_2 : Int) (x3_3 : List (ByteArray)) (x3_4 : Int) (x3_5 : ByteArray) (st : Int) : XSt := match st with
  | x3_6 => (sT 156 [(0, (Value.int .i64 x3_0)), (1, (Value.int .i64 x3_1)), (5, (Value.pointer (some ⟨0, 0, none⟩))), (6, (Value.pointer (some ⟨1, 0, none⟩))), (7, (Value.pointer (some ⟨2, 0, none⟩))), (12, (Value.int .i64 x3_4)), (13, (Value.string x3_5)), (14, (Value.int .i64 x3_6))], [], ⟨sB [(0, (some (.cells (layT [(Value.int .i64 x3_2)]) 3))), (1, (some (.cells (layT [(Value.bool false)]) 4))), (2, (some (.cells (layT [(Value.slice (some ⟨3, 0, none⟩) (x3_3).length (Nat.add big 1))]) 23))), (3, (some (.cells (layT (rows rw_s x3_3)) 9)))], 4, 0⟩)
noncomputable def X_viewportlaw12FirstRows_3 (x3_0 : Int) (x3_1 : Int) (x3_2 : Int) (x3_3 : List (ByteArray)) (x3_4 : Int) (x3_5 : ByteArray) (r : Unit) : Ex × XSt := match r with
  | _ => (.exit 4, (sT 156 [(0, (Value.int .i64 x3_0)), (1, (Value.int .i64 x3_1)), (5, (Value.pointer (some ⟨0, 0, none⟩))), (6, (Value.pointer (some ⟨1, 0, none⟩))), (7, (Value.pointer (some ⟨2, 0, none⟩))), (12, (Value.int .i64 x3_4))], [], ⟨sB [(0, (some (.cells (layT [(Value.int .i64 x3_2)]) 3))), (1, (some (.cells (layT [(Value.bool false)]) 4))), (2, (some (.cells (layT [(Value.slice (some ⟨3, 0, none⟩) (x3_3).length (Nat.add big 1))]) 23))), (3, (some (.cells (layT (rows rw_s x3_3)) 9)))], 4, 0⟩))
def B_viewportlaw12FirstRows_3 (n : Nat) (x3_0 : Int) (x3_1 : Int) (x3_2 : Int) (x3_3 : List (ByteArray)) (x3_4 : Int) (x3_5 : ByteArray) (st : Int) : Option ((Int) ⊕ (Unit)) := match st with
  | x3_6 =>
    if x3_6 < (((x3_5).size : Nat) : Int) then
      if 0 ≤ x3_6 ∧ x3_6 < (((x3_5).size : Nat) : Int) then
        if (IntKind.i64.wrap (byteAt x3_5 (x3_6).toNat)) ≥ x3_0 then
          if (byteAt x3_5 (x3_6).toNat) = (255 : Int) then
            if x3_6 < (w64 ((((x3_5).size : Nat) : Int) - (1 : Int))) then
              none
            else
              some (.inl (w64 (x3_6 + (1 : Int))))
          else
            none
        else
          some (.inl (w64 (x3_6 + (1 : Int))))
      else none
    else
      some (.inr ())
def m_viewportlaw12FirstRows_3 (n : Nat) (x3_0 : Int) (x3_1 : Int) (x3_2 : Int) (x3_3 : List (ByteArray)) (x3_4 : Int) (x3_5 : ByteArray) (st : Int) : Option (Unit) := iterM (B_viewportlaw12FirstRows_3 n x3_0 x3_1 x3_2 x3_3 x3_4 x3_5) n st
set_option maxRecDepth 100000 in
theorem q_viewportlaw12FirstRows_3_0 (n : Nat) {rnd : Option Nat} (x3_0 : Int) (x3_1 : Int) (x3_2 : Int) (x3_3 : List (ByteArray)) (x3_4 : Int) (x3_5 : ByteArray) (x3_6 : Int) (hy3_1 : x3_6 < (((x3_5).size : Nat) : Int)) (hy3_2 : 0 ≤ x3_6 ∧ x3_6 < (((x3_5).size : Nat) : Int)) (hy3_3 : (IntKind.i64.wrap (byteAt x3_5 (x3_6).toNat)) ≥ x3_0) (hy3_4 : (byteAt x3_5 (x3_6).toNat) = (255 : Int)) (hy3_5 : ¬ (x3_6 < (w64 ((((x3_5).size : Nat) : Int) - (1 : Int))))) : CG P rnd (fnN P 3) 0 (codeOf P 3 [false, false, true, true, true, false, false, true, false, false, true, false, true, true, true, true, true, true, true]) (S_viewportlaw12FirstRows_3 x3_0 x3_1 x3_2 x3_3 x3_4 x3_5 x3_6) (.normal, S_viewportlaw12FirstRows_3 x3_0 x3_1 x3_2 x3_3 x3_4 x3_5 (w64 (x3_6 + (1 : Int)))) :=
  runC_ok hm (A := aT [(5, .val (.bool true)), (12, .pur (Value.int .u8 (byteAt x3_5 (x3_6).toNat))), (15, .val (.bool true)), (19, .pur (Value.int .u8 (byteAt x3_5 (x3_6).toNat))), (20, .val (.bool false)), (26, .val (.bool false))]) (L := lT []) (wk := ⟨[0, 1, 5, 6, 7, 12, 13, 14], [(0, 0, false), (1, 1, false), (2, 2, false), (3, 3, true)], 4, 0⟩)
    (ps := [(Value.bool (decide (x3_6 < (((x3_5).size : Nat) : Int)))) = (Value.bool true),
    opIndex P 9 (Value.string x3_5) (Value.int .i64 x3_6) Ax.h0 = some ((Value.int .u8 (byteAt x3_5 (x3_6).toNat)), Ax.h0),
    (Value.bool (decide ((IntKind.i64.wrap (byteAt x3_5 (x3_6).toNat)) ≥ x3_0))) = (Value.bool true),
    opIndex P 9 (Value.string x3_5) (Value.int .i64 x3_6) Ax.h0 = some ((Value.int .u8 (byteAt x3_5 (x3_6).toNat)), Ax.h0),
    (Value.bool ((byteAt x3_5 (x3_6).toNat) != (255 : Int))) = (Value.bool false),
    (Value.bool (decide (x3_6 < (w64 ((((x3_5).size : Nat) : Int) - (1 : Int)))))) = (Value.bool false),
    FlatB (.cells (layT (rows rw_s x3_3)) 9)]) (by kernel_rfl) ⟨(vbT hy3_1), (ixStr (by kernel_rfl) hy3_2), (vbT hy3_3), (ixStr (by kernel_rfl) hy3_2), (vnF hy3_4), (vbF hy3_5), (rows_flat rwf_s _ _), trivial⟩
set_option maxRecDepth 100000 in
theorem q_viewportlaw12FirstRows_3_1 (n : Nat) {rnd : Option Nat} (x3_0 : Int) (x3_1 : Int) (x3_2 : Int) (x3_3 : List (ByteArray)) (x3_4 : Int) (x3_5 : ByteArray) (x3_6 : Int) (hy3_1 : x3_6 < (((x3_5).size : Nat) : Int)) (hy3_2 : 0 ≤ x3_6 ∧ x3_6 < (((x3_5).size : Nat) : Int)) (hy3_3 : ¬ ((IntKind.i64.wrap (byteAt x3_5 (x3_6).toNat)) ≥ x3_0)) : CG P rnd (fnN P 3) 0 (codeOf P 3 [false, false, true, true, true, false, false, true, false, false, true, false, true, true, true, true, true, true, true]) (S_viewportlaw12FirstRows_3 x3_0 x3_1 x3_2 x3_3 x3_4 x3_5 x3_6) (.normal, S_viewportlaw12FirstRows_3 x3_0 x3_1 x3_2 x3_3 x3_4 x3_5 (w64 (x3_6 + (1 : Int)))) :=
  runC_ok hm (A := aT [(5, .val (.bool true)), (12, .pur (Value.int .u8 (byteAt x3_5 (x3_6).toNat))), (15, .val (.bool false))]) (L := lT []) (wk := ⟨[0, 1, 5, 6, 7, 12, 13, 14], [(0, 0, false), (1, 1, false), (2, 2, false), (3, 3, true)], 4, 0⟩)
    (ps := [(Value.bool (decide (x3_6 < (((x3_5).size : Nat) : Int)))) = (Value.bool true),
    opIndex P 9 (Value.string x3_5) (Value.int .i64 x3_6) Ax.h0 = some ((Value.int .u8 (byteAt x3_5 (x3_6).toNat)), Ax.h0),
    (Value.bool (decide ((IntKind.i64.wrap (byteAt x3_5 (x3_6).toNat)) ≥ x3_0))) = (Value.bool false),
    FlatB (.cells (layT (rows rw_s x3_3)) 9)]) (by kernel_rfl) ⟨(vbT hy3_1), (ixStr (by kernel_rfl) hy3_2), (vbF hy3_3), (rows_flat rwf_s _ _), trivial⟩
set_option maxRecDepth 100000 in
theorem q_viewportlaw12FirstRows_3_2 (n : Nat) {rnd : Option Nat} (x3_0 : Int) (x3_1 : Int) (x3_2 : Int) (x3_3 : List (ByteArray)) (x3_4 : Int) (x3_5 : ByteArray) (x3_6 : Int) (hy3_1 : ¬ (x3_6 < (((x3_5).size : Nat) : Int))) : CG P rnd (fnN P 3) 0 (codeOf P 3 [false, false, true, true, true, false, false, true, false, false, true, false, true, true, true, true, true, true, true]) (S_viewportlaw12FirstRows_3 x3_0 x3_1 x3_2 x3_3 x3_4 x3_5 x3_6) (X_viewportlaw12FirstRows_3 x3_0 x3_1 x3_2 x3_3 x3_4 x3_5 ()) :=
  runC_ok hm (A := aT [(5, .val (.bool false))]) (L := lT []) (wk := ⟨[0, 1, 5, 6, 7, 12], [(0, 0, false), (1, 1, false), (2, 2, false), (3, 3, true)], 4, 0⟩)
    (ps := [(Value.bool (decide (x3_6 < (((x3_5).size : Nat) : Int)))) = (Value.bool false),
    FlatB (.cells (layT (rows rw_s x3_3)) 9)]) (by kernel_rfl) ⟨(vbF hy3_1), (rows_flat rwf_s _ _), trivial⟩
theorem m_viewportlaw12FirstRows_3_ok (n : Nat) {rnd : Option Nat} (x3_0 : Int) (x3_1 : Int) (x3_2 : Int) (x3_3 : List (ByteArray)) (x3_4 : Int) (x3_5 : ByteArray) (st : Int) (r : Unit) (h : m_viewportlaw12FirstRows_3 n x3_0 x3_1 x3_2 x3_3 x3_4 x3_5 st = some r) : CG P rnd (fnN P 3) 0 (codeOf P 3 [false, true, true, true, false, false, true, false, false, true, false, true, true, true, true, true, true, true]) (S_viewportlaw12FirstRows_3 x3_0 x3_1 x3_2 x3_3 x3_4 x3_5 st) (X_viewportlaw12FirstRows_3 x3_0 x3_1 x3_2 x3_3 x3_4 x3_5 r) :=
  CG.iter (b := codeOf P 3 [false, false, true, true, true, false, false, true, false, false, true, false, true, true, true, true, true, true, true]) (by kernel_rfl) (body := B_viewportlaw12FirstRows_3 n x3_0 x3_1 x3_2 x3_3 x3_4 x3_5) (S := S_viewportlaw12FirstRows_3 x3_0 x3_1 x3_2 x3_3 x3_4 x3_5) (X := X_viewportlaw12FirstRows_3 x3_0 x3_1 x3_2 x3_3 x3_4 x3_5)
    (fun x3_6 s' h => by
    unfold B_viewportlaw12FirstRows_3 at h
    dsimp only at h
    by_cases hy3_1 : x3_6 < (((x3_5).size : Nat) : Int)
    · rw [if_pos hy3_1] at h
      by_cases hy3_2 : 0 ≤ x3_6 ∧ x3_6 < (((x3_5).size : Nat) : Int)
      · rw [if_pos hy3_2] at h
        by_cases hy3_3 : (IntKind.i64.wrap (byteAt x3_5 (x3_6).toNat)) ≥ x3_0
        · rw [if_pos hy3_3] at h
          by_cases hy3_4 : (byteAt x3_5 (x3_6).toNat) = (255 : Int)
          · rw [if_pos hy3_4] at h
            by_cases hy3_5 : x3_6 < (w64 ((((x3_5).size : Nat) : Int) - (1 : Int)))
            · rw [if_pos hy3_5] at h
              cases h
            · rw [if_neg hy3_5] at h
              obtain rfl := Sum.inl.inj (Option.some.inj h); exact q_viewportlaw12FirstRows_3_0 n x3_0 x3_1 x3_2 x3_3 x3_4 x3_5 x3_6 hy3_1 hy3_2 hy3_3 hy3_4 hy3_5
          · rw [if_neg hy3_4] at h
            cases h
        · rw [if_neg hy3_3] at h
          obtain rfl := Sum.inl.inj (Option.some.inj h); exact q_viewportlaw12FirstRows_3_1 n x3_0 x3_1 x3_2 x3_3 x3_4 x3_5 x3_6 hy3_1 hy3_2 hy3_3
      · rw [if_neg hy3_2] at h; cases h
    · rw [if_neg hy3_1] at h
      cases h)
    (fun x3_6 r h => by
    unfold B_viewportlaw12FirstRows_3 at h
    dsimp only at h
    by_cases hy3_1 : x3_6 < (((x3_5).size : Nat) : Int)
    · rw [if_pos hy3_1] at h
      by_cases hy3_2 : 0 ≤ x3_6 ∧ x3_6 < (((x3_5).size : Nat) : Int)
      · rw [if_pos hy3_2] at h
        by_cases hy3_3 : (IntKind.i64.wrap (byteAt x3_5 (x3_6).toNat)) ≥ x3_0
        · rw [if_pos hy3_3] at h
          by_cases hy3_4 : (byteAt x3_5 (x3_6).toNat) = (255 : Int)
          · rw [if_pos hy3_4] at h
            by_cases hy3_5 : x3_6 < (w64 ((((x3_5).size : Nat) : Int) - (1 : Int)))
            · rw [if_pos hy3_5] at h
              cases h
            · rw [if_neg hy3_5] at h
              cases h
          · rw [if_neg hy3_4] at h
            cases h
        · rw [if_neg hy3_3] at h
          cases h
      · rw [if_neg hy3_2] at h; cases h
    · rw [if_neg hy3_1] at h
      obtain rfl := Sum.inr.inj (Option.some.inj h); exact q_viewportlaw12FirstRows_3_2 n x3_0 x3_1 x3_2 x3_3 x3_4 x3_5 x3_6 hy3_1)
    (fun r => by intro hx; cases hx) h
noncomputable def S_viewportlaw12FirstRows_2 (x2_0 : Int) (x2_1 : Int) (x2_2 : Int) (x2_3 : List (ByteArray)) (st : Int) : XSt := match st with
  | x2_4 => (sT 156 [(0, (Value.int .i64 x2_0)), (1, (Value.int .i64 x2_1)), (5, (Value.pointer (some ⟨0, 0, none⟩))), (6, (Value.pointer (some ⟨1, 0, none⟩))), (7, (Value.pointer (some ⟨2, 0, none⟩))), (12, (Value.int .i64 x2_4))], [], ⟨sB [(0, (some (.cells (layT [(Value.int .i64 x2_2)]) 3))), (1, (some (.cells (layT [(Value.bool false)]) 4))), (2, (some (.cells (layT [(Value.slice (some ⟨3, 0, none⟩) (x2_3).length (Nat.add big 1))]) 23))), (3, (some (.cells (layT (rows rw_s x2_3)) 9)))], 4, 0⟩)
noncomputable def X_viewportlaw12FirstRows_2 (x2_0 : Int) (x2_1 : Int) (x2_2 : Int) (x2_3 : List (ByteArray)) (r : Unit) : Ex × XSt := match r with
  | _ => (.exit 2, (sT 156 [(0, (Value.int .i64 x2_0)), (1, (Value.int .i64 x2_1)), (5, (Value.pointer (some ⟨0, 0, none⟩))), (6, (Value.pointer (some ⟨1, 0, none⟩))), (7, (Value.pointer (some ⟨2, 0, none⟩)))], [], ⟨sB [(0, (some (.cells (layT [(Value.int .i64 x2_2)]) 3))), (1, (some (.cells (layT [(Value.bool false)]) 4))), (2, (some (.cells (layT [(Value.slice (some ⟨3, 0, none⟩) (x2_3).length (Nat.add big 1))]) 23))), (3, (some (.cells (layT (rows rw_s x2_3)) 9)))], 4, 0⟩))
def B_viewportlaw12FirstRows_2 (n : Nat) (x2_0 : Int) (x2_1 : Int) (x2_2 : Int) (x2_3 : List (ByteArray)) (st : Int) : Option ((Int) ⊕ (Unit)) := match st with
  | x2_4 =>
    if x2_4 < (((x2_3).length : Nat) : Int) then
      if 0 ≤ x2_4 ∧ x2_4 < (((x2_3).length : Nat) : Int) then
        if x2_4 > (0 : Int) then
          if 0 ≤ (w64 (x2_4 - (1 : Int))) ∧ (w64 (x2_4 - (1 : Int))) < (((x2_3).length : Nat) : Int) then
            if Go.Op.bytesLess (((x2_3).getD ((w64 (x2_4 - (1 : Int)))).toNat (ByteArray.empty))).data.toList (((x2_3).getD (x2_4).toNat (ByteArray.empty))).data.toList = true then
              if (((((x2_3).getD (x2_4).toNat (ByteArray.empty))).size : Nat) : Int) > x2_1 then
                none
              else
                if (((x2_3).getD (x2_4).toNat (ByteArray.empty))).data.toList = ((ByteArray.mk #[])).data.toList then
                  none
                else
                  if (((((x2_3).getD (x2_4).toNat (ByteArray.empty))).size : Nat) : Int) < x2_1 then
                    if 0 ≤ (w64 ((((((x2_3).getD (x2_4).toNat (ByteArray.empty))).size : Nat) : Int) - (1 : Int))) ∧ (w64 ((((((x2_3).getD (x2_4).toNat (ByteArray.empty))).size : Nat) : Int) - (1 : Int))) < (((((x2_3).getD (x2_4).toNat (ByteArray.empty))).size : Nat) : Int) then
                      if (byteAt ((x2_3).getD (x2_4).toNat (ByteArray.empty)) ((w64 ((((((x2_3).getD (x2_4).toNat (ByteArray.empty))).size : Nat) : Int) - (1 : Int)))).toNat) = (255 : Int) then
                        (m_viewportlaw12FirstRows_3 n x2_0 x2_1 x2_2 x2_3 x2_4 ((x2_3).getD (x2_4).toNat (ByteArray.empty)) 0).bind fun _ =>
                        some (.inl (w64 (x2_4 + (1 : Int))))
                      else
                        none
                    else none
                  else
                    (m_viewportlaw12FirstRows_3 n x2_0 x2_1 x2_2 x2_3 x2_4 ((x2_3).getD (x2_4).toNat (ByteArray.empty)) 0).bind fun _ =>
                    some (.inl (w64 (x2_4 + (1 : Int))))
            else
              none
          else none
        else
          if (((((x2_3).getD (x2_4).toNat (ByteArray.empty))).size : Nat) : Int) > x2_1 then
            none
          else
            if (((x2_3).getD (x2_4).toNat (ByteArray.empty))).data.toList = ((ByteArray.mk #[])).data.toList then
              none
            else
              if (((((x2_3).getD (x2_4).toNat (ByteArray.empty))).size : Nat) : Int) < x2_1 then
                if 0 ≤ (w64 ((((((x2_3).getD (x2_4).toNat (ByteArray.empty))).size : Nat) : Int) - (1 : Int))) ∧ (w64 ((((((x2_3).getD (x2_4).toNat (ByteArray.empty))).size : Nat) : Int) - (1 : Int))) < (((((x2_3).getD (x2_4).toNat (ByteArray.empty))).size : Nat) : Int) then
                  if (byteAt ((x2_3).getD (x2_4).toNat (ByteArray.empty)) ((w64 ((((((x2_3).getD (x2_4).toNat (ByteArray.empty))).size : Nat) : Int) - (1 : Int)))).toNat) = (255 : Int) then
                    (m_viewportlaw12FirstRows_3 n x2_0 x2_1 x2_2 x2_3 x2_4 ((x2_3).getD (x2_4).toNat (ByteArray.empty)) 0).bind fun _ =>
                    some (.inl (w64 (x2_4 + (1 : Int))))
                  else
                    none
                else none
              else
                (m_viewportlaw12FirstRows_3 n x2_0 x2_1 x2_2 x2_3 x2_4 ((x2_3).getD (x2_4).toNat (ByteArray.empty)) 0).bind fun _ =>
                some (.inl (w64 (x2_4 + (1 : Int))))
      else none
    else
      some (.inr ())
def m_viewportlaw12FirstRows_2 (n : Nat) (x2_0 : Int) (x2_1 : Int) (x2_2 : Int) (x2_3 : List (ByteArray)) (st : Int) : Option (Unit) := iterM (B_viewportlaw12FirstRows_2 n x2_0 x2_1 x2_2 x2_3) n st
set_option maxRecDepth 100000 in
theorem q_viewportlaw12FirstRows_2_0 (n : Nat) {rnd : Option Nat} (x2_0 : Int) (x2_1 : Int) (x2_2 : Int) (x2_3 : List (ByteArray)) (x2_4 : Int) (hy2_1 : x2_4 < (((x2_3).length : Nat) : Int)) (hy2_2 : 0 ≤ x2_4 ∧ x2_4 < (((x2_3).length : Nat) : Int)) (hy2_3 : x2_4 > (0 : Int)) (hy2_4 : 0 ≤ (w64 (x2_4 - (1 : Int))) ∧ (w64 (x2_4 - (1 : Int))) < (((x2_3).length : Nat) : Int)) (hy2_5 : Go.Op.bytesLess (((x2_3).getD ((w64 (x2_4 - (1 : Int)))).toNat (ByteArray.empty))).data.toList (((x2_3).getD (x2_4).toNat (ByteArray.empty))).data.toList = true) (hy2_6 : ¬ ((((((x2_3).getD (x2_4).toNat (ByteArray.empty))).size : Nat) : Int) > x2_1)) (hy2_7 : ¬ ((((x2_3).getD (x2_4).toNat (ByteArray.empty))).data.toList = ((ByteArray.mk #[])).data.toList)) (hy2_8 : (((((x2_3).getD (x2_4).toNat (ByteArray.empty))).size : Nat) : Int) < x2_1) (hy2_9 : 0 ≤ (w64 ((((((x2_3).getD (x2_4).toNat (ByteArray.empty))).size : Nat) : Int) - (1 : Int))) ∧ (w64 ((((((x2_3).getD (x2_4).toNat (ByteArray.empty))).size : Nat) : Int) - (1 : Int))) < (((((x2_3).getD (x2_4).toNat (ByteArray.empty))).size : Nat) : Int)) (hy2_10 : (byteAt ((x2_3).getD (x2_4).toNat (ByteArray.empty)) ((w64 ((((((x2_3).getD (x2_4).toNat (ByteArray.empty))).size : Nat) : Int) - (1 : Int)))).toNat) = (255 : Int)) (hy2_11 : m_viewportlaw12FirstRows_3 n x2_0 x2_1 x2_2 x2_3 x2_4 ((x2_3).getD (x2_4).toNat (ByteArray.empty)) 0 = some ()) : CG P rnd (fnN P 3) 0 (codeOf P 3 [false, false, true, false, true, true, true, true, true, true, true]) (S_viewportlaw12FirstRows_2 x2_0 x2_1 x2_2 x2_3 x2_4) (.normal, S_viewportlaw12FirstRows_2 x2_0 x2_1 x2_2 x2_3 (w64 (x2_4 + (1 : Int)))) :=
  runC_ok hm (A := aT [(5, .val (.bool true)), (12, .pur (Value.pointer (some ⟨3, ((x2_4).toNat * 1), none⟩))), (13, .ld (Value.string ((x2_3).getD (x2_4).toNat (ByteArray.empty)))), (18, .val (.bool true)), (23, .pur (Value.pointer (some ⟨3, (((w64 (x2_4 - (1 : Int)))).toNat * 1), none⟩))), (24, .ld (Value.string ((x2_3).getD ((w64 (x2_4 - (1 : Int)))).toNat (ByteArray.empty)))), (26, .val (.bool false)), (32, .val (.bool false)), (36, .val (.bool false)), (42, .val (.bool true)), (48, .pur (Value.int .u8 (byteAt ((x2_3).getD (x2_4).toNat (ByteArray.empty)) ((w64 ((((((x2_3).getD (x2_4).toNat (ByteArray.empty))).size : Nat) : Int) - (1 : Int)))).toNat))), (49, .val (.bool false))]) (L := lT [(56, ⟨⟨[0, 1, 5, 6, 7, 12, 13, 14], [(0, 0, false), (1, 1, false), (2, 2, false), (3, 3, true)], 4, 0⟩, (X_viewportlaw12FirstRows_3 x2_0 x2_1 x2_2 x2_3 x2_4 ((x2_3).getD (x2_4).toNat (ByteArray.empty)) ()).1, (X_viewportlaw12FirstRows_3 x2_0 x2_1 x2_2 x2_3 x2_4 ((x2_3).getD (x2_4).toNat (ByteArray.empty)) ()).2⟩)]) (wk := ⟨[0, 1, 5, 6, 7, 12], [(0, 0, false), (1, 1, false), (2, 2, false), (3, 3, true)], 4, 0⟩)
    (ps := [(Value.bool (decide (x2_4 < (((x2_3).length : Nat) : Int)))) = (Value.bool true),
    opIndexAddr P 23 (Value.slice (some ⟨3, 0, none⟩) (x2_3).length (Nat.add big 1)) (Value.int .i64 x2_4) Ax.h0 = some ((Value.pointer (some ⟨3, ((x2_4).toNat * 1), none⟩)), Ax.h0),
    (layT (rows rw_s x2_3)).get ((x2_4).toNat * 1) = some (Value.string ((x2_3).getD (x2_4).toNat (ByteArray.empty))),
    (Value.bool (decide (x2_4 > (0 : Int)))) = (Value.bool true),
    opIndexAddr P 23 (Value.slice (some ⟨3, 0, none⟩) (x2_3).length (Nat.add big 1)) (Value.int .i64 (w64 (x2_4 - (1 : Int)))) Ax.h0 = some ((Value.pointer (some ⟨3, (((w64 (x2_4 - (1 : Int)))).toNat * 1), none⟩)), Ax.h0),
    (layT (rows rw_s x2_3)).get (((w64 (x2_4 - (1 : Int)))).toNat * 1) = some (Value.string ((x2_3).getD ((w64 (x2_4 - (1 : Int)))).toNat (ByteArray.empty))),
    (Value.bool (!(Go.Op.bytesLess (((x2_3).getD ((w64 (x2_4 - (1 : Int)))).toNat (ByteArray.empty))).toList (((x2_3).getD (x2_4).toNat (ByteArray.empty))).toList))) = (Value.bool false),
    (Value.bool (decide ((((((x2_3).getD (x2_4).toNat (ByteArray.empty))).size : Nat) : Int) > x2_1))) = (Value.bool false),
    (Value.bool ((((x2_3).getD (x2_4).toNat (ByteArray.empty))).toList == ((ByteArray.mk #[])).toList)) = (Value.bool false),
    (Value.bool (decide ((((((x2_3).getD (x2_4).toNat (ByteArray.empty))).size : Nat) : Int) < x2_1))) = (Value.bool true),
    opIndex P 9 (Value.string ((x2_3).getD (x2_4).toNat (ByteArray.empty))) (Value.int .i64 (w64 ((((((x2_3).getD (x2_4).toNat (ByteArray.empty))).size : Nat) : Int) - (1 : Int)))) Ax.h0 = some ((Value.int .u8 (byteAt ((x2_3).getD (x2_4).toNat (ByteArray.empty)) ((w64 ((((((x2_3).getD (x2_4).toNat (ByteArray.empty))).size : Nat) : Int) - (1 : Int)))).toNat)), Ax.h0),
    (Value.bool ((byteAt ((x2_3).getD (x2_4).toNat (ByteArray.empty)) ((w64 ((((((x2_3).getD (x2_4).toNat (ByteArray.empty))).size : Nat) : Int) - (1 : Int)))).toNat) != (255 : Int))) = (Value.bool false),
    CG P rnd (fnN P 3) 0 (codeOf P 3 [false, true, true, true, false, false, true, false, false, true, false, true, true, true, true, true, true, true]) (S_viewportlaw12FirstRows_3 x2_0 x2_1 x2_2 x2_3 x2_4 ((x2_3).getD (x2_4).toNat (ByteArray.empty)) 0) (X_viewportlaw12FirstRows_3 x2_0 x2_1 x2_2 x2_3 x2_4 ((x2_3).getD (x2_4).toNat (ByteArray.empty)) ()),
    FlatB (.cells (layT (rows rw_s x2_3)) 9),
    FlatB (.cells (layT (rows rw_s x2_3)) 9)]) (by kernel_rfl) ⟨(vbT hy2_1), (ixS (e := 9) (by kernel_rfl) (by kernel_rfl) (hy2_2).1 (hy2_2).2), (rows_ld rwf_s (ByteArray.empty) (i := (x2_4).toNat) (j := 0) ((x2_4).toNat * 1) rfl (toNatLt hy2_2) (by decide) rfl), (vbT hy2_3), (ixS (e := 9) (by kernel_rfl) (by kernel_rfl) (hy2_4).1 (hy2_4).2), (rows_ld rwf_s (ByteArray.empty) (i := ((w64 (x2_4 - (1 : Int)))).toNat) (j := 0) (((w64 (x2_4 - (1 : Int)))).toNat * 1) rfl (toNatLt hy2_4) (by decide) rfl), (by rw [vsLtT hy2_5] <;> rfl), (vbF hy2_6), (by rw [vsEqF hy2_7] <;> rfl), (vbT hy2_8), (ixStr (by kernel_rfl) hy2_9), (vnF hy2_10), (m_viewportlaw12FirstRows_3_ok n x2_0 x2_1 x2_2 x2_3 x2_4 ((x2_3).getD (x2_4).toNat (ByteArray.empty)) 0 () hy2_11), (rows_flat rwf_s _ _), (rows_flat rwf_s _ _), trivial⟩
set_option maxRecDepth 100000 in
theorem q_viewportlaw12FirstRows_2_1 (n : Nat) {rnd : Option Nat} (x2_0 : Int) (x2_1 : Int) (x2_2 : Int) (x2_3 : List (ByteArray)) (x2_4 : Int) (hy2_1 : x2_4 < (((x2_3).length : Nat) : Int)) (hy2_2 : 0 ≤ x2_4 ∧ x2_4 < (((x2_3).length : Nat) : Int)) (hy2_3 : x2_4 > (0 : Int)) (hy2_4 : 0 ≤ (w64 (x2_4 - (1 : Int))) ∧ (w64 (x2_4 - (1 : Int))) < (((x2_3).length : Nat) : Int)) (hy2_5 : Go.Op.bytesLess (((x2_3).getD ((w64 (x2_4 - (1 : Int)))).toNat (ByteArray.empty))).data.toList (((x2_3).getD (x2_4).toNat (ByteArray.empty))).data.toList = true) (hy2_6 : ¬ ((((((x2_3).getD (x2_4).toNat (ByteArray.empty))).size : Nat) : Int) > x2_1)) (hy2_7 : ¬ ((((x2_3).getD (x2_4).toNat (ByteArray.empty))).data.toList = ((ByteArray.mk #[])).data.toList)) (hy2_8 : ¬ ((((((x2_3).getD (x2_4).toNat (ByteArray.empty))).size : Nat) : Int) < x2_1)) (hy2_9 : m_viewportlaw12FirstRows_3 n x2_0 x2_1 x2_2 x2_3 x2_4 ((x2_3).getD (x2_4).toNat (ByteArray.empty)) 0 = some ()) : CG P rnd (fnN P 3) 0 (codeOf P 3 [false, false, true, false, true, true, true, true, true, true, true]) (S_viewportlaw12FirstRows_2 x2_0 x2_1 x2_2 x2_3 x2_4) (.normal, S_viewportlaw12FirstRows_2 x2_0 x2_1 x2_2 x2_3 (w64 (x2_4 + (1 : Int)))) :=
  runC_ok hm (A := aT [(5, .val (.bool true)), (12, .pur (Value.pointer (some ⟨3, ((x2_4).toNat * 1), none⟩))), (13, .ld (Value.string ((x2_3).getD (x2_4).toNat (ByteArray.empty)))), (18, .val (.bool true)), (23, .pur (Value.pointer (some ⟨3, (((w64 (x2_4 - (1 : Int)))).toNat * 1), none⟩))), (24, .ld (Value.string ((x2_3).getD ((w64 (x2_4 - (1 : Int)))).toNat (ByteArray.empty)))), (26, .val (.bool false)), (32, .val (.bool false)), (36, .val (.bool false)), (42, .val (.bool false))]) (L := lT [(56, ⟨⟨[0, 1, 5, 6, 7, 12, 13, 14], [(0, 0, false), (1, 1, false), (2, 2, false), (3, 3, true)], 4, 0⟩, (X_viewportlaw12FirstRows_3 x2_0 x2_1 x2_2 x2_3 x2_4 ((x2_3).getD (x2_4).toNat (ByteArray.empty)) ()).1, (X_viewportlaw12FirstRows_3 x2_0 x2_1 x2_2 x2_3 x2_4 ((x2_3).getD (x2_4).toNat (ByteArray.empty)) ()).2⟩)]) (wk := ⟨[0, 1, 5, 6, 7, 12], [(0, 0, false), (1, 1, false), (2, 2, false), (3, 3, true)], 4, 0⟩)
    (ps := [(Value.bool (decide (x2_4 < (((x2_3).length : Nat) : Int)))) = (Value.bool true),
    opIndexAddr P 23 (Value.slice (some ⟨3, 0, none⟩) (x2_3).length (Nat.add big 1)) (Value.int .i64 x2_4) Ax.h0 = some ((Value.pointer (some ⟨3, ((x2_4).toNat * 1), none⟩)), Ax.h0),
    (layT (rows rw_s x2_3)).get ((x2_4).toNat * 1) = some (Value.string ((x2_3).getD (x2_4).toNat (ByteArray.empty))),
    (Value.bool (decide (x2_4 > (0 : Int)))) = (Value.bool true),
    opIndexAddr P 23 (Value.slice (some ⟨3, 0, none⟩) (x2_3).length (Nat.add big 1)) (Value.int .i64 (w64 (x2_4 - (1 : Int)))) Ax.h0 = some ((Value.pointer (some ⟨3, (((w64 (x2_4 - (1 : Int)))).toNat * 1), none⟩)), Ax.h0),
    (layT (rows rw_s x2_3)).get (((w64 (x2_4 - (1 : Int)))).toNat * 1) = some (Value.string ((x2_3).getD ((w64 (x2_4 - (1 : Int)))).toNat (ByteArray.empty))),
    (Value.bool (!(Go.Op.bytesLess (((x2_3).getD ((w64 (x2_4 - (1 : Int)))).toNat (ByteArray.empty))).toList (((x2_3).getD (x2_4).toNat (ByteArray.empty))).toList))) = (Value.bool false),
    (Value.bool (decide ((((((x2_3).getD (x2_4).toNat (ByteArray.empty))).size : Nat) : Int) > x2_1))) = (Value.bool false),
    (Value.bool ((((x2_3).getD (x2_4).toNat (ByteArray.empty))).toList == ((ByteArray.mk #[])).toList)) = (Value.bool false),
    (Value.bool (decide ((((((x2_3).getD (x2_4).toNat (ByteArray.empty))).size : Nat) : Int) < x2_1))) = (Value.bool false),
    CG P rnd (fnN P 3) 0 (codeOf P 3 [false, true, true, true, false, false, true, false, false, true, false, true, true, true, true, true, true, true]) (S_viewportlaw12FirstRows_3 x2_0 x2_1 x2_2 x2_3 x2_4 ((x2_3).getD (x2_4).toNat (ByteArray.empty)) 0) (X_viewportlaw12FirstRows_3 x2_0 x2_1 x2_2 x2_3 x2_4 ((x2_3).getD (x2_4).toNat (ByteArray.empty)) ()),
    FlatB (.cells (layT (rows rw_s x2_3)) 9),
    FlatB (.cells (layT (rows rw_s x2_3)) 9)]) (by kernel_rfl) ⟨(vbT hy2_1), (ixS (e := 9) (by kernel_rfl) (by kernel_rfl) (hy2_2).1 (hy2_2).2), (rows_ld rwf_s (ByteArray.empty) (i := (x2_4).toNat) (j := 0) ((x2_4).toNat * 1) rfl (toNatLt hy2_2) (by decide) rfl), (vbT hy2_3), (ixS (e := 9) (by kernel_rfl) (by kernel_rfl) (hy2_4).1 (hy2_4).2), (rows_ld rwf_s (ByteArray.empty) (i := ((w64 (x2_4 - (1 : Int)))).toNat) (j := 0) (((w64 (x2_4 - (1 : Int)))).toNat * 1) rfl (toNatLt hy2_4) (by decide) rfl), (by rw [vsLtT hy2_5] <;> rfl), (vbF hy2_6), (by rw [vsEqF hy2_7] <;> rfl), (vbF hy2_8), (m_viewportlaw12FirstRows_3_ok n x2_0 x2_1 x2_2 x2_3 x2_4 ((x2_3).getD (x2_4).toNat (ByteArray.empty)) 0 () hy2_9), (rows_flat rwf_s _ _), (rows_flat rwf_s _ _), trivial⟩
set_option maxRecDepth 100000 in
theorem q_viewportlaw12FirstRows_2_2 (n : Nat) {rnd : Option Nat} (x2_0 : Int) (x2_1 : Int) (x2_2 : Int) (x2_3 : List (ByteArray)) (x2_4 : Int) (hy2_1 : x2_4 < (((x2_3).length : Nat) : Int)) (hy2_2 : 0 ≤ x2_4 ∧ x2_4 < (((x2_3).length : Nat) : Int)) (hy2_3 : ¬ (x2_4 > (0 : Int))) (hy2_4 : ¬ ((((((x2_3).getD (x2_4).toNat (ByteArray.empty))).size : Nat) : Int) > x2_1)) (hy2_5 : ¬ ((((x2_3).getD (x2_4).toNat (ByteArray.empty))).data.toList = ((ByteArray.mk #[])).data.toList)) (hy2_6 : (((((x2_3).getD (x2_4).toNat (ByteArray.empty))).size : Nat) : Int) < x2_1) (hy2_7 : 0 ≤ (w64 ((((((x2_3).getD (x2_4).toNat (ByteArray.empty))).size : Nat) : Int) - (1 : Int))) ∧ (w64 ((((((x2_3).getD (x2_4).toNat (ByteArray.empty))).size : Nat) : Int) - (1 : Int))) < (((((x2_3).getD (x2_4).toNat (ByteArray.empty))).size : Nat) : Int)) (hy2_8 : (byteAt ((x2_3).getD (x2_4).toNat (ByteArray.empty)) ((w64 ((((((x2_3).getD (x2_4).toNat (ByteArray.empty))).size : Nat) : Int) - (1 : Int)))).toNat) = (255 : Int)) (hy2_9 : m_viewportlaw12FirstRows_3 n x2_0 x2_1 x2_2 x2_3 x2_4 ((x2_3).getD (x2_4).toNat (ByteArray.empty)) 0 = some ()) : CG P rnd (fnN P 3) 0 (codeOf P 3 [false, false, true, false, true, true, true, true, true, true, true]) (S_viewportlaw12FirstRows_2 x2_0 x2_1 x2_2 x2_3 x2_4) (.normal, S_viewportlaw12FirstRows_2 x2_0 x2_1 x2_2 x2_3 (w64 (x2_4 + (1 : Int)))) :=
  runC_ok hm (A := aT [(5, .val (.bool true)), (12, .pur (Value.pointer (some ⟨3, ((x2_4).toNat * 1), none⟩))), (13, .ld (Value.string ((x2_3).getD (x2_4).toNat (ByteArray.empty)))), (18, .val (.bool false)), (32, .val (.bool false)), (36, .val (.bool false)), (42, .val (.bool true)), (48, .pur (Value.int .u8 (byteAt ((x2_3).getD (x2_4).toNat (ByteArray.empty)) ((w64 ((((((x2_3).getD (x2_4).toNat (ByteArray.empty))).size : Nat) : Int) - (1 : Int)))).toNat))), (49, .val (.bool false))]) (L := lT [(56, ⟨⟨[0, 1, 5, 6, 7, 12, 13, 14], [(0, 0, false), (1, 1, false), (2, 2, false), (3, 3, true)], 4, 0⟩, (X_viewportlaw12FirstRows_3 x2_0 x2_1 x2_2 x2_3 x2_4 ((x2_3).getD (x2_4).toNat (ByteArray.empty)) ()).1, (X_viewportlaw12FirstRows_3 x2_0 x2_1 x2_2 x2_3 x2_4 ((x2_3).getD (x2_4).toNat (ByteArray.empty)) ()).2⟩)]) (wk := ⟨[0, 1, 5, 6, 7, 12], [(0, 0, false), (1, 1, false), (2, 2, false), (3, 3, true)], 4, 0⟩)
    (ps := [(Value.bool (decide (x2_4 < (((x2_3).length : Nat) : Int)))) = (Value.bool true),
    opIndexAddr P 23 (Value.slice (some ⟨3, 0, none⟩) (x2_3).length (Nat.add big 1)) (Value.int .i64 x2_4) Ax.h0 = some ((Value.pointer (some ⟨3, ((x2_4).toNat * 1), none⟩)), Ax.h0),
    (layT (rows rw_s x2_3)).get ((x2_4).toNat * 1) = some (Value.string ((x2_3).getD (x2_4).toNat (ByteArray.empty))),
    (Value.bool (decide (x2_4 > (0 : Int)))) = (Value.bool false),
    (Value.bool (decide ((((((x2_3).getD (x2_4).toNat (ByteArray.empty))).size : Nat) : Int) > x2_1))) = (Value.bool false),
    (Value.bool ((((x2_3).getD (x2_4).toNat (ByteArray.empty))).toList == ((ByteArray.mk #[])).toList)) = (Value.bool false),
    (Value.bool (decide ((((((x2_3).getD (x2_4).toNat (ByteArray.empty))).size : Nat) : Int) < x2_1))) = (Value.bool true),
    opIndex P 9 (Value.string ((x2_3).getD (x2_4).toNat (ByteArray.empty))) (Value.int .i64 (w64 ((((((x2_3).getD (x2_4).toNat (ByteArray.empty))).size : Nat) : Int) - (1 : Int)))) Ax.h0 = some ((Value.int .u8 (byteAt ((x2_3).getD (x2_4).toNat (ByteArray.empty)) ((w64 ((((((x2_3).getD (x2_4).toNat (ByteArray.empty))).size : Nat) : Int) - (1 : Int)))).toNat)), Ax.h0),
    (Value.bool ((byteAt ((x2_3).getD (x2_4).toNat (ByteArray.empty)) ((w64 ((((((x2_3).getD (x2_4).toNat (ByteArray.empty))).size : Nat) : Int) - (1 : Int)))).toNat) != (255 : Int))) = (Value.bool false),
    CG P rnd (fnN P 3) 0 (codeOf P 3 [false, true, true, true, false, false, true, false, false, true, false, true, true, true, true, true, true, true]) (S_viewportlaw12FirstRows_3 x2_0 x2_1 x2_2 x2_3 x2_4 ((x2_3).getD (x2_4).toNat (ByteArray.empty)) 0) (X_viewportlaw12FirstRows_3 x2_0 x2_1 x2_2 x2_3 x2_4 ((x2_3).getD (x2_4).toNat (ByteArray.empty)) ()),
    FlatB (.cells (layT (rows rw_s x2_3)) 9),
    FlatB (.cells (layT (rows rw_s x2_3)) 9)]) (by kernel_rfl) ⟨(vbT hy2_1), (ixS (e := 9) (by kernel_rfl) (by kernel_rfl) (hy2_2).1 (hy2_2).2), (rows_ld rwf_s (ByteArray.empty) (i := (x2_4).toNat) (j := 0) ((x2_4).toNat * 1) rfl (toNatLt hy2_2) (by decide) rfl), (vbF hy2_3), (vbF hy2_4), (by rw [vsEqF hy2_5] <;> rfl), (vbT hy2_6), (ixStr (by kernel_rfl) hy2_7), (vnF hy2_8), (m_viewportlaw12FirstRows_3_ok n x2_0 x2_1 x2_2 x2_3 x2_4 ((x2_3).getD (x2_4).toNat (ByteArray.empty)) 0 () hy2_9), (rows_flat rwf_s _ _), (rows_flat rwf_s _ _), trivial⟩
set_option maxRecDepth 100000 in
theorem q_viewportlaw12FirstRows_2_3 (n : Nat) {rnd : Option Nat} (x2_0 : Int) (x2_1 : Int) (x2_2 : Int) (x2_3 : List (ByteArray)) (x2_4 : Int) (hy2_1 : x2_4 < (((x2_3).length : Nat) : Int)) (hy2_2 : 0 ≤ x2_4 ∧ x2_4 < (((x2_3).length : Nat) : Int)) (hy2_3 : ¬ (x2_4 > (0 : Int))) (hy2_4 : ¬ ((((((x2_3).getD (x2_4).toNat (ByteArray.empty))).size : Nat) : Int) > x2_1)) (hy2_5 : ¬ ((((x2_3).getD (x2_4).toNat (ByteArray.empty))).data.toList = ((ByteArray.mk #[])).data.toList)) (hy2_6 : ¬ ((((((x2_3).getD (x2_4).toNat (ByteArray.empty))).size : Nat) : Int) < x2_1)) (hy2_7 : m_viewportlaw12FirstRows_3 n x2_0 x2_1 x2_2 x2_3 x2_4 ((x2_3).getD (x2_4).toNat (ByteArray.empty)) 0 = some ()) : CG P rnd (fnN P 3) 0 (codeOf P 3 [false, false, true, false, true, true, true, true, true, true, true]) (S_viewportlaw12FirstRows_2 x2_0 x2_1 x2_2 x2_3 x2_4) (.normal, S_viewportlaw12FirstRows_2 x2_0 x2_1 x2_2 x2_3 (w64 (x2_4 + (1 : Int)))) :=
  runC_ok hm (A := aT [(5, .val (.bool true)), (12, .pur (Value.pointer (some ⟨3, ((x2_4).toNat * 1), none⟩))), (13, .ld (Value.string ((x2_3).getD (x2_4).toNat (ByteArray.empty)))), (18, .val (.bool false)), (32, .val (.bool false)), (36, .val (.bool false)), (42, .val (.bool false))]) (L := lT [(56, ⟨⟨[0, 1, 5, 6, 7, 12, 13, 14], [(0, 0, false), (1, 1, false), (2, 2, false), (3, 3, true)], 4, 0⟩, (X_viewportlaw12FirstRows_3 x2_0 x2_1 x2_2 x2_3 x2_4 ((x2_3).getD (x2_4).toNat (ByteArray.empty)) ()).1, (X_viewportlaw12FirstRows_3 x2_0 x2_1 x2_2 x2_3 x2_4 ((x2_3).getD (x2_4).toNat (ByteArray.empty)) ()).2⟩)]) (wk := ⟨[0, 1, 5, 6, 7, 12], [(0, 0, false), (1, 1, false), (2, 2, false), (3, 3, true)], 4, 0⟩)
    (ps := [(Value.bool (decide (x2_4 < (((x2_3).length : Nat) : Int)))) = (Value.bool true),
    opIndexAddr P 23 (Value.slice (some ⟨3, 0, none⟩) (x2_3).length (Nat.add big 1)) (Value.int .i64 x2_4) Ax.h0 = some ((Value.pointer (some ⟨3, ((x2_4).toNat * 1), none⟩)), Ax.h0),
    (layT (rows rw_s x2_3)).get ((x2_4).toNat * 1) = some (Value.string ((x2_3).getD (x2_4).toNat (ByteArray.empty))),
    (Value.bool (decide (x2_4 > (0 : Int)))) = (Value.bool false),
    (Value.bool (decide ((((((x2_3).getD (x2_4).toNat (ByteArray.empty))).size : Nat) : Int) > x2_1))) = (Value.bool false),
    (Value.bool ((((x2_3).getD (x2_4).toNat (ByteArray.empty))).toList == ((ByteArray.mk #[])).toList)) = (Value.bool false),
    (Value.bool (decide ((((((x2_3).getD (x2_4).toNat (ByteArray.empty))).size : Nat) : Int) < x2_1))) = (Value.bool false),
    CG P rnd (fnN P 3) 0 (codeOf P 3 [false, true, true, true, false, false, true, false, false, true, false, true, true, true, true, true, true, true]) (S_viewportlaw12FirstRows_3 x2_0 x2_1 x2_2 x2_3 x2_4 ((x2_3).getD (x2_4).toNat (ByteArray.empty)) 0) (X_viewportlaw12FirstRows_3 x2_0 x2_1 x2_2 x2_3 x2_4 ((x2_3).getD (x2_4).toNat (ByteArray.empty)) ()),
    FlatB (.cells (layT (rows rw_s x2_3)) 9),
    FlatB (.cells (layT (rows rw_s x2_3)) 9)]) (by kernel_rfl) ⟨(vbT hy2_1), (ixS (e := 9) (by kernel_rfl) (by kernel_rfl) (hy2_2).1 (hy2_2).2), (rows_ld rwf_s (ByteArray.empty) (i := (x2_4).toNat) (j := 0) ((x2_4).toNat * 1) rfl (toNatLt hy2_2) (by decide) rfl), (vbF hy2_3), (vbF hy2_4), (by rw [vsEqF hy2_5] <;> rfl), (vbF hy2_6), (m_viewportlaw12FirstRows_3_ok n x2_0 x2_1 x2_2 x2_3 x2_4 ((x2_3).getD (x2_4).toNat (ByteArray.empty)) 0 () hy2_7), (rows_flat rwf_s _ _), (rows_flat rwf_s _ _), trivial⟩
set_option maxRecDepth 100000 in
theorem q_viewportlaw12FirstRows_2_4 (n : Nat) {rnd : Option Nat} (x2_0 : Int) (x2_1 : Int) (x2_2 : Int) (x2_3 : List (ByteArray)) (x2_4 : Int) (hy2_1 : ¬ (x2_4 < (((x2_3).length : Nat) : Int))) : CG P rnd (fnN P 3) 0 (codeOf P 3 [false, false, true, false, true, true, true, true, true, true, true]) (S_viewportlaw12FirstRows_2 x2_0 x2_1 x2_2 x2_3 x2_4) (X_viewportlaw12FirstRows_2 x2_0 x2_1 x2_2 x2_3 ()) :=
  runC_ok hm (A := aT [(5, .val (.bool false))]) (L := lT []) (wk := ⟨[0, 1, 5, 6, 7], [(0, 0, false), (1, 1, false), (2, 2, false), (3, 3, true)], 4, 0⟩)
    (ps := [(Value.bool (decide (x2_4 < (((x2_3).length : Nat) : Int)))) = (Value.bool false),
    FlatB (.cells (layT (rows rw_s x2_3)) 9)]) (by kernel_rfl) ⟨(vbF hy2_1), (rows_flat rwf_s _ _), trivial⟩
theorem m_viewportlaw12FirstRows_2_ok (n : Nat) {rnd : Option Nat} (x2_0 : Int) (x2_1 : Int) (x2_2 : Int) (x2_3 : List (ByteArray)) (st : Int) (r : Unit) (h : m_viewportlaw12FirstRows_2 n x2_0 x2_1 x2_2 x2_3 st = some r) : CG P rnd (fnN P 3) 0 (codeOf P 3 [false, true, false, true, true, true, true, true, true, true]) (S_viewportlaw12FirstRows_2 x2_0 x2_1 x2_2 x2_3 st) (X_viewportlaw12FirstRows_2 x2_0 x2_1 x2_2 x2_3 r) :=
  CG.iter (b := codeOf P 3 [false, false, true, false, true, true, true, true, true, true, true]) (by kernel_rfl) (body := B_viewportlaw12FirstRows_2 n x2_0 x2_1 x2_2 x2_3) (S := S_viewportlaw12FirstRows_2 x2_0 x2_1 x2_2 x2_3) (X := X_viewportlaw12FirstRows_2 x2_0 x2_1 x2_2 x2_3)
    (fun x2_4 s' h => by
    unfold B_viewportlaw12FirstRows_2 at h
    dsimp only at h
    by_cases hy2_1 : x2_4 < (((x2_3).length : Nat) : Int)
    · rw [if_pos hy2_1] at h
      by_cases hy2_2 : 0 ≤ x2_4 ∧ x2_4 < (((x2_3).length : Nat) : Int)
      · rw [if_pos hy2_2] at h
        by_cases hy2_3 : x2_4 > (0 : Int)
        · rw [if_pos hy2_3] at h
          by_cases hy2_4 : 0 ≤ (w64 (x2_4 - (1 : Int))) ∧ (w64 (x2_4 - (1 : Int))) < (((x2_3).length : Nat) : Int)
          · rw [if_pos hy2_4] at h
            by_cases hy2_5 : Go.Op.bytesLess (((x2_3).getD ((w64 (x2_4 - (1 : Int)))).toNat (ByteArray.empty))).data.toList (((x2_3).getD (x2_4).toNat (ByteArray.empty))).data.toList = true
            · rw [if_pos hy2_5] at h
              by_cases hy2_6 : (((((x2_3).getD (x2_4).toNat (ByteArray.empty))).size : Nat) : Int) > x2_1
              · rw [if_pos hy2_6] at h
                cases h
              · rw [if_neg hy2_6] at h
                by_cases hy2_7 : (((x2_3).getD (x2_4).toNat (ByteArray.empty))).data.toList = ((ByteArray.mk #[])).data.toList
                · rw [if_pos hy2_7] at h
                  cases h
                · rw [if_neg hy2_7] at h
                  by_cases hy2_8 : (((((x2_3).getD (x2_4).toNat (ByteArray.empty))).size : Nat) : Int) < x2_1
                  · rw [if_pos hy2_8] at h
                    by_cases hy2_9 : 0 ≤ (w64 ((((((x2_3).getD (x2_4).toNat (ByteArray.empty))).size : Nat) : Int) - (1 : Int))) ∧ (w64 ((((((x2_3).getD (x2_4).toNat (ByteArray.empty))).size : Nat) : Int) - (1 : Int))) < (((((x2_3).getD (x2_4).toNat (ByteArray.empty))).size : Nat) : Int)
                    · rw [if_pos hy2_9] at h
                      by_cases hy2_10 : (byteAt ((x2_3).getD (x2_4).toNat (ByteArray.empty)) ((w64 ((((((x2_3).getD (x2_4).toNat (ByteArray.empty))).size : Nat) : Int) - (1 : Int)))).toNat) = (255 : Int)
                      · rw [if_pos hy2_10] at h
                        obtain ⟨_, hy2_11, h⟩ := Option.bind_eq_some_iff.1 h
                        obtain rfl := Sum.inl.inj (Option.some.inj h); exact q_viewportlaw12FirstRows_2_0 n x2_0 x2_1 x2_2 x2_3 x2_4 hy2_1 hy2_2 hy2_3 hy2_4 hy2_5 hy2_6 hy2_7 hy2_8 hy2_9 hy2_10 hy2_11
                      · rw [if_neg hy2_10] at h
                        cases h
                    · rw [if_neg hy2_9] at h; cases h
                  · rw [if_neg hy2_8] at h
                    obtain ⟨_, hy2_9, h⟩ := Option.bind_eq_some_iff.1 h
                    obtain rfl := Sum.inl.inj (Option.some.inj h); exact q_viewportlaw12FirstRows_2_1 n x2_0 x2_1 x2_2 x2_3 x2_4 hy2_1 hy2_2 hy2_3 hy2_4 hy2_5 hy2_6 hy2_7 hy2_8 hy2_9
            · rw [if_neg hy2_5] at h
              cases h
          · rw [if_neg hy2_4] at h; cases h
        · rw [if_neg hy2_3] at h
          by_cases hy2_4 : (((((x2_3).getD (x2_4).toNat (ByteArray.empty))).size : Nat) : Int) > x2_1
          · rw [if_pos hy2_4] at h
            cases h
          · rw [if_neg hy2_4] at h
            by_cases hy2_5 : (((x2_3).getD (x2_4).toNat (ByteArray.empty))).data.toList = ((ByteArray.mk #[])).data.toList
            · rw [if_pos hy2_5] at h
              cases h
            · rw [if_neg hy2_5] at h
              by_cases hy2_6 : (((((x2_3).getD (x2_4).toNat (ByteArray.empty))).size : Nat) : Int) < x2_1
              · rw [if_pos hy2_6] at h
                by_cases hy2_7 : 0 ≤ (w64 ((((((x2_3).getD (x2_4).toNat (ByteArray.empty))).size : Nat) : Int) - (1 : Int))) ∧ (w64 ((((((x2_3).getD (x2_4).toNat (ByteArray.empty))).size : Nat) : Int) - (1 : Int))) < (((((x2_3).getD (x2_4).toNat (ByteArray.empty))).size : Nat) : Int)
                · rw [if_pos hy2_7] at h
                  by_cases hy2_8 : (byteAt ((x2_3).getD (x2_4).toNat (ByteArray.empty)) ((w64 ((((((x2_3).getD (x2_4).toNat (ByteArray.empty))).size : Nat) : Int) - (1 : Int)))).toNat) = (255 : Int)
                  · rw [if_pos hy2_8] at h
                    obtain ⟨_, hy2_9, h⟩ := Option.bind_eq_some_iff.1 h
                    obtain rfl := Sum.inl.inj (Option.some.inj h); exact q_viewportlaw12FirstRows_2_2 n x2_0 x2_1 x2_2 x2_3 x2_4 hy2_1 hy2_2 hy2_3 hy2_4 hy2_5 hy2_6 hy2_7 hy2_8 hy2_9
                  · rw [if_neg hy2_8] at h
                    cases h
                · rw [if_neg hy2_7] at h; cases h
              · rw [if_neg hy2_6] at h
                obtain ⟨_, hy2_7, h⟩ := Option.bind_eq_some_iff.1 h
                obtain rfl := Sum.inl.inj (Option.some.inj h); exact q_viewportlaw12FirstRows_2_3 n x2_0 x2_1 x2_2 x2_3 x2_4 hy2_1 hy2_2 hy2_3 hy2_4 hy2_5 hy2_6 hy2_7
      · rw [if_neg hy2_2] at h; cases h
    · rw [if_neg hy2_1] at h
      cases h)
    (fun x2_4 r h => by
    unfold B_viewportlaw12FirstRows_2 at h
    dsimp only at h
    by_cases hy2_1 : x2_4 < (((x2_3).length : Nat) : Int)
    · rw [if_pos hy2_1] at h
      by_cases hy2_2 : 0 ≤ x2_4 ∧ x2_4 < (((x2_3).length : Nat) : Int)
      · rw [if_pos hy2_2] at h
        by_cases hy2_3 : x2_4 > (0 : Int)
        · rw [if_pos hy2_3] at h
          by_cases hy2_4 : 0 ≤ (w64 (x2_4 - (1 : Int))) ∧ (w64 (x2_4 - (1 : Int))) < (((x2_3).length : Nat) : Int)
          · rw [if_pos hy2_4] at h
            by_cases hy2_5 : Go.Op.bytesLess (((x2_3).getD ((w64 (x2_4 - (1 : Int)))).toNat (ByteArray.empty))).data.toList (((x2_3).getD (x2_4).toNat (ByteArray.empty))).data.toList = true
            · rw [if_pos hy2_5] at h
              by_cases hy2_6 : (((((x2_3).getD (x2_4).toNat (ByteArray.empty))).size : Nat) : Int) > x2_1
              · rw [if_pos hy2_6] at h
                cases h
              · rw [if_neg hy2_6] at h
                by_cases hy2_7 : (((x2_3).getD (x2_4).toNat (ByteArray.empty))).data.toList = ((ByteArray.mk #[])).data.toList
                · rw [if_pos hy2_7] at h
                  cases h
                · rw [if_neg hy2_7] at h
                  by_cases hy2_8 : (((((x2_3).getD (x2_4).toNat (ByteArray.empty))).size : Nat) : Int) < x2_1
                  · rw [if_pos hy2_8] at h
                    by_cases hy2_9 : 0 ≤ (w64 ((((((x2_3).getD (x2_4).toNat (ByteArray.empty))).size : Nat) : Int) - (1 : Int))) ∧ (w64 ((((((x2_3).getD (x2_4).toNat (ByteArray.empty))).size : Nat) : Int) - (1 : Int))) < (((((x2_3).getD (x2_4).toNat (ByteArray.empty))).size : Nat) : Int)
                    · rw [if_pos hy2_9] at h
                      by_cases hy2_10 : (byteAt ((x2_3).getD (x2_4).toNat (ByteArray.empty)) ((w64 ((((((x2_3).getD (x2_4).toNat (ByteArray.empty))).size : Nat) : Int) - (1 : Int)))).toNat) = (255 : Int)
                      · rw [if_pos hy2_10] at h
                        obtain ⟨_, hy2_11, h⟩ := Option.bind_eq_some_iff.1 h
                        cases h
                      · rw [if_neg hy2_10] at h
                        cases h
                    · rw [if_neg hy2_9] at h; cases h
                  · rw [if_neg hy2_8] at h
                    obtain ⟨_, hy2_9, h⟩ := Option.bind_eq_some_iff.1 h
                    cases h
            · rw [if_neg hy2_5] at h
              cases h
          · rw [if_neg hy2_4] at h; cases h
        · rw [if_neg hy2_3] at h
          by_cases hy2_4 : (((((x2_3).getD (x2_4).toNat (ByteArray.empty))).size : Nat) : Int) > x2_1
          · rw [if_pos hy2_4] at h
            cases h
          · rw [if_neg hy2_4] at h
            by_cases hy2_5 : (((x2_3).getD (x2_4).toNat (ByteArray.empty))).data.toList = ((ByteArray.mk #[])).data.toList
            · rw [if_pos hy2_5] at h
              cases h
            · rw [if_neg hy2_5] at h
              by_cases hy2_6 : (((((x2_3).getD (x2_4).toNat (ByteArray.empty))).size : Nat) : Int) < x2_1
              · rw [if_pos hy2_6] at h
                by_cases hy2_7 : 0 ≤ (w64 ((((((x2_3).getD (x2_4).toNat (ByteArray.empty))).size : Nat) : Int) - (1 : Int))) ∧ (w64 ((((((x2_3).getD (x2_4).toNat (ByteArray.empty))).size : Nat) : Int) - (1 : Int))) < (((((x2_3).getD (x2_4).toNat (ByteArray.empty))).size : Nat) : Int)
                · rw [if_pos hy2_7] at h
                  by_cases hy2_8 : (byteAt ((x2_3).getD (x2_4).toNat (ByteArray.empty)) ((w64 ((((((x2_3).getD (x2_4).toNat (ByteArray.empty))).size : Nat) : Int) - (1 : Int)))).toNat) = (255 : Int)
                  · rw [if_pos hy2_8] at h
                    obtain ⟨_, hy2_9, h⟩ := Option.bind_eq_some_iff.1 h
                    cases h
                  · rw [if_neg hy2_8] at h
                    cases h
                · rw [if_neg hy2_7] at h; cases h
              · rw [if_neg hy2_6] at h
                obtain ⟨_, hy2_7, h⟩ := Option.bind_eq_some_iff.1 h
                cases h
      · rw [if_neg hy2_2] at h; cases h
    · rw [if_neg hy2_1] at h
      obtain rfl := Sum.inr.inj (Option.some.inj h); exact q_viewportlaw12FirstRows_2_4 n x2_0 x2_1 x2_2 x2_3 x2_4 hy2_1)
    (fun r => by intro hx; cases hx) h
noncomputable def S_viewportlaw12FirstRows_1 (x1_0 : Int) (x1_1 : Int) (x1_2 : Int) (x1_3 : List (ByteArray)) (x1_4 : Bool) (st : Int × Int × Int) : XSt := match st with
  | (x1_5, x1_6, x1_7) => (sT 156 [(0, (Value.int .i64 x1_0)), (1, (Value.int .i64 x1_1)), (5, (Value.pointer (some ⟨0, 0, none⟩))), (6, (Value.pointer (some ⟨1, 0, none⟩))), (7, (Value.pointer (some ⟨2, 0, none⟩))), (8, (Value.bool x1_4)), (9, (Value.int .i64 x1_5)), (10, (Value.int .i64 x1_6)), (11, (Value.int .i64 x1_7))], [], ⟨sB [(0, (some (.cells (layT [(Value.int .i64 x1_2)]) 3))), (1, (some (.cells (layT [(Value.bool false)]) 4))), (2, (some (.cells (layT [(Value.slice (some ⟨3, 0, none⟩) (x1_3).length (Nat.add big 1))]) 23))), (3, (some (.cells (layT (rows rw_s x1_3)) 9)))], 4, 0⟩)
noncomputable def X_viewportlaw12FirstRows_1 (x1_0 : Int) (x1_1 : Int) (x1_2 : Int) (x1_3 : List (ByteArray)) (x1_4 : Bool) (r : Int × Int) : Ex × XSt := match r with
  | (z1_0, z1_1) => (.exit 0, (sT 156 [(0, (Value.int .i64 x1_0)), (1, (Value.int .i64 x1_1)), (5, (Value.pointer (some ⟨0, 0, none⟩))), (6, (Value.pointer (some ⟨1, 0, none⟩))), (7, (Value.pointer (some ⟨2, 0, none⟩))), (8, (Value.bool x1_4)), (9, (Value.int .i64 z1_0)), (10, (Value.int .i64 z1_1))], [], ⟨sB [(0, (some (.cells (layT [(Value.int .i64 x1_2)]) 3))), (1, (some (.cells (layT [(Value.bool false)]) 4))), (2, (some (.cells (layT [(Value.slice (some ⟨3, 0, none⟩) (x1_3).length (Nat.add big 1))]) 23))), (3, (some (.cells (layT (rows rw_s x1_3)) 9)))], 4, 0⟩))
def B_viewportlaw12FirstRows_1 (n : Nat) (x1_0 : Int) (x1_1 : Int) (x1_2 : Int) (x1_3 : List (ByteArray)) (x1_4 : Bool) (st : Int × Int × Int) : Option ((Int × Int × Int) ⊕ (Int × Int)) := match st with
  | (x1_5, x1_6, x1_7) =>
    if x1_7 < x1_1 then
      some (.inl ((w64 (x1_5 + x1_6)), (w64 (x1_6 * x1_0)), (w64 (x1_7 + (1 : Int)))))
    else
      some (.inr (x1_5, x1_6))
def m_viewportlaw12FirstRows_1 (n : Nat) (x1_0 : Int) (x1_1 : Int) (x1_2 : Int) (x1_3 : List (ByteArray)) (x1_4 : Bool) (st : Int × Int × Int) : Option (Int × Int) := iterM (B_viewportlaw12FirstRows_1 n x1_0 x1_1 x1_2 x1_3 x1_4) n st
set_option maxRecDepth 100000 in
theorem q_viewportlaw12FirstRows_1_0 (n : Nat) {rnd : Option Nat} (x1_0 : Int) (x1_1 : Int) (x1_2 : Int) (x1_3 : List (ByteArray)) (x1_4 : Bool) (x1_5 : Int) (x1_6 : Int) (x1_7 : Int) (hy1_1 : x1_7 < x1_1) : CG P rnd (fnN P 3) 0 (codeOf P 3 [false, false, true, false, true, true, true, true, true]) (S_viewportlaw12FirstRows_1 x1_0 x1_1 x1_2 x1_3 x1_4 (x1_5, x1_6, x1_7)) (.normal, S_viewportlaw12FirstRows_1 x1_0 x1_1 x1_2 x1_3 x1_4 ((w64 (x1_5 + x1_6)), (w64 (x1_6 * x1_0)), (w64 (x1_7 + (1 : Int))))) :=
  runC_ok hm (A := aT [(4, .val (.bool true))]) (L := lT []) (wk := ⟨[0, 1, 5, 6, 7, 8, 9, 10, 11], [(0, 0, false), (1, 1, false), (2, 2, false), (3, 3, true)], 4, 0⟩)
    (ps := [(Value.bool (decide (x1_7 < x1_1))) = (Value.bool true),
    FlatB (.cells (layT (rows rw_s x1_3)) 9)]) (by kernel_rfl) ⟨(vbT hy1_1), (rows_flat rwf_s _ _), trivial⟩
set_option maxRecDepth 100000 in
theorem q_viewportlaw12FirstRows_1_1 (n : Nat) {rnd : Option Nat} (x1_0 : Int) (x1_1 : Int) (x1_2 : Int) (x1_3 : List (ByteArray)) (x1_4 : Bool) (x1_5 : Int) (x1_6 : Int) (x1_7 : Int) (hy1_1 : ¬ (x1_7 < x1_1)) : CG P rnd (fnN P 3) 0 (codeOf P 3 [false, false, true, false, true, true, true, true, true]) (S_viewportlaw12FirstRows_1 x1_0 x1_1 x1_2 x1_3 x1_4 (x1_5, x1_6, x1_7)) (X_viewportlaw12FirstRows_1 x1_0 x1_1 x1_2 x1_3 x1_4 (x1_5, x1_6)) :=
  runC_ok hm (A := aT [(4, .val (.bool false))]) (L := lT []) (wk := ⟨[0, 1, 5, 6, 7, 8, 9, 10], [(0, 0, false), (1, 1, false), (2, 2, false), (3, 3, true)], 4, 0⟩)
    (ps := [(Value.bool (decide (x1_7 < x1_1))) = (Value.bool false),
    FlatB (.cells (layT (rows rw_s x1_3)) 9)]) (by kernel_rfl) ⟨(vbF hy1_1), (rows_flat rwf_s _ _), trivial⟩
theorem m_viewportlaw12FirstRows_1_ok (n : Nat) {rnd : Option Nat} (x1_0 : Int) (x1_1 : Int) (x1_2 : Int) (x1_3 : List (ByteArray)) (x1_4 : Bool) (st : Int × Int × Int) (r : Int × Int) (h : m_viewportlaw12FirstRows_1 n x1_0 x1_1 x1_2 x1_3 x1_4 st = some r) : CG P rnd (fnN P 3) 0 (codeOf P 3 [false, true, false, true, true, true, true, true]) (S_viewportlaw12FirstRows_1 x1_0 x1_1 x1_2 x1_3 x1_4 st) (X_viewportlaw12FirstRows_1 x1_0 x1_1 x1_2 x1_3 x1_4 r) :=
  CG.iter (b := codeOf P 3 [false, false, true, false, true, true, true, true, true]) (by kernel_rfl) (body := B_viewportlaw12FirstRows_1 n x1_0 x1_1 x1_2 x1_3 x1_4) (S := S_viewportlaw12FirstRows_1 x1_0 x1_1 x1_2 x1_3 x1_4) (X := X_viewportlaw12FirstRows_1 x1_0 x1_1 x1_2 x1_3 x1_4)
    (fun s s' h => by
    obtain ⟨x1_5, x1_6, x1_7⟩ := s
    unfold B_viewportlaw12FirstRows_1 at h
    dsimp only at h
    by_cases hy1_1 : x1_7 < x1_1
    · rw [if_pos hy1_1] at h
      obtain rfl := Sum.inl.inj (Option.some.inj h); exact q_viewportlaw12FirstRows_1_0 n x1_0 x1_1 x1_2 x1_3 x1_4 x1_5 x1_6 x1_7 hy1_1
    · rw [if_neg hy1_1] at h
      cases h)
    (fun s r h => by
    obtain ⟨x1_5, x1_6, x1_7⟩ := s
    unfold B_viewportlaw12FirstRows_1 at h
    dsimp only at h
    by_cases hy1_1 : x1_7 < x1_1
    · rw [if_pos hy1_1] at h
      cases h
    · rw [if_neg hy1_1] at h
      obtain rfl := Sum.inr.inj (Option.some.inj h); exact q_viewportlaw12FirstRows_1_1 n x1_0 x1_1 x1_2 x1_3 x1_4 x1_5 x1_6 x1_7 hy1_1)
    (fun r => by intro hx; cases hx) h
noncomputable def A_viewportlaw12FirstRows (terms : Int) (k : Int) (early : Int) : List Value := [(Value.int .i64 terms), (Value.int .i64 k), (Value.int .i64 early)]
noncomputable def H_viewportlaw12FirstRows (terms : Int) (k : Int) (early : Int) : AH := ⟨sB [], 0, 0⟩
noncomputable def V_viewportlaw12FirstRows (terms : Int) (k : Int) (early : Int) (r : (Unit) ⊕ (Unit)) : Value := match r with
  | .inl _ => (Value.bool true)
  | .inr _ => (Value.bool true)
noncomputable def R_viewportlaw12FirstRows (terms : Int) (k : Int) (early : Int) (r : (Unit) ⊕ (Unit)) : AH := match r with
  | .inl _ => ⟨sB [(0, (some (.cells (layT [(Value.bool true)]) 4)))], 1, 0⟩
  | .inr _ => ⟨sB [(0, (some (.marks false))), (1, (some (.cells (layT [(Value.bool true)]) 4)))], 2, 0⟩
def m_viewportlaw12FirstRows (n : Nat) (terms : Int) (k : Int) (early : Int) : Option ((Unit) ⊕ (Unit)) :=
  (m_viewportlaw12lives n).bind fun _ =>
  if terms < (0 : Int) then
    some (.inl ())
  else
    if terms > (4 : Int) then
      some (.inl ())
    else
      if k < (1 : Int) then
        some (.inl ())
      else
        if k > (3 : Int) then
          some (.inl ())
        else
          (m_viewportlaw12rowsq1 n terms k).bind fun t => match t with
          | (c6_0, c6_1) =>
            match c6_0 with
            | [] =>
              none
            | c6_0a :: c6_0t =>
              (m_viewportlaw12FirstRows_1 n terms k early (c6_0a :: c6_0t) c6_1 (0, 1, 0)).bind fun t => match t with
              | (c7_0, c7_1) =>
                if c6_1 = true then
                  if ((((c6_0a :: c6_0t)).length : Nat) : Int) = (w64 (c7_0 + c7_1)) then
                    (m_viewportlaw12FirstRows_2 n terms k early (c6_0a :: c6_0t) 0).bind fun _ =>
                    (m_viewportkitPickq1 n early ((((c6_0a :: c6_0t)).length : Nat) : Int)).bind fun c11_ =>
                    (m_firstRowsq1 n terms k).bind fun _ =>
                    match m_firstRows1q2 n c11_ false (c6_0a :: c6_0t) (Nat.add big 1) 0 terms k with
                    | none => none
                    | some (.inl _) =>
                      if 0 = c11_ then
                        some (.inr ())
                      else
                        none
                    | some (.inr (.inl c13_)) =>
                      if c13_ = c11_ then
                        some (.inr ())
                      else
                        none
                    | some (.inr (.inr c13_)) =>
                      if c13_ = c11_ then
                        some (.inr ())
                      else
                        none
                  else
                    none
                else
                  none
set_option maxRecDepth 100000 in
theorem p_viewportlaw12FirstRows_0 (n : Nat) (terms : Int) (k : Int) (early : Int) (hc1 : m_viewportlaw12lives n = some ()) (hc2 : terms < (0 : Int)) : Gv P (.func 3) (A_viewportlaw12FirstRows terms k early) (H_viewportlaw12FirstRows terms k early) (V_viewportlaw12FirstRows terms k early (.inl ())) (R_viewportlaw12FirstRows terms k early (.inl ())) :=
  runF_ok hm (A := aT [(5, .call ⟨0, [], (Value.bool true), Ax.h0, []⟩), (11, .val (.bool true))]) (L := lT []) (wk := ⟨[6], [(0, 1, false)], 1, 0⟩)
    (ps := [Gv P (.func 4) [] Ax.h0 (Value.bool true) Ax.h0,
    (Value.bool (decide (terms < (0 : Int)))) = (Value.bool true)]) (by kernel_rfl) ⟨(m_viewportlaw12lives_ok n () hc1), (vbT hc2), trivial⟩
set_option maxRecDepth 100000 in
theorem p_viewportlaw12FirstRows_1 (n : Nat) (terms : Int) (k : Int) (early : Int) (hc1 : m_viewportlaw12lives n = some ()) (hc2 : ¬ (terms < (0 : Int))) (hc3 : terms > (4 : Int)) : Gv P (.func 3) (A_viewportlaw12FirstRows terms k early) (H_viewportlaw12FirstRows terms k early) (V_viewportlaw12FirstRows terms k early (.inl ())) (R_viewportlaw12FirstRows terms k early (.inl ())) :=
  runF_ok hm (A := aT [(5, .call ⟨0, [], (Value.bool true), Ax.h0, []⟩), (11, .val (.bool false)), (14, .val (.bool true))]) (L := lT []) (wk := ⟨[6], [(0, 1, false)], 1, 0⟩)
    (ps := [Gv P (.func 4) [] Ax.h0 (Value.bool true) Ax.h0,
    (Value.bool (decide (terms < (0 : Int)))) = (Value.bool false),
    (Value.bool (decide (terms > (4 : Int)))) = (Value.bool true)]) (by kernel_rfl) ⟨(m_viewportlaw12lives_ok n () hc1), (vbF hc2), (vbT hc3), trivial⟩
set_option maxRecDepth 100000 in
theorem p_viewportlaw12FirstRows_2 (n : Nat) (terms : Int) (k : Int) (early : Int) (hc1 : m_viewportlaw12lives n = some ()) (hc2 : ¬ (terms < (0 : Int))) (hc3 : ¬ (terms > (4 : Int))) (hc4 : k < (1 : Int)) : Gv P (.func 3) (A_viewportlaw12FirstRows terms k early) (H_viewportlaw12FirstRows terms k early) (V_viewportlaw12FirstRows terms k early (.inl ())) (R_viewportlaw12FirstRows terms k early (.inl ())) :=
  runF_ok hm (A := aT [(5, .call ⟨0, [], (Value.bool true), Ax.h0, []⟩), (11, .val (.bool false)), (14, .val (.bool false)), (18, .val (.bool true))]) (L := lT []) (wk := ⟨[6], [(0, 1, false)], 1, 0⟩)
    (ps := [Gv P (.func 4) [] Ax.h0 (Value.bool true) Ax.h0,
    (Value.bool (decide (terms < (0 : Int)))) = (Value.bool false),
    (Value.bool (decide (terms > (4 : Int)))) = (Value.bool false),
    (Value.bool (decide (k < (1 : Int)))) = (Value.bool true)]) (by kernel_rfl) ⟨(m_viewportlaw12lives_ok n () hc1), (vbF hc2), (vbF hc3), (vbT hc4), trivial⟩
set_option maxRecDepth 100000 in
theorem p_viewportlaw12FirstRows_3 (n : Nat) (terms : Int) (k : Int) (early : Int) (hc1 : m_viewportlaw12lives n = some ()) (hc2 : ¬ (terms < (0 : Int))) (hc3 : ¬ (terms > (4 : Int))) (hc4 : ¬ (k < (1 : Int))) (hc5 : k > (3 : Int)) : Gv P (.func 3) (A_viewportlaw12FirstRows terms k early) (H_viewportlaw12FirstRows terms k early) (V_viewportlaw12FirstRows terms k early (.inl ())) (R_viewportlaw12FirstRows terms k early (.inl ())) :=
  runF_ok hm (A := aT [(5, .call ⟨0, [], (Value.bool true), Ax.h0, []⟩), (11, .val (.bool false)), (14, .val (.bool false)), (18, .val (.bool false)), (22, .val (.bool true))]) (L := lT []) (wk := ⟨[6], [(0, 1, false)], 1, 0⟩)
    (ps := [Gv P (.func 4) [] Ax.h0 (Value.bool true) Ax.h0,
    (Value.bool (decide (terms < (0 : Int)))) = (Value.bool false),
    (Value.bool (decide (terms > (4 : Int)))) = (Value.bool false),
    (Value.bool (decide (k < (1 : Int)))) = (Value.bool false),
    (Value.bool (decide (k > (3 : Int)))) = (Value.bool true)]) (by kernel_rfl) ⟨(m_viewportlaw12lives_ok n () hc1), (vbF hc2), (vbF hc3), (vbF hc4), (vbT hc5), trivial⟩
set_option maxRecDepth 100000 in
theorem p_viewportlaw12FirstRows_4 (n : Nat) (terms : Int) (k : Int) (early : Int) (hc1 : m_viewportlaw12lives n = some ()) (hc2 : ¬ (terms < (0 : Int))) (hc3 : ¬ (terms > (4 : Int))) (hc4 : ¬ (k < (1 : Int))) (hc5 : ¬ (k > (3 : Int))) (c6_0a : ByteArray) (c6_0t : List (ByteArray)) (c6_1 : Bool) (hc6 : m_viewportlaw12rowsq1 n terms k = some ((c6_0a :: c6_0t), c6_1)) (c7_0 : Int) (c7_1 : Int) (hc7 : m_viewportlaw12FirstRows_1 n terms k early (c6_0a :: c6_0t) c6_1 (0, 1, 0) = some (c7_0, c7_1)) (hc8 : c6_1 = true) (hc9 : ((((c6_0a :: c6_0t)).length : Nat) : Int) = (w64 (c7_0 + c7_1))) (hc10 : m_viewportlaw12FirstRows_2 n terms k early (c6_0a :: c6_0t) 0 = some ()) (c11_ : Int) (hc11 : m_viewportkitPickq1 n early ((((c6_0a :: c6_0t)).length : Nat) : Int) = some c11_) (hc12 : m_firstRowsq1 n terms k = some ()) (hc13 : m_firstRows1q2 n c11_ false (c6_0a :: c6_0t) (Nat.add big 1) 0 terms k = some (.inl ())) (hc14 : 0 = c11_) : Gv P (.func 3) (A_viewportlaw12FirstRows terms k early) (H_viewportlaw12FirstRows terms k early) (V_viewportlaw12FirstRows terms k early (.inr ())) (R_viewportlaw12FirstRows terms k early (.inr ())) :=
  runF_ok hm (A := aT [(5, .call ⟨0, [], (Value.bool true), Ax.h0, []⟩), (11, .val (.bool false)), (14, .val (.bool false)), (18, .val (.bool false)), (22, .val (.bool false)), (28, .call ⟨0, [], (V_viewportlaw12rowsq1 terms k ((c6_0a :: c6_0t), c6_1)), (R_viewportlaw12rowsq1 terms k ((c6_0a :: c6_0t), c6_1)), [(3, 1, false), (4, 2, true), (5, 3, false)]⟩), (46, .val (.bool false)), (53, .val (.bool false)), (65, .call ⟨0, [], (V_viewportkitPickq1 early ((((c6_0a :: c6_0t)).length : Nat) : Int) c11_), (R_viewportkitPickq1 early ((((c6_0a :: c6_0t)).length : Nat) : Int) c11_), []⟩), (73, .call ⟨0, [], (V_firstRowsq1 terms k ()), (R_firstRowsq1 terms k ()), [(5, 0, false), (6, 1, false)]⟩), (84, .rng ⟨9, [(0, 8, false), (1, 7, false), (2, 0, false), (3, 1, false), (4, 2, false), (5, 3, true), (6, 4, false), (7, 5, false), (8, 6, false)], (V_firstRows1q2 c11_ false (c6_0a :: c6_0t) (Nat.add big 1) 0 terms k (.inl ())), (R_firstRows1q2 c11_ false (c6_0a :: c6_0t) (Nat.add big 1) 0 terms k (.inl ())), [(8, 0, false), (7, 1, false), (0, 2, false), (1, 3, false), (2, 4, false), (3, 5, true), (4, 6, false), (5, 7, false), (6, 8, false)]⟩ [5, 6, 7, 15, 140]), (88, .val (.bool true))]) (L := lT [(42, ⟨⟨[0, 1, 5, 6, 7, 8, 9, 10, 11], [(0, 0, false), (1, 1, false), (2, 6, false), (3, 4, true)], 4, 0⟩, (X_viewportlaw12FirstRows_1 terms k early (c6_0a :: c6_0t) c6_1 (c7_0, c7_1)).1, (X_viewportlaw12FirstRows_1 terms k early (c6_0a :: c6_0t) c6_1 (c7_0, c7_1)).2⟩), (60, ⟨⟨[0, 1, 5, 6, 7, 12], [(0, 0, false), (1, 1, false), (2, 2, false), (3, 3, true)], 4, 0⟩, (X_viewportlaw12FirstRows_2 terms k early (c6_0a :: c6_0t) ()).1, (X_viewportlaw12FirstRows_2 terms k early (c6_0a :: c6_0t) ()).2⟩)]) (wk := ⟨[6], [(0, 7, false), (1, 1, false)], 2, 0⟩)
    (ps := [Gv P (.func 4) [] Ax.h0 (Value.bool true) Ax.h0,
    (Value.bool (decide (terms < (0 : Int)))) = (Value.bool false),
    (Value.bool (decide (terms > (4 : Int)))) = (Value.bool false),
    (Value.bool (decide (k < (1 : Int)))) = (Value.bool false),
    (Value.bool (decide (k > (3 : Int)))) = (Value.bool false),
    Gv P (.func 5) (A_viewportlaw12rowsq1 terms k) (H_viewportlaw12rowsq1 terms k) (V_viewportlaw12rowsq1 terms k ((c6_0a :: c6_0t), c6_1)) (R_viewportlaw12rowsq1 terms k ((c6_0a :: c6_0t), c6_1)),
    FlatB (.cells (layT (rows rw_s (c6_0a :: c6_0t))) 9),
    CG P none (fnN P 3) 0 (codeOf P 3 [false, true, false, true, true, true, true, true]) (S_viewportlaw12FirstRows_1 terms k early (c6_0a :: c6_0t) c6_1 (0, 1, 0)) (X_viewportlaw12FirstRows_1 terms k early (c6_0a :: c6_0t) c6_1 (c7_0, c7_1)),
    FlatB (.cells (layT (rows rw_s (c6_0a :: c6_0t))) 9),
    (Value.bool (!c6_1)) = (Value.bool false),
    (Value.bool (((((c6_0a :: c6_0t)).length : Nat) : Int) != (w64 (c7_0 + c7_1)))) = (Value.bool false),
    CG P none (fnN P 3) 0 (codeOf P 3 [false, true, false, true, true, true, true, true, true, true]) (S_viewportlaw12FirstRows_2 terms k early (c6_0a :: c6_0t) 0) (X_viewportlaw12FirstRows_2 terms k early (c6_0a :: c6_0t) ()),
    FlatB (.cells (layT (rows rw_s (c6_0a :: c6_0t))) 9),
    Gv P (.func 6) (A_viewportkitPickq1 early ((((c6_0a :: c6_0t)).length : Nat) : Int)) (H_viewportkitPickq1 early ((((c6_0a :: c6_0t)).length : Nat) : Int)) (V_viewportkitPickq1 early ((((c6_0a :: c6_0t)).length : Nat) : Int) c11_) (R_viewportkitPickq1 early ((((c6_0a :: c6_0t)).length : Nat) : Int) c11_),
    Gv P (.func 7) (A_firstRowsq1 terms k) (H_firstRowsq1 terms k) (V_firstRowsq1 terms k ()) (R_firstRowsq1 terms k ()),
    Gv P (.func 11) (A_firstRows1q2 c11_ false (c6_0a :: c6_0t) (Nat.add big 1) 0 terms k) (H_firstRows1q2 c11_ false (c6_0a :: c6_0t) (Nat.add big 1) 0 terms k) (V_firstRows1q2 c11_ false (c6_0a :: c6_0t) (Nat.add big 1) 0 terms k (.inl ())) (R_firstRows1q2 c11_ false (c6_0a :: c6_0t) (Nat.add big 1) 0 terms k (.inl ())),
    FlatB (.cells (layT (rows rw_s (c6_0a :: c6_0t))) 9),
    FlatB (.cells (layT (rows rw_s (c6_0a :: c6_0t))) 9),
    (Value.bool (0 == c11_)) = (Value.bool true)]) (by kernel_rfl) ⟨(m_viewportlaw12lives_ok n () hc1), (vbF hc2), (vbF hc3), (vbF hc4), (vbF hc5), (m_viewportlaw12rowsq1_ok n terms k ((c6_0a :: c6_0t), c6_1) hc6), (rows_flat rwf_s _ _), (m_viewportlaw12FirstRows_1_ok n terms k early (c6_0a :: c6_0t) c6_1 (0, 1, 0) (c7_0, c7_1) hc7), (rows_flat rwf_s _ _), (vBn hc8), (vnF hc9), (m_viewportlaw12FirstRows_2_ok n terms k early (c6_0a :: c6_0t) 0 () hc10), (rows_flat rwf_s _ _), (m_viewportkitPickq1_ok n early ((((c6_0a :: c6_0t)).length : Nat) : Int) c11_ hc11), (m_firstRowsq1_ok n terms k () hc12), (m_firstRows1q2_ok n c11_ false (c6_0a :: c6_0t) (Nat.add big 1) 0 terms k (.inl ()) hc13), (rows_flat rwf_s _ _), (rows_flat rwf_s _ _), (veT hc14), trivial⟩
set_option maxRecDepth 100000 in
theorem p_viewportlaw12FirstRows_5 (n : Nat) (terms : Int) (k : Int) (early : Int) (hc1 : m_viewportlaw12lives n = some ()) (hc2 : ¬ (terms < (0 : Int))) (hc3 : ¬ (terms > (4 : Int))) (hc4 : ¬ (k < (1 : Int))) (hc5 : ¬ (k > (3 : Int))) (c6_0a : ByteArray) (c6_0t : List (ByteArray)) (c6_1 : Bool) (hc6 : m_viewportlaw12rowsq1 n terms k = some ((c6_0a :: c6_0t), c6_1)) (c7_0 : Int) (c7_1 : Int) (hc7 : m_viewportlaw12FirstRows_1 n terms k early (c6_0a :: c6_0t) c6_1 (0, 1, 0) = some (c7_0, c7_1)) (hc8 : c6_1 = true) (hc9 : ((((c6_0a :: c6_0t)).length : Nat) : Int) = (w64 (c7_0 + c7_1))) (hc10 : m_viewportlaw12FirstRows_2 n terms k early (c6_0a :: c6_0t) 0 = some ()) (c11_ : Int) (hc11 : m_viewportkitPickq1 n early ((((c6_0a :: c6_0t)).length : Nat) : Int) = some c11_) (hc12 : m_firstRowsq1 n terms k = some ()) (c13_ : Int) (hc13 : m_firstRows1q2 n c11_ false (c6_0a :: c6_0t) (Nat.add big 1) 0 terms k = some (.inr (.inl c13_))) (hc14 : c13_ = c11_) : Gv P (.func 3) (A_viewportlaw12FirstRows terms k early) (H_viewportlaw12FirstRows terms k early) (V_viewportlaw12FirstRows terms k early (.inr ())) (R_viewportlaw12FirstRows terms k early (.inr ())) :=
  runF_ok hm (A := aT [(5, .call ⟨0, [], (Value.bool true), Ax.h0, []⟩), (11, .val (.bool false)), (14, .val (.bool false)), (18, .val (.bool false)), (22, .val (.bool false)), (28, .call ⟨0, [], (V_viewportlaw12rowsq1 terms k ((c6_0a :: c6_0t), c6_1)), (R_viewportlaw12rowsq1 terms k ((c6_0a :: c6_0t), c6_1)), [(3, 1, false), (4, 2, true), (5, 3, false)]⟩), (46, .val (.bool false)), (53, .val (.bool false)), (65, .call ⟨0, [], (V_viewportkitPickq1 early ((((c6_0a :: c6_0t)).length : Nat) : Int) c11_), (R_viewportkitPickq1 early ((((c6_0a :: c6_0t)).length : Nat) : Int) c11_), []⟩), (73, .call ⟨0, [], (V_firstRowsq1 terms k ()), (R_firstRowsq1 terms k ()), [(5, 0, false), (6, 1, false)]⟩), (84, .rng ⟨9, [(0, 8, false), (1, 7, false), (2, 0, false), (3, 1, false), (4, 2, false), (5, 3, true), (6, 4, false), (7, 5, false), (8, 6, false)], (V_firstRows1q2 c11_ false (c6_0a :: c6_0t) (Nat.add big 1) 0 terms k (.inr (.inl c13_))), (R_firstRows1q2 c11_ false (c6_0a :: c6_0t) (Nat.add big 1) 0 terms k (.inr (.inl c13_))), [(8, 0, false), (7, 1, false), (0, 2, false), (1, 3, false), (2, 4, false), (3, 5, true), (4, 6, false), (5, 7, false), (6, 8, false)]⟩ [5, 6, 7, 15, 140]), (88, .val (.bool true))]) (L := lT [(42, ⟨⟨[0, 1, 5, 6, 7, 8, 9, 10, 11], [(0, 0, false), (1, 1, false), (2, 6, false), (3, 4, true)], 4, 0⟩, (X_viewportlaw12FirstRows_1 terms k early (c6_0a :: c6_0t) c6_1 (c7_0, c7_1)).1, (X_viewportlaw12FirstRows_1 terms k early (c6_0a :: c6_0t) c6_1 (c7_0, c7_1)).2⟩), (60, ⟨⟨[0, 1, 5, 6, 7, 12], [(0, 0, false), (1, 1, false), (2, 2, false), (3, 3, true)], 4, 0⟩, (X_viewportlaw12FirstRows_2 terms k early (c6_0a :: c6_0t) ()).1, (X_viewportlaw12FirstRows_2 terms k early (c6_0a :: c6_0t) ()).2⟩)]) (wk := ⟨[6], [(0, 7, false), (1, 1, false)], 2, 0⟩)
    (ps := [Gv P (.func 4) [] Ax.h0 (Value.bool true) Ax.h0,
    (Value.bool (decide (terms < (0 : Int)))) = (Value.bool false),
    (Value.bool (decide (terms > (4 : Int)))) = (Value.bool false),
    (Value.bool (decide (k < (1 : Int)))) = (Value.bool false),
    (Value.bool (decide (k > (3 : Int)))) = (Value.bool false),
    Gv P (.func 5) (A_viewportlaw12rowsq1 terms k) (H_viewportlaw12rowsq1 terms k) (V_viewportlaw12rowsq1 terms k ((c6_0a :: c6_0t), c6_1)) (R_viewportlaw12rowsq1 terms k ((c6_0a :: c6_0t), c6_1)),
    FlatB (.cells (layT (rows rw_s (c6_0a :: c6_0t))) 9),
    CG P none (fnN P 3) 0 (codeOf P 3 [false, true, false, true, true, true, true, true]) (S_viewportlaw12FirstRows_1 terms k early (c6_0a :: c6_0t) c6_1 (0, 1, 0)) (X_viewportlaw12FirstRows_1 terms k early (c6_0a :: c6_0t) c6_1 (c7_0, c7_1)),
    FlatB (.cells (layT (rows rw_s (c6_0a :: c6_0t))) 9),
    (Value.bool (!c6_1)) = (Value.bool false),
    (Value.bool (((((c6_0a :: c6_0t)).length : Nat) : Int) != (w64 (c7_0 + c7_1)))) = (Value.bool false),
    CG P none (fnN P 3) 0 (codeOf P 3 [false, true, false, true, true, true, true, true, true, true]) (S_viewportlaw12FirstRows_2 terms k early (c6_0a :: c6_0t) 0) (X_viewportlaw12FirstRows_2 terms k early (c6_0a :: c6_0t) ()),
    FlatB (.cells (layT (rows rw_s (c6_0a :: c6_0t))) 9),
    Gv P (.func 6) (A_viewportkitPickq1 early ((((c6_0a :: c6_0t)).length : Nat) : Int)) (H_viewportkitPickq1 early ((((c6_0a :: c6_0t)).length : Nat) : Int)) (V_viewportkitPickq1 early ((((c6_0a :: c6_0t)).length : Nat) : Int) c11_) (R_viewportkitPickq1 early ((((c6_0a :: c6_0t)).length : Nat) : Int) c11_),
    Gv P (.func 7) (A_firstRowsq1 terms k) (H_firstRowsq1 terms k) (V_firstRowsq1 terms k ()) (R_firstRowsq1 terms k ()),
    Gv P (.func 11) (A_firstRows1q2 c11_ false (c6_0a :: c6_0t) (Nat.add big 1) 0 terms k) (H_firstRows1q2 c11_ false (c6_0a :: c6_0t) (Nat.add big 1) 0 terms k) (V_firstRows1q2 c11_ false (c6_0a :: c6_0t) (Nat.add big 1) 0 terms k (.inr (.inl c13_))) (R_firstRows1q2 c11_ false (c6_0a :: c6_0t) (Nat.add big 1) 0 terms k (.inr (.inl c13_))),
    FlatB (.cells (layT (rows rw_s (c6_0a :: c6_0t))) 9),
    FlatB (.cells (layT (rows rw_s (c6_0a :: c6_0t))) 9),
    (Value.bool (c13_ == c11_)) = (Value.bool true)]) (by kernel_rfl) ⟨(m_viewportlaw12lives_ok n () hc1), (vbF hc2), (vbF hc3), (vbF hc4), (vbF hc5), (m_viewportlaw12rowsq1_ok n terms k ((c6_0a :: c6_0t), c6_1) hc6), (rows_flat rwf_s _ _), (m_viewportlaw12FirstRows_1_ok n terms k early (c6_0a :: c6_0t) c6_1 (0, 1, 0) (c7_0, c7_1) hc7), (rows_flat rwf_s _ _), (vBn hc8), (vnF hc9), (m_viewportlaw12FirstRows_2_ok n terms k early (c6_0a :: c6_0t) 0 () hc10), (rows_flat rwf_s _ _), (m_viewportkitPickq1_ok n early ((((c6_0a :: c6_0t)).length : Nat) : Int) c11_ hc11), (m_firstRowsq1_ok n terms k () hc12), (m_firstRows1q2_ok n c11_ false (c6_0a :: c6_0t) (Nat.add big 1) 0 terms k (.inr (.inl c13_)) hc13), (rows_flat rwf_s _ _), (rows_flat rwf_s _ _), (veT hc14), trivial⟩
set_option maxRecDepth 100000 in
theorem p_viewportlaw12FirstRows_6 (n : Nat) (terms : Int) (k : Int) (early : Int) (hc1 : m_viewportlaw12lives n = some ()) (hc2 : ¬ (terms < (0 : Int))) (hc3 : ¬ (terms > (4 : Int))) (hc4 : ¬ (k < (1 : Int))) (hc5 : ¬ (k > (3 : Int))) (c6_0a : ByteArray) (c6_0t : List (ByteArray)) (c6_1 : Bool) (hc6 : m_viewportlaw12rowsq1 n terms k = some ((c6_0a :: c6_0t), c6_1)) (c7_0 : Int) (c7_1 : Int) (hc7 : m_viewportlaw12FirstRows_1 n terms k early (c6_0a :: c6_0t) c6_1 (0, 1, 0) = some (c7_0, c7_1)) (hc8 : c6_1 = true) (hc9 : ((((c6_0a :: c6_0t)).length : Nat) : Int) = (w64 (c7_0 + c7_1))) (hc10 : m_viewportlaw12FirstRows_2 n terms k early (c6_0a :: c6_0t) 0 = some ()) (c11_ : Int) (hc11 : m_viewportkitPickq1 n early ((((c6_0a :: c6_0t)).length : Nat) : Int) = some c11_) (hc12 : m_firstRowsq1 n terms k = some ()) (c13_ : Int) (hc13 : m_firstRows1q2 n c11_ false (c6_0a :: c6_0t) (Nat.add big 1) 0 terms k = some (.inr (.inr c13_))) (hc14 : c13_ = c11_) : Gv P (.func 3) (A_viewportlaw12FirstRows terms k early) (H_viewportlaw12FirstRows terms k early) (V_viewportlaw12FirstRows terms k early (.inr ())) (R_viewportlaw12FirstRows terms k early (.inr ())) :=
  runF_ok hm (A := aT [(5, .call ⟨0, [], (Value.bool true), Ax.h0, []⟩), (11, .val (.bool false)), (14, .val (.bool false)), (18, .val (.bool false)), (22, .val (.bool false)), (28, .call ⟨0, [], (V_viewportlaw12rowsq1 terms k ((c6_0a :: c6_0t), c6_1)), (R_viewportlaw12rowsq1 terms k ((c6_0a :: c6_0t), c6_1)), [(3, 1, false), (4, 2, true), (5, 3, false)]⟩), (46, .val (.bool false)), (53, .val (.bool false)), (65, .call ⟨0, [], (V_viewportkitPickq1 early ((((c6_0a :: c6_0t)).length : Nat) : Int) c11_), (R_viewportkitPickq1 early ((((c6_0a :: c6_0t)).length : Nat) : Int) c11_), []⟩), (73, .call ⟨0, [], (V_firstRowsq1 terms k ()), (R_firstRowsq1 terms k ()), [(5, 0, false), (6, 1, false)]⟩), (84, .rng ⟨9, [(0, 8, false), (1, 7, false), (2, 0, false), (3, 1, false), (4, 2, false), (5, 3, true), (6, 4, false), (7, 5, false), (8, 6, false)], (V_firstRows1q2 c11_ false (c6_0a :: c6_0t) (Nat.add big 1) 0 terms k (.inr (.inr c13_))), (R_firstRows1q2 c11_ false (c6_0a :: c6_0t) (Nat.add big 1) 0 terms k (.inr (.inr c13_))), [(8, 0, false), (7, 1, false), (0, 2, false), (1, 3, false), (2, 4, false), (3, 5, true), (4, 6, false), (5, 7, false), (6, 8, false)]⟩ [5, 6, 7, 15, 140]), (88, .val (.bool true))]) (L := lT [(42, ⟨⟨[0, 1, 5, 6, 7, 8, 9, 10, 11], [(0, 0, false), (1, 1, false), (2, 6, false), (3, 4, true)], 4, 0⟩, (X_viewportlaw12FirstRows_1 terms k early (c6_0a :: c6_0t) c6_1 (c7_0, c7_1)).1, (X_viewportlaw12FirstRows_1 terms k early (c6_0a :: c6_0t) c6_1 (c7_0, c7_1)).2⟩), (60, ⟨⟨[0, 1, 5, 6, 7, 12], [(0, 0, false), (1, 1, false), (2, 2, false), (3, 3, true)], 4, 0⟩, (X_viewportlaw12FirstRows_2 terms k early (c6_0a :: c6_0t) ()).1, (X_viewportlaw12FirstRows_2 terms k early (c6_0a :: c6_0t) ()).2⟩)]) (wk := ⟨[6], [(0, 7, false), (1, 1, false)], 2, 0⟩)
    (ps := [Gv P (.func 4) [] Ax.h0 (Value.bool true) Ax.h0,
    (Value.bool (decide (terms < (0 : Int)))) = (Value.bool false),
    (Value.bool (decide (terms > (4 : Int)))) = (Value.bool false),
    (Value.bool (decide (k < (1 : Int)))) = (Value.bool false),
    (Value.bool (decide (k > (3 : Int)))) = (Value.bool false),
    Gv P (.func 5) (A_viewportlaw12rowsq1 terms k) (H_viewportlaw12rowsq1 terms k) (V_viewportlaw12rowsq1 terms k ((c6_0a :: c6_0t), c6_1)) (R_viewportlaw12rowsq1 terms k ((c6_0a :: c6_0t), c6_1)),
    FlatB (.cells (layT (rows rw_s (c6_0a :: c6_0t))) 9),
    CG P none (fnN P 3) 0 (codeOf P 3 [false, true, false, true, true, true, true, true]) (S_viewportlaw12FirstRows_1 terms k early (c6_0a :: c6_0t) c6_1 (0, 1, 0)) (X_viewportlaw12FirstRows_1 terms k early (c6_0a :: c6_0t) c6_1 (c7_0, c7_1)),
    FlatB (.cells (layT (rows rw_s (c6_0a :: c6_0t))) 9),
    (Value.bool (!c6_1)) = (Value.bool false),
    (Value.bool (((((c6_0a :: c6_0t)).length : Nat) : Int) != (w64 (c7_0 + c7_1)))) = (Value.bool false),
    CG P none (fnN P 3) 0 (codeOf P 3 [false, true, false, true, true, true, true, true, true, true]) (S_viewportlaw12FirstRows_2 terms k early (c6_0a :: c6_0t) 0) (X_viewportlaw12FirstRows_2 terms k early (c6_0a :: c6_0t) ()),
    FlatB (.cells (layT (rows rw_s (c6_0a :: c6_0t))) 9),
    Gv P (.func 6) (A_viewportkitPickq1 early ((((c6_0a :: c6_0t)).length : Nat) : Int)) (H_viewportkitPickq1 early ((((c6_0a :: c6_0t)).length : Nat) : Int)) (V_viewportkitPickq1 early ((((c6_0a :: c6_0t)).length : Nat) : Int) c11_) (R_viewportkitPickq1 early ((((c6_0a :: c6_0t)).length : Nat) : Int) c11_),
    Gv P (.func 7) (A_firstRowsq1 terms k) (H_firstRowsq1 terms k) (V_firstRowsq1 terms k ()) (R_firstRowsq1 terms k ()),
    Gv P (.func 11) (A_firstRows1q2 c11_ false (c6_0a :: c6_0t) (Nat.add big 1) 0 terms k) (H_firstRows1q2 c11_ false (c6_0a :: c6_0t) (Nat.add big 1) 0 terms k) (V_firstRows1q2 c11_ false (c6_0a :: c6_0t) (Nat.add big 1) 0 terms k (.inr (.inr c13_))) (R_firstRows1q2 c11_ false (c6_0a :: c6_0t) (Nat.add big 1) 0 terms k (.inr (.inr c13_))),
    FlatB (.cells (layT (rows rw_s (c6_0a :: c6_0t))) 9),
    FlatB (.cells (layT (rows rw_s (c6_0a :: c6_0t))) 9),
    (Value.bool (c13_ == c11_)) = (Value.bool true)]) (by kernel_rfl) ⟨(m_viewportlaw12lives_ok n () hc1), (vbF hc2), (vbF hc3), (vbF hc4), (vbF hc5), (m_viewportlaw12rowsq1_ok n terms k ((c6_0a :: c6_0t), c6_1) hc6), (rows_flat rwf_s _ _), (m_viewportlaw12FirstRows_1_ok n terms k early (c6_0a :: c6_0t) c6_1 (0, 1, 0) (c7_0, c7_1) hc7), (rows_flat rwf_s _ _), (vBn hc8), (vnF hc9), (m_viewportlaw12FirstRows_2_ok n terms k early (c6_0a :: c6_0t) 0 () hc10), (rows_flat rwf_s _ _), (m_viewportkitPickq1_ok n early ((((c6_0a :: c6_0t)).length : Nat) : Int) c11_ hc11), (m_firstRowsq1_ok n terms k () hc12), (m_firstRows1q2_ok n c11_ false (c6_0a :: c6_0t) (Nat.add big 1) 0 terms k (.inr (.inr c13_)) hc13), (rows_flat rwf_s _ _), (rows_flat rwf_s _ _), (veT hc14), trivial⟩
theorem m_viewportlaw12FirstRows_ok (n : Nat) (terms : Int) (k : Int) (early : Int) (r : (Unit) ⊕ (Unit)) (h : m_viewportlaw12FirstRows n terms k early = some r) : Gv P (.func 3) (A_viewportlaw12FirstRows terms k early) (H_viewportlaw12FirstRows terms k early) (V_viewportlaw12FirstRows terms k early r) (R_viewportlaw12FirstRows terms k early r) := by
  unfold m_viewportlaw12FirstRows at h
  obtain ⟨_, hc1, h⟩ := Option.bind_eq_some_iff.1 h
  by_cases hc2 : terms < (0 : Int)
  · rw [if_pos hc2] at h
    obtain rfl := Option.some.inj h; exact p_viewportlaw12FirstRows_0 n terms k early hc1 hc2
  · rw [if_neg hc2] at h
    by_cases hc3 : terms > (4 : Int)
    · rw [if_pos hc3] at h
      obtain rfl := Option.some.inj h; exact p_viewportlaw12FirstRows_1 n terms k early hc1 hc2 hc3
    · rw [if_neg hc3] at h
      by_cases hc4 : k < (1 : Int)
      · rw [if_pos hc4] at h
        obtain rfl := Option.some.inj h; exact p_viewportlaw12FirstRows_2 n terms k early hc1 hc2 hc3 hc4
      · rw [if_neg hc4] at h
        by_cases hc5 : k > (3 : Int)
        · rw [if_pos hc5] at h
          obtain rfl := Option.some.inj h; exact p_viewportlaw12FirstRows_3 n terms k early hc1 hc2 hc3 hc4 hc5
        · rw [if_neg hc5] at h
          obtain ⟨⟨c6_0, c6_1⟩, hc6, h⟩ := Option.bind_eq_some_iff.1 h
          dsimp only at h
          cases c6_0 with
          | nil =>
            dsimp only at h
            cases h
          | cons c6_0a c6_0t =>
            dsimp only at h
            obtain ⟨⟨c7_0, c7_1⟩, hc7, h⟩ := Option.bind_eq_some_iff.1 h
            dsimp only at h
            by_cases hc8 : c6_1 = true
            · rw [if_pos hc8] at h
              by_cases hc9 : ((((c6_0a :: c6_0t)).length : Nat) : Int) = (w64 (c7_0 + c7_1))
              · rw [if_pos hc9] at h
                obtain ⟨_, hc10, h⟩ := Option.bind_eq_some_iff.1 h
                obtain ⟨c11_, hc11, h⟩ := Option.bind_eq_some_iff.1 h
                obtain ⟨_, hc12, h⟩ := Option.bind_eq_some_iff.1 h
                rcases hc13 : m_firstRows1q2 n c11_ false (c6_0a :: c6_0t) (Nat.add big 1) 0 terms k with _ | (⟨⟩ | c13_ | c13_)
                · rw [hc13] at h; cases h
                · rw [hc13] at h
                  dsimp only at h
                  by_cases hc14 : 0 = c11_
                  · rw [if_pos hc14] at h
                    obtain rfl := Option.some.inj h; exact p_viewportlaw12FirstRows_4 n terms k early hc1 hc2 hc3 hc4 hc5 c6_0a c6_0t c6_1 hc6 c7_0 c7_1 hc7 hc8 hc9 hc10 c11_ hc11 hc12 hc13 hc14
                  · rw [if_neg hc14] at h
                    cases h
                · rw [hc13] at h
                  dsimp only at h
                  by_cases hc14 : c13_ = c11_
                  · rw [if_pos hc14] at h
                    obtain rfl := Option.some.inj h; exact p_viewportlaw12FirstRows_5 n terms k early hc1 hc2 hc3 hc4 hc5 c6_0a c6_0t c6_1 hc6 c7_0 c7_1 hc7 hc8 hc9 hc10 c11_ hc11 hc12 c13_ hc13 hc14
                  · rw [if_neg hc14] at h
                    cases h
                · rw [hc13] at h
                  dsimp only at h
                  by_cases hc14 : c13_ = c11_
                  · rw [if_pos hc14] at h
                    obtain rfl := Option.some.inj h; exact p_viewportlaw12FirstRows_6 n terms k early hc1 hc2 hc3 hc4 hc5 c6_0a c6_0t c6_1 hc6 c7_0 c7_1 hc7 hc8 hc9 hc10 c11_ hc11 hc12 c13_ hc13 hc14
                  · rw [if_neg hc14] at h
                    cases h
              · rw [if_neg hc9] at h
                cases h
            · rw [if_neg hc8] at h
              cases h

end Go.Proofs.Ytgcbagchpjpmoaa.firw
