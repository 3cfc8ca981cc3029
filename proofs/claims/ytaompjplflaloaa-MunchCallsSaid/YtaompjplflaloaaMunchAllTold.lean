/-
  What functions do, told by pure functions. No condition.
-/
import Derived.Test.YtaompjplflaloaaMunchTold
set_option linter.unusedSimpArgs false
set_option linter.unusedVariables false
set_option linter.unusedSectionVars false
set_option linter.unnecessarySimpa false
namespace Go.Proofs.Ytaompjplflaloaa.munchw
open Go Go.Proofs.Ytaompjplflaloaa Ax
variable [Args]
def rw_iiii (x : Int × Int × Int × Int) : List Value := [Value.int .i64 (x.1), Value.int .i64 (x.2.1), Value.int .i64 (x.2.2.1), Value.int .i64 (x.2.2.2)]
theorem rwf_iiii : RowF rw_iiii 4 := ⟨fun _ => rfl, fun a v h => by
  simp only [rw_iiii, List.mem_cons, List.not_mem_nil, or_false] at h
  rcases h with rfl | rfl | rfl | rfl <;> rfl, fun _ => rfl⟩

noncomputable def S_munchAll_1 (x1_0 : ByteArray) (st : List (Int × Int × Int × Int) × Int) : XSt := match st with
  | (x1_1, x1_2) => (sT 29 [(1, (Value.string x1_0)), (2, (Value.pointer (some ⟨0, 0, none⟩))), (5, (slR x1_1 1 4)), (6, (Value.int .i64 x1_2))], [], ⟨sB [(0, (some (.cells (layT [(Value.slice (some ⟨0, 0, some 1⟩) (Args.N).length Args.cN), (Value.slice (some ⟨1, 0, some 1⟩) (Args.R).length Args.cR)]) 24))), (1, (nblkR rw_iiii x1_1 28))], 2, 0⟩)
noncomputable def X_munchAll_1 (x1_0 : ByteArray) (r : List (Int × Int × Int × Int)) : Ex × XSt := match r with
  | z1_0 => (.exit 0, (sT 29 [(5, (slR z1_0 0 4))], [], ⟨sB [(0, (nblkR rw_iiii z1_0 28))], 1, 0⟩))
def B_munchAll_1 (n : Nat) (x1_0 : ByteArray) (st : List (Int × Int × Int × Int) × Int) : Option ((List (Int × Int × Int × Int) × Int) ⊕ (List (Int × Int × Int × Int))) := match st with
  | (x1_1, x1_2) =>
    match x1_1 with
    | [] =>
      if x1_2 < (((x1_0).size : Nat) : Int) then
        (m_munchnext n x1_0 x1_2).bind fun t => match t with
        | (y1_2_0, y1_2_1, y1_2_2) =>
          some (.inl ([(y1_2_0, x1_2, y1_2_1, y1_2_2)], y1_2_1))
      else
        some (.inr ([] : List (Int × Int × Int × Int)))
    | x1_1a :: x1_1t =>
      if x1_2 < (((x1_0).size : Nat) : Int) then
        (m_munchnext n x1_0 x1_2).bind fun t => match t with
        | (y1_2_0, y1_2_1, y1_2_2) =>
          if (((x1_1a :: x1_1t)).length + 1) * 32 ≤ 140737488355328 then
            if 0 ≤ (w64 ((((((x1_1a :: x1_1t) ++ [(y1_2_0, x1_2, y1_2_1, y1_2_2)])).length : Nat) : Int) - (1 : Int))) ∧ (w64 ((((((x1_1a :: x1_1t) ++ [(y1_2_0, x1_2, y1_2_1, y1_2_2)])).length : Nat) : Int) - (1 : Int))) < (((((x1_1a :: x1_1t) ++ [(y1_2_0, x1_2, y1_2_1, y1_2_2)])).length : Nat) : Int) then
              some (.inl (((x1_1a :: x1_1t) ++ [(y1_2_0, x1_2, y1_2_1, y1_2_2)]), (((((x1_1a :: x1_1t) ++ [(y1_2_0, x1_2, y1_2_1, y1_2_2)])).getD ((w64 ((((((x1_1a :: x1_1t) ++ [(y1_2_0, x1_2, y1_2_1, y1_2_2)])).length : Nat) : Int) - (1 : Int)))).toNat (0, 0, 0, 0)).2.2.1)))
            else none
          else none
      else
        some (.inr (x1_1a :: x1_1t))
def m_munchAll_1 (n : Nat) (x1_0 : ByteArray) (st : List (Int × Int × Int × Int) × Int) : Option (List (Int × Int × Int × Int)) := iterM (B_munchAll_1 n x1_0) n st
set_option maxRecDepth 100000 in
theorem q_munchAll_1_0 (n : Nat) (x1_0 : ByteArray) (x1_2 : Int) (hy1_1 : x1_2 < (((x1_0).size : Nat) : Int)) (y1_2_0 : Int) (y1_2_1 : Int) (y1_2_2 : Int) (hy1_2 : m_munchnext n x1_0 x1_2 = some (y1_2_0, y1_2_1, y1_2_2)) : CG P none (fnN P 10) 0 (codeOf P 10 [false, false, true, false, true, true, true]) (S_munchAll_1 x1_0 (([] : List (Int × Int × Int × Int)), x1_2)) (.normal, S_munchAll_1 x1_0 ([(y1_2_0, x1_2, y1_2_1, y1_2_2)], y1_2_1)) :=
  runC_ok hm (A := aT [(5, .val (.bool true)), (13, .call ⟨0, [], (V_munchnext x1_0 x1_2 (y1_2_0, y1_2_1, y1_2_2)), (R_munchnext x1_0 x1_2 (y1_2_0, y1_2_1, y1_2_2)), [(2, 0, false)]⟩)]) (L := lT []) (wk := ⟨[1, 2, 5, 6], [(0, 0, false), (1, 4, false)], 2, 0⟩)
    (ps := [(Value.bool (decide (x1_2 < (((x1_0).size : Nat) : Int)))) = (Value.bool true),
    Gv P (.func 26) (A_munchnext x1_0 x1_2) (H_munchnext x1_0 x1_2) (V_munchnext x1_0 x1_2 (y1_2_0, y1_2_1, y1_2_2)) (R_munchnext x1_0 x1_2 (y1_2_0, y1_2_1, y1_2_2))]) (by kernel_rfl) ⟨(vbT hy1_1), (m_munchnext_ok n x1_0 x1_2 (y1_2_0, y1_2_1, y1_2_2) hy1_2), trivial⟩
set_option maxRecDepth 100000 in
theorem q_munchAll_1_1 (n : Nat) (x1_0 : ByteArray) (x1_2 : Int) (hy1_1 : ¬ (x1_2 < (((x1_0).size : Nat) : Int))) : CG P none (fnN P 10) 0 (codeOf P 10 [false, false, true, false, true, true, true]) (S_munchAll_1 x1_0 (([] : List (Int × Int × Int × Int)), x1_2)) (X_munchAll_1 x1_0 ([] : List (Int × Int × Int × Int))) :=
  runC_ok hm (A := aT [(5, .val (.bool false))]) (L := lT []) (wk := ⟨[5], [], 1, 0⟩)
    (ps := [(Value.bool (decide (x1_2 < (((x1_0).size : Nat) : Int)))) = (Value.bool false)]) (by kernel_rfl) ⟨(vbF hy1_1), trivial⟩
set_option maxRecDepth 100000 in
theorem q_munchAll_1_2 (n : Nat) (x1_0 : ByteArray) (x1_1a : Int × Int × Int × Int) (x1_1t : List (Int × Int × Int × Int)) (x1_2 : Int) (hy1_1 : x1_2 < (((x1_0).size : Nat) : Int)) (y1_2_0 : Int) (y1_2_1 : Int) (y1_2_2 : Int) (hy1_2 : m_munchnext n x1_0 x1_2 = some (y1_2_0, y1_2_1, y1_2_2)) (hy1_3 : (((x1_1a :: x1_1t)).length + 1) * 32 ≤ 140737488355328) (hy1_4 : 0 ≤ (w64 ((((((x1_1a :: x1_1t) ++ [(y1_2_0, x1_2, y1_2_1, y1_2_2)])).length : Nat) : Int) - (1 : Int))) ∧ (w64 ((((((x1_1a :: x1_1t) ++ [(y1_2_0, x1_2, y1_2_1, y1_2_2)])).length : Nat) : Int) - (1 : Int))) < (((((x1_1a :: x1_1t) ++ [(y1_2_0, x1_2, y1_2_1, y1_2_2)])).length : Nat) : Int)) : CG P none (fnN P 10) 0 (codeOf P 10 [false, false, true, false, true, true, true]) (S_munchAll_1 x1_0 ((x1_1a :: x1_1t), x1_2)) (.normal, S_munchAll_1 x1_0 (((x1_1a :: x1_1t) ++ [(y1_2_0, x1_2, y1_2_1, y1_2_2)]), (((((x1_1a :: x1_1t) ++ [(y1_2_0, x1_2, y1_2_1, y1_2_2)])).getD ((w64 ((((((x1_1a :: x1_1t) ++ [(y1_2_0, x1_2, y1_2_1, y1_2_2)])).length : Nat) : Int) - (1 : Int)))).toNat (0, 0, 0, 0)).2.2.1))) :=
  runC_ok hm (A := aT [(5, .val (.bool true)), (13, .call ⟨0, [], (V_munchnext x1_0 x1_2 (y1_2_0, y1_2_1, y1_2_2)), (R_munchnext x1_0 x1_2 (y1_2_0, y1_2_1, y1_2_2)), [(2, 0, false)]⟩), (15, .app ⟨none, rows rw_iiii (x1_1a :: x1_1t), (rows rw_iiii ((x1_1a :: x1_1t) ++ [(y1_2_0, x1_2, y1_2_1, y1_2_2)])), (((x1_1a :: x1_1t) ++ [(y1_2_0, x1_2, y1_2_1, y1_2_2)])).length, false⟩), (21, .pur (Value.pointer (some ⟨4, (((w64 ((((((x1_1a :: x1_1t) ++ [(y1_2_0, x1_2, y1_2_1, y1_2_2)])).length : Nat) : Int) - (1 : Int)))).toNat * 4), none⟩))), (23, .ld (Value.int .i64 (((((x1_1a :: x1_1t) ++ [(y1_2_0, x1_2, y1_2_1, y1_2_2)])).getD ((w64 ((((((x1_1a :: x1_1t) ++ [(y1_2_0, x1_2, y1_2_1, y1_2_2)])).length : Nat) : Int) - (1 : Int)))).toNat (0, 0, 0, 0)).2.2.1)))]) (L := lT []) (wk := ⟨[1, 2, 5, 6], [(0, 0, false), (1, 4, true)], 2, 0⟩)
    (ps := [(Value.bool (decide (x1_2 < (((x1_0).size : Nat) : Int)))) = (Value.bool true),
    Gv P (.func 26) (A_munchnext x1_0 x1_2) (H_munchnext x1_0 x1_2) (V_munchnext x1_0 x1_2 (y1_2_0, y1_2_1, y1_2_2)) (R_munchnext x1_0 x1_2 (y1_2_0, y1_2_1, y1_2_2)),
    0 < 1,
    rdT (layT (rows rw_iiii (x1_1a :: x1_1t))) (Nat.mul ((x1_1a :: x1_1t)).length 4) 0 = some (rows rw_iiii (x1_1a :: x1_1t)),
    fits (Nat.add ((x1_1a :: x1_1t)).length 1) 32 = true,
    allCells [(Value.int .i64 y1_2_0), (Value.int .i64 x1_2), (Value.int .i64 y1_2_1), (Value.int .i64 y1_2_2)] = true,
    allCells (rows rw_iiii (x1_1a :: x1_1t)) = true,
    rows rw_iiii (x1_1a :: x1_1t) ++ [(Value.int .i64 y1_2_0), (Value.int .i64 x1_2), (Value.int .i64 y1_2_1), (Value.int .i64 y1_2_2)] = (rows rw_iiii ((x1_1a :: x1_1t) ++ [(y1_2_0, x1_2, y1_2_1, y1_2_2)])),
    Nat.add ((x1_1a :: x1_1t)).length 1 = (((x1_1a :: x1_1t) ++ [(y1_2_0, x1_2, y1_2_1, y1_2_2)])).length,
    opIndexAddr P 32 (Value.slice (some ⟨4, 0, none⟩) (((x1_1a :: x1_1t) ++ [(y1_2_0, x1_2, y1_2_1, y1_2_2)])).length (Nat.add big 4)) (Value.int .i64 (w64 ((((((x1_1a :: x1_1t) ++ [(y1_2_0, x1_2, y1_2_1, y1_2_2)])).length : Nat) : Int) - (1 : Int)))) Ax.h0 = some ((Value.pointer (some ⟨4, (((w64 ((((((x1_1a :: x1_1t) ++ [(y1_2_0, x1_2, y1_2_1, y1_2_2)])).length : Nat) : Int) - (1 : Int)))).toNat * 4), none⟩)), Ax.h0),
    (layT (rows rw_iiii ((x1_1a :: x1_1t) ++ [(y1_2_0, x1_2, y1_2_1, y1_2_2)]))).get (Nat.add (((w64 ((((((x1_1a :: x1_1t) ++ [(y1_2_0, x1_2, y1_2_1, y1_2_2)])).length : Nat) : Int) - (1 : Int)))).toNat * 4) 2) = some (Value.int .i64 (((((x1_1a :: x1_1t) ++ [(y1_2_0, x1_2, y1_2_1, y1_2_2)])).getD ((w64 ((((((x1_1a :: x1_1t) ++ [(y1_2_0, x1_2, y1_2_1, y1_2_2)])).length : Nat) : Int) - (1 : Int)))).toNat (0, 0, 0, 0)).2.2.1)),
    FlatB (.cells (layT (rows rw_iiii ((x1_1a :: x1_1t) ++ [(y1_2_0, x1_2, y1_2_1, y1_2_2)]))) 28)]) (by kernel_rfl) ⟨(vbT hy1_1), (m_munchnext_ok n x1_0 x1_2 (y1_2_0, y1_2_1, y1_2_2) hy1_2), ((by decide)), (rows_rd rwf_iiii _ _ rfl), (fits_ok hy1_3 (by have := hy1_3; show (_ : Nat) + _ ≤ _; omega)), (rfl), (rows_cells rwf_iiii _), (rows_app rw_iiii (x1_1a :: x1_1t) [(y1_2_0, x1_2, y1_2_1, y1_2_2)]), (by simp), (ixS (e := 28) (by kernel_rfl) (by kernel_rfl) (hy1_4).1 (hy1_4).2), (rows_ld rwf_iiii (0, 0, 0, 0) (i := ((w64 ((((((x1_1a :: x1_1t) ++ [(y1_2_0, x1_2, y1_2_1, y1_2_2)])).length : Nat) : Int) - (1 : Int)))).toNat) (j := 2) (Nat.add (((w64 ((((((x1_1a :: x1_1t) ++ [(y1_2_0, x1_2, y1_2_1, y1_2_2)])).length : Nat) : Int) - (1 : Int)))).toNat * 4) 2) rfl (toNatLt hy1_4) (by decide) rfl), (rows_flat rwf_iiii _ _), trivial⟩
set_option maxRecDepth 100000 in
theorem q_munchAll_1_3 (n : Nat) (x1_0 : ByteArray) (x1_1a : Int × Int × Int × Int) (x1_1t : List (Int × Int × Int × Int)) (x1_2 : Int) (hy1_1 : ¬ (x1_2 < (((x1_0).size : Nat) : Int))) : CG P none (fnN P 10) 0 (codeOf P 10 [false, false, true, false, true, true, true]) (S_munchAll_1 x1_0 ((x1_1a :: x1_1t), x1_2)) (X_munchAll_1 x1_0 (x1_1a :: x1_1t)) :=
  runC_ok hm (A := aT [(5, .val (.bool false))]) (L := lT []) (wk := ⟨[5], [(0, 1, true)], 1, 0⟩)
    (ps := [(Value.bool (decide (x1_2 < (((x1_0).size : Nat) : Int)))) = (Value.bool false),
    FlatB (.cells (layT (rows rw_iiii (x1_1a :: x1_1t))) 28)]) (by kernel_rfl) ⟨(vbF hy1_1), (rows_flat rwf_iiii _ _), trivial⟩
theorem m_munchAll_1_ok (n : Nat) (x1_0 : ByteArray) (st : List (Int × Int × Int × Int) × Int) (r : List (Int × Int × Int × Int)) (h : m_munchAll_1 n x1_0 st = some r) : CG P none (fnN P 10) 0 (codeOf P 10 [false, true, false, true, true, true]) (S_munchAll_1 x1_0 st) (X_munchAll_1 x1_0 r) :=
  CG.iter (b := codeOf P 10 [false, false, true, false, true, true, true]) (by kernel_rfl) (body := B_munchAll_1 n x1_0) (S := S_munchAll_1 x1_0) (X := X_munchAll_1 x1_0)
    (fun s s' h => by
    obtain ⟨x1_1, x1_2⟩ := s
    unfold B_munchAll_1 at h
    dsimp only at h
    cases x1_1 with
    | nil =>
      dsimp only at h
      by_cases hy1_1 : x1_2 < (((x1_0).size : Nat) : Int)
      · rw [if_pos hy1_1] at h
        obtain ⟨⟨y1_2_0, y1_2_1, y1_2_2⟩, hy1_2, h⟩ := Option.bind_eq_some_iff.1 h
        dsimp only at h
        obtain rfl := Sum.inl.inj (Option.some.inj h); exact q_munchAll_1_0 n x1_0 x1_2 hy1_1 y1_2_0 y1_2_1 y1_2_2 hy1_2
      · rw [if_neg hy1_1] at h
        cases h
    | cons x1_1a x1_1t =>
      dsimp only at h
      by_cases hy1_1 : x1_2 < (((x1_0).size : Nat) : Int)
      · rw [if_pos hy1_1] at h
        obtain ⟨⟨y1_2_0, y1_2_1, y1_2_2⟩, hy1_2, h⟩ := Option.bind_eq_some_iff.1 h
        dsimp only at h
        by_cases hy1_3 : (((x1_1a :: x1_1t)).length + 1) * 32 ≤ 140737488355328
        · rw [if_pos hy1_3] at h
          by_cases hy1_4 : 0 ≤ (w64 ((((((x1_1a :: x1_1t) ++ [(y1_2_0, x1_2, y1_2_1, y1_2_2)])).length : Nat) : Int) - (1 : Int))) ∧ (w64 ((((((x1_1a :: x1_1t) ++ [(y1_2_0, x1_2, y1_2_1, y1_2_2)])).length : Nat) : Int) - (1 : Int))) < (((((x1_1a :: x1_1t) ++ [(y1_2_0, x1_2, y1_2_1, y1_2_2)])).length : Nat) : Int)
          · rw [if_pos hy1_4] at h
            obtain rfl := Sum.inl.inj (Option.some.inj h); exact q_munchAll_1_2 n x1_0 x1_1a x1_1t x1_2 hy1_1 y1_2_0 y1_2_1 y1_2_2 hy1_2 hy1_3 hy1_4
          · rw [if_neg hy1_4] at h; cases h
        · rw [if_neg hy1_3] at h; cases h
      · rw [if_neg hy1_1] at h
        cases h)
    (fun s r h => by
    obtain ⟨x1_1, x1_2⟩ := s
    unfold B_munchAll_1 at h
    dsimp only at h
    cases x1_1 with
    | nil =>
      dsimp only at h
      by_cases hy1_1 : x1_2 < (((x1_0).size : Nat) : Int)
      · rw [if_pos hy1_1] at h
        obtain ⟨⟨y1_2_0, y1_2_1, y1_2_2⟩, hy1_2, h⟩ := Option.bind_eq_some_iff.1 h
        dsimp only at h
        cases h
      · rw [if_neg hy1_1] at h
        obtain rfl := Sum.inr.inj (Option.some.inj h); exact q_munchAll_1_1 n x1_0 x1_2 hy1_1
    | cons x1_1a x1_1t =>
      dsimp only at h
      by_cases hy1_1 : x1_2 < (((x1_0).size : Nat) : Int)
      · rw [if_pos hy1_1] at h
        obtain ⟨⟨y1_2_0, y1_2_1, y1_2_2⟩, hy1_2, h⟩ := Option.bind_eq_some_iff.1 h
        dsimp only at h
        by_cases hy1_3 : (((x1_1a :: x1_1t)).length + 1) * 32 ≤ 140737488355328
        · rw [if_pos hy1_3] at h
          by_cases hy1_4 : 0 ≤ (w64 ((((((x1_1a :: x1_1t) ++ [(y1_2_0, x1_2, y1_2_1, y1_2_2)])).length : Nat) : Int) - (1 : Int))) ∧ (w64 ((((((x1_1a :: x1_1t) ++ [(y1_2_0, x1_2, y1_2_1, y1_2_2)])).length : Nat) : Int) - (1 : Int))) < (((((x1_1a :: x1_1t) ++ [(y1_2_0, x1_2, y1_2_1, y1_2_2)])).length : Nat) : Int)
          · rw [if_pos hy1_4] at h
            cases h
          · rw [if_neg hy1_4] at h; cases h
        · rw [if_neg hy1_3] at h; cases h
      · rw [if_neg hy1_1] at h
        obtain rfl := Sum.inr.inj (Option.some.inj h); exact q_munchAll_1_3 n x1_0 x1_1a x1_1t x1_2 hy1_1)
    (fun r => by intro hx; cases hx) h
noncomputable def A_munchAll (x : ByteArray) : List Value := [(Value.agg #[(Value.slice (some ⟨0, 0, some 1⟩) (Args.N).length Args.cN), (Value.slice (some ⟨1, 0, some 1⟩) (Args.R).length Args.cR)]), (Value.string x)]
noncomputable def H_munchAll (x : ByteArray) : AH := ⟨sB [], 0, 0⟩
noncomputable def V_munchAll (x : ByteArray) (r : List (Int × Int × Int × Int)) : Value := match r with
  | o0 => (slR o0 0 4)
noncomputable def R_munchAll (x : ByteArray) (r : List (Int × Int × Int × Int)) : AH := match r with
  | o0 => ⟨sB [(0, (nblkR rw_iiii o0 28))], 1, 0⟩
def m_munchAll (n : Nat) (x : ByteArray) : Option (List (Int × Int × Int × Int)) :=
  (m_dfaCheck n).bind fun c1_ =>
  if c1_ = (0 : Int) then
    (m_munchAll_1 n x (([] : List (Int × Int × Int × Int)), 0)).bind fun c3_ =>
    match c3_ with
    | [] =>
      some ([] : List (Int × Int × Int × Int))
    | c3_a :: c3_t =>
      some (c3_a :: c3_t)
  else
    some ([] : List (Int × Int × Int × Int))
set_option maxRecDepth 100000 in
theorem p_munchAll_0 (n : Nat) (x : ByteArray) (c1_ : Int) (hc1 : m_dfaCheck n = some c1_) (hc2 : c1_ = (0 : Int)) (hc3 : m_munchAll_1 n x (([] : List (Int × Int × Int × Int)), 0) = some []) : Gv P (.func 10) (A_munchAll x) (H_munchAll x) (V_munchAll x ([] : List (Int × Int × Int × Int))) (R_munchAll x ([] : List (Int × Int × Int × Int))) :=
  runF_ok hm (A := aT [(6, .call ⟨0, [], (V_dfaCheck  c1_), (R_dfaCheck  c1_), []⟩), (7, .val (.bool false))]) (L := lT [(15, ⟨⟨[1, 2, 5, 6], [(0, 0, false)], 2, 0⟩, (X_munchAll_1 x ([] : List (Int × Int × Int × Int))).1, (X_munchAll_1 x ([] : List (Int × Int × Int × Int))).2⟩)]) (wk := ⟨[4], [], 1, 0⟩)
    (ps := [Gv P (.func 25) A_dfaCheck H_dfaCheck (V_dfaCheck  c1_) (R_dfaCheck  c1_),
    (Value.bool (c1_ != (0 : Int))) = (Value.bool false),
    CG P none (fnN P 10) 0 (codeOf P 10 [false, true, false, true, true, true]) (S_munchAll_1 x (([] : List (Int × Int × Int × Int)), 0)) (X_munchAll_1 x ([] : List (Int × Int × Int × Int)))]) (by kernel_rfl) ⟨(m_dfaCheck_ok n c1_ hc1), (vnF hc2), (m_munchAll_1_ok n x (([] : List (Int × Int × Int × Int)), 0) ([] : List (Int × Int × Int × Int)) hc3), trivial⟩
set_option maxRecDepth 100000 in
theorem p_munchAll_1 (n : Nat) (x : ByteArray) (c1_ : Int) (hc1 : m_dfaCheck n = some c1_) (hc2 : c1_ = (0 : Int)) (c3_a : Int × Int × Int × Int) (c3_t : List (Int × Int × Int × Int)) (hc3 : m_munchAll_1 n x (([] : List (Int × Int × Int × Int)), 0) = some (c3_a :: c3_t)) : Gv P (.func 10) (A_munchAll x) (H_munchAll x) (V_munchAll x (c3_a :: c3_t)) (R_munchAll x (c3_a :: c3_t)) :=
  runF_ok hm (A := aT [(6, .call ⟨0, [], (V_dfaCheck  c1_), (R_dfaCheck  c1_), []⟩), (7, .val (.bool false))]) (L := lT [(15, ⟨⟨[1, 2, 5, 6], [(0, 0, false)], 2, 0⟩, (X_munchAll_1 x (c3_a :: c3_t)).1, (X_munchAll_1 x (c3_a :: c3_t)).2⟩)]) (wk := ⟨[4], [(0, 0, true)], 1, 0⟩)
    (ps := [Gv P (.func 25) A_dfaCheck H_dfaCheck (V_dfaCheck  c1_) (R_dfaCheck  c1_),
    (Value.bool (c1_ != (0 : Int))) = (Value.bool false),
    CG P none (fnN P 10) 0 (codeOf P 10 [false, true, false, true, true, true]) (S_munchAll_1 x (([] : List (Int × Int × Int × Int)), 0)) (X_munchAll_1 x (c3_a :: c3_t)),
    FlatB (.cells (layT (rows rw_iiii (c3_a :: c3_t))) 28)]) (by kernel_rfl) ⟨(m_dfaCheck_ok n c1_ hc1), (vnF hc2), (m_munchAll_1_ok n x (([] : List (Int × Int × Int × Int)), 0) (c3_a :: c3_t) hc3), (rows_flat rwf_iiii _ _), trivial⟩
set_option maxRecDepth 100000 in
theorem p_munchAll_2 (n : Nat) (x : ByteArray) (c1_ : Int) (hc1 : m_dfaCheck n = some c1_) (hc2 : ¬ (c1_ = (0 : Int))) : Gv P (.func 10) (A_munchAll x) (H_munchAll x) (V_munchAll x ([] : List (Int × Int × Int × Int))) (R_munchAll x ([] : List (Int × Int × Int × Int))) :=
  runF_ok hm (A := aT [(6, .call ⟨0, [], (V_dfaCheck  c1_), (R_dfaCheck  c1_), []⟩), (7, .val (.bool true))]) (L := lT []) (wk := ⟨[4], [], 1, 0⟩)
    (ps := [Gv P (.func 25) A_dfaCheck H_dfaCheck (V_dfaCheck  c1_) (R_dfaCheck  c1_),
    (Value.bool (c1_ != (0 : Int))) = (Value.bool true)]) (by kernel_rfl) ⟨(m_dfaCheck_ok n c1_ hc1), (vnT hc2), trivial⟩
theorem m_munchAll_ok (n : Nat) (x : ByteArray) (r : List (Int × Int × Int × Int)) (h : m_munchAll n x = some r) : Gv P (.func 10) (A_munchAll x) (H_munchAll x) (V_munchAll x r) (R_munchAll x r) := by
  unfold m_munchAll at h
  obtain ⟨c1_, hc1, h⟩ := Option.bind_eq_some_iff.1 h
  by_cases hc2 : c1_ = (0 : Int)
  · rw [if_pos hc2] at h
    obtain ⟨c3_, hc3, h⟩ := Option.bind_eq_some_iff.1 h
    cases c3_ with
    | nil =>
      dsimp only at h
      obtain rfl := Option.some.inj h; exact p_munchAll_0 n x c1_ hc1 hc2 hc3
    | cons c3_a c3_t =>
      dsimp only at h
      obtain rfl := Option.some.inj h; exact p_munchAll_1 n x c1_ hc1 hc2 c3_a c3_t hc3
  · rw [if_neg hc2] at h
    obtain rfl := Option.some.inj h; exact p_munchAll_2 n x c1_ hc1 hc2

end Go.Proofs.Ytaompjplflaloaa.munchw
