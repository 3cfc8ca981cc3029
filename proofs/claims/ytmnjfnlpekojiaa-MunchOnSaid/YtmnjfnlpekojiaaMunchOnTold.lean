/-
  What functions do, told by pure functions. No condition.
-/
import Derived.Test.YtmnjfnlpekojiaaMunchAllTold
set_option linter.unusedSimpArgs false
set_option linter.unusedVariables false
set_option linter.unusedSectionVars false
set_option linter.unnecessarySimpa false
namespace Go.Proofs.Ytmnjfnlpekojiaa.munchw
open Go Go.Proofs.Ytmnjfnlpekojiaa Ax
variable [Args]
noncomputable def S20a_1 (x1_0 : List (Int × Int × Int × Int)) (x1_1 : Nat) (x1_2 : List (Int × Int × Int × Int)) (x1_3 : Nat) (x1_4 : Nat) (st : Int) : XSt := match st with
  | x1_5 => (sT 26 [(0, (Value.slice (some ⟨0, 0, none⟩) x1_1 (Nat.add big 4))), (1, (Value.slice (some ⟨1, (x1_3 * 4), none⟩) x1_4 (Nat.add big 4))), (5, (Value.int .i64 x1_5))], [], ⟨sB [(0, (some (.cells (layT (rows rw_iiii x1_0)) 31))), (1, (some (.cells (layT (rows rw_iiii x1_2)) 31)))], 2, 2⟩)
noncomputable def X20a_1 (x1_0 : List (Int × Int × Int × Int)) (x1_1 : Nat) (x1_2 : List (Int × Int × Int × Int)) (x1_3 : Nat) (x1_4 : Nat) (r : (Unit) ⊕ (Unit)) : Ex × XSt := match r with
  | .inl _ => (.ret, (sT 26 [(4, (Value.bool false))], [], ⟨sB [], 2, 2⟩))
  | .inr _ => (.exit 0, (sT 26 [], [], ⟨sB [], 2, 2⟩))
def B20a_1 (n : Nat) (x1_0 : List (Int × Int × Int × Int)) (x1_1 : Nat) (x1_2 : List (Int × Int × Int × Int)) (x1_3 : Nat) (x1_4 : Nat) (st : Int) : Option ((Int) ⊕ ((Unit) ⊕ (Unit))) := match st with
  | x1_5 =>
    if x1_5 < ((x1_1 : Nat) : Int) then
      if 0 ≤ x1_5 ∧ x1_5 < ((x1_1 : Nat) : Int) then
        if (x1_5).toNat < (x1_0).length then
          if 0 ≤ x1_5 ∧ x1_5 < ((x1_4 : Nat) : Int) then
            if (x1_3 + (x1_5).toNat) < (x1_2).length then
              if (!(((((x1_0).getD (x1_5).toNat (0, 0, 0, 0)).1) == (((x1_2).getD (x1_3 + (x1_5).toNat) (0, 0, 0, 0)).1)) && (((((x1_0).getD (x1_5).toNat (0, 0, 0, 0)).2.1) == (((x1_2).getD (x1_3 + (x1_5).toNat) (0, 0, 0, 0)).2.1)) && (((((x1_0).getD (x1_5).toNat (0, 0, 0, 0)).2.2.1) == (((x1_2).getD (x1_3 + (x1_5).toNat) (0, 0, 0, 0)).2.2.1)) && (((((x1_0).getD (x1_5).toNat (0, 0, 0, 0)).2.2.2) == (((x1_2).getD (x1_3 + (x1_5).toNat) (0, 0, 0, 0)).2.2.2)) && true))))) = true then
                some (.inr (.inl ()))
              else
                some (.inl (w64 (x1_5 + (1 : Int))))
            else none
          else none
        else none
      else none
    else
      some (.inr (.inr ()))
def m20a_1 (n : Nat) (x1_0 : List (Int × Int × Int × Int)) (x1_1 : Nat) (x1_2 : List (Int × Int × Int × Int)) (x1_3 : Nat) (x1_4 : Nat) (st : Int) : Option ((Unit) ⊕ (Unit)) := iterM (B20a_1 n x1_0 x1_1 x1_2 x1_3 x1_4) n st
set_option maxRecDepth 100000 in
theorem q20a_1_0 (n : Nat) (x1_0 : List (Int × Int × Int × Int)) (x1_1 : Nat) (x1_2 : List (Int × Int × Int × Int)) (x1_3 : Nat) (x1_4 : Nat) (x1_5 : Int) (hy1_1 : x1_5 < ((x1_1 : Nat) : Int)) (hy1_2 : 0 ≤ x1_5 ∧ x1_5 < ((x1_1 : Nat) : Int)) (hy1_3 : (x1_5).toNat < (x1_0).length) (hy1_4 : 0 ≤ x1_5 ∧ x1_5 < ((x1_4 : Nat) : Int)) (hy1_5 : (x1_3 + (x1_5).toNat) < (x1_2).length) (hy1_6 : (!(((((x1_0).getD (x1_5).toNat (0, 0, 0, 0)).1) == (((x1_2).getD (x1_3 + (x1_5).toNat) (0, 0, 0, 0)).1)) && (((((x1_0).getD (x1_5).toNat (0, 0, 0, 0)).2.1) == (((x1_2).getD (x1_3 + (x1_5).toNat) (0, 0, 0, 0)).2.1)) && (((((x1_0).getD (x1_5).toNat (0, 0, 0, 0)).2.2.1) == (((x1_2).getD (x1_3 + (x1_5).toNat) (0, 0, 0, 0)).2.2.1)) && (((((x1_0).getD (x1_5).toNat (0, 0, 0, 0)).2.2.2) == (((x1_2).getD (x1_3 + (x1_5).toNat) (0, 0, 0, 0)).2.2.2)) && true))))) = true) : CG P none (fnN P 20) 2 (codeOf P 20 [false, false, true, false, true, true]) (S20a_1 x1_0 x1_1 x1_2 x1_3 x1_4 x1_5) (X20a_1 x1_0 x1_1 x1_2 x1_3 x1_4 (.inl ())) :=
  runC_ok hm (A := aT [(5, .val (.bool true)), (12, .pur (Value.pointer (some ⟨0, ((x1_5).toNat * 4), none⟩))), (13, .ld (Value.agg #[(Value.int .i64 (((x1_0).getD (x1_5).toNat (0, 0, 0, 0)).1)), (Value.int .i64 (((x1_0).getD (x1_5).toNat (0, 0, 0, 0)).2.1)), (Value.int .i64 (((x1_0).getD (x1_5).toNat (0, 0, 0, 0)).2.2.1)), (Value.int .i64 (((x1_0).getD (x1_5).toNat (0, 0, 0, 0)).2.2.2))])), (16, .pur (Value.pointer (some ⟨1, ((x1_3 + (x1_5).toNat) * 4), none⟩))), (17, .ld (Value.agg #[(Value.int .i64 (((x1_2).getD (x1_3 + (x1_5).toNat) (0, 0, 0, 0)).1)), (Value.int .i64 (((x1_2).getD (x1_3 + (x1_5).toNat) (0, 0, 0, 0)).2.1)), (Value.int .i64 (((x1_2).getD (x1_3 + (x1_5).toNat) (0, 0, 0, 0)).2.2.1)), (Value.int .i64 (((x1_2).getD (x1_3 + (x1_5).toNat) (0, 0, 0, 0)).2.2.2))])), (19, .val (.bool true))]) (L := lT []) (wk := ⟨[4], [], 2, 2⟩)
    (ps := [(Value.bool (decide (x1_5 < ((x1_1 : Nat) : Int)))) = (Value.bool true),
    opIndexAddr P 44 (Value.slice (some ⟨0, 0, none⟩) x1_1 (Nat.add big 4)) (Value.int .i64 x1_5) Ax.h0 = some ((Value.pointer (some ⟨0, ((x1_5).toNat * 4), none⟩)), Ax.h0),
    rdT (layT (rows rw_iiii x1_0)) 4 ((x1_5).toNat * 4) = some [(Value.int .i64 (((x1_0).getD (x1_5).toNat (0, 0, 0, 0)).1)), (Value.int .i64 (((x1_0).getD (x1_5).toNat (0, 0, 0, 0)).2.1)), (Value.int .i64 (((x1_0).getD (x1_5).toNat (0, 0, 0, 0)).2.2.1)), (Value.int .i64 (((x1_0).getD (x1_5).toNat (0, 0, 0, 0)).2.2.2))],
    opIndexAddr P 44 (Value.slice (some ⟨1, (x1_3 * 4), none⟩) x1_4 (Nat.add big 4)) (Value.int .i64 x1_5) Ax.h0 = some ((Value.pointer (some ⟨1, ((x1_3 + (x1_5).toNat) * 4), none⟩)), Ax.h0),
    rdT (layT (rows rw_iiii x1_2)) 4 ((x1_3 + (x1_5).toNat) * 4) = some [(Value.int .i64 (((x1_2).getD (x1_3 + (x1_5).toNat) (0, 0, 0, 0)).1)), (Value.int .i64 (((x1_2).getD (x1_3 + (x1_5).toNat) (0, 0, 0, 0)).2.1)), (Value.int .i64 (((x1_2).getD (x1_3 + (x1_5).toNat) (0, 0, 0, 0)).2.2.1)), (Value.int .i64 (((x1_2).getD (x1_3 + (x1_5).toNat) (0, 0, 0, 0)).2.2.2))],
    (Value.bool (!(((((x1_0).getD (x1_5).toNat (0, 0, 0, 0)).1) == (((x1_2).getD (x1_3 + (x1_5).toNat) (0, 0, 0, 0)).1)) && (((((x1_0).getD (x1_5).toNat (0, 0, 0, 0)).2.1) == (((x1_2).getD (x1_3 + (x1_5).toNat) (0, 0, 0, 0)).2.1)) && (((((x1_0).getD (x1_5).toNat (0, 0, 0, 0)).2.2.1) == (((x1_2).getD (x1_3 + (x1_5).toNat) (0, 0, 0, 0)).2.2.1)) && (((((x1_0).getD (x1_5).toNat (0, 0, 0, 0)).2.2.2) == (((x1_2).getD (x1_3 + (x1_5).toNat) (0, 0, 0, 0)).2.2.2)) && true)))))) = (Value.bool true)]) (by kernel_rfl) ⟨(vbT hy1_1), (ixS (e := 31) (by kernel_rfl) (by kernel_rfl) (hy1_2).1 (hy1_2).2), (rows_rdp rwf_iiii (0, 0, 0, 0) (i := (x1_5).toNat) (j := 0) ((x1_5).toNat * 4) rfl (hy1_3) (by decide) rfl), (ixSO (e := 31) (es := 4) x1_3 (by kernel_rfl) (by kernel_rfl) hy1_4), (rows_rdp rwf_iiii (0, 0, 0, 0) (i := (x1_3 + (x1_5).toNat)) (j := 0) ((x1_3 + (x1_5).toNat) * 4) rfl (hy1_5) (by decide) rfl), (vB hy1_6), trivial⟩
set_option maxRecDepth 100000 in
theorem q20a_1_1 (n : Nat) (x1_0 : List (Int × Int × Int × Int)) (x1_1 : Nat) (x1_2 : List (Int × Int × Int × Int)) (x1_3 : Nat) (x1_4 : Nat) (x1_5 : Int) (hy1_1 : x1_5 < ((x1_1 : Nat) : Int)) (hy1_2 : 0 ≤ x1_5 ∧ x1_5 < ((x1_1 : Nat) : Int)) (hy1_3 : (x1_5).toNat < (x1_0).length) (hy1_4 : 0 ≤ x1_5 ∧ x1_5 < ((x1_4 : Nat) : Int)) (hy1_5 : (x1_3 + (x1_5).toNat) < (x1_2).length) (hy1_6 : ¬ ((!(((((x1_0).getD (x1_5).toNat (0, 0, 0, 0)).1) == (((x1_2).getD (x1_3 + (x1_5).toNat) (0, 0, 0, 0)).1)) && (((((x1_0).getD (x1_5).toNat (0, 0, 0, 0)).2.1) == (((x1_2).getD (x1_3 + (x1_5).toNat) (0, 0, 0, 0)).2.1)) && (((((x1_0).getD (x1_5).toNat (0, 0, 0, 0)).2.2.1) == (((x1_2).getD (x1_3 + (x1_5).toNat) (0, 0, 0, 0)).2.2.1)) && (((((x1_0).getD (x1_5).toNat (0, 0, 0, 0)).2.2.2) == (((x1_2).getD (x1_3 + (x1_5).toNat) (0, 0, 0, 0)).2.2.2)) && true))))) = true)) : CG P none (fnN P 20) 2 (codeOf P 20 [false, false, true, false, true, true]) (S20a_1 x1_0 x1_1 x1_2 x1_3 x1_4 x1_5) (.normal, S20a_1 x1_0 x1_1 x1_2 x1_3 x1_4 (w64 (x1_5 + (1 : Int)))) :=
  runC_ok hm (A := aT [(5, .val (.bool true)), (12, .pur (Value.pointer (some ⟨0, ((x1_5).toNat * 4), none⟩))), (13, .ld (Value.agg #[(Value.int .i64 (((x1_0).getD (x1_5).toNat (0, 0, 0, 0)).1)), (Value.int .i64 (((x1_0).getD (x1_5).toNat (0, 0, 0, 0)).2.1)), (Value.int .i64 (((x1_0).getD (x1_5).toNat (0, 0, 0, 0)).2.2.1)), (Value.int .i64 (((x1_0).getD (x1_5).toNat (0, 0, 0, 0)).2.2.2))])), (16, .pur (Value.pointer (some ⟨1, ((x1_3 + (x1_5).toNat) * 4), none⟩))), (17, .ld (Value.agg #[(Value.int .i64 (((x1_2).getD (x1_3 + (x1_5).toNat) (0, 0, 0, 0)).1)), (Value.int .i64 (((x1_2).getD (x1_3 + (x1_5).toNat) (0, 0, 0, 0)).2.1)), (Value.int .i64 (((x1_2).getD (x1_3 + (x1_5).toNat) (0, 0, 0, 0)).2.2.1)), (Value.int .i64 (((x1_2).getD (x1_3 + (x1_5).toNat) (0, 0, 0, 0)).2.2.2))])), (19, .val (.bool false))]) (L := lT []) (wk := ⟨[0, 1, 5], [(0, 0, true), (1, 1, true)], 2, 2⟩)
    (ps := [(Value.bool (decide (x1_5 < ((x1_1 : Nat) : Int)))) = (Value.bool true),
    opIndexAddr P 44 (Value.slice (some ⟨0, 0, none⟩) x1_1 (Nat.add big 4)) (Value.int .i64 x1_5) Ax.h0 = some ((Value.pointer (some ⟨0, ((x1_5).toNat * 4), none⟩)), Ax.h0),
    rdT (layT (rows rw_iiii x1_0)) 4 ((x1_5).toNat * 4) = some [(Value.int .i64 (((x1_0).getD (x1_5).toNat (0, 0, 0, 0)).1)), (Value.int .i64 (((x1_0).getD (x1_5).toNat (0, 0, 0, 0)).2.1)), (Value.int .i64 (((x1_0).getD (x1_5).toNat (0, 0, 0, 0)).2.2.1)), (Value.int .i64 (((x1_0).getD (x1_5).toNat (0, 0, 0, 0)).2.2.2))],
    opIndexAddr P 44 (Value.slice (some ⟨1, (x1_3 * 4), none⟩) x1_4 (Nat.add big 4)) (Value.int .i64 x1_5) Ax.h0 = some ((Value.pointer (some ⟨1, ((x1_3 + (x1_5).toNat) * 4), none⟩)), Ax.h0),
    rdT (layT (rows rw_iiii x1_2)) 4 ((x1_3 + (x1_5).toNat) * 4) = some [(Value.int .i64 (((x1_2).getD (x1_3 + (x1_5).toNat) (0, 0, 0, 0)).1)), (Value.int .i64 (((x1_2).getD (x1_3 + (x1_5).toNat) (0, 0, 0, 0)).2.1)), (Value.int .i64 (((x1_2).getD (x1_3 + (x1_5).toNat) (0, 0, 0, 0)).2.2.1)), (Value.int .i64 (((x1_2).getD (x1_3 + (x1_5).toNat) (0, 0, 0, 0)).2.2.2))],
    (Value.bool (!(((((x1_0).getD (x1_5).toNat (0, 0, 0, 0)).1) == (((x1_2).getD (x1_3 + (x1_5).toNat) (0, 0, 0, 0)).1)) && (((((x1_0).getD (x1_5).toNat (0, 0, 0, 0)).2.1) == (((x1_2).getD (x1_3 + (x1_5).toNat) (0, 0, 0, 0)).2.1)) && (((((x1_0).getD (x1_5).toNat (0, 0, 0, 0)).2.2.1) == (((x1_2).getD (x1_3 + (x1_5).toNat) (0, 0, 0, 0)).2.2.1)) && (((((x1_0).getD (x1_5).toNat (0, 0, 0, 0)).2.2.2) == (((x1_2).getD (x1_3 + (x1_5).toNat) (0, 0, 0, 0)).2.2.2)) && true)))))) = (Value.bool false),
    FlatB (.cells (layT (rows rw_iiii x1_0)) 31),
    FlatB (.cells (layT (rows rw_iiii x1_2)) 31)]) (by kernel_rfl) ⟨(vbT hy1_1), (ixS (e := 31) (by kernel_rfl) (by kernel_rfl) (hy1_2).1 (hy1_2).2), (rows_rdp rwf_iiii (0, 0, 0, 0) (i := (x1_5).toNat) (j := 0) ((x1_5).toNat * 4) rfl (hy1_3) (by decide) rfl), (ixSO (e := 31) (es := 4) x1_3 (by kernel_rfl) (by kernel_rfl) hy1_4), (rows_rdp rwf_iiii (0, 0, 0, 0) (i := (x1_3 + (x1_5).toNat)) (j := 0) ((x1_3 + (x1_5).toNat) * 4) rfl (hy1_5) (by decide) rfl), (vB (Bool.eq_false_iff.2 hy1_6)), (rows_flat rwf_iiii _ _), (rows_flat rwf_iiii _ _), trivial⟩
set_option maxRecDepth 100000 in
theorem q20a_1_2 (n : Nat) (x1_0 : List (Int × Int × Int × Int)) (x1_1 : Nat) (x1_2 : List (Int × Int × Int × Int)) (x1_3 : Nat) (x1_4 : Nat) (x1_5 : Int) (hy1_1 : ¬ (x1_5 < ((x1_1 : Nat) : Int))) : CG P none (fnN P 20) 2 (codeOf P 20 [false, false, true, false, true, true]) (S20a_1 x1_0 x1_1 x1_2 x1_3 x1_4 x1_5) (X20a_1 x1_0 x1_1 x1_2 x1_3 x1_4 (.inr ())) :=
  runC_ok hm (A := aT [(5, .val (.bool false))]) (L := lT []) (wk := ⟨[], [], 2, 2⟩)
    (ps := [(Value.bool (decide (x1_5 < ((x1_1 : Nat) : Int)))) = (Value.bool false)]) (by kernel_rfl) ⟨(vbF hy1_1), trivial⟩
theorem m20a_1_ok (n : Nat) (x1_0 : List (Int × Int × Int × Int)) (x1_1 : Nat) (x1_2 : List (Int × Int × Int × Int)) (x1_3 : Nat) (x1_4 : Nat) (st : Int) (r : (Unit) ⊕ (Unit)) (h : m20a_1 n x1_0 x1_1 x1_2 x1_3 x1_4 st = some r) : CG P none (fnN P 20) 2 (codeOf P 20 [false, true, false, true, true]) (S20a_1 x1_0 x1_1 x1_2 x1_3 x1_4 st) (X20a_1 x1_0 x1_1 x1_2 x1_3 x1_4 r) :=
  CG.iter (b := codeOf P 20 [false, false, true, false, true, true]) (by kernel_rfl) (body := B20a_1 n x1_0 x1_1 x1_2 x1_3 x1_4) (S := S20a_1 x1_0 x1_1 x1_2 x1_3 x1_4) (X := X20a_1 x1_0 x1_1 x1_2 x1_3 x1_4)
    (fun x1_5 s' h => by
    unfold B20a_1 at h
    dsimp only at h
    by_cases hy1_1 : x1_5 < ((x1_1 : Nat) : Int)
    · rw [if_pos hy1_1] at h
      by_cases hy1_2 : 0 ≤ x1_5 ∧ x1_5 < ((x1_1 : Nat) : Int)
      · rw [if_pos hy1_2] at h
        by_cases hy1_3 : (x1_5).toNat < (x1_0).length
        · rw [if_pos hy1_3] at h
          by_cases hy1_4 : 0 ≤ x1_5 ∧ x1_5 < ((x1_4 : Nat) : Int)
          · rw [if_pos hy1_4] at h
            by_cases hy1_5 : (x1_3 + (x1_5).toNat) < (x1_2).length
            · rw [if_pos hy1_5] at h
              by_cases hy1_6 : (!(((((x1_0).getD (x1_5).toNat (0, 0, 0, 0)).1) == (((x1_2).getD (x1_3 + (x1_5).toNat) (0, 0, 0, 0)).1)) && (((((x1_0).getD (x1_5).toNat (0, 0, 0, 0)).2.1) == (((x1_2).getD (x1_3 + (x1_5).toNat) (0, 0, 0, 0)).2.1)) && (((((x1_0).getD (x1_5).toNat (0, 0, 0, 0)).2.2.1) == (((x1_2).getD (x1_3 + (x1_5).toNat) (0, 0, 0, 0)).2.2.1)) && (((((x1_0).getD (x1_5).toNat (0, 0, 0, 0)).2.2.2) == (((x1_2).getD (x1_3 + (x1_5).toNat) (0, 0, 0, 0)).2.2.2)) && true))))) = true
              · rw [if_pos hy1_6] at h
                cases h
              · rw [if_neg hy1_6] at h
                obtain rfl := Sum.inl.inj (Option.some.inj h); exact q20a_1_1 n x1_0 x1_1 x1_2 x1_3 x1_4 x1_5 hy1_1 hy1_2 hy1_3 hy1_4 hy1_5 hy1_6
            · rw [if_neg hy1_5] at h; cases h
          · rw [if_neg hy1_4] at h; cases h
        · rw [if_neg hy1_3] at h; cases h
      · rw [if_neg hy1_2] at h; cases h
    · rw [if_neg hy1_1] at h
      cases h)
    (fun x1_5 r h => by
    unfold B20a_1 at h
    dsimp only at h
    by_cases hy1_1 : x1_5 < ((x1_1 : Nat) : Int)
    · rw [if_pos hy1_1] at h
      by_cases hy1_2 : 0 ≤ x1_5 ∧ x1_5 < ((x1_1 : Nat) : Int)
      · rw [if_pos hy1_2] at h
        by_cases hy1_3 : (x1_5).toNat < (x1_0).length
        · rw [if_pos hy1_3] at h
          by_cases hy1_4 : 0 ≤ x1_5 ∧ x1_5 < ((x1_4 : Nat) : Int)
          · rw [if_pos hy1_4] at h
            by_cases hy1_5 : (x1_3 + (x1_5).toNat) < (x1_2).length
            · rw [if_pos hy1_5] at h
              by_cases hy1_6 : (!(((((x1_0).getD (x1_5).toNat (0, 0, 0, 0)).1) == (((x1_2).getD (x1_3 + (x1_5).toNat) (0, 0, 0, 0)).1)) && (((((x1_0).getD (x1_5).toNat (0, 0, 0, 0)).2.1) == (((x1_2).getD (x1_3 + (x1_5).toNat) (0, 0, 0, 0)).2.1)) && (((((x1_0).getD (x1_5).toNat (0, 0, 0, 0)).2.2.1) == (((x1_2).getD (x1_3 + (x1_5).toNat) (0, 0, 0, 0)).2.2.1)) && (((((x1_0).getD (x1_5).toNat (0, 0, 0, 0)).2.2.2) == (((x1_2).getD (x1_3 + (x1_5).toNat) (0, 0, 0, 0)).2.2.2)) && true))))) = true
              · rw [if_pos hy1_6] at h
                obtain rfl := Sum.inr.inj (Option.some.inj h); exact q20a_1_0 n x1_0 x1_1 x1_2 x1_3 x1_4 x1_5 hy1_1 hy1_2 hy1_3 hy1_4 hy1_5 hy1_6
              · rw [if_neg hy1_6] at h
                cases h
            · rw [if_neg hy1_5] at h; cases h
          · rw [if_neg hy1_4] at h; cases h
        · rw [if_neg hy1_3] at h; cases h
      · rw [if_neg hy1_2] at h; cases h
    · rw [if_neg hy1_1] at h
      obtain rfl := Sum.inr.inj (Option.some.inj h); exact q20a_1_2 n x1_0 x1_1 x1_2 x1_3 x1_4 x1_5 hy1_1)
    (fun r => by intro hx; rcases r with _ | _ <;> cases hx) h
noncomputable def A20a (L : List (Int × Int × Int × Int)) (an : Nat) (K : List (Int × Int × Int × Int)) (k : Nat) (kn : Nat) : List Value := [(Value.slice (some ⟨0, 0, none⟩) an (Nat.add big 4)), (Value.slice (some ⟨1, (k * 4), none⟩) kn (Nat.add big 4))]
noncomputable def H20a (L : List (Int × Int × Int × Int)) (an : Nat) (K : List (Int × Int × Int × Int)) (k : Nat) (kn : Nat) : AH := ⟨sB [(0, (some (.cells (layT (rows rw_iiii L)) 31))), (1, (some (.cells (layT (rows rw_iiii K)) 31)))], 2, 2⟩
noncomputable def V20a (L : List (Int × Int × Int × Int)) (an : Nat) (K : List (Int × Int × Int × Int)) (k : Nat) (kn : Nat) (r : Bool) : Value := match r with
  | o0 => (Value.bool o0)
noncomputable def R20a (L : List (Int × Int × Int × Int)) (an : Nat) (K : List (Int × Int × Int × Int)) (k : Nat) (kn : Nat) (r : Bool) : AH := match r with
  | o0 => ⟨sB [], 2, 2⟩
def m20a (n : Nat) (L : List (Int × Int × Int × Int)) (an : Nat) (K : List (Int × Int × Int × Int)) (k : Nat) (kn : Nat) : Option (Bool) :=
  if ((an : Nat) : Int) = ((kn : Nat) : Int) then
    match m20a_1 n L an K k kn 0 with
    | none => none
    | some (.inl _) =>
      some false
    | some (.inr _) =>
      some true
  else
    some false
set_option maxRecDepth 100000 in
theorem p20a_0 (n : Nat) (L : List (Int × Int × Int × Int)) (an : Nat) (K : List (Int × Int × Int × Int)) (k : Nat) (kn : Nat) (hc1 : ((an : Nat) : Int) = ((kn : Nat) : Int)) (hc2 : m20a_1 n L an K k kn 0 = some (.inl ())) : Gv P (.func 20) (A20a L an K k kn) (H20a L an K k kn) (V20a L an K k kn false) (R20a L an K k kn false) :=
  runF_ok hm (A := aT [(8, .val (.bool false))]) (L := lT [(14, ⟨⟨[0, 1, 5], [(0, 0, true), (1, 1, true)], 2, 2⟩, (X20a_1 L an K k kn (.inl ())).1, (X20a_1 L an K k kn (.inl ())).2⟩)]) (wk := ⟨[4], [], 2, 2⟩)
    (ps := [(Value.bool (((an : Nat) : Int) != ((kn : Nat) : Int))) = (Value.bool false),
    CG P none (fnN P 20) 2 (codeOf P 20 [false, true, false, true, true]) (S20a_1 L an K k kn 0) (X20a_1 L an K k kn (.inl ())),
    FlatB (.cells (layT (rows rw_iiii L)) 31),
    FlatB (.cells (layT (rows rw_iiii K)) 31)]) (by kernel_rfl) ⟨(vnF hc1), (m20a_1_ok n L an K k kn 0 (.inl ()) hc2), (rows_flat rwf_iiii _ _), (rows_flat rwf_iiii _ _), trivial⟩
set_option maxRecDepth 100000 in
theorem p20a_1 (n : Nat) (L : List (Int × Int × Int × Int)) (an : Nat) (K : List (Int × Int × Int × Int)) (k : Nat) (kn : Nat) (hc1 : ((an : Nat) : Int) = ((kn : Nat) : Int)) (hc2 : m20a_1 n L an K k kn 0 = some (.inr ())) : Gv P (.func 20) (A20a L an K k kn) (H20a L an K k kn) (V20a L an K k kn true) (R20a L an K k kn true) :=
  runF_ok hm (A := aT [(8, .val (.bool false))]) (L := lT [(14, ⟨⟨[0, 1, 5], [(0, 0, true), (1, 1, true)], 2, 2⟩, (X20a_1 L an K k kn (.inr ())).1, (X20a_1 L an K k kn (.inr ())).2⟩)]) (wk := ⟨[4], [], 2, 2⟩)
    (ps := [(Value.bool (((an : Nat) : Int) != ((kn : Nat) : Int))) = (Value.bool false),
    CG P none (fnN P 20) 2 (codeOf P 20 [false, true, false, true, true]) (S20a_1 L an K k kn 0) (X20a_1 L an K k kn (.inr ())),
    FlatB (.cells (layT (rows rw_iiii L)) 31),
    FlatB (.cells (layT (rows rw_iiii K)) 31)]) (by kernel_rfl) ⟨(vnF hc1), (m20a_1_ok n L an K k kn 0 (.inr ()) hc2), (rows_flat rwf_iiii _ _), (rows_flat rwf_iiii _ _), trivial⟩
set_option maxRecDepth 100000 in
theorem p20a_2 (n : Nat) (L : List (Int × Int × Int × Int)) (an : Nat) (K : List (Int × Int × Int × Int)) (k : Nat) (kn : Nat) (hc1 : ¬ (((an : Nat) : Int) = ((kn : Nat) : Int))) : Gv P (.func 20) (A20a L an K k kn) (H20a L an K k kn) (V20a L an K k kn false) (R20a L an K k kn false) :=
  runF_ok hm (A := aT [(8, .val (.bool true))]) (L := lT []) (wk := ⟨[4], [], 2, 2⟩)
    (ps := [(Value.bool (((an : Nat) : Int) != ((kn : Nat) : Int))) = (Value.bool true)]) (by kernel_rfl) ⟨(vnT hc1), trivial⟩
theorem m20a_ok (n : Nat) (L : List (Int × Int × Int × Int)) (an : Nat) (K : List (Int × Int × Int × Int)) (k : Nat) (kn : Nat) (r : Bool) (h : m20a n L an K k kn = some r) : Gv P (.func 20) (A20a L an K k kn) (H20a L an K k kn) (V20a L an K k kn r) (R20a L an K k kn r) := by
  unfold m20a at h
  by_cases hc1 : ((an : Nat) : Int) = ((kn : Nat) : Int)
  · rw [if_pos hc1] at h
    rcases hc2 : m20a_1 n L an K k kn 0 with _ | (⟨⟩ | ⟨⟩)
    · rw [hc2] at h; cases h
    · rw [hc2] at h
      dsimp only at h
      obtain rfl := Option.some.inj h; exact p20a_0 n L an K k kn hc1 hc2
    · rw [hc2] at h
      dsimp only at h
      obtain rfl := Option.some.inj h; exact p20a_1 n L an K k kn hc1 hc2
  · rw [if_neg hc1] at h
    obtain rfl := Option.some.inj h; exact p20a_2 n L an K k kn hc1

noncomputable def S20n_1 (x1_0 : List (Int × Int × Int × Int)) (x1_1 : Nat) (x1_2 : Nat) (st : Unit) : XSt := match st with
  | _ => (sT 26 [(0, (Value.slice none 0 0)), (1, (Value.slice (some ⟨0, (x1_1 * 4), none⟩) x1_2 (Nat.add big 4))), (5, (Value.int .i64 (0 : Int)))], [], ⟨sB [(0, (some (.cells (layT (rows rw_iiii x1_0)) 31)))], 1, 1⟩)
noncomputable def X20n_1 (x1_0 : List (Int × Int × Int × Int)) (x1_1 : Nat) (x1_2 : Nat) (r : Unit) : Ex × XSt := match r with
  | _ => (.exit 0, (sT 26 [], [], ⟨sB [], 1, 1⟩))
def B20n_1 (n : Nat) (x1_0 : List (Int × Int × Int × Int)) (x1_1 : Nat) (x1_2 : Nat) (st : Unit) : Option ((Unit) ⊕ (Unit)) := match st with
  | _ =>
    some (.inr ())
def m20n_1 (n : Nat) (x1_0 : List (Int × Int × Int × Int)) (x1_1 : Nat) (x1_2 : Nat) (st : Unit) : Option (Unit) := iterM (B20n_1 n x1_0 x1_1 x1_2) n st
set_option maxRecDepth 100000 in
theorem q20n_1_0 (n : Nat) (x1_0 : List (Int × Int × Int × Int)) (x1_1 : Nat) (x1_2 : Nat) : CG P none (fnN P 20) 1 (codeOf P 20 [false, false, true, false, true, true]) (S20n_1 x1_0 x1_1 x1_2 ()) (X20n_1 x1_0 x1_1 x1_2 ()) :=
  runC_ok hm (A := aT []) (L := lT []) (wk := ⟨[], [], 1, 1⟩)
    (ps := []) (by kernel_rfl) trivial
theorem m20n_1_ok (n : Nat) (x1_0 : List (Int × Int × Int × Int)) (x1_1 : Nat) (x1_2 : Nat) (st : Unit) (r : Unit) (h : m20n_1 n x1_0 x1_1 x1_2 st = some r) : CG P none (fnN P 20) 1 (codeOf P 20 [false, true, false, true, true]) (S20n_1 x1_0 x1_1 x1_2 st) (X20n_1 x1_0 x1_1 x1_2 r) :=
  CG.iter (b := codeOf P 20 [false, false, true, false, true, true]) (by kernel_rfl) (body := B20n_1 n x1_0 x1_1 x1_2) (S := S20n_1 x1_0 x1_1 x1_2) (X := X20n_1 x1_0 x1_1 x1_2)
    (fun s s' h => by
    unfold B20n_1 at h
    dsimp only at h
    cases h)
    (fun s r h => by
    unfold B20n_1 at h
    dsimp only at h
    obtain rfl := Sum.inr.inj (Option.some.inj h); exact q20n_1_0 n x1_0 x1_1 x1_2)
    (fun r => by intro hx; cases hx) h
noncomputable def A20n (K : List (Int × Int × Int × Int)) (k : Nat) (kn : Nat) : List Value := [(Value.slice none 0 0), (Value.slice (some ⟨0, (k * 4), none⟩) kn (Nat.add big 4))]
noncomputable def H20n (K : List (Int × Int × Int × Int)) (k : Nat) (kn : Nat) : AH := ⟨sB [(0, (some (.cells (layT (rows rw_iiii K)) 31)))], 1, 1⟩
noncomputable def V20n (K : List (Int × Int × Int × Int)) (k : Nat) (kn : Nat) (r : Bool) : Value := match r with
  | o0 => (Value.bool o0)
noncomputable def R20n (K : List (Int × Int × Int × Int)) (k : Nat) (kn : Nat) (r : Bool) : AH := match r with
  | o0 => ⟨sB [], 1, 1⟩
def m20n (n : Nat) (K : List (Int × Int × Int × Int)) (k : Nat) (kn : Nat) : Option (Bool) :=
  if (0 : Int) = ((kn : Nat) : Int) then
    (m20n_1 n K k kn ()).bind fun _ =>
    some true
  else
    some false
set_option maxRecDepth 100000 in
theorem p20n_0 (n : Nat) (K : List (Int × Int × Int × Int)) (k : Nat) (kn : Nat) (hc1 : (0 : Int) = ((kn : Nat) : Int)) (hc2 : m20n_1 n K k kn () = some ()) : Gv P (.func 20) (A20n K k kn) (H20n K k kn) (V20n K k kn true) (R20n K k kn true) :=
  runF_ok hm (A := aT [(8, .val (.bool false))]) (L := lT [(14, ⟨⟨[0, 1, 5], [(0, 0, true)], 1, 1⟩, (X20n_1 K k kn ()).1, (X20n_1 K k kn ()).2⟩)]) (wk := ⟨[4], [], 1, 1⟩)
    (ps := [(Value.bool ((0 : Int) != ((kn : Nat) : Int))) = (Value.bool false),
    CG P none (fnN P 20) 1 (codeOf P 20 [false, true, false, true, true]) (S20n_1 K k kn ()) (X20n_1 K k kn ()),
    FlatB (.cells (layT (rows rw_iiii K)) 31)]) (by kernel_rfl) ⟨(vnF hc1), (m20n_1_ok n K k kn () () hc2), (rows_flat rwf_iiii _ _), trivial⟩
set_option maxRecDepth 100000 in
theorem p20n_1 (n : Nat) (K : List (Int × Int × Int × Int)) (k : Nat) (kn : Nat) (hc1 : ¬ ((0 : Int) = ((kn : Nat) : Int))) : Gv P (.func 20) (A20n K k kn) (H20n K k kn) (V20n K k kn false) (R20n K k kn false) :=
  runF_ok hm (A := aT [(8, .val (.bool true))]) (L := lT []) (wk := ⟨[4], [], 1, 1⟩)
    (ps := [(Value.bool ((0 : Int) != ((kn : Nat) : Int))) = (Value.bool true)]) (by kernel_rfl) ⟨(vnT hc1), trivial⟩
theorem m20n_ok (n : Nat) (K : List (Int × Int × Int × Int)) (k : Nat) (kn : Nat) (r : Bool) (h : m20n n K k kn = some r) : Gv P (.func 20) (A20n K k kn) (H20n K k kn) (V20n K k kn r) (R20n K k kn r) := by
  unfold m20n at h
  by_cases hc1 : (0 : Int) = ((kn : Nat) : Int)
  · rw [if_pos hc1] at h
    obtain ⟨_, hc2, h⟩ := Option.bind_eq_some_iff.1 h
    obtain rfl := Option.some.inj h; exact p20n_0 n K k kn hc1 hc2
  · rw [if_neg hc1] at h
    obtain rfl := Option.some.inj h; exact p20n_1 n K k kn hc1

noncomputable def S6_1 (x1_0 : Int) (x1_1 : List (Int × Int × Int × Int)) (x1_2 : Int) (st : Unit) : XSt := match st with
  | _ => (sT 103 [(2, (Value.int .i64 x1_0)), (7, (Value.slice (some ⟨0, 0, none⟩) (x1_1).length (Nat.add big 4))), (8, (Value.int .i64 x1_2)), (9, (Value.slice none 0 0)), (10, (Value.int .i64 (0 : Int)))], [], ⟨sB [(0, (some (.cells (layT (rows rw_iiii x1_1)) 31)))], 1, 0⟩)
noncomputable def X6_1 (x1_0 : Int) (x1_1 : List (Int × Int × Int × Int)) (x1_2 : Int) (r : Unit) : Ex × XSt := match r with
  | _ => (.exit 0, (sT 103 [(2, (Value.int .i64 x1_0)), (7, (Value.slice (some ⟨0, 0, none⟩) (x1_1).length (Nat.add big 4))), (9, (Value.slice none 0 0))], [], ⟨sB [(0, (some (.cells (layT (rows rw_iiii x1_1)) 31)))], 1, 0⟩))
def B6_1 (n : Nat) (x1_0 : Int) (x1_1 : List (Int × Int × Int × Int)) (x1_2 : Int) (st : Unit) : Option ((Unit) ⊕ (Unit)) := match st with
  | _ =>
    some (.inr ())
def m6_1 (n : Nat) (x1_0 : Int) (x1_1 : List (Int × Int × Int × Int)) (x1_2 : Int) (st : Unit) : Option (Unit) := iterM (B6_1 n x1_0 x1_1 x1_2) n st
set_option maxRecDepth 100000 in
theorem q6_1_0 (n : Nat) (x1_0 : Int) (x1_1 : List (Int × Int × Int × Int)) (x1_2 : Int) : CG P none (fnN P 6) 0 (codeOf P 6 [false, false, true, false, true, true, true, true, true, true, true, true, true]) (S6_1 x1_0 x1_1 x1_2 ()) (X6_1 x1_0 x1_1 x1_2 ()) :=
  runC_ok hm (A := aT []) (L := lT []) (wk := ⟨[2, 7, 9], [(0, 0, true)], 1, 0⟩)
    (ps := [FlatB (.cells (layT (rows rw_iiii x1_1)) 31)]) (by kernel_rfl) ⟨(rows_flat rwf_iiii _ _), trivial⟩
theorem m6_1_ok (n : Nat) (x1_0 : Int) (x1_1 : List (Int × Int × Int × Int)) (x1_2 : Int) (st : Unit) (r : Unit) (h : m6_1 n x1_0 x1_1 x1_2 st = some r) : CG P none (fnN P 6) 0 (codeOf P 6 [false, true, false, true, true, true, true, true, true, true, true, true]) (S6_1 x1_0 x1_1 x1_2 st) (X6_1 x1_0 x1_1 x1_2 r) :=
  CG.iter (b := codeOf P 6 [false, false, true, false, true, true, true, true, true, true, true, true, true]) (by kernel_rfl) (body := B6_1 n x1_0 x1_1 x1_2) (S := S6_1 x1_0 x1_1 x1_2) (X := X6_1 x1_0 x1_1 x1_2)
    (fun s s' h => by
    unfold B6_1 at h
    dsimp only at h
    cases h)
    (fun s r h => by
    unfold B6_1 at h
    dsimp only at h
    obtain rfl := Sum.inr.inj (Option.some.inj h); exact q6_1_0 n x1_0 x1_1 x1_2)
    (fun r => by intro hx; cases hx) h
noncomputable def S6_2 (x2_0 : Int) (x2_1 : List (Int × Int × Int × Int)) (x2_2 : Int) (x2_4 : Nat) (st : List (Int × Int × Int × Int) × Int) : XSt := match st with
  | (x2_3, x2_5) => (sT 103 [(2, (Value.int .i64 x2_0)), (7, (Value.slice (some ⟨0, 0, none⟩) (x2_1).length (Nat.add big 4))), (8, (Value.int .i64 x2_2)), (9, (Value.slice (some ⟨1, 0, none⟩) x2_4 (Nat.add big 4))), (10, (Value.int .i64 x2_5))], [], ⟨sB [(0, (some (.cells (layT (rows rw_iiii x2_1)) 31))), (1, (some (.cells (layT (rows rw_iiii x2_3)) 31)))], 2, 0⟩)
noncomputable def X6_2 (x2_0 : Int) (x2_1 : List (Int × Int × Int × Int)) (x2_2 : Int) (x2_4 : Nat) (r : List (Int × Int × Int × Int)) : Ex × XSt := match r with
  | z2_0 => (.exit 0, (sT 103 [(2, (Value.int .i64 x2_0)), (7, (Value.slice (some ⟨0, 0, none⟩) (x2_1).length (Nat.add big 4))), (9, (Value.slice (some ⟨1, 0, none⟩) x2_4 (Nat.add big 4)))], [], ⟨sB [(0, (some (.cells (layT (rows rw_iiii x2_1)) 31))), (1, (some (.cells (layT (rows rw_iiii z2_0)) 31)))], 2, 0⟩))
def B6_2 (n : Nat) (x2_0 : Int) (x2_1 : List (Int × Int × Int × Int)) (x2_2 : Int) (x2_4 : Nat) (st : List (Int × Int × Int × Int) × Int) : Option ((List (Int × Int × Int × Int) × Int) ⊕ (List (Int × Int × Int × Int))) := match st with
  | (x2_3, x2_5) =>
    if x2_5 < ((x2_4 : Nat) : Int) then
      if 0 ≤ x2_5 ∧ x2_5 < ((x2_4 : Nat) : Int) then
        if (x2_5).toNat < (x2_3).length then
          some (.inl (((x2_3).set (x2_5).toNat ((((x2_3).getD (x2_5).toNat (0, 0, 0, 0)).1), (w64 ((((x2_3).getD (x2_5).toNat (0, 0, 0, 0)).2.1) + x2_2)), (w64 ((((x2_3).getD (x2_5).toNat (0, 0, 0, 0)).2.2.1) + x2_2)), (w64 ((((x2_3).getD (x2_5).toNat (0, 0, 0, 0)).2.2.2) + x2_2)))), (w64 (x2_5 + (1 : Int)))))
        else none
      else none
    else
      some (.inr x2_3)
def m6_2 (n : Nat) (x2_0 : Int) (x2_1 : List (Int × Int × Int × Int)) (x2_2 : Int) (x2_4 : Nat) (st : List (Int × Int × Int × Int) × Int) : Option (List (Int × Int × Int × Int)) := iterM (B6_2 n x2_0 x2_1 x2_2 x2_4) n st
set_option maxRecDepth 100000 in
theorem q6_2_0 (n : Nat) (x2_0 : Int) (x2_1 : List (Int × Int × Int × Int)) (x2_2 : Int) (x2_3 : List (Int × Int × Int × Int)) (x2_4 : Nat) (x2_5 : Int) (hy2_1 : x2_5 < ((x2_4 : Nat) : Int)) (hy2_2 : 0 ≤ x2_5 ∧ x2_5 < ((x2_4 : Nat) : Int)) (hy2_3 : (x2_5).toNat < (x2_3).length) : CG P none (fnN P 6) 0 (codeOf P 6 [false, false, true, false, true, true, true, true, true, true, true, true, true]) (S6_2 x2_0 x2_1 x2_2 x2_4 (x2_3, x2_5)) (.normal, S6_2 x2_0 x2_1 x2_2 x2_4 (((x2_3).set (x2_5).toNat ((((x2_3).getD (x2_5).toNat (0, 0, 0, 0)).1), (w64 ((((x2_3).getD (x2_5).toNat (0, 0, 0, 0)).2.1) + x2_2)), (w64 ((((x2_3).getD (x2_5).toNat (0, 0, 0, 0)).2.2.1) + x2_2)), (w64 ((((x2_3).getD (x2_5).toNat (0, 0, 0, 0)).2.2.2) + x2_2)))), (w64 (x2_5 + (1 : Int))))) :=
  runC_ok hm (A := aT [(5, .val (.bool true)), (17, .pur (Value.pointer (some ⟨1, ((x2_5).toNat * 4), none⟩))), (19, .ld (Value.int .i64 (((x2_3).getD (x2_5).toNat (0, 0, 0, 0)).2.1))), (24, .pur (Value.pointer (some ⟨1, ((x2_5).toNat * 4), none⟩))), (26, .ld (Value.int .i64 (((x2_3).getD (x2_5).toNat (0, 0, 0, 0)).2.2.1))), (31, .pur (Value.pointer (some ⟨1, ((x2_5).toNat * 4), none⟩))), (33, .ld (Value.int .i64 (((x2_3).getD (x2_5).toNat (0, 0, 0, 0)).2.2.2))), (36, .pur (Value.pointer (some ⟨1, ((x2_5).toNat * 4), none⟩))), (38, .sto (layT (rows rw_iiii ((x2_3).set (x2_5).toNat ((((x2_3).getD (x2_5).toNat (0, 0, 0, 0)).1), (w64 ((((x2_3).getD (x2_5).toNat (0, 0, 0, 0)).2.1) + x2_2)), (((x2_3).getD (x2_5).toNat (0, 0, 0, 0)).2.2.1), (((x2_3).getD (x2_5).toNat (0, 0, 0, 0)).2.2.2)))))), (39, .pur (Value.pointer (some ⟨1, ((x2_5).toNat * 4), none⟩))), (41, .sto (layT (rows rw_iiii ((x2_3).set (x2_5).toNat ((((x2_3).getD (x2_5).toNat (0, 0, 0, 0)).1), (w64 ((((x2_3).getD (x2_5).toNat (0, 0, 0, 0)).2.1) + x2_2)), (w64 ((((x2_3).getD (x2_5).toNat (0, 0, 0, 0)).2.2.1) + x2_2)), (((x2_3).getD (x2_5).toNat (0, 0, 0, 0)).2.2.2)))))), (42, .pur (Value.pointer (some ⟨1, ((x2_5).toNat * 4), none⟩))), (44, .sto (layT (rows rw_iiii ((x2_3).set (x2_5).toNat ((((x2_3).getD (x2_5).toNat (0, 0, 0, 0)).1), (w64 ((((x2_3).getD (x2_5).toNat (0, 0, 0, 0)).2.1) + x2_2)), (w64 ((((x2_3).getD (x2_5).toNat (0, 0, 0, 0)).2.2.1) + x2_2)), (w64 ((((x2_3).getD (x2_5).toNat (0, 0, 0, 0)).2.2.2) + x2_2)))))))]) (L := lT []) (wk := ⟨[2, 7, 8, 9, 10], [(0, 0, true), (1, 1, true)], 2, 0⟩)
    (ps := [(Value.bool (decide (x2_5 < ((x2_4 : Nat) : Int)))) = (Value.bool true),
    opIndexAddr P 44 (Value.slice (some ⟨1, 0, none⟩) x2_4 (Nat.add big 4)) (Value.int .i64 x2_5) Ax.h0 = some ((Value.pointer (some ⟨1, ((x2_5).toNat * 4), none⟩)), Ax.h0),
    (layT (rows rw_iiii x2_3)).get (Nat.add ((x2_5).toNat * 4) 1) = some (Value.int .i64 (((x2_3).getD (x2_5).toNat (0, 0, 0, 0)).2.1)),
    opIndexAddr P 44 (Value.slice (some ⟨1, 0, none⟩) x2_4 (Nat.add big 4)) (Value.int .i64 x2_5) Ax.h0 = some ((Value.pointer (some ⟨1, ((x2_5).toNat * 4), none⟩)), Ax.h0),
    (layT (rows rw_iiii x2_3)).get (Nat.add ((x2_5).toNat * 4) 2) = some (Value.int .i64 (((x2_3).getD (x2_5).toNat (0, 0, 0, 0)).2.2.1)),
    opIndexAddr P 44 (Value.slice (some ⟨1, 0, none⟩) x2_4 (Nat.add big 4)) (Value.int .i64 x2_5) Ax.h0 = some ((Value.pointer (some ⟨1, ((x2_5).toNat * 4), none⟩)), Ax.h0),
    (layT (rows rw_iiii x2_3)).get (Nat.add ((x2_5).toNat * 4) 3) = some (Value.int .i64 (((x2_3).getD (x2_5).toNat (0, 0, 0, 0)).2.2.2)),
    opIndexAddr P 44 (Value.slice (some ⟨1, 0, none⟩) x2_4 (Nat.add big 4)) (Value.int .i64 x2_5) Ax.h0 = some ((Value.pointer (some ⟨1, ((x2_5).toNat * 4), none⟩)), Ax.h0),
    ∃ old, rdT (layT (rows rw_iiii x2_3)) 1 (Nat.add ((x2_5).toNat * 4) 1) = some old,
    layL [(Value.int .i64 (w64 ((((x2_3).getD (x2_5).toNat (0, 0, 0, 0)).2.1) + x2_2)))] (Nat.add ((x2_5).toNat * 4) 1) (layT (rows rw_iiii x2_3)) = layT (rows rw_iiii ((x2_3).set (x2_5).toNat ((((x2_3).getD (x2_5).toNat (0, 0, 0, 0)).1), (w64 ((((x2_3).getD (x2_5).toNat (0, 0, 0, 0)).2.1) + x2_2)), (((x2_3).getD (x2_5).toNat (0, 0, 0, 0)).2.2.1), (((x2_3).getD (x2_5).toNat (0, 0, 0, 0)).2.2.2)))),
    opIndexAddr P 44 (Value.slice (some ⟨1, 0, none⟩) x2_4 (Nat.add big 4)) (Value.int .i64 x2_5) Ax.h0 = some ((Value.pointer (some ⟨1, ((x2_5).toNat * 4), none⟩)), Ax.h0),
    ∃ old, rdT (layT (rows rw_iiii ((x2_3).set (x2_5).toNat ((((x2_3).getD (x2_5).toNat (0, 0, 0, 0)).1), (w64 ((((x2_3).getD (x2_5).toNat (0, 0, 0, 0)).2.1) + x2_2)), (((x2_3).getD (x2_5).toNat (0, 0, 0, 0)).2.2.1), (((x2_3).getD (x2_5).toNat (0, 0, 0, 0)).2.2.2))))) 1 (Nat.add ((x2_5).toNat * 4) 2) = some old,
    layL [(Value.int .i64 (w64 ((((x2_3).getD (x2_5).toNat (0, 0, 0, 0)).2.2.1) + x2_2)))] (Nat.add ((x2_5).toNat * 4) 2) (layT (rows rw_iiii ((x2_3).set (x2_5).toNat ((((x2_3).getD (x2_5).toNat (0, 0, 0, 0)).1), (w64 ((((x2_3).getD (x2_5).toNat (0, 0, 0, 0)).2.1) + x2_2)), (((x2_3).getD (x2_5).toNat (0, 0, 0, 0)).2.2.1), (((x2_3).getD (x2_5).toNat (0, 0, 0, 0)).2.2.2))))) = layT (rows rw_iiii ((x2_3).set (x2_5).toNat ((((x2_3).getD (x2_5).toNat (0, 0, 0, 0)).1), (w64 ((((x2_3).getD (x2_5).toNat (0, 0, 0, 0)).2.1) + x2_2)), (w64 ((((x2_3).getD (x2_5).toNat (0, 0, 0, 0)).2.2.1) + x2_2)), (((x2_3).getD (x2_5).toNat (0, 0, 0, 0)).2.2.2)))),
    opIndexAddr P 44 (Value.slice (some ⟨1, 0, none⟩) x2_4 (Nat.add big 4)) (Value.int .i64 x2_5) Ax.h0 = some ((Value.pointer (some ⟨1, ((x2_5).toNat * 4), none⟩)), Ax.h0),
    ∃ old, rdT (layT (rows rw_iiii ((x2_3).set (x2_5).toNat ((((x2_3).getD (x2_5).toNat (0, 0, 0, 0)).1), (w64 ((((x2_3).getD (x2_5).toNat (0, 0, 0, 0)).2.1) + x2_2)), (w64 ((((x2_3).getD (x2_5).toNat (0, 0, 0, 0)).2.2.1) + x2_2)), (((x2_3).getD (x2_5).toNat (0, 0, 0, 0)).2.2.2))))) 1 (Nat.add ((x2_5).toNat * 4) 3) = some old,
    layL [(Value.int .i64 (w64 ((((x2_3).getD (x2_5).toNat (0, 0, 0, 0)).2.2.2) + x2_2)))] (Nat.add ((x2_5).toNat * 4) 3) (layT (rows rw_iiii ((x2_3).set (x2_5).toNat ((((x2_3).getD (x2_5).toNat (0, 0, 0, 0)).1), (w64 ((((x2_3).getD (x2_5).toNat (0, 0, 0, 0)).2.1) + x2_2)), (w64 ((((x2_3).getD (x2_5).toNat (0, 0, 0, 0)).2.2.1) + x2_2)), (((x2_3).getD (x2_5).toNat (0, 0, 0, 0)).2.2.2))))) = layT (rows rw_iiii ((x2_3).set (x2_5).toNat ((((x2_3).getD (x2_5).toNat (0, 0, 0, 0)).1), (w64 ((((x2_3).getD (x2_5).toNat (0, 0, 0, 0)).2.1) + x2_2)), (w64 ((((x2_3).getD (x2_5).toNat (0, 0, 0, 0)).2.2.1) + x2_2)), (w64 ((((x2_3).getD (x2_5).toNat (0, 0, 0, 0)).2.2.2) + x2_2))))),
    FlatB (.cells (layT (rows rw_iiii x2_1)) 31),
    FlatB (.cells (layT (rows rw_iiii ((x2_3).set (x2_5).toNat ((((x2_3).getD (x2_5).toNat (0, 0, 0, 0)).1), (w64 ((((x2_3).getD (x2_5).toNat (0, 0, 0, 0)).2.1) + x2_2)), (w64 ((((x2_3).getD (x2_5).toNat (0, 0, 0, 0)).2.2.1) + x2_2)), (w64 ((((x2_3).getD (x2_5).toNat (0, 0, 0, 0)).2.2.2) + x2_2)))))) 31)]) (by kernel_rfl) ⟨(vbT hy2_1), (ixS (e := 31) (by kernel_rfl) (by kernel_rfl) (hy2_2).1 (hy2_2).2), (rows_ld rwf_iiii (0, 0, 0, 0) (i := (x2_5).toNat) (j := 1) (Nat.add ((x2_5).toNat * 4) 1) rfl (hy2_3) (by decide) rfl), (ixS (e := 31) (by kernel_rfl) (by kernel_rfl) (hy2_2).1 (hy2_2).2), (rows_ld rwf_iiii (0, 0, 0, 0) (i := (x2_5).toNat) (j := 2) (Nat.add ((x2_5).toNat * 4) 2) rfl (hy2_3) (by decide) rfl), (ixS (e := 31) (by kernel_rfl) (by kernel_rfl) (hy2_2).1 (hy2_2).2), (rows_ld rwf_iiii (0, 0, 0, 0) (i := (x2_5).toNat) (j := 3) (Nat.add ((x2_5).toNat * 4) 3) rfl (hy2_3) (by decide) rfl), (ixS (e := 31) (by kernel_rfl) (by kernel_rfl) (hy2_2).1 (hy2_2).2), (Exists.elim (rows_st rwf_iiii (0, 0, 0, 0) (i := (x2_5).toNat) (j := 1) (l := [(Value.int .i64 (w64 ((((x2_3).getD (x2_5).toNat (0, 0, 0, 0)).2.1) + x2_2)))]) ((((x2_3).getD (x2_5).toNat (0, 0, 0, 0)).1), (w64 ((((x2_3).getD (x2_5).toNat (0, 0, 0, 0)).2.1) + x2_2)), (((x2_3).getD (x2_5).toNat (0, 0, 0, 0)).2.2.1), (((x2_3).getD (x2_5).toNat (0, 0, 0, 0)).2.2.2)) (Nat.add ((x2_5).toNat * 4) 1) rfl (hy2_3) (Nat.le_of_ble_eq_true rfl) rfl) fun o h => ⟨o, h.1⟩), (Exists.elim (rows_st rwf_iiii (0, 0, 0, 0) (i := (x2_5).toNat) (j := 1) (l := [(Value.int .i64 (w64 ((((x2_3).getD (x2_5).toNat (0, 0, 0, 0)).2.1) + x2_2)))]) ((((x2_3).getD (x2_5).toNat (0, 0, 0, 0)).1), (w64 ((((x2_3).getD (x2_5).toNat (0, 0, 0, 0)).2.1) + x2_2)), (((x2_3).getD (x2_5).toNat (0, 0, 0, 0)).2.2.1), (((x2_3).getD (x2_5).toNat (0, 0, 0, 0)).2.2.2)) (Nat.add ((x2_5).toNat * 4) 1) rfl (hy2_3) (Nat.le_of_ble_eq_true rfl) rfl) fun o h => h.2), (ixS (e := 31) (by kernel_rfl) (by kernel_rfl) (hy2_2).1 (hy2_2).2), (Exists.elim (rows_stS rwf_iiii (i := (x2_5).toNat) (j := 2) (l := [(Value.int .i64 (w64 ((((x2_3).getD (x2_5).toNat (0, 0, 0, 0)).2.2.1) + x2_2)))]) ((((x2_3).getD (x2_5).toNat (0, 0, 0, 0)).1), (w64 ((((x2_3).getD (x2_5).toNat (0, 0, 0, 0)).2.1) + x2_2)), (((x2_3).getD (x2_5).toNat (0, 0, 0, 0)).2.2.1), (((x2_3).getD (x2_5).toNat (0, 0, 0, 0)).2.2.2)) ((((x2_3).getD (x2_5).toNat (0, 0, 0, 0)).1), (w64 ((((x2_3).getD (x2_5).toNat (0, 0, 0, 0)).2.1) + x2_2)), (w64 ((((x2_3).getD (x2_5).toNat (0, 0, 0, 0)).2.2.1) + x2_2)), (((x2_3).getD (x2_5).toNat (0, 0, 0, 0)).2.2.2)) (Nat.add ((x2_5).toNat * 4) 2) rfl (hy2_3) (Nat.le_of_ble_eq_true rfl) rfl) fun o h => ⟨o, h.1⟩), (Exists.elim (rows_stS rwf_iiii (i := (x2_5).toNat) (j := 2) (l := [(Value.int .i64 (w64 ((((x2_3).getD (x2_5).toNat (0, 0, 0, 0)).2.2.1) + x2_2)))]) ((((x2_3).getD (x2_5).toNat (0, 0, 0, 0)).1), (w64 ((((x2_3).getD (x2_5).toNat (0, 0, 0, 0)).2.1) + x2_2)), (((x2_3).getD (x2_5).toNat (0, 0, 0, 0)).2.2.1), (((x2_3).getD (x2_5).toNat (0, 0, 0, 0)).2.2.2)) ((((x2_3).getD (x2_5).toNat (0, 0, 0, 0)).1), (w64 ((((x2_3).getD (x2_5).toNat (0, 0, 0, 0)).2.1) + x2_2)), (w64 ((((x2_3).getD (x2_5).toNat (0, 0, 0, 0)).2.2.1) + x2_2)), (((x2_3).getD (x2_5).toNat (0, 0, 0, 0)).2.2.2)) (Nat.add ((x2_5).toNat * 4) 2) rfl (hy2_3) (Nat.le_of_ble_eq_true rfl) rfl) fun o h => h.2), (ixS (e := 31) (by kernel_rfl) (by kernel_rfl) (hy2_2).1 (hy2_2).2), (Exists.elim (rows_stS rwf_iiii (i := (x2_5).toNat) (j := 3) (l := [(Value.int .i64 (w64 ((((x2_3).getD (x2_5).toNat (0, 0, 0, 0)).2.2.2) + x2_2)))]) ((((x2_3).getD (x2_5).toNat (0, 0, 0, 0)).1), (w64 ((((x2_3).getD (x2_5).toNat (0, 0, 0, 0)).2.1) + x2_2)), (w64 ((((x2_3).getD (x2_5).toNat (0, 0, 0, 0)).2.2.1) + x2_2)), (((x2_3).getD (x2_5).toNat (0, 0, 0, 0)).2.2.2)) ((((x2_3).getD (x2_5).toNat (0, 0, 0, 0)).1), (w64 ((((x2_3).getD (x2_5).toNat (0, 0, 0, 0)).2.1) + x2_2)), (w64 ((((x2_3).getD (x2_5).toNat (0, 0, 0, 0)).2.2.1) + x2_2)), (w64 ((((x2_3).getD (x2_5).toNat (0, 0, 0, 0)).2.2.2) + x2_2))) (Nat.add ((x2_5).toNat * 4) 3) rfl (hy2_3) (Nat.le_of_ble_eq_true rfl) rfl) fun o h => ⟨o, h.1⟩), (Exists.elim (rows_stS rwf_iiii (i := (x2_5).toNat) (j := 3) (l := [(Value.int .i64 (w64 ((((x2_3).getD (x2_5).toNat (0, 0, 0, 0)).2.2.2) + x2_2)))]) ((((x2_3).getD (x2_5).toNat (0, 0, 0, 0)).1), (w64 ((((x2_3).getD (x2_5).toNat (0, 0, 0, 0)).2.1) + x2_2)), (w64 ((((x2_3).getD (x2_5).toNat (0, 0, 0, 0)).2.2.1) + x2_2)), (((x2_3).getD (x2_5).toNat (0, 0, 0, 0)).2.2.2)) ((((x2_3).getD (x2_5).toNat (0, 0, 0, 0)).1), (w64 ((((x2_3).getD (x2_5).toNat (0, 0, 0, 0)).2.1) + x2_2)), (w64 ((((x2_3).getD (x2_5).toNat (0, 0, 0, 0)).2.2.1) + x2_2)), (w64 ((((x2_3).getD (x2_5).toNat (0, 0, 0, 0)).2.2.2) + x2_2))) (Nat.add ((x2_5).toNat * 4) 3) rfl (hy2_3) (Nat.le_of_ble_eq_true rfl) rfl) fun o h => h.2), (rows_flat rwf_iiii _ _), (rows_flat rwf_iiii _ _), trivial⟩
set_option maxRecDepth 100000 in
theorem q6_2_1 (n : Nat) (x2_0 : Int) (x2_1 : List (Int × Int × Int × Int)) (x2_2 : Int) (x2_3 : List (Int × Int × Int × Int)) (x2_4 : Nat) (x2_5 : Int) (hy2_1 : ¬ (x2_5 < ((x2_4 : Nat) : Int))) : CG P none (fnN P 6) 0 (codeOf P 6 [false, false, true, false, true, true, true, true, true, true, true, true, true]) (S6_2 x2_0 x2_1 x2_2 x2_4 (x2_3, x2_5)) (X6_2 x2_0 x2_1 x2_2 x2_4 x2_3) :=
  runC_ok hm (A := aT [(5, .val (.bool false))]) (L := lT []) (wk := ⟨[2, 7, 9], [(0, 0, true), (1, 1, true)], 2, 0⟩)
    (ps := [(Value.bool (decide (x2_5 < ((x2_4 : Nat) : Int)))) = (Value.bool false),
    FlatB (.cells (layT (rows rw_iiii x2_1)) 31),
    FlatB (.cells (layT (rows rw_iiii x2_3)) 31)]) (by kernel_rfl) ⟨(vbF hy2_1), (rows_flat rwf_iiii _ _), (rows_flat rwf_iiii _ _), trivial⟩
theorem m6_2_ok (n : Nat) (x2_0 : Int) (x2_1 : List (Int × Int × Int × Int)) (x2_2 : Int) (x2_4 : Nat) (st : List (Int × Int × Int × Int) × Int) (r : List (Int × Int × Int × Int)) (h : m6_2 n x2_0 x2_1 x2_2 x2_4 st = some r) : CG P none (fnN P 6) 0 (codeOf P 6 [false, true, false, true, true, true, true, true, true, true, true, true]) (S6_2 x2_0 x2_1 x2_2 x2_4 st) (X6_2 x2_0 x2_1 x2_2 x2_4 r) :=
  CG.iter (b := codeOf P 6 [false, false, true, false, true, true, true, true, true, true, true, true, true]) (by kernel_rfl) (body := B6_2 n x2_0 x2_1 x2_2 x2_4) (S := S6_2 x2_0 x2_1 x2_2 x2_4) (X := X6_2 x2_0 x2_1 x2_2 x2_4)
    (fun s s' h => by
    obtain ⟨x2_3, x2_5⟩ := s
    unfold B6_2 at h
    dsimp only at h
    by_cases hy2_1 : x2_5 < ((x2_4 : Nat) : Int)
    · rw [if_pos hy2_1] at h
      by_cases hy2_2 : 0 ≤ x2_5 ∧ x2_5 < ((x2_4 : Nat) : Int)
      · rw [if_pos hy2_2] at h
        by_cases hy2_3 : (x2_5).toNat < (x2_3).length
        · rw [if_pos hy2_3] at h
          obtain rfl := Sum.inl.inj (Option.some.inj h); exact q6_2_0 n x2_0 x2_1 x2_2 x2_3 x2_4 x2_5 hy2_1 hy2_2 hy2_3
        · rw [if_neg hy2_3] at h; cases h
      · rw [if_neg hy2_2] at h; cases h
    · rw [if_neg hy2_1] at h
      cases h)
    (fun s r h => by
    obtain ⟨x2_3, x2_5⟩ := s
    unfold B6_2 at h
    dsimp only at h
    by_cases hy2_1 : x2_5 < ((x2_4 : Nat) : Int)
    · rw [if_pos hy2_1] at h
      by_cases hy2_2 : 0 ≤ x2_5 ∧ x2_5 < ((x2_4 : Nat) : Int)
      · rw [if_pos hy2_2] at h
        by_cases hy2_3 : (x2_5).toNat < (x2_3).length
        · rw [if_pos hy2_3] at h
          cases h
        · rw [if_neg hy2_3] at h; cases h
      · rw [if_neg hy2_2] at h; cases h
    · rw [if_neg hy2_1] at h
      obtain rfl := Sum.inr.inj (Option.some.inj h); exact q6_2_1 n x2_0 x2_1 x2_2 x2_3 x2_4 x2_5 hy2_1)
    (fun r => by intro hx; cases hx) h
noncomputable def A6 (x : ByteArray) (a : Int) : List Value := [(Value.agg #[(Value.slice (some ⟨0, 0, some 1⟩) (Args.N).length Args.cN), (Value.slice (some ⟨1, 0, some 1⟩) (Args.R).length Args.cR)]), (Value.string x), (Value.int .i64 a)]
noncomputable def H6 (x : ByteArray) (a : Int) : AH := ⟨sB [], 0, 0⟩
noncomputable def V6 (x : ByteArray) (a : Int) (r : Bool) : Value := match r with
  | o0 => (Value.bool o0)
noncomputable def R6 (x : ByteArray) (a : Int) (r : Bool) : AH := match r with
  | o0 => ⟨sB [], 0, 0⟩
def m6 (n : Nat) (x : ByteArray) (a : Int) : Option (Bool) :=
  (m7 n).bind fun _ =>
  (m8 n 24).bind fun c2_ =>
  if c2_ = true then
    if (((x).size : Nat) : Int) > (60 : Int) then
      some true
    else
      if (((x).size : Nat) : Int) = (0 : Int) then
        some true
      else
        (m9 n).bind fun c6_ =>
        if c6_ = (0 : Int) then
          (m19 n x).bind fun c8_ =>
          match c8_ with
          | [] =>
            none
          | c8_a :: c8_t =>
            if ((((c8_a :: c8_t)).length : Nat) : Int) = (0 : Int) then
              none
            else
              (m10 n a ((((c8_a :: c8_t)).length : Nat) : Int)).bind fun c10_ =>
              if 0 ≤ c10_ ∧ c10_ < ((((c8_a :: c8_t)).length : Nat) : Int) then
                if ((((c8_a :: c8_t)).getD (c10_).toNat (0, 0, 0, 0)).2.1) < (0 : Int) then
                  none
                else
                  if ((((c8_a :: c8_t)).getD (c10_).toNat (0, 0, 0, 0)).2.1) > (((x).size : Nat) : Int) then
                    none
                  else
                    if 0 ≤ ((((c8_a :: c8_t)).getD (c10_).toNat (0, 0, 0, 0)).2.1) ∧ ((((c8_a :: c8_t)).getD (c10_).toNat (0, 0, 0, 0)).2.1) ≤ (((x).size : Nat) : Int) then
                      (m19 n (ByteArray.extract x (((((c8_a :: c8_t)).getD (c10_).toNat (0, 0, 0, 0)).2.1)).toNat (x).size)).bind fun c15_ =>
                      match c15_ with
                      | [] =>
                        (m6_1 n c10_ (c8_a :: c8_t) ((((c8_a :: c8_t)).getD (c10_).toNat (0, 0, 0, 0)).2.1) ()).bind fun _ =>
                        if 0 ≤ c10_ ∧ c10_ ≤ ((((c8_a :: c8_t)).length : Nat) : Int) then
                          (m20n n (c8_a :: c8_t) ((c10_).toNat) (((c8_a :: c8_t)).length - (c10_).toNat)).bind fun c18_ =>
                          some c18_
                        else none
                      | c15_a :: c15_t =>
                        (m6_2 n c10_ (c8_a :: c8_t) ((((c8_a :: c8_t)).getD (c10_).toNat (0, 0, 0, 0)).2.1) (((c15_a :: c15_t)).length) ((c15_a :: c15_t), 0)).bind fun c16_ =>
                        if 0 ≤ c10_ ∧ c10_ ≤ ((((c8_a :: c8_t)).length : Nat) : Int) then
                          (m20a n c16_ (((c15_a :: c15_t)).length) (c8_a :: c8_t) ((c10_).toNat) (((c8_a :: c8_t)).length - (c10_).toNat)).bind fun c18_ =>
                          some c18_
                        else none
                    else none
              else none
        else
          some true
  else
    some true
set_option maxRecDepth 100000 in
theorem p6_0 (n : Nat) (x : ByteArray) (a : Int) (hc1 : m7 n = some ()) (c2_ : Bool) (hc2 : m8 n 24 = some c2_) (hc3 : c2_ = true) (hc4 : (((x).size : Nat) : Int) > (60 : Int)) : Gv P (.func 6) (A6 x a) (H6 x a) (V6 x a true) (R6 x a true) :=
  runF_ok hm (A := aT [(5, .call ⟨0, [], (Value.bool true), Ax.h0, []⟩), (11, .call ⟨0, [], (V8 24 c2_), (R8 24 c2_), []⟩), (12, .val (.bool false)), (16, .val (.bool true))]) (L := lT []) (wk := ⟨[6], [], 0, 0⟩)
    (ps := [Gv P (.func 7) [] Ax.h0 (Value.bool true) Ax.h0,
    Gv P (.func 8) (A8 24) (H8 24) (V8 24 c2_) (R8 24 c2_),
    (Value.bool (!c2_)) = (Value.bool false),
    (Value.bool (decide ((((x).size : Nat) : Int) > (60 : Int)))) = (Value.bool true)]) (by kernel_rfl) ⟨(m7_ok n () hc1), (m8_ok n 24 c2_ hc2), (vBn hc3), (vbT hc4), trivial⟩
set_option maxRecDepth 100000 in
theorem p6_1 (n : Nat) (x : ByteArray) (a : Int) (hc1 : m7 n = some ()) (c2_ : Bool) (hc2 : m8 n 24 = some c2_) (hc3 : c2_ = true) (hc4 : ¬ ((((x).size : Nat) : Int) > (60 : Int))) (hc5 : (((x).size : Nat) : Int) = (0 : Int)) : Gv P (.func 6) (A6 x a) (H6 x a) (V6 x a true) (R6 x a true) :=
  runF_ok hm (A := aT [(5, .call ⟨0, [], (Value.bool true), Ax.h0, []⟩), (11, .call ⟨0, [], (V8 24 c2_), (R8 24 c2_), []⟩), (12, .val (.bool false)), (16, .val (.bool false)), (21, .val (.bool true))]) (L := lT []) (wk := ⟨[6], [], 0, 0⟩)
    (ps := [Gv P (.func 7) [] Ax.h0 (Value.bool true) Ax.h0,
    Gv P (.func 8) (A8 24) (H8 24) (V8 24 c2_) (R8 24 c2_),
    (Value.bool (!c2_)) = (Value.bool false),
    (Value.bool (decide ((((x).size : Nat) : Int) > (60 : Int)))) = (Value.bool false),
    (Value.bool ((((x).size : Nat) : Int) == (0 : Int))) = (Value.bool true)]) (by kernel_rfl) ⟨(m7_ok n () hc1), (m8_ok n 24 c2_ hc2), (vBn hc3), (vbF hc4), (veT hc5), trivial⟩
set_option maxRecDepth 100000 in
theorem p6_2 (n : Nat) (x : ByteArray) (a : Int) (hc1 : m7 n = some ()) (c2_ : Bool) (hc2 : m8 n 24 = some c2_) (hc3 : c2_ = true) (hc4 : ¬ ((((x).size : Nat) : Int) > (60 : Int))) (hc5 : ¬ ((((x).size : Nat) : Int) = (0 : Int))) (c6_ : Int) (hc6 : m9 n = some c6_) (hc7 : c6_ = (0 : Int)) (c8_a : Int × Int × Int × Int) (c8_t : List (Int × Int × Int × Int)) (hc8 : m19 n x = some (c8_a :: c8_t)) (hc9 : ¬ (((((c8_a :: c8_t)).length : Nat) : Int) = (0 : Int))) (c10_ : Int) (hc10 : m10 n a ((((c8_a :: c8_t)).length : Nat) : Int) = some c10_) (hc11 : 0 ≤ c10_ ∧ c10_ < ((((c8_a :: c8_t)).length : Nat) : Int)) (hc12 : ¬ (((((c8_a :: c8_t)).getD (c10_).toNat (0, 0, 0, 0)).2.1) < (0 : Int))) (hc13 : ¬ (((((c8_a :: c8_t)).getD (c10_).toNat (0, 0, 0, 0)).2.1) > (((x).size : Nat) : Int))) (hc14 : 0 ≤ ((((c8_a :: c8_t)).getD (c10_).toNat (0, 0, 0, 0)).2.1) ∧ ((((c8_a :: c8_t)).getD (c10_).toNat (0, 0, 0, 0)).2.1) ≤ (((x).size : Nat) : Int)) (hc15 : m19 n (ByteArray.extract x (((((c8_a :: c8_t)).getD (c10_).toNat (0, 0, 0, 0)).2.1)).toNat (x).size) = some []) (hc16 : m6_1 n c10_ (c8_a :: c8_t) ((((c8_a :: c8_t)).getD (c10_).toNat (0, 0, 0, 0)).2.1) () = some ()) (hc17 : 0 ≤ c10_ ∧ c10_ ≤ ((((c8_a :: c8_t)).length : Nat) : Int)) (c18_ : Bool) (hc18 : m20n n (c8_a :: c8_t) ((c10_).toNat) (((c8_a :: c8_t)).length - (c10_).toNat) = some c18_) : Gv P (.func 6) (A6 x a) (H6 x a) (V6 x a c18_) (R6 x a c18_) :=
  runF_ok hm (A := aT [(5, .call ⟨0, [], (Value.bool true), Ax.h0, []⟩), (11, .call ⟨0, [], (V8 24 c2_), (R8 24 c2_), []⟩), (12, .val (.bool false)), (16, .val (.bool false)), (21, .val (.bool false)), (25, .call ⟨0, [], (V9  c6_), (R9  c6_), []⟩), (26, .val (.bool false)), (32, .call ⟨0, [], (V19 x (c8_a :: c8_t)), (R19 x (c8_a :: c8_t)), [(1, 0, true)]⟩), (38, .val (.bool false)), (44, .call ⟨0, [], (V10 a ((((c8_a :: c8_t)).length : Nat) : Int) c10_), (R10 a ((((c8_a :: c8_t)).length : Nat) : Int) c10_), []⟩), (49, .pur (Value.pointer (some ⟨1, ((c10_).toNat * 4), none⟩))), (51, .ld (Value.int .i64 ((((c8_a :: c8_t)).getD (c10_).toNat (0, 0, 0, 0)).2.1))), (56, .val (.bool false)), (61, .val (.bool false)), (68, .pur (Value.string (ByteArray.extract x (((((c8_a :: c8_t)).getD (c10_).toNat (0, 0, 0, 0)).2.1)).toNat (x).size))), (69, .call ⟨0, [], (V19 (ByteArray.extract x (((((c8_a :: c8_t)).getD (c10_).toNat (0, 0, 0, 0)).2.1)).toNat (x).size) ([] : List (Int × Int × Int × Int))), (R19 (ByteArray.extract x (((((c8_a :: c8_t)).getD (c10_).toNat (0, 0, 0, 0)).2.1)).toNat (x).size) ([] : List (Int × Int × Int × Int))), []⟩), (80, .pur (Value.slice (some ⟨0, ((c10_).toNat * 4), none⟩) (((c8_a :: c8_t)).length - (c10_).toNat) (Nat.add big 4))), (81, .call ⟨1, [(0, 0, true)], (V20n (c8_a :: c8_t) ((c10_).toNat) (((c8_a :: c8_t)).length - (c10_).toNat) c18_), (R20n (c8_a :: c8_t) ((c10_).toNat) (((c8_a :: c8_t)).length - (c10_).toNat) c18_), []⟩)]) (L := lT [(75, ⟨⟨[2, 7, 8, 9, 10], [(0, 1, true)], 1, 0⟩, (X6_1 c10_ (c8_a :: c8_t) ((((c8_a :: c8_t)).getD (c10_).toNat (0, 0, 0, 0)).2.1) ()).1, (X6_1 c10_ (c8_a :: c8_t) ((((c8_a :: c8_t)).getD (c10_).toNat (0, 0, 0, 0)).2.1) ()).2⟩)]) (wk := ⟨[6], [], 0, 0⟩)
    (ps := [Gv P (.func 7) [] Ax.h0 (Value.bool true) Ax.h0,
    Gv P (.func 8) (A8 24) (H8 24) (V8 24 c2_) (R8 24 c2_),
    (Value.bool (!c2_)) = (Value.bool false),
    (Value.bool (decide ((((x).size : Nat) : Int) > (60 : Int)))) = (Value.bool false),
    (Value.bool ((((x).size : Nat) : Int) == (0 : Int))) = (Value.bool false),
    Gv P (.func 9) A9 H9 (V9  c6_) (R9  c6_),
    (Value.bool (c6_ != (0 : Int))) = (Value.bool false),
    Gv P (.func 19) (A19 x) (H19 x) (V19 x (c8_a :: c8_t)) (R19 x (c8_a :: c8_t)),
    FlatB (.cells (layT (rows rw_iiii (c8_a :: c8_t))) 31),
    (Value.bool (((((c8_a :: c8_t)).length : Nat) : Int) == (0 : Int))) = (Value.bool false),
    Gv P (.func 10) (A10 a ((((c8_a :: c8_t)).length : Nat) : Int)) (H10 a ((((c8_a :: c8_t)).length : Nat) : Int)) (V10 a ((((c8_a :: c8_t)).length : Nat) : Int) c10_) (R10 a ((((c8_a :: c8_t)).length : Nat) : Int) c10_),
    opIndexAddr P 44 (Value.slice (some ⟨1, 0, none⟩) ((c8_a :: c8_t)).length (Nat.add big 4)) (Value.int .i64 c10_) Ax.h0 = some ((Value.pointer (some ⟨1, ((c10_).toNat * 4), none⟩)), Ax.h0),
    (layT (rows rw_iiii (c8_a :: c8_t))).get (Nat.add ((c10_).toNat * 4) 1) = some (Value.int .i64 ((((c8_a :: c8_t)).getD (c10_).toNat (0, 0, 0, 0)).2.1)),
    (Value.bool (decide (((((c8_a :: c8_t)).getD (c10_).toNat (0, 0, 0, 0)).2.1) < (0 : Int)))) = (Value.bool false),
    (Value.bool (decide (((((c8_a :: c8_t)).getD (c10_).toNat (0, 0, 0, 0)).2.1) > (((x).size : Nat) : Int)))) = (Value.bool false),
    opSlice P 9 (Value.string x) (some (Value.int .i64 ((((c8_a :: c8_t)).getD (c10_).toNat (0, 0, 0, 0)).2.1))) none none Ax.h0 = some ((Value.string (ByteArray.extract x (((((c8_a :: c8_t)).getD (c10_).toNat (0, 0, 0, 0)).2.1)).toNat (x).size)), Ax.h0),
    Gv P (.func 19) (A19 (ByteArray.extract x (((((c8_a :: c8_t)).getD (c10_).toNat (0, 0, 0, 0)).2.1)).toNat (x).size)) (H19 (ByteArray.extract x (((((c8_a :: c8_t)).getD (c10_).toNat (0, 0, 0, 0)).2.1)).toNat (x).size)) (V19 (ByteArray.extract x (((((c8_a :: c8_t)).getD (c10_).toNat (0, 0, 0, 0)).2.1)).toNat (x).size) ([] : List (Int × Int × Int × Int))) (R19 (ByteArray.extract x (((((c8_a :: c8_t)).getD (c10_).toNat (0, 0, 0, 0)).2.1)).toNat (x).size) ([] : List (Int × Int × Int × Int))),
    CG P none (fnN P 6) 0 (codeOf P 6 [false, true, false, true, true, true, true, true, true, true, true, true]) (S6_1 c10_ (c8_a :: c8_t) ((((c8_a :: c8_t)).getD (c10_).toNat (0, 0, 0, 0)).2.1) ()) (X6_1 c10_ (c8_a :: c8_t) ((((c8_a :: c8_t)).getD (c10_).toNat (0, 0, 0, 0)).2.1) ()),
    FlatB (.cells (layT (rows rw_iiii (c8_a :: c8_t))) 31),
    opSlice P 44 (Value.slice (some ⟨0, 0, none⟩) ((c8_a :: c8_t)).length (Nat.add big 4)) (some (Value.int .i64 c10_)) none none Ax.h0 = some ((Value.slice (some ⟨0, ((c10_).toNat * 4), none⟩) (((c8_a :: c8_t)).length - (c10_).toNat) (Nat.add big 4)), Ax.h0),
    Gv P (.func 20) (A20n (c8_a :: c8_t) ((c10_).toNat) (((c8_a :: c8_t)).length - (c10_).toNat)) (H20n (c8_a :: c8_t) ((c10_).toNat) (((c8_a :: c8_t)).length - (c10_).toNat)) (V20n (c8_a :: c8_t) ((c10_).toNat) (((c8_a :: c8_t)).length - (c10_).toNat) c18_) (R20n (c8_a :: c8_t) ((c10_).toNat) (((c8_a :: c8_t)).length - (c10_).toNat) c18_),
    FlatB (.cells (layT (rows rw_iiii (c8_a :: c8_t))) 31)]) (by kernel_rfl) ⟨(m7_ok n () hc1), (m8_ok n 24 c2_ hc2), (vBn hc3), (vbF hc4), (veF hc5), (m9_ok n c6_ hc6), (vnF hc7), (m19_ok n x (c8_a :: c8_t) hc8), (rows_flat rwf_iiii _ _), (veF hc9), (m10_ok n a ((((c8_a :: c8_t)).length : Nat) : Int) c10_ hc10), (ixS (e := 31) (by kernel_rfl) (by kernel_rfl) (hc11).1 (hc11).2), (rows_ld rwf_iiii (0, 0, 0, 0) (i := (c10_).toNat) (j := 1) (Nat.add ((c10_).toNat * 4) 1) rfl (toNatLt hc11) (by decide) rfl), (vbF hc12), (vbF hc13), (slStrHi (by kernel_rfl) hc14), (m19_ok n (ByteArray.extract x (((((c8_a :: c8_t)).getD (c10_).toNat (0, 0, 0, 0)).2.1)).toNat (x).size) ([] : List (Int × Int × Int × Int)) hc15), (m6_1_ok n c10_ (c8_a :: c8_t) ((((c8_a :: c8_t)).getD (c10_).toNat (0, 0, 0, 0)).2.1) () () hc16), (rows_flat rwf_iiii _ _), (slRow (e := 31) (es := 4) (by kernel_rfl) (by kernel_rfl) rfl rfl hc17), (m20n_ok n (c8_a :: c8_t) ((c10_).toNat) (((c8_a :: c8_t)).length - (c10_).toNat) c18_ hc18), (rows_flat rwf_iiii _ _), trivial⟩
set_option maxRecDepth 100000 in
theorem p6_3 (n : Nat) (x : ByteArray) (a : Int) (hc1 : m7 n = some ()) (c2_ : Bool) (hc2 : m8 n 24 = some c2_) (hc3 : c2_ = true) (hc4 : ¬ ((((x).size : Nat) : Int) > (60 : Int))) (hc5 : ¬ ((((x).size : Nat) : Int) = (0 : Int))) (c6_ : Int) (hc6 : m9 n = some c6_) (hc7 : c6_ = (0 : Int)) (c8_a : Int × Int × Int × Int) (c8_t : List (Int × Int × Int × Int)) (hc8 : m19 n x = some (c8_a :: c8_t)) (hc9 : ¬ (((((c8_a :: c8_t)).length : Nat) : Int) = (0 : Int))) (c10_ : Int) (hc10 : m10 n a ((((c8_a :: c8_t)).length : Nat) : Int) = some c10_) (hc11 : 0 ≤ c10_ ∧ c10_ < ((((c8_a :: c8_t)).length : Nat) : Int)) (hc12 : ¬ (((((c8_a :: c8_t)).getD (c10_).toNat (0, 0, 0, 0)).2.1) < (0 : Int))) (hc13 : ¬ (((((c8_a :: c8_t)).getD (c10_).toNat (0, 0, 0, 0)).2.1) > (((x).size : Nat) : Int))) (hc14 : 0 ≤ ((((c8_a :: c8_t)).getD (c10_).toNat (0, 0, 0, 0)).2.1) ∧ ((((c8_a :: c8_t)).getD (c10_).toNat (0, 0, 0, 0)).2.1) ≤ (((x).size : Nat) : Int)) (c15_a : Int × Int × Int × Int) (c15_t : List (Int × Int × Int × Int)) (hc15 : m19 n (ByteArray.extract x (((((c8_a :: c8_t)).getD (c10_).toNat (0, 0, 0, 0)).2.1)).toNat (x).size) = some (c15_a :: c15_t)) (c16_ : List (Int × Int × Int × Int)) (hc16 : m6_2 n c10_ (c8_a :: c8_t) ((((c8_a :: c8_t)).getD (c10_).toNat (0, 0, 0, 0)).2.1) (((c15_a :: c15_t)).length) ((c15_a :: c15_t), 0) = some c16_) (hc17 : 0 ≤ c10_ ∧ c10_ ≤ ((((c8_a :: c8_t)).length : Nat) : Int)) (c18_ : Bool) (hc18 : m20a n c16_ (((c15_a :: c15_t)).length) (c8_a :: c8_t) ((c10_).toNat) (((c8_a :: c8_t)).length - (c10_).toNat) = some c18_) : Gv P (.func 6) (A6 x a) (H6 x a) (V6 x a c18_) (R6 x a c18_) :=
  runF_ok hm (A := aT [(5, .call ⟨0, [], (Value.bool true), Ax.h0, []⟩), (11, .call ⟨0, [], (V8 24 c2_), (R8 24 c2_), []⟩), (12, .val (.bool false)), (16, .val (.bool false)), (21, .val (.bool false)), (25, .call ⟨0, [], (V9  c6_), (R9  c6_), []⟩), (26, .val (.bool false)), (32, .call ⟨0, [], (V19 x (c8_a :: c8_t)), (R19 x (c8_a :: c8_t)), [(1, 0, true)]⟩), (38, .val (.bool false)), (44, .call ⟨0, [], (V10 a ((((c8_a :: c8_t)).length : Nat) : Int) c10_), (R10 a ((((c8_a :: c8_t)).length : Nat) : Int) c10_), []⟩), (49, .pur (Value.pointer (some ⟨1, ((c10_).toNat * 4), none⟩))), (51, .ld (Value.int .i64 ((((c8_a :: c8_t)).getD (c10_).toNat (0, 0, 0, 0)).2.1))), (56, .val (.bool false)), (61, .val (.bool false)), (68, .pur (Value.string (ByteArray.extract x (((((c8_a :: c8_t)).getD (c10_).toNat (0, 0, 0, 0)).2.1)).toNat (x).size))), (69, .call ⟨0, [], (V19 (ByteArray.extract x (((((c8_a :: c8_t)).getD (c10_).toNat (0, 0, 0, 0)).2.1)).toNat (x).size) (c15_a :: c15_t)), (R19 (ByteArray.extract x (((((c8_a :: c8_t)).getD (c10_).toNat (0, 0, 0, 0)).2.1)).toNat (x).size) (c15_a :: c15_t)), [(2, 0, true)]⟩), (80, .pur (Value.slice (some ⟨0, ((c10_).toNat * 4), none⟩) (((c8_a :: c8_t)).length - (c10_).toNat) (Nat.add big 4))), (81, .call ⟨2, [(0, 1, true), (1, 0, true)], (V20a c16_ (((c15_a :: c15_t)).length) (c8_a :: c8_t) ((c10_).toNat) (((c8_a :: c8_t)).length - (c10_).toNat) c18_), (R20a c16_ (((c15_a :: c15_t)).length) (c8_a :: c8_t) ((c10_).toNat) (((c8_a :: c8_t)).length - (c10_).toNat) c18_), []⟩)]) (L := lT [(75, ⟨⟨[2, 7, 8, 9, 10], [(0, 1, true), (1, 2, true)], 2, 0⟩, (X6_2 c10_ (c8_a :: c8_t) ((((c8_a :: c8_t)).getD (c10_).toNat (0, 0, 0, 0)).2.1) (((c15_a :: c15_t)).length) c16_).1, (X6_2 c10_ (c8_a :: c8_t) ((((c8_a :: c8_t)).getD (c10_).toNat (0, 0, 0, 0)).2.1) (((c15_a :: c15_t)).length) c16_).2⟩)]) (wk := ⟨[6], [], 0, 0⟩)
    (ps := [Gv P (.func 7) [] Ax.h0 (Value.bool true) Ax.h0,
    Gv P (.func 8) (A8 24) (H8 24) (V8 24 c2_) (R8 24 c2_),
    (Value.bool (!c2_)) = (Value.bool false),
    (Value.bool (decide ((((x).size : Nat) : Int) > (60 : Int)))) = (Value.bool false),
    (Value.bool ((((x).size : Nat) : Int) == (0 : Int))) = (Value.bool false),
    Gv P (.func 9) A9 H9 (V9  c6_) (R9  c6_),
    (Value.bool (c6_ != (0 : Int))) = (Value.bool false),
    Gv P (.func 19) (A19 x) (H19 x) (V19 x (c8_a :: c8_t)) (R19 x (c8_a :: c8_t)),
    FlatB (.cells (layT (rows rw_iiii (c8_a :: c8_t))) 31),
    (Value.bool (((((c8_a :: c8_t)).length : Nat) : Int) == (0 : Int))) = (Value.bool false),
    Gv P (.func 10) (A10 a ((((c8_a :: c8_t)).length : Nat) : Int)) (H10 a ((((c8_a :: c8_t)).length : Nat) : Int)) (V10 a ((((c8_a :: c8_t)).length : Nat) : Int) c10_) (R10 a ((((c8_a :: c8_t)).length : Nat) : Int) c10_),
    opIndexAddr P 44 (Value.slice (some ⟨1, 0, none⟩) ((c8_a :: c8_t)).length (Nat.add big 4)) (Value.int .i64 c10_) Ax.h0 = some ((Value.pointer (some ⟨1, ((c10_).toNat * 4), none⟩)), Ax.h0),
    (layT (rows rw_iiii (c8_a :: c8_t))).get (Nat.add ((c10_).toNat * 4) 1) = some (Value.int .i64 ((((c8_a :: c8_t)).getD (c10_).toNat (0, 0, 0, 0)).2.1)),
    (Value.bool (decide (((((c8_a :: c8_t)).getD (c10_).toNat (0, 0, 0, 0)).2.1) < (0 : Int)))) = (Value.bool false),
    (Value.bool (decide (((((c8_a :: c8_t)).getD (c10_).toNat (0, 0, 0, 0)).2.1) > (((x).size : Nat) : Int)))) = (Value.bool false),
    opSlice P 9 (Value.string x) (some (Value.int .i64 ((((c8_a :: c8_t)).getD (c10_).toNat (0, 0, 0, 0)).2.1))) none none Ax.h0 = some ((Value.string (ByteArray.extract x (((((c8_a :: c8_t)).getD (c10_).toNat (0, 0, 0, 0)).2.1)).toNat (x).size)), Ax.h0),
    Gv P (.func 19) (A19 (ByteArray.extract x (((((c8_a :: c8_t)).getD (c10_).toNat (0, 0, 0, 0)).2.1)).toNat (x).size)) (H19 (ByteArray.extract x (((((c8_a :: c8_t)).getD (c10_).toNat (0, 0, 0, 0)).2.1)).toNat (x).size)) (V19 (ByteArray.extract x (((((c8_a :: c8_t)).getD (c10_).toNat (0, 0, 0, 0)).2.1)).toNat (x).size) (c15_a :: c15_t)) (R19 (ByteArray.extract x (((((c8_a :: c8_t)).getD (c10_).toNat (0, 0, 0, 0)).2.1)).toNat (x).size) (c15_a :: c15_t)),
    FlatB (.cells (layT (rows rw_iiii (c15_a :: c15_t))) 31),
    CG P none (fnN P 6) 0 (codeOf P 6 [false, true, false, true, true, true, true, true, true, true, true, true]) (S6_2 c10_ (c8_a :: c8_t) ((((c8_a :: c8_t)).getD (c10_).toNat (0, 0, 0, 0)).2.1) (((c15_a :: c15_t)).length) ((c15_a :: c15_t), 0)) (X6_2 c10_ (c8_a :: c8_t) ((((c8_a :: c8_t)).getD (c10_).toNat (0, 0, 0, 0)).2.1) (((c15_a :: c15_t)).length) c16_),
    FlatB (.cells (layT (rows rw_iiii (c8_a :: c8_t))) 31),
    FlatB (.cells (layT (rows rw_iiii (c15_a :: c15_t))) 31),
    opSlice P 44 (Value.slice (some ⟨0, 0, none⟩) ((c8_a :: c8_t)).length (Nat.add big 4)) (some (Value.int .i64 c10_)) none none Ax.h0 = some ((Value.slice (some ⟨0, ((c10_).toNat * 4), none⟩) (((c8_a :: c8_t)).length - (c10_).toNat) (Nat.add big 4)), Ax.h0),
    Gv P (.func 20) (A20a c16_ (((c15_a :: c15_t)).length) (c8_a :: c8_t) ((c10_).toNat) (((c8_a :: c8_t)).length - (c10_).toNat)) (H20a c16_ (((c15_a :: c15_t)).length) (c8_a :: c8_t) ((c10_).toNat) (((c8_a :: c8_t)).length - (c10_).toNat)) (V20a c16_ (((c15_a :: c15_t)).length) (c8_a :: c8_t) ((c10_).toNat) (((c8_a :: c8_t)).length - (c10_).toNat) c18_) (R20a c16_ (((c15_a :: c15_t)).length) (c8_a :: c8_t) ((c10_).toNat) (((c8_a :: c8_t)).length - (c10_).toNat) c18_),
    FlatB (.cells (layT (rows rw_iiii c16_)) 31),
    FlatB (.cells (layT (rows rw_iiii (c8_a :: c8_t))) 31)]) (by kernel_rfl) ⟨(m7_ok n () hc1), (m8_ok n 24 c2_ hc2), (vBn hc3), (vbF hc4), (veF hc5), (m9_ok n c6_ hc6), (vnF hc7), (m19_ok n x (c8_a :: c8_t) hc8), (rows_flat rwf_iiii _ _), (veF hc9), (m10_ok n a ((((c8_a :: c8_t)).length : Nat) : Int) c10_ hc10), (ixS (e := 31) (by kernel_rfl) (by kernel_rfl) (hc11).1 (hc11).2), (rows_ld rwf_iiii (0, 0, 0, 0) (i := (c10_).toNat) (j := 1) (Nat.add ((c10_).toNat * 4) 1) rfl (toNatLt hc11) (by decide) rfl), (vbF hc12), (vbF hc13), (slStrHi (by kernel_rfl) hc14), (m19_ok n (ByteArray.extract x (((((c8_a :: c8_t)).getD (c10_).toNat (0, 0, 0, 0)).2.1)).toNat (x).size) (c15_a :: c15_t) hc15), (rows_flat rwf_iiii _ _), (m6_2_ok n c10_ (c8_a :: c8_t) ((((c8_a :: c8_t)).getD (c10_).toNat (0, 0, 0, 0)).2.1) (((c15_a :: c15_t)).length) ((c15_a :: c15_t), 0) c16_ hc16), (rows_flat rwf_iiii _ _), (rows_flat rwf_iiii _ _), (slRow (e := 31) (es := 4) (by kernel_rfl) (by kernel_rfl) rfl rfl hc17), (m20a_ok n c16_ (((c15_a :: c15_t)).length) (c8_a :: c8_t) ((c10_).toNat) (((c8_a :: c8_t)).length - (c10_).toNat) c18_ hc18), (rows_flat rwf_iiii _ _), (rows_flat rwf_iiii _ _), trivial⟩
set_option maxRecDepth 100000 in
theorem p6_4 (n : Nat) (x : ByteArray) (a : Int) (hc1 : m7 n = some ()) (c2_ : Bool) (hc2 : m8 n 24 = some c2_) (hc3 : c2_ = true) (hc4 : ¬ ((((x).size : Nat) : Int) > (60 : Int))) (hc5 : ¬ ((((x).size : Nat) : Int) = (0 : Int))) (c6_ : Int) (hc6 : m9 n = some c6_) (hc7 : ¬ (c6_ = (0 : Int))) : Gv P (.func 6) (A6 x a) (H6 x a) (V6 x a true) (R6 x a true) :=
  runF_ok hm (A := aT [(5, .call ⟨0, [], (Value.bool true), Ax.h0, []⟩), (11, .call ⟨0, [], (V8 24 c2_), (R8 24 c2_), []⟩), (12, .val (.bool false)), (16, .val (.bool false)), (21, .val (.bool false)), (25, .call ⟨0, [], (V9  c6_), (R9  c6_), []⟩), (26, .val (.bool true))]) (L := lT []) (wk := ⟨[6], [], 0, 0⟩)
    (ps := [Gv P (.func 7) [] Ax.h0 (Value.bool true) Ax.h0,
    Gv P (.func 8) (A8 24) (H8 24) (V8 24 c2_) (R8 24 c2_),
    (Value.bool (!c2_)) = (Value.bool false),
    (Value.bool (decide ((((x).size : Nat) : Int) > (60 : Int)))) = (Value.bool false),
    (Value.bool ((((x).size : Nat) : Int) == (0 : Int))) = (Value.bool false),
    Gv P (.func 9) A9 H9 (V9  c6_) (R9  c6_),
    (Value.bool (c6_ != (0 : Int))) = (Value.bool true)]) (by kernel_rfl) ⟨(m7_ok n () hc1), (m8_ok n 24 c2_ hc2), (vBn hc3), (vbF hc4), (veF hc5), (m9_ok n c6_ hc6), (vnT hc7), trivial⟩
set_option maxRecDepth 100000 in
theorem p6_5 (n : Nat) (x : ByteArray) (a : Int) (hc1 : m7 n = some ()) (c2_ : Bool) (hc2 : m8 n 24 = some c2_) (hc3 : ¬ (c2_ = true)) : Gv P (.func 6) (A6 x a) (H6 x a) (V6 x a true) (R6 x a true) :=
  runF_ok hm (A := aT [(5, .call ⟨0, [], (Value.bool true), Ax.h0, []⟩), (11, .call ⟨0, [], (V8 24 c2_), (R8 24 c2_), []⟩), (12, .val (.bool true))]) (L := lT []) (wk := ⟨[6], [], 0, 0⟩)
    (ps := [Gv P (.func 7) [] Ax.h0 (Value.bool true) Ax.h0,
    Gv P (.func 8) (A8 24) (H8 24) (V8 24 c2_) (R8 24 c2_),
    (Value.bool (!c2_)) = (Value.bool true)]) (by kernel_rfl) ⟨(m7_ok n () hc1), (m8_ok n 24 c2_ hc2), (vBn (Bool.eq_false_iff.2 hc3)), trivial⟩
theorem m6_ok (n : Nat) (x : ByteArray) (a : Int) (r : Bool) (h : m6 n x a = some r) : Gv P (.func 6) (A6 x a) (H6 x a) (V6 x a r) (R6 x a r) := by
  unfold m6 at h
  obtain ⟨_, hc1, h⟩ := Option.bind_eq_some_iff.1 h
  obtain ⟨c2_, hc2, h⟩ := Option.bind_eq_some_iff.1 h
  by_cases hc3 : c2_ = true
  · rw [if_pos hc3] at h
    by_cases hc4 : (((x).size : Nat) : Int) > (60 : Int)
    · rw [if_pos hc4] at h
      obtain rfl := Option.some.inj h; exact p6_0 n x a hc1 c2_ hc2 hc3 hc4
    · rw [if_neg hc4] at h
      by_cases hc5 : (((x).size : Nat) : Int) = (0 : Int)
      · rw [if_pos hc5] at h
        obtain rfl := Option.some.inj h; exact p6_1 n x a hc1 c2_ hc2 hc3 hc4 hc5
      · rw [if_neg hc5] at h
        obtain ⟨c6_, hc6, h⟩ := Option.bind_eq_some_iff.1 h
        by_cases hc7 : c6_ = (0 : Int)
        · rw [if_pos hc7] at h
          obtain ⟨c8_, hc8, h⟩ := Option.bind_eq_some_iff.1 h
          cases c8_ with
          | nil =>
            dsimp only at h
            cases h
          | cons c8_a c8_t =>
            dsimp only at h
            by_cases hc9 : ((((c8_a :: c8_t)).length : Nat) : Int) = (0 : Int)
            · rw [if_pos hc9] at h
              cases h
            · rw [if_neg hc9] at h
              obtain ⟨c10_, hc10, h⟩ := Option.bind_eq_some_iff.1 h
              by_cases hc11 : 0 ≤ c10_ ∧ c10_ < ((((c8_a :: c8_t)).length : Nat) : Int)
              · rw [if_pos hc11] at h
                by_cases hc12 : ((((c8_a :: c8_t)).getD (c10_).toNat (0, 0, 0, 0)).2.1) < (0 : Int)
                · rw [if_pos hc12] at h
                  cases h
                · rw [if_neg hc12] at h
                  by_cases hc13 : ((((c8_a :: c8_t)).getD (c10_).toNat (0, 0, 0, 0)).2.1) > (((x).size : Nat) : Int)
                  · rw [if_pos hc13] at h
                    cases h
                  · rw [if_neg hc13] at h
                    by_cases hc14 : 0 ≤ ((((c8_a :: c8_t)).getD (c10_).toNat (0, 0, 0, 0)).2.1) ∧ ((((c8_a :: c8_t)).getD (c10_).toNat (0, 0, 0, 0)).2.1) ≤ (((x).size : Nat) : Int)
                    · rw [if_pos hc14] at h
                      obtain ⟨c15_, hc15, h⟩ := Option.bind_eq_some_iff.1 h
                      cases c15_ with
                      | nil =>
                        dsimp only at h
                        obtain ⟨_, hc16, h⟩ := Option.bind_eq_some_iff.1 h
                        by_cases hc17 : 0 ≤ c10_ ∧ c10_ ≤ ((((c8_a :: c8_t)).length : Nat) : Int)
                        · rw [if_pos hc17] at h
                          obtain ⟨c18_, hc18, h⟩ := Option.bind_eq_some_iff.1 h
                          obtain rfl := Option.some.inj h; exact p6_2 n x a hc1 c2_ hc2 hc3 hc4 hc5 c6_ hc6 hc7 c8_a c8_t hc8 hc9 c10_ hc10 hc11 hc12 hc13 hc14 hc15 hc16 hc17 c18_ hc18
                        · rw [if_neg hc17] at h; cases h
                      | cons c15_a c15_t =>
                        dsimp only at h
                        obtain ⟨c16_, hc16, h⟩ := Option.bind_eq_some_iff.1 h
                        by_cases hc17 : 0 ≤ c10_ ∧ c10_ ≤ ((((c8_a :: c8_t)).length : Nat) : Int)
                        · rw [if_pos hc17] at h
                          obtain ⟨c18_, hc18, h⟩ := Option.bind_eq_some_iff.1 h
                          obtain rfl := Option.some.inj h; exact p6_3 n x a hc1 c2_ hc2 hc3 hc4 hc5 c6_ hc6 hc7 c8_a c8_t hc8 hc9 c10_ hc10 hc11 hc12 hc13 hc14 c15_a c15_t hc15 c16_ hc16 hc17 c18_ hc18
                        · rw [if_neg hc17] at h; cases h
                    · rw [if_neg hc14] at h; cases h
              · rw [if_neg hc11] at h; cases h
        · rw [if_neg hc7] at h
          obtain rfl := Option.some.inj h; exact p6_4 n x a hc1 c2_ hc2 hc3 hc4 hc5 c6_ hc6 hc7
  · rw [if_neg hc3] at h
    obtain rfl := Option.some.inj h; exact p6_5 n x a hc1 c2_ hc2 hc3

end Go.Proofs.Ytmnjfnlpekojiaa.munchw
