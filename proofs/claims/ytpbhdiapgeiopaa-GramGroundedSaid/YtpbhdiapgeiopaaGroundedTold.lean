/-
  What functions do, told by pure functions. No condition.
-/
import Derived.Test.YtpbhdiapgeiopaaGramBTold
set_option linter.unusedSimpArgs false
set_option linter.unusedVariables false
set_option linter.unusedSectionVars false
set_option linter.unnecessarySimpa false
namespace Go.Proofs.Ytpbhdiapgeiopaa.gramw
open Go Go.Proofs.Ytpbhdiapgeiopaa Ax
variable [Args]
noncomputable def S_viewportkitSamebool_1 (x1_0 : List (Bool)) (x1_1 : List (Bool)) (x1_2 : Nat) (x1_3 : Nat) (st : Int) : XSt := match st with
  | x1_4 => (sT 26 [(0, (Value.slice (some ⟨0, 0, none⟩) x1_2 x1_2)), (1, (Value.slice (some ⟨1, 0, none⟩) x1_3 x1_3)), (5, (Value.int .i64 x1_4))], [], ⟨sB [(0, (some (.cells (layT (rows rw_b x1_0)) 4))), (1, (some (.cells (layT (rows rw_b x1_1)) 4)))], 2, 2⟩)
noncomputable def X_viewportkitSamebool_1 (x1_0 : List (Bool)) (x1_1 : List (Bool)) (x1_2 : Nat) (x1_3 : Nat) (r : (Unit) ⊕ (Unit)) : Ex × XSt := match r with
  | .inl _ => (.ret, (sT 26 [(4, (Value.bool false))], [], ⟨sB [(0, (some (.cells (layT (rows rw_b x1_0)) 4))), (1, (some (.cells (layT (rows rw_b x1_1)) 4)))], 2, 2⟩))
  | .inr _ => (.exit 0, (sT 26 [], [], ⟨sB [(0, (some (.cells (layT (rows rw_b x1_0)) 4))), (1, (some (.cells (layT (rows rw_b x1_1)) 4)))], 2, 2⟩))
def B_viewportkitSamebool_1 (n : Nat) (x1_0 : List (Bool)) (x1_1 : List (Bool)) (x1_2 : Nat) (x1_3 : Nat) (st : Int) : Option ((Int) ⊕ ((Unit) ⊕ (Unit))) := match st with
  | x1_4 =>
    if x1_4 < ((x1_2 : Nat) : Int) then
      if 0 ≤ x1_4 ∧ x1_4 < ((x1_2 : Nat) : Int) then
        if (x1_4).toNat < (x1_0).length then
          if 0 ≤ x1_4 ∧ x1_4 < ((x1_3 : Nat) : Int) then
            if (x1_4).toNat < (x1_1).length then
              if ((x1_0).getD (x1_4).toNat (false)) = true then
                if ((x1_1).getD (x1_4).toNat (false)) = true then
                  some (.inl (w64 (x1_4 + (1 : Int))))
                else
                  some (.inr (.inl ()))
              else
                if ((x1_1).getD (x1_4).toNat (false)) = true then
                  some (.inr (.inl ()))
                else
                  some (.inl (w64 (x1_4 + (1 : Int))))
            else none
          else none
        else none
      else none
    else
      some (.inr (.inr ()))
def m_viewportkitSamebool_1 (n : Nat) (x1_0 : List (Bool)) (x1_1 : List (Bool)) (x1_2 : Nat) (x1_3 : Nat) (st : Int) : Option ((Unit) ⊕ (Unit)) := iterM (B_viewportkitSamebool_1 n x1_0 x1_1 x1_2 x1_3) n st
set_option maxRecDepth 100000 in
theorem q_viewportkitSamebool_1_0 (n : Nat) (x1_0 : List (Bool)) (x1_1 : List (Bool)) (x1_2 : Nat) (x1_3 : Nat) (x1_4 : Int) (hy1_1 : x1_4 < ((x1_2 : Nat) : Int)) (hy1_2 : 0 ≤ x1_4 ∧ x1_4 < ((x1_2 : Nat) : Int)) (hy1_3 : (x1_4).toNat < (x1_0).length) (hy1_4 : 0 ≤ x1_4 ∧ x1_4 < ((x1_3 : Nat) : Int)) (hy1_5 : (x1_4).toNat < (x1_1).length) (hy1_6 : ((x1_0).getD (x1_4).toNat (false)) = true) (hy1_7 : ((x1_1).getD (x1_4).toNat (false)) = true) : CG P none (fnN P 19) 2 (codeOf P 19 [false, false, true, false, true, true]) (S_viewportkitSamebool_1 x1_0 x1_1 x1_2 x1_3 x1_4) (.normal, S_viewportkitSamebool_1 x1_0 x1_1 x1_2 x1_3 (w64 (x1_4 + (1 : Int)))) :=
  runC_ok hm (A := aT [(5, .val (.bool true)), (12, .pur (Value.pointer (some ⟨0, ((x1_4).toNat * 1), none⟩))), (13, .ld (Value.bool ((x1_0).getD (x1_4).toNat (false)))), (16, .pur (Value.pointer (some ⟨1, ((x1_4).toNat * 1), none⟩))), (17, .ld (Value.bool ((x1_1).getD (x1_4).toNat (false)))), (18, .val (.bool false))]) (L := lT []) (wk := ⟨[0, 1, 5], [(0, 0, true), (1, 1, true)], 2, 2⟩)
    (ps := [(Value.bool (decide (x1_4 < ((x1_2 : Nat) : Int)))) = (Value.bool true),
    opIndexAddr P 35 (Value.slice (some ⟨0, 0, none⟩) x1_2 x1_2) (Value.int .i64 x1_4) Ax.h0 = some ((Value.pointer (some ⟨0, ((x1_4).toNat * 1), none⟩)), Ax.h0),
    (layT (rows rw_b x1_0)).get ((x1_4).toNat * 1) = some (Value.bool ((x1_0).getD (x1_4).toNat (false))),
    opIndexAddr P 35 (Value.slice (some ⟨1, 0, none⟩) x1_3 x1_3) (Value.int .i64 x1_4) Ax.h0 = some ((Value.pointer (some ⟨1, ((x1_4).toNat * 1), none⟩)), Ax.h0),
    (layT (rows rw_b x1_1)).get ((x1_4).toNat * 1) = some (Value.bool ((x1_1).getD (x1_4).toNat (false))),
    (Value.bool (!(((x1_0).getD (x1_4).toNat (false)) == ((x1_1).getD (x1_4).toNat (false))))) = (Value.bool false),
    FlatB (.cells (layT (rows rw_b x1_0)) 4),
    FlatB (.cells (layT (rows rw_b x1_1)) 4)]) (by kernel_rfl) ⟨(vbT hy1_1), (ixS (e := 4) (by kernel_rfl) (by kernel_rfl) (hy1_2).1 (hy1_2).2), (rows_ld rwf_b (false) (i := (x1_4).toNat) (j := 0) ((x1_4).toNat * 1) rfl (hy1_3) (by decide) rfl), (ixS (e := 4) (by kernel_rfl) (by kernel_rfl) (hy1_4).1 (hy1_4).2), (rows_ld rwf_b (false) (i := (x1_4).toNat) (j := 0) ((x1_4).toNat * 1) rfl (hy1_5) (by decide) rfl), (vNeB hy1_6 hy1_7), (rows_flat rwf_b _ _), (rows_flat rwf_b _ _), trivial⟩
set_option maxRecDepth 100000 in
theorem q_viewportkitSamebool_1_1 (n : Nat) (x1_0 : List (Bool)) (x1_1 : List (Bool)) (x1_2 : Nat) (x1_3 : Nat) (x1_4 : Int) (hy1_1 : x1_4 < ((x1_2 : Nat) : Int)) (hy1_2 : 0 ≤ x1_4 ∧ x1_4 < ((x1_2 : Nat) : Int)) (hy1_3 : (x1_4).toNat < (x1_0).length) (hy1_4 : 0 ≤ x1_4 ∧ x1_4 < ((x1_3 : Nat) : Int)) (hy1_5 : (x1_4).toNat < (x1_1).length) (hy1_6 : ((x1_0).getD (x1_4).toNat (false)) = true) (hy1_7 : ¬ (((x1_1).getD (x1_4).toNat (false)) = true)) : CG P none (fnN P 19) 2 (codeOf P 19 [false, false, true, false, true, true]) (S_viewportkitSamebool_1 x1_0 x1_1 x1_2 x1_3 x1_4) (X_viewportkitSamebool_1 x1_0 x1_1 x1_2 x1_3 (.inl ())) :=
  runC_ok hm (A := aT [(5, .val (.bool true)), (12, .pur (Value.pointer (some ⟨0, ((x1_4).toNat * 1), none⟩))), (13, .ld (Value.bool ((x1_0).getD (x1_4).toNat (false)))), (16, .pur (Value.pointer (some ⟨1, ((x1_4).toNat * 1), none⟩))), (17, .ld (Value.bool ((x1_1).getD (x1_4).toNat (false)))), (18, .val (.bool true))]) (L := lT []) (wk := ⟨[4], [(0, 0, true), (1, 1, true)], 2, 2⟩)
    (ps := [(Value.bool (decide (x1_4 < ((x1_2 : Nat) : Int)))) = (Value.bool true),
    opIndexAddr P 35 (Value.slice (some ⟨0, 0, none⟩) x1_2 x1_2) (Value.int .i64 x1_4) Ax.h0 = some ((Value.pointer (some ⟨0, ((x1_4).toNat * 1), none⟩)), Ax.h0),
    (layT (rows rw_b x1_0)).get ((x1_4).toNat * 1) = some (Value.bool ((x1_0).getD (x1_4).toNat (false))),
    opIndexAddr P 35 (Value.slice (some ⟨1, 0, none⟩) x1_3 x1_3) (Value.int .i64 x1_4) Ax.h0 = some ((Value.pointer (some ⟨1, ((x1_4).toNat * 1), none⟩)), Ax.h0),
    (layT (rows rw_b x1_1)).get ((x1_4).toNat * 1) = some (Value.bool ((x1_1).getD (x1_4).toNat (false))),
    (Value.bool (!(((x1_0).getD (x1_4).toNat (false)) == ((x1_1).getD (x1_4).toNat (false))))) = (Value.bool true),
    FlatB (.cells (layT (rows rw_b x1_0)) 4),
    FlatB (.cells (layT (rows rw_b x1_1)) 4)]) (by kernel_rfl) ⟨(vbT hy1_1), (ixS (e := 4) (by kernel_rfl) (by kernel_rfl) (hy1_2).1 (hy1_2).2), (rows_ld rwf_b (false) (i := (x1_4).toNat) (j := 0) ((x1_4).toNat * 1) rfl (hy1_3) (by decide) rfl), (ixS (e := 4) (by kernel_rfl) (by kernel_rfl) (hy1_4).1 (hy1_4).2), (rows_ld rwf_b (false) (i := (x1_4).toNat) (j := 0) ((x1_4).toNat * 1) rfl (hy1_5) (by decide) rfl), (vNeB hy1_6 (Bool.eq_false_iff.2 hy1_7)), (rows_flat rwf_b _ _), (rows_flat rwf_b _ _), trivial⟩
set_option maxRecDepth 100000 in
theorem q_viewportkitSamebool_1_2 (n : Nat) (x1_0 : List (Bool)) (x1_1 : List (Bool)) (x1_2 : Nat) (x1_3 : Nat) (x1_4 : Int) (hy1_1 : x1_4 < ((x1_2 : Nat) : Int)) (hy1_2 : 0 ≤ x1_4 ∧ x1_4 < ((x1_2 : Nat) : Int)) (hy1_3 : (x1_4).toNat < (x1_0).length) (hy1_4 : 0 ≤ x1_4 ∧ x1_4 < ((x1_3 : Nat) : Int)) (hy1_5 : (x1_4).toNat < (x1_1).length) (hy1_6 : ¬ (((x1_0).getD (x1_4).toNat (false)) = true)) (hy1_7 : ((x1_1).getD (x1_4).toNat (false)) = true) : CG P none (fnN P 19) 2 (codeOf P 19 [false, false, true, false, true, true]) (S_viewportkitSamebool_1 x1_0 x1_1 x1_2 x1_3 x1_4) (X_viewportkitSamebool_1 x1_0 x1_1 x1_2 x1_3 (.inl ())) :=
  runC_ok hm (A := aT [(5, .val (.bool true)), (12, .pur (Value.pointer (some ⟨0, ((x1_4).toNat * 1), none⟩))), (13, .ld (Value.bool ((x1_0).getD (x1_4).toNat (false)))), (16, .pur (Value.pointer (some ⟨1, ((x1_4).toNat * 1), none⟩))), (17, .ld (Value.bool ((x1_1).getD (x1_4).toNat (false)))), (18, .val (.bool true))]) (L := lT []) (wk := ⟨[4], [(0, 0, true), (1, 1, true)], 2, 2⟩)
    (ps := [(Value.bool (decide (x1_4 < ((x1_2 : Nat) : Int)))) = (Value.bool true),
    opIndexAddr P 35 (Value.slice (some ⟨0, 0, none⟩) x1_2 x1_2) (Value.int .i64 x1_4) Ax.h0 = some ((Value.pointer (some ⟨0, ((x1_4).toNat * 1), none⟩)), Ax.h0),
    (layT (rows rw_b x1_0)).get ((x1_4).toNat * 1) = some (Value.bool ((x1_0).getD (x1_4).toNat (false))),
    opIndexAddr P 35 (Value.slice (some ⟨1, 0, none⟩) x1_3 x1_3) (Value.int .i64 x1_4) Ax.h0 = some ((Value.pointer (some ⟨1, ((x1_4).toNat * 1), none⟩)), Ax.h0),
    (layT (rows rw_b x1_1)).get ((x1_4).toNat * 1) = some (Value.bool ((x1_1).getD (x1_4).toNat (false))),
    (Value.bool (!(((x1_0).getD (x1_4).toNat (false)) == ((x1_1).getD (x1_4).toNat (false))))) = (Value.bool true),
    FlatB (.cells (layT (rows rw_b x1_0)) 4),
    FlatB (.cells (layT (rows rw_b x1_1)) 4)]) (by kernel_rfl) ⟨(vbT hy1_1), (ixS (e := 4) (by kernel_rfl) (by kernel_rfl) (hy1_2).1 (hy1_2).2), (rows_ld rwf_b (false) (i := (x1_4).toNat) (j := 0) ((x1_4).toNat * 1) rfl (hy1_3) (by decide) rfl), (ixS (e := 4) (by kernel_rfl) (by kernel_rfl) (hy1_4).1 (hy1_4).2), (rows_ld rwf_b (false) (i := (x1_4).toNat) (j := 0) ((x1_4).toNat * 1) rfl (hy1_5) (by decide) rfl), (vNeB (Bool.eq_false_iff.2 hy1_6) hy1_7), (rows_flat rwf_b _ _), (rows_flat rwf_b _ _), trivial⟩
set_option maxRecDepth 100000 in
theorem q_viewportkitSamebool_1_3 (n : Nat) (x1_0 : List (Bool)) (x1_1 : List (Bool)) (x1_2 : Nat) (x1_3 : Nat) (x1_4 : Int) (hy1_1 : x1_4 < ((x1_2 : Nat) : Int)) (hy1_2 : 0 ≤ x1_4 ∧ x1_4 < ((x1_2 : Nat) : Int)) (hy1_3 : (x1_4).toNat < (x1_0).length) (hy1_4 : 0 ≤ x1_4 ∧ x1_4 < ((x1_3 : Nat) : Int)) (hy1_5 : (x1_4).toNat < (x1_1).length) (hy1_6 : ¬ (((x1_0).getD (x1_4).toNat (false)) = true)) (hy1_7 : ¬ (((x1_1).getD (x1_4).toNat (false)) = true)) : CG P none (fnN P 19) 2 (codeOf P 19 [false, false, true, false, true, true]) (S_viewportkitSamebool_1 x1_0 x1_1 x1_2 x1_3 x1_4) (.normal, S_viewportkitSamebool_1 x1_0 x1_1 x1_2 x1_3 (w64 (x1_4 + (1 : Int)))) :=
  runC_ok hm (A := aT [(5, .val (.bool true)), (12, .pur (Value.pointer (some ⟨0, ((x1_4).toNat * 1), none⟩))), (13, .ld (Value.bool ((x1_0).getD (x1_4).toNat (false)))), (16, .pur (Value.pointer (some ⟨1, ((x1_4).toNat * 1), none⟩))), (17, .ld (Value.bool ((x1_1).getD (x1_4).toNat (false)))), (18, .val (.bool false))]) (L := lT []) (wk := ⟨[0, 1, 5], [(0, 0, true), (1, 1, true)], 2, 2⟩)
    (ps := [(Value.bool (decide (x1_4 < ((x1_2 : Nat) : Int)))) = (Value.bool true),
    opIndexAddr P 35 (Value.slice (some ⟨0, 0, none⟩) x1_2 x1_2) (Value.int .i64 x1_4) Ax.h0 = some ((Value.pointer (some ⟨0, ((x1_4).toNat * 1), none⟩)), Ax.h0),
    (layT (rows rw_b x1_0)).get ((x1_4).toNat * 1) = some (Value.bool ((x1_0).getD (x1_4).toNat (false))),
    opIndexAddr P 35 (Value.slice (some ⟨1, 0, none⟩) x1_3 x1_3) (Value.int .i64 x1_4) Ax.h0 = some ((Value.pointer (some ⟨1, ((x1_4).toNat * 1), none⟩)), Ax.h0),
    (layT (rows rw_b x1_1)).get ((x1_4).toNat * 1) = some (Value.bool ((x1_1).getD (x1_4).toNat (false))),
    (Value.bool (!(((x1_0).getD (x1_4).toNat (false)) == ((x1_1).getD (x1_4).toNat (false))))) = (Value.bool false),
    FlatB (.cells (layT (rows rw_b x1_0)) 4),
    FlatB (.cells (layT (rows rw_b x1_1)) 4)]) (by kernel_rfl) ⟨(vbT hy1_1), (ixS (e := 4) (by kernel_rfl) (by kernel_rfl) (hy1_2).1 (hy1_2).2), (rows_ld rwf_b (false) (i := (x1_4).toNat) (j := 0) ((x1_4).toNat * 1) rfl (hy1_3) (by decide) rfl), (ixS (e := 4) (by kernel_rfl) (by kernel_rfl) (hy1_4).1 (hy1_4).2), (rows_ld rwf_b (false) (i := (x1_4).toNat) (j := 0) ((x1_4).toNat * 1) rfl (hy1_5) (by decide) rfl), (vNeB (Bool.eq_false_iff.2 hy1_6) (Bool.eq_false_iff.2 hy1_7)), (rows_flat rwf_b _ _), (rows_flat rwf_b _ _), trivial⟩
set_option maxRecDepth 100000 in
theorem q_viewportkitSamebool_1_4 (n : Nat) (x1_0 : List (Bool)) (x1_1 : List (Bool)) (x1_2 : Nat) (x1_3 : Nat) (x1_4 : Int) (hy1_1 : ¬ (x1_4 < ((x1_2 : Nat) : Int))) : CG P none (fnN P 19) 2 (codeOf P 19 [false, false, true, false, true, true]) (S_viewportkitSamebool_1 x1_0 x1_1 x1_2 x1_3 x1_4) (X_viewportkitSamebool_1 x1_0 x1_1 x1_2 x1_3 (.inr ())) :=
  runC_ok hm (A := aT [(5, .val (.bool false))]) (L := lT []) (wk := ⟨[], [(0, 0, true), (1, 1, true)], 2, 2⟩)
    (ps := [(Value.bool (decide (x1_4 < ((x1_2 : Nat) : Int)))) = (Value.bool false),
    FlatB (.cells (layT (rows rw_b x1_0)) 4),
    FlatB (.cells (layT (rows rw_b x1_1)) 4)]) (by kernel_rfl) ⟨(vbF hy1_1), (rows_flat rwf_b _ _), (rows_flat rwf_b _ _), trivial⟩
theorem m_viewportkitSamebool_1_ok (n : Nat) (x1_0 : List (Bool)) (x1_1 : List (Bool)) (x1_2 : Nat) (x1_3 : Nat) (st : Int) (r : (Unit) ⊕ (Unit)) (h : m_viewportkitSamebool_1 n x1_0 x1_1 x1_2 x1_3 st = some r) : CG P none (fnN P 19) 2 (codeOf P 19 [false, true, false, true, true]) (S_viewportkitSamebool_1 x1_0 x1_1 x1_2 x1_3 st) (X_viewportkitSamebool_1 x1_0 x1_1 x1_2 x1_3 r) :=
  CG.iter (b := codeOf P 19 [false, false, true, false, true, true]) (by kernel_rfl) (body := B_viewportkitSamebool_1 n x1_0 x1_1 x1_2 x1_3) (S := S_viewportkitSamebool_1 x1_0 x1_1 x1_2 x1_3) (X := X_viewportkitSamebool_1 x1_0 x1_1 x1_2 x1_3)
    (fun x1_4 s' h => by
    unfold B_viewportkitSamebool_1 at h
    dsimp only at h
    by_cases hy1_1 : x1_4 < ((x1_2 : Nat) : Int)
    · rw [if_pos hy1_1] at h
      by_cases hy1_2 : 0 ≤ x1_4 ∧ x1_4 < ((x1_2 : Nat) : Int)
      · rw [if_pos hy1_2] at h
        by_cases hy1_3 : (x1_4).toNat < (x1_0).length
        · rw [if_pos hy1_3] at h
          by_cases hy1_4 : 0 ≤ x1_4 ∧ x1_4 < ((x1_3 : Nat) : Int)
          · rw [if_pos hy1_4] at h
            by_cases hy1_5 : (x1_4).toNat < (x1_1).length
            · rw [if_pos hy1_5] at h
              by_cases hy1_6 : ((x1_0).getD (x1_4).toNat (false)) = true
              · rw [if_pos hy1_6] at h
                by_cases hy1_7 : ((x1_1).getD (x1_4).toNat (false)) = true
                · rw [if_pos hy1_7] at h
                  obtain rfl := Sum.inl.inj (Option.some.inj h); exact q_viewportkitSamebool_1_0 n x1_0 x1_1 x1_2 x1_3 x1_4 hy1_1 hy1_2 hy1_3 hy1_4 hy1_5 hy1_6 hy1_7
                · rw [if_neg hy1_7] at h
                  cases h
              · rw [if_neg hy1_6] at h
                by_cases hy1_7 : ((x1_1).getD (x1_4).toNat (false)) = true
                · rw [if_pos hy1_7] at h
                  cases h
                · rw [if_neg hy1_7] at h
                  obtain rfl := Sum.inl.inj (Option.some.inj h); exact q_viewportkitSamebool_1_3 n x1_0 x1_1 x1_2 x1_3 x1_4 hy1_1 hy1_2 hy1_3 hy1_4 hy1_5 hy1_6 hy1_7
            · rw [if_neg hy1_5] at h; cases h
          · rw [if_neg hy1_4] at h; cases h
        · rw [if_neg hy1_3] at h; cases h
      · rw [if_neg hy1_2] at h; cases h
    · rw [if_neg hy1_1] at h
      cases h)
    (fun x1_4 r h => by
    unfold B_viewportkitSamebool_1 at h
    dsimp only at h
    by_cases hy1_1 : x1_4 < ((x1_2 : Nat) : Int)
    · rw [if_pos hy1_1] at h
      by_cases hy1_2 : 0 ≤ x1_4 ∧ x1_4 < ((x1_2 : Nat) : Int)
      · rw [if_pos hy1_2] at h
        by_cases hy1_3 : (x1_4).toNat < (x1_0).length
        · rw [if_pos hy1_3] at h
          by_cases hy1_4 : 0 ≤ x1_4 ∧ x1_4 < ((x1_3 : Nat) : Int)
          · rw [if_pos hy1_4] at h
            by_cases hy1_5 : (x1_4).toNat < (x1_1).length
            · rw [if_pos hy1_5] at h
              by_cases hy1_6 : ((x1_0).getD (x1_4).toNat (false)) = true
              · rw [if_pos hy1_6] at h
                by_cases hy1_7 : ((x1_1).getD (x1_4).toNat (false)) = true
                · rw [if_pos hy1_7] at h
                  cases h
                · rw [if_neg hy1_7] at h
                  obtain rfl := Sum.inr.inj (Option.some.inj h); exact q_viewportkitSamebool_1_1 n x1_0 x1_1 x1_2 x1_3 x1_4 hy1_1 hy1_2 hy1_3 hy1_4 hy1_5 hy1_6 hy1_7
              · rw [if_neg hy1_6] at h
                by_cases hy1_7 : ((x1_1).getD (x1_4).toNat (false)) = true
                · rw [if_pos hy1_7] at h
                  obtain rfl := Sum.inr.inj (Option.some.inj h); exact q_viewportkitSamebool_1_2 n x1_0 x1_1 x1_2 x1_3 x1_4 hy1_1 hy1_2 hy1_3 hy1_4 hy1_5 hy1_6 hy1_7
                · rw [if_neg hy1_7] at h
                  cases h
            · rw [if_neg hy1_5] at h; cases h
          · rw [if_neg hy1_4] at h; cases h
        · rw [if_neg hy1_3] at h; cases h
      · rw [if_neg hy1_2] at h; cases h
    · rw [if_neg hy1_1] at h
      obtain rfl := Sum.inr.inj (Option.some.inj h); exact q_viewportkitSamebool_1_4 n x1_0 x1_1 x1_2 x1_3 x1_4 hy1_1)
    (fun r => by intro hx; rcases r with _ | _ <;> cases hx) h
noncomputable def A_viewportkitSamebool (sn : Nat) (sm : Nat) (L : List (Bool)) (K : List (Bool)) : List Value := [(Value.slice (some ⟨0, 0, none⟩) sn sn), (Value.slice (some ⟨1, 0, none⟩) sm sm)]
noncomputable def H_viewportkitSamebool (sn : Nat) (sm : Nat) (L : List (Bool)) (K : List (Bool)) : AH := ⟨sB [(0, (some (.cells (layT (rows rw_b L)) 4))), (1, (some (.cells (layT (rows rw_b K)) 4)))], 2, 2⟩
noncomputable def V_viewportkitSamebool (sn : Nat) (sm : Nat) (L : List (Bool)) (K : List (Bool)) (r : Bool) : Value := match r with
  | o0 => (Value.bool o0)
noncomputable def R_viewportkitSamebool (sn : Nat) (sm : Nat) (L : List (Bool)) (K : List (Bool)) (r : Bool) : AH := match r with
  | o0 => ⟨sB [], 2, 2⟩
def m_viewportkitSamebool (n : Nat) (sn : Nat) (sm : Nat) (L : List (Bool)) (K : List (Bool)) : Option (Bool) :=
  if ((sn : Nat) : Int) = ((sm : Nat) : Int) then
    match m_viewportkitSamebool_1 n L K sn sm 0 with
    | none => none
    | some (.inl _) =>
      some false
    | some (.inr _) =>
      some true
  else
    some false
set_option maxRecDepth 100000 in
theorem p_viewportkitSamebool_0 (n : Nat) (sn : Nat) (sm : Nat) (L : List (Bool)) (K : List (Bool)) (hc1 : ((sn : Nat) : Int) = ((sm : Nat) : Int)) (hc2 : m_viewportkitSamebool_1 n L K sn sm 0 = some (.inl ())) : Gv P (.func 19) (A_viewportkitSamebool sn sm L K) (H_viewportkitSamebool sn sm L K) (V_viewportkitSamebool sn sm L K false) (R_viewportkitSamebool sn sm L K false) :=
  runF_ok hm (A := aT [(8, .val (.bool false))]) (L := lT [(14, ⟨⟨[0, 1, 5], [(0, 0, true), (1, 1, true)], 2, 2⟩, (X_viewportkitSamebool_1 L K sn sm (.inl ())).1, (X_viewportkitSamebool_1 L K sn sm (.inl ())).2⟩)]) (wk := ⟨[4], [], 2, 2⟩)
    (ps := [(Value.bool (((sn : Nat) : Int) != ((sm : Nat) : Int))) = (Value.bool false),
    CG P none (fnN P 19) 2 (codeOf P 19 [false, true, false, true, true]) (S_viewportkitSamebool_1 L K sn sm 0) (X_viewportkitSamebool_1 L K sn sm (.inl ())),
    FlatB (.cells (layT (rows rw_b L)) 4),
    FlatB (.cells (layT (rows rw_b K)) 4)]) (by kernel_rfl) ⟨(vnF hc1), (m_viewportkitSamebool_1_ok n L K sn sm 0 (.inl ()) hc2), (rows_flat rwf_b _ _), (rows_flat rwf_b _ _), trivial⟩
set_option maxRecDepth 100000 in
theorem p_viewportkitSamebool_1 (n : Nat) (sn : Nat) (sm : Nat) (L : List (Bool)) (K : List (Bool)) (hc1 : ((sn : Nat) : Int) = ((sm : Nat) : Int)) (hc2 : m_viewportkitSamebool_1 n L K sn sm 0 = some (.inr ())) : Gv P (.func 19) (A_viewportkitSamebool sn sm L K) (H_viewportkitSamebool sn sm L K) (V_viewportkitSamebool sn sm L K true) (R_viewportkitSamebool sn sm L K true) :=
  runF_ok hm (A := aT [(8, .val (.bool false))]) (L := lT [(14, ⟨⟨[0, 1, 5], [(0, 0, true), (1, 1, true)], 2, 2⟩, (X_viewportkitSamebool_1 L K sn sm (.inr ())).1, (X_viewportkitSamebool_1 L K sn sm (.inr ())).2⟩)]) (wk := ⟨[4], [], 2, 2⟩)
    (ps := [(Value.bool (((sn : Nat) : Int) != ((sm : Nat) : Int))) = (Value.bool false),
    CG P none (fnN P 19) 2 (codeOf P 19 [false, true, false, true, true]) (S_viewportkitSamebool_1 L K sn sm 0) (X_viewportkitSamebool_1 L K sn sm (.inr ())),
    FlatB (.cells (layT (rows rw_b L)) 4),
    FlatB (.cells (layT (rows rw_b K)) 4)]) (by kernel_rfl) ⟨(vnF hc1), (m_viewportkitSamebool_1_ok n L K sn sm 0 (.inr ()) hc2), (rows_flat rwf_b _ _), (rows_flat rwf_b _ _), trivial⟩
set_option maxRecDepth 100000 in
theorem p_viewportkitSamebool_2 (n : Nat) (sn : Nat) (sm : Nat) (L : List (Bool)) (K : List (Bool)) (hc1 : ¬ (((sn : Nat) : Int) = ((sm : Nat) : Int))) : Gv P (.func 19) (A_viewportkitSamebool sn sm L K) (H_viewportkitSamebool sn sm L K) (V_viewportkitSamebool sn sm L K false) (R_viewportkitSamebool sn sm L K false) :=
  runF_ok hm (A := aT [(8, .val (.bool true))]) (L := lT []) (wk := ⟨[4], [], 2, 2⟩)
    (ps := [(Value.bool (((sn : Nat) : Int) != ((sm : Nat) : Int))) = (Value.bool true)]) (by kernel_rfl) ⟨(vnT hc1), trivial⟩
theorem m_viewportkitSamebool_ok (n : Nat) (sn : Nat) (sm : Nat) (L : List (Bool)) (K : List (Bool)) (r : Bool) (h : m_viewportkitSamebool n sn sm L K = some r) : Gv P (.func 19) (A_viewportkitSamebool sn sm L K) (H_viewportkitSamebool sn sm L K) (V_viewportkitSamebool sn sm L K r) (R_viewportkitSamebool sn sm L K r) := by
  unfold m_viewportkitSamebool at h
  by_cases hc1 : ((sn : Nat) : Int) = ((sm : Nat) : Int)
  · rw [if_pos hc1] at h
    rcases hc2 : m_viewportkitSamebool_1 n L K sn sm 0 with _ | (⟨⟩ | ⟨⟩)
    · rw [hc2] at h; cases h
    · rw [hc2] at h
      dsimp only at h
      obtain rfl := Option.some.inj h; exact p_viewportkitSamebool_0 n sn sm L K hc1 hc2
    · rw [hc2] at h
      dsimp only at h
      obtain rfl := Option.some.inj h; exact p_viewportkitSamebool_1 n sn sm L K hc1 hc2
  · rw [if_neg hc1] at h
    obtain rfl := Option.some.inj h; exact p_viewportkitSamebool_2 n sn sm L K hc1

noncomputable def S_viewportlaw11GramGrounded_3 (x3_0 : Int) (x3_1 : Int) (x3_2 : Int) (x3_3 : List (Bool)) (x3_4 : Nat) (x3_5 : List (Bool)) (x3_7 : Int) (x3_8 : Int) (x3_9 : Int) (x3_10 : NL) (st : List (Bool) × Int) : XSt := match st with
  | (x3_6, x3_11) => (sT 129 [(1, (Value.pointer (some ⟨0, 0, none⟩))), (3, (Value.slice (some ⟨1, 0, none⟩) x3_4 x3_4)), (4, (Value.slice (some ⟨2, 0, none⟩) x3_4 x3_4)), (5, (Value.slice (some ⟨3, 0, none⟩) x3_4 x3_4)), (6, (Value.int .i64 x3_7)), (7, (Value.int .i64 x3_8)), (8, (Value.pointer (some ⟨4, 0, none⟩))), (9, (Value.int .i64 x3_11))], [], ⟨sB [(0, (some (.cells (layT [(Value.int .i64 x3_0), (Value.int .i64 x3_1), (Value.int .i64 x3_2), (Value.slice (some ⟨0, 0, some 1⟩) (Args.G).length Args.cG)]) 24))), (1, (some (.cells (layT (rows rw_b x3_3)) 4))), (2, (some (.cells (layT (rows rw_b x3_5)) 4))), (3, (some (.cells (layT (rows rw_b x3_6)) 4))), (4, (some (.cells (layT [(Value.int .i64 x3_9), (nlV x3_10)]) 41)))], 5, 0⟩)
noncomputable def X_viewportlaw11GramGrounded_3 (x3_0 : Int) (x3_1 : Int) (x3_2 : Int) (x3_3 : List (Bool)) (x3_4 : Nat) (x3_5 : List (Bool)) (x3_7 : Int) (x3_8 : Int) (x3_9 : Int) (x3_10 : NL) (r : List (Bool)) : Ex × XSt := match r with
  | z3_0 => (.exit 4, (sT 129 [(1, (Value.pointer (some ⟨0, 0, none⟩))), (3, (Value.slice (some ⟨1, 0, none⟩) x3_4 x3_4)), (4, (Value.slice (some ⟨2, 0, none⟩) x3_4 x3_4)), (5, (Value.slice (some ⟨3, 0, none⟩) x3_4 x3_4)), (6, (Value.int .i64 x3_7)), (7, (Value.int .i64 x3_8))], [], ⟨sB [(0, (some (.cells (layT [(Value.int .i64 x3_0), (Value.int .i64 x3_1), (Value.int .i64 x3_2), (Value.slice (some ⟨0, 0, some 1⟩) (Args.G).length Args.cG)]) 24))), (1, (some (.cells (layT (rows rw_b x3_3)) 4))), (2, (some (.cells (layT (rows rw_b x3_5)) 4))), (3, (some (.cells (layT (rows rw_b z3_0)) 4)))], 4, 0⟩))
def B_viewportlaw11GramGrounded_3 (n : Nat) (x3_0 : Int) (x3_1 : Int) (x3_2 : Int) (x3_3 : List (Bool)) (x3_4 : Nat) (x3_5 : List (Bool)) (x3_7 : Int) (x3_8 : Int) (x3_9 : Int) (x3_10 : NL) (st : List (Bool) × Int) : Option ((List (Bool) × Int) ⊕ (List (Bool))) := match st with
  | (x3_6, x3_11) =>
    if x3_11 < (((x3_10).l.length : Nat) : Int) then
      if 0 ≤ x3_9 ∧ x3_9 < ((x3_4 : Nat) : Int) then
        if (x3_9).toNat < (x3_6).length then
          if ((x3_6).getD (x3_9).toNat (false)) = true then
            if 0 ≤ x3_11 ∧ x3_11 < (((x3_10).l.length : Nat) : Int) then
              if (x3_11).toNat < ((x3_10).l).length then
                if (((x3_10).l).getD (x3_11).toNat 0) ≥ x3_0 then
                  if 0 ≤ (w64 ((((x3_10).l).getD (x3_11).toNat 0) - x3_0)) ∧ (w64 ((((x3_10).l).getD (x3_11).toNat 0) - x3_0)) < ((x3_4 : Nat) : Int) then
                    if ((w64 ((((x3_10).l).getD (x3_11).toNat 0) - x3_0))).toNat < (x3_6).length then
                      some (.inl (((x3_6).set ((w64 ((((x3_10).l).getD (x3_11).toNat 0) - x3_0))).toNat true), (w64 (x3_11 + (1 : Int)))))
                    else none
                  else none
                else
                  some (.inl (x3_6, (w64 (x3_11 + (1 : Int)))))
              else none
            else none
          else
            some (.inr x3_6)
        else none
      else none
    else
      some (.inr x3_6)
def m_viewportlaw11GramGrounded_3 (n : Nat) (x3_0 : Int) (x3_1 : Int) (x3_2 : Int) (x3_3 : List (Bool)) (x3_4 : Nat) (x3_5 : List (Bool)) (x3_7 : Int) (x3_8 : Int) (x3_9 : Int) (x3_10 : NL) (st : List (Bool) × Int) : Option (List (Bool)) := iterM (B_viewportlaw11GramGrounded_3 n x3_0 x3_1 x3_2 x3_3 x3_4 x3_5 x3_7 x3_8 x3_9 x3_10) n st
set_option maxRecDepth 100000 in
theorem q_viewportlaw11GramGrounded_3_0 (n : Nat) (x3_0 : Int) (x3_1 : Int) (x3_2 : Int) (x3_3 : List (Bool)) (x3_4 : Nat) (x3_5 : List (Bool)) (x3_6 : List (Bool)) (x3_7 : Int) (x3_8 : Int) (x3_9 : Int) (x3_10 : NL) (x3_11 : Int) (hy3_1 : x3_11 < (((x3_10).l.length : Nat) : Int)) (hy3_2 : 0 ≤ x3_9 ∧ x3_9 < ((x3_4 : Nat) : Int)) (hy3_3 : (x3_9).toNat < (x3_6).length) (hy3_4 : ((x3_6).getD (x3_9).toNat (false)) = true) (hy3_5 : 0 ≤ x3_11 ∧ x3_11 < (((x3_10).l.length : Nat) : Int)) (hy3_6 : (x3_11).toNat < ((x3_10).l).length) (hy3_7 : (((x3_10).l).getD (x3_11).toNat 0) ≥ x3_0) (hy3_8 : 0 ≤ (w64 ((((x3_10).l).getD (x3_11).toNat 0) - x3_0)) ∧ (w64 ((((x3_10).l).getD (x3_11).toNat 0) - x3_0)) < ((x3_4 : Nat) : Int)) (hy3_9 : ((w64 ((((x3_10).l).getD (x3_11).toNat 0) - x3_0))).toNat < (x3_6).length) : CG P none (fnN P 5) 0 (codeOf P 5 [false, false, true, true, true, true, false, false, true, false, false, true, false, false, true, false, false, true, false, true, true, true, true, true]) (S_viewportlaw11GramGrounded_3 x3_0 x3_1 x3_2 x3_3 x3_4 x3_5 x3_7 x3_8 x3_9 x3_10 (x3_6, x3_11)) (.normal, S_viewportlaw11GramGrounded_3 x3_0 x3_1 x3_2 x3_3 x3_4 x3_5 x3_7 x3_8 x3_9 x3_10 (((x3_6).set ((w64 ((((x3_10).l).getD (x3_11).toNat 0) - x3_0))).toNat true), (w64 (x3_11 + (1 : Int))))) :=
  runC_ok hm (A := aT [(6, .val (.bool true)), (11, .pur (Value.pointer (some ⟨3, ((x3_9).toNat * 1), none⟩))), (12, .ld (Value.bool ((x3_6).getD (x3_9).toNat (false)))), (14, .val (.bool true)), (21, .pur (Value.pointer (some ⟨(Nat.add (x3_10).num 64), (x3_11).toNat, some 1⟩))), (22, .ld (Value.int .i64 (((x3_10).l).getD (x3_11).toNat 0))), (25, .val (.bool true)), (31, .pur (Value.pointer (some ⟨(Nat.add (x3_10).num 64), (x3_11).toNat, some 1⟩))), (32, .ld (Value.int .i64 (((x3_10).l).getD (x3_11).toNat 0))), (36, .pur (Value.pointer (some ⟨3, (((w64 ((((x3_10).l).getD (x3_11).toNat 0) - x3_0))).toNat * 1), none⟩))), (37, .sto (layT (rows rw_b ((x3_6).set ((w64 ((((x3_10).l).getD (x3_11).toNat 0) - x3_0))).toNat true))))]) (L := lT []) (wk := ⟨[1, 3, 4, 5, 6, 7, 8, 9], [(0, 0, false), (1, 1, true), (2, 2, true), (3, 3, true), (4, 4, false)], 5, 0⟩)
    (ps := [(Value.bool (decide (x3_11 < (((x3_10).l.length : Nat) : Int)))) = (Value.bool true),
    opIndexAddr P 35 (Value.slice (some ⟨3, 0, none⟩) x3_4 x3_4) (Value.int .i64 x3_9) Ax.h0 = some ((Value.pointer (some ⟨3, ((x3_9).toNat * 1), none⟩)), Ax.h0),
    (layT (rows rw_b x3_6)).get ((x3_9).toNat * 1) = some (Value.bool ((x3_6).getD (x3_9).toNat (false))),
    (Value.bool ((x3_6).getD (x3_9).toNat (false))) = (Value.bool true),
    opIndexAddr P 32 (nlV x3_10) (Value.int .i64 x3_11) Ax.h0 = some ((Value.pointer (some ⟨(Nat.add (x3_10).num 64), (x3_11).toNat, some 1⟩)), Ax.h0),
    loadG P 3 (Value.pointer (some ⟨(Nat.add (x3_10).num 64), (x3_11).toNat, some 1⟩)) Ax.h0 = some ((Value.int .i64 (((x3_10).l).getD (x3_11).toNat 0)), Ax.h0),
    (Value.bool (decide ((((x3_10).l).getD (x3_11).toNat 0) ≥ x3_0))) = (Value.bool true),
    opIndexAddr P 32 (nlV x3_10) (Value.int .i64 x3_11) Ax.h0 = some ((Value.pointer (some ⟨(Nat.add (x3_10).num 64), (x3_11).toNat, some 1⟩)), Ax.h0),
    loadG P 3 (Value.pointer (some ⟨(Nat.add (x3_10).num 64), (x3_11).toNat, some 1⟩)) Ax.h0 = some ((Value.int .i64 (((x3_10).l).getD (x3_11).toNat 0)), Ax.h0),
    opIndexAddr P 35 (Value.slice (some ⟨3, 0, none⟩) x3_4 x3_4) (Value.int .i64 (w64 ((((x3_10).l).getD (x3_11).toNat 0) - x3_0))) Ax.h0 = some ((Value.pointer (some ⟨3, (((w64 ((((x3_10).l).getD (x3_11).toNat 0) - x3_0))).toNat * 1), none⟩)), Ax.h0),
    ∃ old, rdT (layT (rows rw_b x3_6)) 1 (((w64 ((((x3_10).l).getD (x3_11).toNat 0) - x3_0))).toNat * 1) = some old,
    layL [(Value.bool true)] (((w64 ((((x3_10).l).getD (x3_11).toNat 0) - x3_0))).toNat * 1) (layT (rows rw_b x3_6)) = layT (rows rw_b ((x3_6).set ((w64 ((((x3_10).l).getD (x3_11).toNat 0) - x3_0))).toNat true)),
    FlatB (.cells (layT (rows rw_b x3_3)) 4),
    FlatB (.cells (layT (rows rw_b x3_5)) 4),
    FlatB (.cells (layT (rows rw_b ((x3_6).set ((w64 ((((x3_10).l).getD (x3_11).toNat 0) - x3_0))).toNat true))) 4)]) (by kernel_rfl) ⟨(vbT hy3_1), (ixS (e := 4) (by kernel_rfl) (by kernel_rfl) (hy3_2).1 (hy3_2).2), (rows_ld rwf_b (false) (i := (x3_9).toNat) (j := 0) ((x3_9).toNat * 1) rfl (hy3_3) (by decide) rfl), (vB hy3_4), (ixW1 (e := 3) (by kernel_rfl) (by kernel_rfl) hy3_5), (ldN x3_10 (by kernel_rfl) hy3_6), (vbT hy3_7), (ixW1 (e := 3) (by kernel_rfl) (by kernel_rfl) hy3_5), (ldN x3_10 (by kernel_rfl) hy3_6), (ixS (e := 4) (by kernel_rfl) (by kernel_rfl) (hy3_8).1 (hy3_8).2), (Exists.elim (rows_st rwf_b (false) (i := ((w64 ((((x3_10).l).getD (x3_11).toNat 0) - x3_0))).toNat) (j := 0) (l := [(Value.bool true)]) true (((w64 ((((x3_10).l).getD (x3_11).toNat 0) - x3_0))).toNat * 1) rfl (hy3_9) (Nat.le_of_ble_eq_true rfl) rfl) fun o h => ⟨o, h.1⟩), (Exists.elim (rows_st rwf_b (false) (i := ((w64 ((((x3_10).l).getD (x3_11).toNat 0) - x3_0))).toNat) (j := 0) (l := [(Value.bool true)]) true (((w64 ((((x3_10).l).getD (x3_11).toNat 0) - x3_0))).toNat * 1) rfl (hy3_9) (Nat.le_of_ble_eq_true rfl) rfl) fun o h => h.2), (rows_flat rwf_b _ _), (rows_flat rwf_b _ _), (rows_flat rwf_b _ _), trivial⟩
set_option maxRecDepth 100000 in
theorem q_viewportlaw11GramGrounded_3_1 (n : Nat) (x3_0 : Int) (x3_1 : Int) (x3_2 : Int) (x3_3 : List (Bool)) (x3_4 : Nat) (x3_5 : List (Bool)) (x3_6 : List (Bool)) (x3_7 : Int) (x3_8 : Int) (x3_9 : Int) (x3_10 : NL) (x3_11 : Int) (hy3_1 : x3_11 < (((x3_10).l.length : Nat) : Int)) (hy3_2 : 0 ≤ x3_9 ∧ x3_9 < ((x3_4 : Nat) : Int)) (hy3_3 : (x3_9).toNat < (x3_6).length) (hy3_4 : ((x3_6).getD (x3_9).toNat (false)) = true) (hy3_5 : 0 ≤ x3_11 ∧ x3_11 < (((x3_10).l.length : Nat) : Int)) (hy3_6 : (x3_11).toNat < ((x3_10).l).length) (hy3_7 : ¬ ((((x3_10).l).getD (x3_11).toNat 0) ≥ x3_0)) : CG P none (fnN P 5) 0 (codeOf P 5 [false, false, true, true, true, true, false, false, true, false, false, true, false, false, true, false, false, true, false, true, true, true, true, true]) (S_viewportlaw11GramGrounded_3 x3_0 x3_1 x3_2 x3_3 x3_4 x3_5 x3_7 x3_8 x3_9 x3_10 (x3_6, x3_11)) (.normal, S_viewportlaw11GramGrounded_3 x3_0 x3_1 x3_2 x3_3 x3_4 x3_5 x3_7 x3_8 x3_9 x3_10 (x3_6, (w64 (x3_11 + (1 : Int))))) :=
  runC_ok hm (A := aT [(6, .val (.bool true)), (11, .pur (Value.pointer (some ⟨3, ((x3_9).toNat * 1), none⟩))), (12, .ld (Value.bool ((x3_6).getD (x3_9).toNat (false)))), (14, .val (.bool true)), (21, .pur (Value.pointer (some ⟨(Nat.add (x3_10).num 64), (x3_11).toNat, some 1⟩))), (22, .ld (Value.int .i64 (((x3_10).l).getD (x3_11).toNat 0))), (25, .val (.bool false))]) (L := lT []) (wk := ⟨[1, 3, 4, 5, 6, 7, 8, 9], [(0, 0, false), (1, 1, true), (2, 2, true), (3, 3, true), (4, 4, false)], 5, 0⟩)
    (ps := [(Value.bool (decide (x3_11 < (((x3_10).l.length : Nat) : Int)))) = (Value.bool true),
    opIndexAddr P 35 (Value.slice (some ⟨3, 0, none⟩) x3_4 x3_4) (Value.int .i64 x3_9) Ax.h0 = some ((Value.pointer (some ⟨3, ((x3_9).toNat * 1), none⟩)), Ax.h0),
    (layT (rows rw_b x3_6)).get ((x3_9).toNat * 1) = some (Value.bool ((x3_6).getD (x3_9).toNat (false))),
    (Value.bool ((x3_6).getD (x3_9).toNat (false))) = (Value.bool true),
    opIndexAddr P 32 (nlV x3_10) (Value.int .i64 x3_11) Ax.h0 = some ((Value.pointer (some ⟨(Nat.add (x3_10).num 64), (x3_11).toNat, some 1⟩)), Ax.h0),
    loadG P 3 (Value.pointer (some ⟨(Nat.add (x3_10).num 64), (x3_11).toNat, some 1⟩)) Ax.h0 = some ((Value.int .i64 (((x3_10).l).getD (x3_11).toNat 0)), Ax.h0),
    (Value.bool (decide ((((x3_10).l).getD (x3_11).toNat 0) ≥ x3_0))) = (Value.bool false),
    FlatB (.cells (layT (rows rw_b x3_3)) 4),
    FlatB (.cells (layT (rows rw_b x3_5)) 4),
    FlatB (.cells (layT (rows rw_b x3_6)) 4)]) (by kernel_rfl) ⟨(vbT hy3_1), (ixS (e := 4) (by kernel_rfl) (by kernel_rfl) (hy3_2).1 (hy3_2).2), (rows_ld rwf_b (false) (i := (x3_9).toNat) (j := 0) ((x3_9).toNat * 1) rfl (hy3_3) (by decide) rfl), (vB hy3_4), (ixW1 (e := 3) (by kernel_rfl) (by kernel_rfl) hy3_5), (ldN x3_10 (by kernel_rfl) hy3_6), (vbF hy3_7), (rows_flat rwf_b _ _), (rows_flat rwf_b _ _), (rows_flat rwf_b _ _), trivial⟩
set_option maxRecDepth 100000 in
theorem q_viewportlaw11GramGrounded_3_2 (n : Nat) (x3_0 : Int) (x3_1 : Int) (x3_2 : Int) (x3_3 : List (Bool)) (x3_4 : Nat) (x3_5 : List (Bool)) (x3_6 : List (Bool)) (x3_7 : Int) (x3_8 : Int) (x3_9 : Int) (x3_10 : NL) (x3_11 : Int) (hy3_1 : x3_11 < (((x3_10).l.length : Nat) : Int)) (hy3_2 : 0 ≤ x3_9 ∧ x3_9 < ((x3_4 : Nat) : Int)) (hy3_3 : (x3_9).toNat < (x3_6).length) (hy3_4 : ¬ (((x3_6).getD (x3_9).toNat (false)) = true)) : CG P none (fnN P 5) 0 (codeOf P 5 [false, false, true, true, true, true, false, false, true, false, false, true, false, false, true, false, false, true, false, true, true, true, true, true]) (S_viewportlaw11GramGrounded_3 x3_0 x3_1 x3_2 x3_3 x3_4 x3_5 x3_7 x3_8 x3_9 x3_10 (x3_6, x3_11)) (X_viewportlaw11GramGrounded_3 x3_0 x3_1 x3_2 x3_3 x3_4 x3_5 x3_7 x3_8 x3_9 x3_10 x3_6) :=
  runC_ok hm (A := aT [(6, .val (.bool true)), (11, .pur (Value.pointer (some ⟨3, ((x3_9).toNat * 1), none⟩))), (12, .ld (Value.bool ((x3_6).getD (x3_9).toNat (false)))), (14, .val (.bool false))]) (L := lT []) (wk := ⟨[1, 3, 4, 5, 6, 7], [(0, 0, false), (1, 1, true), (2, 2, true), (3, 3, true)], 4, 0⟩)
    (ps := [(Value.bool (decide (x3_11 < (((x3_10).l.length : Nat) : Int)))) = (Value.bool true),
    opIndexAddr P 35 (Value.slice (some ⟨3, 0, none⟩) x3_4 x3_4) (Value.int .i64 x3_9) Ax.h0 = some ((Value.pointer (some ⟨3, ((x3_9).toNat * 1), none⟩)), Ax.h0),
    (layT (rows rw_b x3_6)).get ((x3_9).toNat * 1) = some (Value.bool ((x3_6).getD (x3_9).toNat (false))),
    (Value.bool ((x3_6).getD (x3_9).toNat (false))) = (Value.bool false),
    FlatB (.cells (layT (rows rw_b x3_3)) 4),
    FlatB (.cells (layT (rows rw_b x3_5)) 4),
    FlatB (.cells (layT (rows rw_b x3_6)) 4)]) (by kernel_rfl) ⟨(vbT hy3_1), (ixS (e := 4) (by kernel_rfl) (by kernel_rfl) (hy3_2).1 (hy3_2).2), (rows_ld rwf_b (false) (i := (x3_9).toNat) (j := 0) ((x3_9).toNat * 1) rfl (hy3_3) (by decide) rfl), (vB (Bool.eq_false_iff.2 hy3_4)), (rows_flat rwf_b _ _), (rows_flat rwf_b _ _), (rows_flat rwf_b _ _), trivial⟩
set_option maxRecDepth 100000 in
theorem q_viewportlaw11GramGrounded_3_3 (n : Nat) (x3_0 : Int) (x3_1 : Int) (x3_2 : Int) (x3_3 : List (Bool)) (x3_4 : Nat) (x3_5 : List (Bool)) (x3_6 : List (Bool)) (x3_7 : Int) (x3_8 : Int) (x3_9 : Int) (x3_10 : NL) (x3_11 : Int) (hy3_1 : ¬ (x3_11 < (((x3_10).l.length : Nat) : Int))) : CG P none (fnN P 5) 0 (codeOf P 5 [false, false, true, true, true, true, false, false, true, false, false, true, false, false, true, false, false, true, false, true, true, true, true, true]) (S_viewportlaw11GramGrounded_3 x3_0 x3_1 x3_2 x3_3 x3_4 x3_5 x3_7 x3_8 x3_9 x3_10 (x3_6, x3_11)) (X_viewportlaw11GramGrounded_3 x3_0 x3_1 x3_2 x3_3 x3_4 x3_5 x3_7 x3_8 x3_9 x3_10 x3_6) :=
  runC_ok hm (A := aT [(6, .val (.bool false))]) (L := lT []) (wk := ⟨[1, 3, 4, 5, 6, 7], [(0, 0, false), (1, 1, true), (2, 2, true), (3, 3, true)], 4, 0⟩)
    (ps := [(Value.bool (decide (x3_11 < (((x3_10).l.length : Nat) : Int)))) = (Value.bool false),
    FlatB (.cells (layT (rows rw_b x3_3)) 4),
    FlatB (.cells (layT (rows rw_b x3_5)) 4),
    FlatB (.cells (layT (rows rw_b x3_6)) 4)]) (by kernel_rfl) ⟨(vbF hy3_1), (rows_flat rwf_b _ _), (rows_flat rwf_b _ _), (rows_flat rwf_b _ _), trivial⟩
theorem m_viewportlaw11GramGrounded_3_ok (n : Nat) (x3_0 : Int) (x3_1 : Int) (x3_2 : Int) (x3_3 : List (Bool)) (x3_4 : Nat) (x3_5 : List (Bool)) (x3_7 : Int) (x3_8 : Int) (x3_9 : Int) (x3_10 : NL) (st : List (Bool) × Int) (r : List (Bool)) (h : m_viewportlaw11GramGrounded_3 n x3_0 x3_1 x3_2 x3_3 x3_4 x3_5 x3_7 x3_8 x3_9 x3_10 st = some r) : CG P none (fnN P 5) 0 (codeOf P 5 [false, true, true, true, true, false, false, true, false, false, true, false, false, true, false, false, true, false, true, true, true, true, true]) (S_viewportlaw11GramGrounded_3 x3_0 x3_1 x3_2 x3_3 x3_4 x3_5 x3_7 x3_8 x3_9 x3_10 st) (X_viewportlaw11GramGrounded_3 x3_0 x3_1 x3_2 x3_3 x3_4 x3_5 x3_7 x3_8 x3_9 x3_10 r) :=
  CG.iter (b := codeOf P 5 [false, false, true, true, true, true, false, false, true, false, false, true, false, false, true, false, false, true, false, true, true, true, true, true]) (by kernel_rfl) (body := B_viewportlaw11GramGrounded_3 n x3_0 x3_1 x3_2 x3_3 x3_4 x3_5 x3_7 x3_8 x3_9 x3_10) (S := S_viewportlaw11GramGrounded_3 x3_0 x3_1 x3_2 x3_3 x3_4 x3_5 x3_7 x3_8 x3_9 x3_10) (X := X_viewportlaw11GramGrounded_3 x3_0 x3_1 x3_2 x3_3 x3_4 x3_5 x3_7 x3_8 x3_9 x3_10)
    (fun s s' h => by
    obtain ⟨x3_6, x3_11⟩ := s
    unfold B_viewportlaw11GramGrounded_3 at h
    dsimp only at h
    by_cases hy3_1 : x3_11 < (((x3_10).l.length : Nat) : Int)
    · rw [if_pos hy3_1] at h
      by_cases hy3_2 : 0 ≤ x3_9 ∧ x3_9 < ((x3_4 : Nat) : Int)
      · rw [if_pos hy3_2] at h
        by_cases hy3_3 : (x3_9).toNat < (x3_6).length
        · rw [if_pos hy3_3] at h
          by_cases hy3_4 : ((x3_6).getD (x3_9).toNat (false)) = true
          · rw [if_pos hy3_4] at h
            by_cases hy3_5 : 0 ≤ x3_11 ∧ x3_11 < (((x3_10).l.length : Nat) : Int)
            · rw [if_pos hy3_5] at h
              by_cases hy3_6 : (x3_11).toNat < ((x3_10).l).length
              · rw [if_pos hy3_6] at h
                by_cases hy3_7 : (((x3_10).l).getD (x3_11).toNat 0) ≥ x3_0
                · rw [if_pos hy3_7] at h
                  by_cases hy3_8 : 0 ≤ (w64 ((((x3_10).l).getD (x3_11).toNat 0) - x3_0)) ∧ (w64 ((((x3_10).l).getD (x3_11).toNat 0) - x3_0)) < ((x3_4 : Nat) : Int)
                  · rw [if_pos hy3_8] at h
                    by_cases hy3_9 : ((w64 ((((x3_10).l).getD (x3_11).toNat 0) - x3_0))).toNat < (x3_6).length
                    · rw [if_pos hy3_9] at h
                      obtain rfl := Sum.inl.inj (Option.some.inj h); exact q_viewportlaw11GramGrounded_3_0 n x3_0 x3_1 x3_2 x3_3 x3_4 x3_5 x3_6 x3_7 x3_8 x3_9 x3_10 x3_11 hy3_1 hy3_2 hy3_3 hy3_4 hy3_5 hy3_6 hy3_7 hy3_8 hy3_9
                    · rw [if_neg hy3_9] at h; cases h
                  · rw [if_neg hy3_8] at h; cases h
                · rw [if_neg hy3_7] at h
                  obtain rfl := Sum.inl.inj (Option.some.inj h); exact q_viewportlaw11GramGrounded_3_1 n x3_0 x3_1 x3_2 x3_3 x3_4 x3_5 x3_6 x3_7 x3_8 x3_9 x3_10 x3_11 hy3_1 hy3_2 hy3_3 hy3_4 hy3_5 hy3_6 hy3_7
              · rw [if_neg hy3_6] at h; cases h
            · rw [if_neg hy3_5] at h; cases h
          · rw [if_neg hy3_4] at h
            cases h
        · rw [if_neg hy3_3] at h; cases h
      · rw [if_neg hy3_2] at h; cases h
    · rw [if_neg hy3_1] at h
      cases h)
    (fun s r h => by
    obtain ⟨x3_6, x3_11⟩ := s
    unfold B_viewportlaw11GramGrounded_3 at h
    dsimp only at h
    by_cases hy3_1 : x3_11 < (((x3_10).l.length : Nat) : Int)
    · rw [if_pos hy3_1] at h
      by_cases hy3_2 : 0 ≤ x3_9 ∧ x3_9 < ((x3_4 : Nat) : Int)
      · rw [if_pos hy3_2] at h
        by_cases hy3_3 : (x3_9).toNat < (x3_6).length
        · rw [if_pos hy3_3] at h
          by_cases hy3_4 : ((x3_6).getD (x3_9).toNat (false)) = true
          · rw [if_pos hy3_4] at h
            by_cases hy3_5 : 0 ≤ x3_11 ∧ x3_11 < (((x3_10).l.length : Nat) : Int)
            · rw [if_pos hy3_5] at h
              by_cases hy3_6 : (x3_11).toNat < ((x3_10).l).length
              · rw [if_pos hy3_6] at h
                by_cases hy3_7 : (((x3_10).l).getD (x3_11).toNat 0) ≥ x3_0
                · rw [if_pos hy3_7] at h
                  by_cases hy3_8 : 0 ≤ (w64 ((((x3_10).l).getD (x3_11).toNat 0) - x3_0)) ∧ (w64 ((((x3_10).l).getD (x3_11).toNat 0) - x3_0)) < ((x3_4 : Nat) : Int)
                  · rw [if_pos hy3_8] at h
                    by_cases hy3_9 : ((w64 ((((x3_10).l).getD (x3_11).toNat 0) - x3_0))).toNat < (x3_6).length
                    · rw [if_pos hy3_9] at h
                      cases h
                    · rw [if_neg hy3_9] at h; cases h
                  · rw [if_neg hy3_8] at h; cases h
                · rw [if_neg hy3_7] at h
                  cases h
              · rw [if_neg hy3_6] at h; cases h
            · rw [if_neg hy3_5] at h; cases h
          · rw [if_neg hy3_4] at h
            obtain rfl := Sum.inr.inj (Option.some.inj h); exact q_viewportlaw11GramGrounded_3_2 n x3_0 x3_1 x3_2 x3_3 x3_4 x3_5 x3_6 x3_7 x3_8 x3_9 x3_10 x3_11 hy3_1 hy3_2 hy3_3 hy3_4
        · rw [if_neg hy3_3] at h; cases h
      · rw [if_neg hy3_2] at h; cases h
    · rw [if_neg hy3_1] at h
      obtain rfl := Sum.inr.inj (Option.some.inj h); exact q_viewportlaw11GramGrounded_3_3 n x3_0 x3_1 x3_2 x3_3 x3_4 x3_5 x3_6 x3_7 x3_8 x3_9 x3_10 x3_11 hy3_1)
    (fun r => by intro hx; cases hx) h
noncomputable def S_viewportlaw11GramGrounded_2 (x2_0 : Int) (x2_1 : Int) (x2_2 : Int) (x2_4 : Nat) (x2_7 : Int) (st : List (Bool) × List (Bool) × List (Bool) × Int) : XSt := match st with
  | (x2_3, x2_5, x2_6, x2_8) => (sT 129 [(1, (Value.pointer (some ⟨0, 0, none⟩))), (3, (Value.slice (some ⟨1, 0, none⟩) x2_4 x2_4)), (4, (Value.slice (some ⟨2, 0, none⟩) x2_4 x2_4)), (5, (Value.slice (some ⟨3, 0, none⟩) x2_4 x2_4)), (6, (Value.int .i64 x2_7)), (7, (Value.int .i64 x2_8))], [], ⟨sB [(0, (some (.cells (layT [(Value.int .i64 x2_0), (Value.int .i64 x2_1), (Value.int .i64 x2_2), (Value.slice (some ⟨0, 0, some 1⟩) (Args.G).length Args.cG)]) 24))), (1, (some (.cells (layT (rows rw_b x2_3)) 4))), (2, (some (.cells (layT (rows rw_b x2_5)) 4))), (3, (some (.cells (layT (rows rw_b x2_6)) 4)))], 4, 0⟩)
noncomputable def X_viewportlaw11GramGrounded_2 (x2_0 : Int) (x2_1 : Int) (x2_2 : Int) (x2_4 : Nat) (x2_7 : Int) (r : List (Bool) × List (Bool) × List (Bool)) : Ex × XSt := match r with
  | (z2_0, z2_1, z2_2) => (.exit 2, (sT 129 [(1, (Value.pointer (some ⟨0, 0, none⟩))), (3, (Value.slice (some ⟨1, 0, none⟩) x2_4 x2_4)), (4, (Value.slice (some ⟨2, 0, none⟩) x2_4 x2_4)), (5, (Value.slice (some ⟨3, 0, none⟩) x2_4 x2_4)), (6, (Value.int .i64 x2_7))], [], ⟨sB [(0, (some (.cells (layT [(Value.int .i64 x2_0), (Value.int .i64 x2_1), (Value.int .i64 x2_2), (Value.slice (some ⟨0, 0, some 1⟩) (Args.G).length Args.cG)]) 24))), (1, (some (.cells (layT (rows rw_b z2_0)) 4))), (2, (some (.cells (layT (rows rw_b z2_1)) 4))), (3, (some (.cells (layT (rows rw_b z2_2)) 4)))], 4, 0⟩))
def B_viewportlaw11GramGrounded_2 (n : Nat) (x2_0 : Int) (x2_1 : Int) (x2_2 : Int) (x2_4 : Nat) (x2_7 : Int) (st : List (Bool) × List (Bool) × List (Bool) × Int) : Option ((List (Bool) × List (Bool) × List (Bool) × Int) ⊕ (List (Bool) × List (Bool) × List (Bool))) := match st with
  | (x2_3, x2_5, x2_6, x2_8) =>
    if x2_8 < (((Args.G).length : Nat) : Int) then
      if 0 ≤ x2_8 ∧ x2_8 < (((Args.G).length : Nat) : Int) then
        if 0 ≤ (((Args.G).getD (x2_8).toNat (0, nl0)).1) ∧ (((Args.G).getD (x2_8).toNat (0, nl0)).1) < ((x2_4 : Nat) : Int) then
          if ((((Args.G).getD (x2_8).toNat (0, nl0)).1)).toNat < (x2_3).length then
            if ((x2_3).getD ((((Args.G).getD (x2_8).toNat (0, nl0)).1)).toNat (false)) = true then
              if ((((Args.G).getD (x2_8).toNat (0, nl0)).1)).toNat < (x2_5).length then
                if ((x2_5).getD ((((Args.G).getD (x2_8).toNat (0, nl0)).1)).toNat (false)) = true then
                  (m_viewportlaw11GramGrounded_3 n x2_0 x2_1 x2_2 ((x2_3).set ((((Args.G).getD (x2_8).toNat (0, nl0)).1)).toNat true) x2_4 ((x2_5).set ((((Args.G).getD (x2_8).toNat (0, nl0)).1)).toNat true) x2_7 x2_8 (((Args.G).getD (x2_8).toNat (0, nl0)).1) (((Args.G).getD (x2_8).toNat (0, nl0)).2) (x2_6, 0)).bind fun y2_8_ =>
                  some (.inl (((x2_3).set ((((Args.G).getD (x2_8).toNat (0, nl0)).1)).toNat true), ((x2_5).set ((((Args.G).getD (x2_8).toNat (0, nl0)).1)).toNat true), y2_8_, (w64 (x2_8 + (1 : Int)))))
                else
                  (m_viewportlaw11holds n x2_0 x2_1 x2_2 (((Args.G).getD (x2_8).toNat (0, nl0)).2) true x2_4 x2_5).bind fun y2_8_ =>
                  (m_viewportlaw11GramGrounded_3 n x2_0 x2_1 x2_2 ((x2_3).set ((((Args.G).getD (x2_8).toNat (0, nl0)).1)).toNat true) x2_4 ((x2_5).set ((((Args.G).getD (x2_8).toNat (0, nl0)).1)).toNat y2_8_) x2_7 x2_8 (((Args.G).getD (x2_8).toNat (0, nl0)).1) (((Args.G).getD (x2_8).toNat (0, nl0)).2) (x2_6, 0)).bind fun y2_9_ =>
                  some (.inl (((x2_3).set ((((Args.G).getD (x2_8).toNat (0, nl0)).1)).toNat true), ((x2_5).set ((((Args.G).getD (x2_8).toNat (0, nl0)).1)).toNat y2_8_), y2_9_, (w64 (x2_8 + (1 : Int)))))
              else none
            else
              (m_viewportlaw11holds n x2_0 x2_1 x2_2 (((Args.G).getD (x2_8).toNat (0, nl0)).2) false x2_4 x2_3).bind fun y2_6_ =>
              if ((((Args.G).getD (x2_8).toNat (0, nl0)).1)).toNat < (x2_5).length then
                if ((x2_5).getD ((((Args.G).getD (x2_8).toNat (0, nl0)).1)).toNat (false)) = true then
                  (m_viewportlaw11GramGrounded_3 n x2_0 x2_1 x2_2 ((x2_3).set ((((Args.G).getD (x2_8).toNat (0, nl0)).1)).toNat y2_6_) x2_4 ((x2_5).set ((((Args.G).getD (x2_8).toNat (0, nl0)).1)).toNat true) x2_7 x2_8 (((Args.G).getD (x2_8).toNat (0, nl0)).1) (((Args.G).getD (x2_8).toNat (0, nl0)).2) (x2_6, 0)).bind fun y2_9_ =>
                  some (.inl (((x2_3).set ((((Args.G).getD (x2_8).toNat (0, nl0)).1)).toNat y2_6_), ((x2_5).set ((((Args.G).getD (x2_8).toNat (0, nl0)).1)).toNat true), y2_9_, (w64 (x2_8 + (1 : Int)))))
                else
                  (m_viewportlaw11holds n x2_0 x2_1 x2_2 (((Args.G).getD (x2_8).toNat (0, nl0)).2) true x2_4 x2_5).bind fun y2_9_ =>
                  (m_viewportlaw11GramGrounded_3 n x2_0 x2_1 x2_2 ((x2_3).set ((((Args.G).getD (x2_8).toNat (0, nl0)).1)).toNat y2_6_) x2_4 ((x2_5).set ((((Args.G).getD (x2_8).toNat (0, nl0)).1)).toNat y2_9_) x2_7 x2_8 (((Args.G).getD (x2_8).toNat (0, nl0)).1) (((Args.G).getD (x2_8).toNat (0, nl0)).2) (x2_6, 0)).bind fun y2_10_ =>
                  some (.inl (((x2_3).set ((((Args.G).getD (x2_8).toNat (0, nl0)).1)).toNat y2_6_), ((x2_5).set ((((Args.G).getD (x2_8).toNat (0, nl0)).1)).toNat y2_9_), y2_10_, (w64 (x2_8 + (1 : Int)))))
              else none
          else none
        else none
      else none
    else
      some (.inr (x2_3, x2_5, x2_6))
def m_viewportlaw11GramGrounded_2 (n : Nat) (x2_0 : Int) (x2_1 : Int) (x2_2 : Int) (x2_4 : Nat) (x2_7 : Int) (st : List (Bool) × List (Bool) × List (Bool) × Int) : Option (List (Bool) × List (Bool) × List (Bool)) := iterM (B_viewportlaw11GramGrounded_2 n x2_0 x2_1 x2_2 x2_4 x2_7) n st
set_option maxRecDepth 100000 in
theorem q_viewportlaw11GramGrounded_2_0 (n : Nat) (x2_0 : Int) (x2_1 : Int) (x2_2 : Int) (x2_3 : List (Bool)) (x2_4 : Nat) (x2_5 : List (Bool)) (x2_6 : List (Bool)) (x2_7 : Int) (x2_8 : Int) (hy2_1 : x2_8 < (((Args.G).length : Nat) : Int)) (hy2_2 : 0 ≤ x2_8 ∧ x2_8 < (((Args.G).length : Nat) : Int)) (hy2_3 : 0 ≤ (((Args.G).getD (x2_8).toNat (0, nl0)).1) ∧ (((Args.G).getD (x2_8).toNat (0, nl0)).1) < ((x2_4 : Nat) : Int)) (hy2_4 : ((((Args.G).getD (x2_8).toNat (0, nl0)).1)).toNat < (x2_3).length) (hy2_5 : ((x2_3).getD ((((Args.G).getD (x2_8).toNat (0, nl0)).1)).toNat (false)) = true) (hy2_6 : ((((Args.G).getD (x2_8).toNat (0, nl0)).1)).toNat < (x2_5).length) (hy2_7 : ((x2_5).getD ((((Args.G).getD (x2_8).toNat (0, nl0)).1)).toNat (false)) = true) (y2_8_ : List (Bool)) (hy2_8 : m_viewportlaw11GramGrounded_3 n x2_0 x2_1 x2_2 ((x2_3).set ((((Args.G).getD (x2_8).toNat (0, nl0)).1)).toNat true) x2_4 ((x2_5).set ((((Args.G).getD (x2_8).toNat (0, nl0)).1)).toNat true) x2_7 x2_8 (((Args.G).getD (x2_8).toNat (0, nl0)).1) (((Args.G).getD (x2_8).toNat (0, nl0)).2) (x2_6, 0) = some y2_8_) : CG P none (fnN P 5) 0 (codeOf P 5 [false, false, true, false, false, true, false, false, true, false, true, true, true, true, true]) (S_viewportlaw11GramGrounded_2 x2_0 x2_1 x2_2 x2_4 x2_7 (x2_3, x2_5, x2_6, x2_8)) (.normal, S_viewportlaw11GramGrounded_2 x2_0 x2_1 x2_2 x2_4 x2_7 (((x2_3).set ((((Args.G).getD (x2_8).toNat (0, nl0)).1)).toNat true), ((x2_5).set ((((Args.G).getD (x2_8).toNat (0, nl0)).1)).toNat true), y2_8_, (w64 (x2_8 + (1 : Int))))) :=
  runC_ok hm (A := aT [(6, .val (.bool true)), (14, .pur (Value.pointer (some ⟨0, ((x2_8).toNat * 2), some 1⟩))), (15, .ld (Value.agg #[(Value.int .i64 (((Args.G).getD (x2_8).toNat (0, nl0)).1)), (nlV (((Args.G).getD (x2_8).toNat (0, nl0)).2))])), (25, .pur (Value.pointer (some ⟨1, (((((Args.G).getD (x2_8).toNat (0, nl0)).1)).toNat * 1), none⟩))), (26, .ld (Value.bool ((x2_3).getD ((((Args.G).getD (x2_8).toNat (0, nl0)).1)).toNat (false)))), (27, .val (.bool true)), (34, .pur (Value.pointer (some ⟨1, (((((Args.G).getD (x2_8).toNat (0, nl0)).1)).toNat * 1), none⟩))), (35, .sto (layT (rows rw_b ((x2_3).set ((((Args.G).getD (x2_8).toNat (0, nl0)).1)).toNat true)))), (43, .pur (Value.pointer (some ⟨2, (((((Args.G).getD (x2_8).toNat (0, nl0)).1)).toNat * 1), none⟩))), (44, .ld (Value.bool ((x2_5).getD ((((Args.G).getD (x2_8).toNat (0, nl0)).1)).toNat (false)))), (45, .val (.bool true)), (52, .pur (Value.pointer (some ⟨2, (((((Args.G).getD (x2_8).toNat (0, nl0)).1)).toNat * 1), none⟩))), (53, .sto (layT (rows rw_b ((x2_5).set ((((Args.G).getD (x2_8).toNat (0, nl0)).1)).toNat true))))]) (L := lT [(57, ⟨⟨[1, 3, 4, 5, 6, 7, 8, 9], [(0, 0, false), (1, 1, true), (2, 2, true), (3, 3, true), (4, 4, false)], 5, 0⟩, (X_viewportlaw11GramGrounded_3 x2_0 x2_1 x2_2 ((x2_3).set ((((Args.G).getD (x2_8).toNat (0, nl0)).1)).toNat true) x2_4 ((x2_5).set ((((Args.G).getD (x2_8).toNat (0, nl0)).1)).toNat true) x2_7 x2_8 (((Args.G).getD (x2_8).toNat (0, nl0)).1) (((Args.G).getD (x2_8).toNat (0, nl0)).2) y2_8_).1, (X_viewportlaw11GramGrounded_3 x2_0 x2_1 x2_2 ((x2_3).set ((((Args.G).getD (x2_8).toNat (0, nl0)).1)).toNat true) x2_4 ((x2_5).set ((((Args.G).getD (x2_8).toNat (0, nl0)).1)).toNat true) x2_7 x2_8 (((Args.G).getD (x2_8).toNat (0, nl0)).1) (((Args.G).getD (x2_8).toNat (0, nl0)).2) y2_8_).2⟩)]) (wk := ⟨[1, 3, 4, 5, 6, 7], [(0, 0, false), (1, 1, true), (2, 2, true), (3, 3, true)], 4, 0⟩)
    (ps := [(Value.bool (decide (x2_8 < (((Args.G).length : Nat) : Int)))) = (Value.bool true),
    opIndexAddr P 22 (Value.slice (some ⟨0, 0, some 1⟩) (Args.G).length Args.cG) (Value.int .i64 x2_8) Ax.h0 = some ((Value.pointer (some ⟨0, ((x2_8).toNat * 2), some 1⟩)), Ax.h0),
    loadG P 41 (Value.pointer (some ⟨0, ((x2_8).toNat * 2), some 1⟩)) Ax.h0 = some ((Value.agg #[(Value.int .i64 (((Args.G).getD (x2_8).toNat (0, nl0)).1)), (nlV (((Args.G).getD (x2_8).toNat (0, nl0)).2))]), Ax.h0),
    opIndexAddr P 35 (Value.slice (some ⟨1, 0, none⟩) x2_4 x2_4) (Value.int .i64 (((Args.G).getD (x2_8).toNat (0, nl0)).1)) Ax.h0 = some ((Value.pointer (some ⟨1, (((((Args.G).getD (x2_8).toNat (0, nl0)).1)).toNat * 1), none⟩)), Ax.h0),
    (layT (rows rw_b x2_3)).get (((((Args.G).getD (x2_8).toNat (0, nl0)).1)).toNat * 1) = some (Value.bool ((x2_3).getD ((((Args.G).getD (x2_8).toNat (0, nl0)).1)).toNat (false))),
    (Value.bool ((x2_3).getD ((((Args.G).getD (x2_8).toNat (0, nl0)).1)).toNat (false))) = (Value.bool true),
    opIndexAddr P 35 (Value.slice (some ⟨1, 0, none⟩) x2_4 x2_4) (Value.int .i64 (((Args.G).getD (x2_8).toNat (0, nl0)).1)) Ax.h0 = some ((Value.pointer (some ⟨1, (((((Args.G).getD (x2_8).toNat (0, nl0)).1)).toNat * 1), none⟩)), Ax.h0),
    ∃ old, rdT (layT (rows rw_b x2_3)) 1 (((((Args.G).getD (x2_8).toNat (0, nl0)).1)).toNat * 1) = some old,
    layL [(Value.bool true)] (((((Args.G).getD (x2_8).toNat (0, nl0)).1)).toNat * 1) (layT (rows rw_b x2_3)) = layT (rows rw_b ((x2_3).set ((((Args.G).getD (x2_8).toNat (0, nl0)).1)).toNat true)),
    opIndexAddr P 35 (Value.slice (some ⟨2, 0, none⟩) x2_4 x2_4) (Value.int .i64 (((Args.G).getD (x2_8).toNat (0, nl0)).1)) Ax.h0 = some ((Value.pointer (some ⟨2, (((((Args.G).getD (x2_8).toNat (0, nl0)).1)).toNat * 1), none⟩)), Ax.h0),
    (layT (rows rw_b x2_5)).get (((((Args.G).getD (x2_8).toNat (0, nl0)).1)).toNat * 1) = some (Value.bool ((x2_5).getD ((((Args.G).getD (x2_8).toNat (0, nl0)).1)).toNat (false))),
    (Value.bool ((x2_5).getD ((((Args.G).getD (x2_8).toNat (0, nl0)).1)).toNat (false))) = (Value.bool true),
    opIndexAddr P 35 (Value.slice (some ⟨2, 0, none⟩) x2_4 x2_4) (Value.int .i64 (((Args.G).getD (x2_8).toNat (0, nl0)).1)) Ax.h0 = some ((Value.pointer (some ⟨2, (((((Args.G).getD (x2_8).toNat (0, nl0)).1)).toNat * 1), none⟩)), Ax.h0),
    ∃ old, rdT (layT (rows rw_b x2_5)) 1 (((((Args.G).getD (x2_8).toNat (0, nl0)).1)).toNat * 1) = some old,
    layL [(Value.bool true)] (((((Args.G).getD (x2_8).toNat (0, nl0)).1)).toNat * 1) (layT (rows rw_b x2_5)) = layT (rows rw_b ((x2_5).set ((((Args.G).getD (x2_8).toNat (0, nl0)).1)).toNat true)),
    CG P none (fnN P 5) 0 (codeOf P 5 [false, true, true, true, true, false, false, true, false, false, true, false, false, true, false, false, true, false, true, true, true, true, true]) (S_viewportlaw11GramGrounded_3 x2_0 x2_1 x2_2 ((x2_3).set ((((Args.G).getD (x2_8).toNat (0, nl0)).1)).toNat true) x2_4 ((x2_5).set ((((Args.G).getD (x2_8).toNat (0, nl0)).1)).toNat true) x2_7 x2_8 (((Args.G).getD (x2_8).toNat (0, nl0)).1) (((Args.G).getD (x2_8).toNat (0, nl0)).2) (x2_6, 0)) (X_viewportlaw11GramGrounded_3 x2_0 x2_1 x2_2 ((x2_3).set ((((Args.G).getD (x2_8).toNat (0, nl0)).1)).toNat true) x2_4 ((x2_5).set ((((Args.G).getD (x2_8).toNat (0, nl0)).1)).toNat true) x2_7 x2_8 (((Args.G).getD (x2_8).toNat (0, nl0)).1) (((Args.G).getD (x2_8).toNat (0, nl0)).2) y2_8_),
    FlatB (.cells (layT (rows rw_b ((x2_3).set ((((Args.G).getD (x2_8).toNat (0, nl0)).1)).toNat true))) 4),
    FlatB (.cells (layT (rows rw_b ((x2_5).set ((((Args.G).getD (x2_8).toNat (0, nl0)).1)).toNat true))) 4),
    FlatB (.cells (layT (rows rw_b x2_6)) 4),
    FlatB (.cells (layT (rows rw_b ((x2_3).set ((((Args.G).getD (x2_8).toNat (0, nl0)).1)).toNat true))) 4),
    FlatB (.cells (layT (rows rw_b ((x2_5).set ((((Args.G).getD (x2_8).toNat (0, nl0)).1)).toNat true))) 4),
    FlatB (.cells (layT (rows rw_b y2_8_)) 4)]) (by kernel_rfl) ⟨(vbT hy2_1), (ixW (e := 41) (by kernel_rfl) (by kernel_rfl) (hy2_2).1 (hy2_2).2), (ldWA rwf_iL (0, nl0) (i := (x2_8).toNat) (q := 0) (L := Args.G) (n := 2) ((x2_8).toNat * 2) rfl rfl (by kernel_rfl) (by kernel_rfl) (toNatLt hy2_2) (by decide) rfl), (ixS (e := 4) (by kernel_rfl) (by kernel_rfl) (hy2_3).1 (hy2_3).2), (rows_ld rwf_b (false) (i := ((((Args.G).getD (x2_8).toNat (0, nl0)).1)).toNat) (j := 0) (((((Args.G).getD (x2_8).toNat (0, nl0)).1)).toNat * 1) rfl (hy2_4) (by decide) rfl), (vB hy2_5), (ixS (e := 4) (by kernel_rfl) (by kernel_rfl) (hy2_3).1 (hy2_3).2), (Exists.elim (rows_st rwf_b (false) (i := ((((Args.G).getD (x2_8).toNat (0, nl0)).1)).toNat) (j := 0) (l := [(Value.bool true)]) true (((((Args.G).getD (x2_8).toNat (0, nl0)).1)).toNat * 1) rfl (hy2_4) (Nat.le_of_ble_eq_true rfl) rfl) fun o h => ⟨o, h.1⟩), (Exists.elim (rows_st rwf_b (false) (i := ((((Args.G).getD (x2_8).toNat (0, nl0)).1)).toNat) (j := 0) (l := [(Value.bool true)]) true (((((Args.G).getD (x2_8).toNat (0, nl0)).1)).toNat * 1) rfl (hy2_4) (Nat.le_of_ble_eq_true rfl) rfl) fun o h => h.2), (ixS (e := 4) (by kernel_rfl) (by kernel_rfl) (hy2_3).1 (hy2_3).2), (rows_ld rwf_b (false) (i := ((((Args.G).getD (x2_8).toNat (0, nl0)).1)).toNat) (j := 0) (((((Args.G).getD (x2_8).toNat (0, nl0)).1)).toNat * 1) rfl (hy2_6) (by decide) rfl), (vB hy2_7), (ixS (e := 4) (by kernel_rfl) (by kernel_rfl) (hy2_3).1 (hy2_3).2), (Exists.elim (rows_st rwf_b (false) (i := ((((Args.G).getD (x2_8).toNat (0, nl0)).1)).toNat) (j := 0) (l := [(Value.bool true)]) true (((((Args.G).getD (x2_8).toNat (0, nl0)).1)).toNat * 1) rfl (hy2_6) (Nat.le_of_ble_eq_true rfl) rfl) fun o h => ⟨o, h.1⟩), (Exists.elim (rows_st rwf_b (false) (i := ((((Args.G).getD (x2_8).toNat (0, nl0)).1)).toNat) (j := 0) (l := [(Value.bool true)]) true (((((Args.G).getD (x2_8).toNat (0, nl0)).1)).toNat * 1) rfl (hy2_6) (Nat.le_of_ble_eq_true rfl) rfl) fun o h => h.2), (m_viewportlaw11GramGrounded_3_ok n x2_0 x2_1 x2_2 ((x2_3).set ((((Args.G).getD (x2_8).toNat (0, nl0)).1)).toNat true) x2_4 ((x2_5).set ((((Args.G).getD (x2_8).toNat (0, nl0)).1)).toNat true) x2_7 x2_8 (((Args.G).getD (x2_8).toNat (0, nl0)).1) (((Args.G).getD (x2_8).toNat (0, nl0)).2) (x2_6, 0) y2_8_ hy2_8), (rows_flat rwf_b _ _), (rows_flat rwf_b _ _), (rows_flat rwf_b _ _), (rows_flat rwf_b _ _), (rows_flat rwf_b _ _), (rows_flat rwf_b _ _), trivial⟩
set_option maxRecDepth 100000 in
theorem q_viewportlaw11GramGrounded_2_1 (n : Nat) (x2_0 : Int) (x2_1 : Int) (x2_2 : Int) (x2_3 : List (Bool)) (x2_4 : Nat) (x2_5 : List (Bool)) (x2_6 : List (Bool)) (x2_7 : Int) (x2_8 : Int) (hy2_1 : x2_8 < (((Args.G).length : Nat) : Int)) (hy2_2 : 0 ≤ x2_8 ∧ x2_8 < (((Args.G).length : Nat) : Int)) (hy2_3 : 0 ≤ (((Args.G).getD (x2_8).toNat (0, nl0)).1) ∧ (((Args.G).getD (x2_8).toNat (0, nl0)).1) < ((x2_4 : Nat) : Int)) (hy2_4 : ((((Args.G).getD (x2_8).toNat (0, nl0)).1)).toNat < (x2_3).length) (hy2_5 : ((x2_3).getD ((((Args.G).getD (x2_8).toNat (0, nl0)).1)).toNat (false)) = true) (hy2_6 : ((((Args.G).getD (x2_8).toNat (0, nl0)).1)).toNat < (x2_5).length) (hy2_7 : ¬ (((x2_5).getD ((((Args.G).getD (x2_8).toNat (0, nl0)).1)).toNat (false)) = true)) (y2_8_ : Bool) (hy2_8 : m_viewportlaw11holds n x2_0 x2_1 x2_2 (((Args.G).getD (x2_8).toNat (0, nl0)).2) true x2_4 x2_5 = some y2_8_) (y2_9_ : List (Bool)) (hy2_9 : m_viewportlaw11GramGrounded_3 n x2_0 x2_1 x2_2 ((x2_3).set ((((Args.G).getD (x2_8).toNat (0, nl0)).1)).toNat true) x2_4 ((x2_5).set ((((Args.G).getD (x2_8).toNat (0, nl0)).1)).toNat y2_8_) x2_7 x2_8 (((Args.G).getD (x2_8).toNat (0, nl0)).1) (((Args.G).getD (x2_8).toNat (0, nl0)).2) (x2_6, 0) = some y2_9_) : CG P none (fnN P 5) 0 (codeOf P 5 [false, false, true, false, false, true, false, false, true, false, true, true, true, true, true]) (S_viewportlaw11GramGrounded_2 x2_0 x2_1 x2_2 x2_4 x2_7 (x2_3, x2_5, x2_6, x2_8)) (.normal, S_viewportlaw11GramGrounded_2 x2_0 x2_1 x2_2 x2_4 x2_7 (((x2_3).set ((((Args.G).getD (x2_8).toNat (0, nl0)).1)).toNat true), ((x2_5).set ((((Args.G).getD (x2_8).toNat (0, nl0)).1)).toNat y2_8_), y2_9_, (w64 (x2_8 + (1 : Int))))) :=
  runC_ok hm (A := aT [(6, .val (.bool true)), (14, .pur (Value.pointer (some ⟨0, ((x2_8).toNat * 2), some 1⟩))), (15, .ld (Value.agg #[(Value.int .i64 (((Args.G).getD (x2_8).toNat (0, nl0)).1)), (nlV (((Args.G).getD (x2_8).toNat (0, nl0)).2))])), (25, .pur (Value.pointer (some ⟨1, (((((Args.G).getD (x2_8).toNat (0, nl0)).1)).toNat * 1), none⟩))), (26, .ld (Value.bool ((x2_3).getD ((((Args.G).getD (x2_8).toNat (0, nl0)).1)).toNat (false)))), (27, .val (.bool true)), (34, .pur (Value.pointer (some ⟨1, (((((Args.G).getD (x2_8).toNat (0, nl0)).1)).toNat * 1), none⟩))), (35, .sto (layT (rows rw_b ((x2_3).set ((((Args.G).getD (x2_8).toNat (0, nl0)).1)).toNat true)))), (43, .pur (Value.pointer (some ⟨2, (((((Args.G).getD (x2_8).toNat (0, nl0)).1)).toNat * 1), none⟩))), (44, .ld (Value.bool ((x2_5).getD ((((Args.G).getD (x2_8).toNat (0, nl0)).1)).toNat (false)))), (45, .val (.bool false)), (50, .call ⟨1, [(0, 2, true)], (V_viewportlaw11holds x2_0 x2_1 x2_2 (((Args.G).getD (x2_8).toNat (0, nl0)).2) true x2_4 x2_5 y2_8_), (R_viewportlaw11holds x2_0 x2_1 x2_2 (((Args.G).getD (x2_8).toNat (0, nl0)).2) true x2_4 x2_5 y2_8_), []⟩), (52, .pur (Value.pointer (some ⟨2, (((((Args.G).getD (x2_8).toNat (0, nl0)).1)).toNat * 1), none⟩))), (53, .sto (layT (rows rw_b ((x2_5).set ((((Args.G).getD (x2_8).toNat (0, nl0)).1)).toNat y2_8_))))]) (L := lT [(57, ⟨⟨[1, 3, 4, 5, 6, 7, 8, 9], [(0, 0, false), (1, 1, true), (2, 2, true), (3, 3, true), (4, 4, false)], 5, 0⟩, (X_viewportlaw11GramGrounded_3 x2_0 x2_1 x2_2 ((x2_3).set ((((Args.G).getD (x2_8).toNat (0, nl0)).1)).toNat true) x2_4 ((x2_5).set ((((Args.G).getD (x2_8).toNat (0, nl0)).1)).toNat y2_8_) x2_7 x2_8 (((Args.G).getD (x2_8).toNat (0, nl0)).1) (((Args.G).getD (x2_8).toNat (0, nl0)).2) y2_9_).1, (X_viewportlaw11GramGrounded_3 x2_0 x2_1 x2_2 ((x2_3).set ((((Args.G).getD (x2_8).toNat (0, nl0)).1)).toNat true) x2_4 ((x2_5).set ((((Args.G).getD (x2_8).toNat (0, nl0)).1)).toNat y2_8_) x2_7 x2_8 (((Args.G).getD (x2_8).toNat (0, nl0)).1) (((Args.G).getD (x2_8).toNat (0, nl0)).2) y2_9_).2⟩)]) (wk := ⟨[1, 3, 4, 5, 6, 7], [(0, 0, false), (1, 1, true), (2, 2, true), (3, 3, true)], 4, 0⟩)
    (ps := [(Value.bool (decide (x2_8 < (((Args.G).length : Nat) : Int)))) = (Value.bool true),
    opIndexAddr P 22 (Value.slice (some ⟨0, 0, some 1⟩) (Args.G).length Args.cG) (Value.int .i64 x2_8) Ax.h0 = some ((Value.pointer (some ⟨0, ((x2_8).toNat * 2), some 1⟩)), Ax.h0),
    loadG P 41 (Value.pointer (some ⟨0, ((x2_8).toNat * 2), some 1⟩)) Ax.h0 = some ((Value.agg #[(Value.int .i64 (((Args.G).getD (x2_8).toNat (0, nl0)).1)), (nlV (((Args.G).getD (x2_8).toNat (0, nl0)).2))]), Ax.h0),
    opIndexAddr P 35 (Value.slice (some ⟨1, 0, none⟩) x2_4 x2_4) (Value.int .i64 (((Args.G).getD (x2_8).toNat (0, nl0)).1)) Ax.h0 = some ((Value.pointer (some ⟨1, (((((Args.G).getD (x2_8).toNat (0, nl0)).1)).toNat * 1), none⟩)), Ax.h0),
    (layT (rows rw_b x2_3)).get (((((Args.G).getD (x2_8).toNat (0, nl0)).1)).toNat * 1) = some (Value.bool ((x2_3).getD ((((Args.G).getD (x2_8).toNat (0, nl0)).1)).toNat (false))),
    (Value.bool ((x2_3).getD ((((Args.G).getD (x2_8).toNat (0, nl0)).1)).toNat (false))) = (Value.bool true),
    opIndexAddr P 35 (Value.slice (some ⟨1, 0, none⟩) x2_4 x2_4) (Value.int .i64 (((Args.G).getD (x2_8).toNat (0, nl0)).1)) Ax.h0 = some ((Value.pointer (some ⟨1, (((((Args.G).getD (x2_8).toNat (0, nl0)).1)).toNat * 1), none⟩)), Ax.h0),
    ∃ old, rdT (layT (rows rw_b x2_3)) 1 (((((Args.G).getD (x2_8).toNat (0, nl0)).1)).toNat * 1) = some old,
    layL [(Value.bool true)] (((((Args.G).getD (x2_8).toNat (0, nl0)).1)).toNat * 1) (layT (rows rw_b x2_3)) = layT (rows rw_b ((x2_3).set ((((Args.G).getD (x2_8).toNat (0, nl0)).1)).toNat true)),
    opIndexAddr P 35 (Value.slice (some ⟨2, 0, none⟩) x2_4 x2_4) (Value.int .i64 (((Args.G).getD (x2_8).toNat (0, nl0)).1)) Ax.h0 = some ((Value.pointer (some ⟨2, (((((Args.G).getD (x2_8).toNat (0, nl0)).1)).toNat * 1), none⟩)), Ax.h0),
    (layT (rows rw_b x2_5)).get (((((Args.G).getD (x2_8).toNat (0, nl0)).1)).toNat * 1) = some (Value.bool ((x2_5).getD ((((Args.G).getD (x2_8).toNat (0, nl0)).1)).toNat (false))),
    (Value.bool ((x2_5).getD ((((Args.G).getD (x2_8).toNat (0, nl0)).1)).toNat (false))) = (Value.bool false),
    Gv P (.func 29) (A_viewportlaw11holds x2_0 x2_1 x2_2 (((Args.G).getD (x2_8).toNat (0, nl0)).2) true x2_4 x2_5) (H_viewportlaw11holds x2_0 x2_1 x2_2 (((Args.G).getD (x2_8).toNat (0, nl0)).2) true x2_4 x2_5) (V_viewportlaw11holds x2_0 x2_1 x2_2 (((Args.G).getD (x2_8).toNat (0, nl0)).2) true x2_4 x2_5 y2_8_) (R_viewportlaw11holds x2_0 x2_1 x2_2 (((Args.G).getD (x2_8).toNat (0, nl0)).2) true x2_4 x2_5 y2_8_),
    FlatB (.cells (layT (rows rw_b x2_5)) 4),
    opIndexAddr P 35 (Value.slice (some ⟨2, 0, none⟩) x2_4 x2_4) (Value.int .i64 (((Args.G).getD (x2_8).toNat (0, nl0)).1)) Ax.h0 = some ((Value.pointer (some ⟨2, (((((Args.G).getD (x2_8).toNat (0, nl0)).1)).toNat * 1), none⟩)), Ax.h0),
    ∃ old, rdT (layT (rows rw_b x2_5)) 1 (((((Args.G).getD (x2_8).toNat (0, nl0)).1)).toNat * 1) = some old,
    layL [(Value.bool y2_8_)] (((((Args.G).getD (x2_8).toNat (0, nl0)).1)).toNat * 1) (layT (rows rw_b x2_5)) = layT (rows rw_b ((x2_5).set ((((Args.G).getD (x2_8).toNat (0, nl0)).1)).toNat y2_8_)),
    CG P none (fnN P 5) 0 (codeOf P 5 [false, true, true, true, true, false, false, true, false, false, true, false, false, true, false, false, true, false, true, true, true, true, true]) (S_viewportlaw11GramGrounded_3 x2_0 x2_1 x2_2 ((x2_3).set ((((Args.G).getD (x2_8).toNat (0, nl0)).1)).toNat true) x2_4 ((x2_5).set ((((Args.G).getD (x2_8).toNat (0, nl0)).1)).toNat y2_8_) x2_7 x2_8 (((Args.G).getD (x2_8).toNat (0, nl0)).1) (((Args.G).getD (x2_8).toNat (0, nl0)).2) (x2_6, 0)) (X_viewportlaw11GramGrounded_3 x2_0 x2_1 x2_2 ((x2_3).set ((((Args.G).getD (x2_8).toNat (0, nl0)).1)).toNat true) x2_4 ((x2_5).set ((((Args.G).getD (x2_8).toNat (0, nl0)).1)).toNat y2_8_) x2_7 x2_8 (((Args.G).getD (x2_8).toNat (0, nl0)).1) (((Args.G).getD (x2_8).toNat (0, nl0)).2) y2_9_),
    FlatB (.cells (layT (rows rw_b ((x2_3).set ((((Args.G).getD (x2_8).toNat (0, nl0)).1)).toNat true))) 4),
    FlatB (.cells (layT (rows rw_b ((x2_5).set ((((Args.G).getD (x2_8).toNat (0, nl0)).1)).toNat y2_8_))) 4),
    FlatB (.cells (layT (rows rw_b x2_6)) 4),
    FlatB (.cells (layT (rows rw_b ((x2_3).set ((((Args.G).getD (x2_8).toNat (0, nl0)).1)).toNat true))) 4),
    FlatB (.cells (layT (rows rw_b ((x2_5).set ((((Args.G).getD (x2_8).toNat (0, nl0)).1)).toNat y2_8_))) 4),
    FlatB (.cells (layT (rows rw_b y2_9_)) 4)]) (by kernel_rfl) ⟨(vbT hy2_1), (ixW (e := 41) (by kernel_rfl) (by kernel_rfl) (hy2_2).1 (hy2_2).2), (ldWA rwf_iL (0, nl0) (i := (x2_8).toNat) (q := 0) (L := Args.G) (n := 2) ((x2_8).toNat * 2) rfl rfl (by kernel_rfl) (by kernel_rfl) (toNatLt hy2_2) (by decide) rfl), (ixS (e := 4) (by kernel_rfl) (by kernel_rfl) (hy2_3).1 (hy2_3).2), (rows_ld rwf_b (false) (i := ((((Args.G).getD (x2_8).toNat (0, nl0)).1)).toNat) (j := 0) (((((Args.G).getD (x2_8).toNat (0, nl0)).1)).toNat * 1) rfl (hy2_4) (by decide) rfl), (vB hy2_5), (ixS (e := 4) (by kernel_rfl) (by kernel_rfl) (hy2_3).1 (hy2_3).2), (Exists.elim (rows_st rwf_b (false) (i := ((((Args.G).getD (x2_8).toNat (0, nl0)).1)).toNat) (j := 0) (l := [(Value.bool true)]) true (((((Args.G).getD (x2_8).toNat (0, nl0)).1)).toNat * 1) rfl (hy2_4) (Nat.le_of_ble_eq_true rfl) rfl) fun o h => ⟨o, h.1⟩), (Exists.elim (rows_st rwf_b (false) (i := ((((Args.G).getD (x2_8).toNat (0, nl0)).1)).toNat) (j := 0) (l := [(Value.bool true)]) true (((((Args.G).getD (x2_8).toNat (0, nl0)).1)).toNat * 1) rfl (hy2_4) (Nat.le_of_ble_eq_true rfl) rfl) fun o h => h.2), (ixS (e := 4) (by kernel_rfl) (by kernel_rfl) (hy2_3).1 (hy2_3).2), (rows_ld rwf_b (false) (i := ((((Args.G).getD (x2_8).toNat (0, nl0)).1)).toNat) (j := 0) (((((Args.G).getD (x2_8).toNat (0, nl0)).1)).toNat * 1) rfl (hy2_6) (by decide) rfl), (vB (Bool.eq_false_iff.2 hy2_7)), (m_viewportlaw11holds_ok n x2_0 x2_1 x2_2 (((Args.G).getD (x2_8).toNat (0, nl0)).2) true x2_4 x2_5 y2_8_ hy2_8), (rows_flat rwf_b _ _), (ixS (e := 4) (by kernel_rfl) (by kernel_rfl) (hy2_3).1 (hy2_3).2), (Exists.elim (rows_st rwf_b (false) (i := ((((Args.G).getD (x2_8).toNat (0, nl0)).1)).toNat) (j := 0) (l := [(Value.bool y2_8_)]) y2_8_ (((((Args.G).getD (x2_8).toNat (0, nl0)).1)).toNat * 1) rfl (hy2_6) (Nat.le_of_ble_eq_true rfl) rfl) fun o h => ⟨o, h.1⟩), (Exists.elim (rows_st rwf_b (false) (i := ((((Args.G).getD (x2_8).toNat (0, nl0)).1)).toNat) (j := 0) (l := [(Value.bool y2_8_)]) y2_8_ (((((Args.G).getD (x2_8).toNat (0, nl0)).1)).toNat * 1) rfl (hy2_6) (Nat.le_of_ble_eq_true rfl) rfl) fun o h => h.2), (m_viewportlaw11GramGrounded_3_ok n x2_0 x2_1 x2_2 ((x2_3).set ((((Args.G).getD (x2_8).toNat (0, nl0)).1)).toNat true) x2_4 ((x2_5).set ((((Args.G).getD (x2_8).toNat (0, nl0)).1)).toNat y2_8_) x2_7 x2_8 (((Args.G).getD (x2_8).toNat (0, nl0)).1) (((Args.G).getD (x2_8).toNat (0, nl0)).2) (x2_6, 0) y2_9_ hy2_9), (rows_flat rwf_b _ _), (rows_flat rwf_b _ _), (rows_flat rwf_b _ _), (rows_flat rwf_b _ _), (rows_flat rwf_b _ _), (rows_flat rwf_b _ _), trivial⟩
set_option maxRecDepth 100000 in
theorem q_viewportlaw11GramGrounded_2_2 (n : Nat) (x2_0 : Int) (x2_1 : Int) (x2_2 : Int) (x2_3 : List (Bool)) (x2_4 : Nat) (x2_5 : List (Bool)) (x2_6 : List (Bool)) (x2_7 : Int) (x2_8 : Int) (hy2_1 : x2_8 < (((Args.G).length : Nat) : Int)) (hy2_2 : 0 ≤ x2_8 ∧ x2_8 < (((Args.G).length : Nat) : Int)) (hy2_3 : 0 ≤ (((Args.G).getD (x2_8).toNat (0, nl0)).1) ∧ (((Args.G).getD (x2_8).toNat (0, nl0)).1) < ((x2_4 : Nat) : Int)) (hy2_4 : ((((Args.G).getD (x2_8).toNat (0, nl0)).1)).toNat < (x2_3).length) (hy2_5 : ¬ (((x2_3).getD ((((Args.G).getD (x2_8).toNat (0, nl0)).1)).toNat (false)) = true)) (y2_6_ : Bool) (hy2_6 : m_viewportlaw11holds n x2_0 x2_1 x2_2 (((Args.G).getD (x2_8).toNat (0, nl0)).2) false x2_4 x2_3 = some y2_6_) (hy2_7 : ((((Args.G).getD (x2_8).toNat (0, nl0)).1)).toNat < (x2_5).length) (hy2_8 : ((x2_5).getD ((((Args.G).getD (x2_8).toNat (0, nl0)).1)).toNat (false)) = true) (y2_9_ : List (Bool)) (hy2_9 : m_viewportlaw11GramGrounded_3 n x2_0 x2_1 x2_2 ((x2_3).set ((((Args.G).getD (x2_8).toNat (0, nl0)).1)).toNat y2_6_) x2_4 ((x2_5).set ((((Args.G).getD (x2_8).toNat (0, nl0)).1)).toNat true) x2_7 x2_8 (((Args.G).getD (x2_8).toNat (0, nl0)).1) (((Args.G).getD (x2_8).toNat (0, nl0)).2) (x2_6, 0) = some y2_9_) : CG P none (fnN P 5) 0 (codeOf P 5 [false, false, true, false, false, true, false, false, true, false, true, true, true, true, true]) (S_viewportlaw11GramGrounded_2 x2_0 x2_1 x2_2 x2_4 x2_7 (x2_3, x2_5, x2_6, x2_8)) (.normal, S_viewportlaw11GramGrounded_2 x2_0 x2_1 x2_2 x2_4 x2_7 (((x2_3).set ((((Args.G).getD (x2_8).toNat (0, nl0)).1)).toNat y2_6_), ((x2_5).set ((((Args.G).getD (x2_8).toNat (0, nl0)).1)).toNat true), y2_9_, (w64 (x2_8 + (1 : Int))))) :=
  runC_ok hm (A := aT [(6, .val (.bool true)), (14, .pur (Value.pointer (some ⟨0, ((x2_8).toNat * 2), some 1⟩))), (15, .ld (Value.agg #[(Value.int .i64 (((Args.G).getD (x2_8).toNat (0, nl0)).1)), (nlV (((Args.G).getD (x2_8).toNat (0, nl0)).2))])), (25, .pur (Value.pointer (some ⟨1, (((((Args.G).getD (x2_8).toNat (0, nl0)).1)).toNat * 1), none⟩))), (26, .ld (Value.bool ((x2_3).getD ((((Args.G).getD (x2_8).toNat (0, nl0)).1)).toNat (false)))), (27, .val (.bool false)), (32, .call ⟨1, [(0, 1, true)], (V_viewportlaw11holds x2_0 x2_1 x2_2 (((Args.G).getD (x2_8).toNat (0, nl0)).2) false x2_4 x2_3 y2_6_), (R_viewportlaw11holds x2_0 x2_1 x2_2 (((Args.G).getD (x2_8).toNat (0, nl0)).2) false x2_4 x2_3 y2_6_), []⟩), (34, .pur (Value.pointer (some ⟨1, (((((Args.G).getD (x2_8).toNat (0, nl0)).1)).toNat * 1), none⟩))), (35, .sto (layT (rows rw_b ((x2_3).set ((((Args.G).getD (x2_8).toNat (0, nl0)).1)).toNat y2_6_)))), (43, .pur (Value.pointer (some ⟨2, (((((Args.G).getD (x2_8).toNat (0, nl0)).1)).toNat * 1), none⟩))), (44, .ld (Value.bool ((x2_5).getD ((((Args.G).getD (x2_8).toNat (0, nl0)).1)).toNat (false)))), (45, .val (.bool true)), (52, .pur (Value.pointer (some ⟨2, (((((Args.G).getD (x2_8).toNat (0, nl0)).1)).toNat * 1), none⟩))), (53, .sto (layT (rows rw_b ((x2_5).set ((((Args.G).getD (x2_8).toNat (0, nl0)).1)).toNat true))))]) (L := lT [(57, ⟨⟨[1, 3, 4, 5, 6, 7, 8, 9], [(0, 0, false), (1, 1, true), (2, 2, true), (3, 3, true), (4, 4, false)], 5, 0⟩, (X_viewportlaw11GramGrounded_3 x2_0 x2_1 x2_2 ((x2_3).set ((((Args.G).getD (x2_8).toNat (0, nl0)).1)).toNat y2_6_) x2_4 ((x2_5).set ((((Args.G).getD (x2_8).toNat (0, nl0)).1)).toNat true) x2_7 x2_8 (((Args.G).getD (x2_8).toNat (0, nl0)).1) (((Args.G).getD (x2_8).toNat (0, nl0)).2) y2_9_).1, (X_viewportlaw11GramGrounded_3 x2_0 x2_1 x2_2 ((x2_3).set ((((Args.G).getD (x2_8).toNat (0, nl0)).1)).toNat y2_6_) x2_4 ((x2_5).set ((((Args.G).getD (x2_8).toNat (0, nl0)).1)).toNat true) x2_7 x2_8 (((Args.G).getD (x2_8).toNat (0, nl0)).1) (((Args.G).getD (x2_8).toNat (0, nl0)).2) y2_9_).2⟩)]) (wk := ⟨[1, 3, 4, 5, 6, 7], [(0, 0, false), (1, 1, true), (2, 2, true), (3, 3, true)], 4, 0⟩)
    (ps := [(Value.bool (decide (x2_8 < (((Args.G).length : Nat) : Int)))) = (Value.bool true),
    opIndexAddr P 22 (Value.slice (some ⟨0, 0, some 1⟩) (Args.G).length Args.cG) (Value.int .i64 x2_8) Ax.h0 = some ((Value.pointer (some ⟨0, ((x2_8).toNat * 2), some 1⟩)), Ax.h0),
    loadG P 41 (Value.pointer (some ⟨0, ((x2_8).toNat * 2), some 1⟩)) Ax.h0 = some ((Value.agg #[(Value.int .i64 (((Args.G).getD (x2_8).toNat (0, nl0)).1)), (nlV (((Args.G).getD (x2_8).toNat (0, nl0)).2))]), Ax.h0),
    opIndexAddr P 35 (Value.slice (some ⟨1, 0, none⟩) x2_4 x2_4) (Value.int .i64 (((Args.G).getD (x2_8).toNat (0, nl0)).1)) Ax.h0 = some ((Value.pointer (some ⟨1, (((((Args.G).getD (x2_8).toNat (0, nl0)).1)).toNat * 1), none⟩)), Ax.h0),
    (layT (rows rw_b x2_3)).get (((((Args.G).getD (x2_8).toNat (0, nl0)).1)).toNat * 1) = some (Value.bool ((x2_3).getD ((((Args.G).getD (x2_8).toNat (0, nl0)).1)).toNat (false))),
    (Value.bool ((x2_3).getD ((((Args.G).getD (x2_8).toNat (0, nl0)).1)).toNat (false))) = (Value.bool false),
    Gv P (.func 29) (A_viewportlaw11holds x2_0 x2_1 x2_2 (((Args.G).getD (x2_8).toNat (0, nl0)).2) false x2_4 x2_3) (H_viewportlaw11holds x2_0 x2_1 x2_2 (((Args.G).getD (x2_8).toNat (0, nl0)).2) false x2_4 x2_3) (V_viewportlaw11holds x2_0 x2_1 x2_2 (((Args.G).getD (x2_8).toNat (0, nl0)).2) false x2_4 x2_3 y2_6_) (R_viewportlaw11holds x2_0 x2_1 x2_2 (((Args.G).getD (x2_8).toNat (0, nl0)).2) false x2_4 x2_3 y2_6_),
    FlatB (.cells (layT (rows rw_b x2_3)) 4),
    opIndexAddr P 35 (Value.slice (some ⟨1, 0, none⟩) x2_4 x2_4) (Value.int .i64 (((Args.G).getD (x2_8).toNat (0, nl0)).1)) Ax.h0 = some ((Value.pointer (some ⟨1, (((((Args.G).getD (x2_8).toNat (0, nl0)).1)).toNat * 1), none⟩)), Ax.h0),
    ∃ old, rdT (layT (rows rw_b x2_3)) 1 (((((Args.G).getD (x2_8).toNat (0, nl0)).1)).toNat * 1) = some old,
    layL [(Value.bool y2_6_)] (((((Args.G).getD (x2_8).toNat (0, nl0)).1)).toNat * 1) (layT (rows rw_b x2_3)) = layT (rows rw_b ((x2_3).set ((((Args.G).getD (x2_8).toNat (0, nl0)).1)).toNat y2_6_)),
    opIndexAddr P 35 (Value.slice (some ⟨2, 0, none⟩) x2_4 x2_4) (Value.int .i64 (((Args.G).getD (x2_8).toNat (0, nl0)).1)) Ax.h0 = some ((Value.pointer (some ⟨2, (((((Args.G).getD (x2_8).toNat (0, nl0)).1)).toNat * 1), none⟩)), Ax.h0),
    (layT (rows rw_b x2_5)).get (((((Args.G).getD (x2_8).toNat (0, nl0)).1)).toNat * 1) = some (Value.bool ((x2_5).getD ((((Args.G).getD (x2_8).toNat (0, nl0)).1)).toNat (false))),
    (Value.bool ((x2_5).getD ((((Args.G).getD (x2_8).toNat (0, nl0)).1)).toNat (false))) = (Value.bool true),
    opIndexAddr P 35 (Value.slice (some ⟨2, 0, none⟩) x2_4 x2_4) (Value.int .i64 (((Args.G).getD (x2_8).toNat (0, nl0)).1)) Ax.h0 = some ((Value.pointer (some ⟨2, (((((Args.G).getD (x2_8).toNat (0, nl0)).1)).toNat * 1), none⟩)), Ax.h0),
    ∃ old, rdT (layT (rows rw_b x2_5)) 1 (((((Args.G).getD (x2_8).toNat (0, nl0)).1)).toNat * 1) = some old,
    layL [(Value.bool true)] (((((Args.G).getD (x2_8).toNat (0, nl0)).1)).toNat * 1) (layT (rows rw_b x2_5)) = layT (rows rw_b ((x2_5).set ((((Args.G).getD (x2_8).toNat (0, nl0)).1)).toNat true)),
    CG P none (fnN P 5) 0 (codeOf P 5 [false, true, true, true, true, false, false, true, false, false, true, false, false, true, false, false, true, false, true, true, true, true, true]) (S_viewportlaw11GramGrounded_3 x2_0 x2_1 x2_2 ((x2_3).set ((((Args.G).getD (x2_8).toNat (0, nl0)).1)).toNat y2_6_) x2_4 ((x2_5).set ((((Args.G).getD (x2_8).toNat (0, nl0)).1)).toNat true) x2_7 x2_8 (((Args.G).getD (x2_8).toNat (0, nl0)).1) (((Args.G).getD (x2_8).toNat (0, nl0)).2) (x2_6, 0)) (X_viewportlaw11GramGrounded_3 x2_0 x2_1 x2_2 ((x2_3).set ((((Args.G).getD (x2_8).toNat (0, nl0)).1)).toNat y2_6_) x2_4 ((x2_5).set ((((Args.G).getD (x2_8).toNat (0, nl0)).1)).toNat true) x2_7 x2_8 (((Args.G).getD (x2_8).toNat (0, nl0)).1) (((Args.G).getD (x2_8).toNat (0, nl0)).2) y2_9_),
    FlatB (.cells (layT (rows rw_b ((x2_3).set ((((Args.G).getD (x2_8).toNat (0, nl0)).1)).toNat y2_6_))) 4),
    FlatB (.cells (layT (rows rw_b ((x2_5).set ((((Args.G).getD (x2_8).toNat (0, nl0)).1)).toNat true))) 4),
    FlatB (.cells (layT (rows rw_b x2_6)) 4),
    FlatB (.cells (layT (rows rw_b ((x2_3).set ((((Args.G).getD (x2_8).toNat (0, nl0)).1)).toNat y2_6_))) 4),
    FlatB (.cells (layT (rows rw_b ((x2_5).set ((((Args.G).getD (x2_8).toNat (0, nl0)).1)).toNat true))) 4),
    FlatB (.cells (layT (rows rw_b y2_9_)) 4)]) (by kernel_rfl) ⟨(vbT hy2_1), (ixW (e := 41) (by kernel_rfl) (by kernel_rfl) (hy2_2).1 (hy2_2).2), (ldWA rwf_iL (0, nl0) (i := (x2_8).toNat) (q := 0) (L := Args.G) (n := 2) ((x2_8).toNat * 2) rfl rfl (by kernel_rfl) (by kernel_rfl) (toNatLt hy2_2) (by decide) rfl), (ixS (e := 4) (by kernel_rfl) (by kernel_rfl) (hy2_3).1 (hy2_3).2), (rows_ld rwf_b (false) (i := ((((Args.G).getD (x2_8).toNat (0, nl0)).1)).toNat) (j := 0) (((((Args.G).getD (x2_8).toNat (0, nl0)).1)).toNat * 1) rfl (hy2_4) (by decide) rfl), (vB (Bool.eq_false_iff.2 hy2_5)), (m_viewportlaw11holds_ok n x2_0 x2_1 x2_2 (((Args.G).getD (x2_8).toNat (0, nl0)).2) false x2_4 x2_3 y2_6_ hy2_6), (rows_flat rwf_b _ _), (ixS (e := 4) (by kernel_rfl) (by kernel_rfl) (hy2_3).1 (hy2_3).2), (Exists.elim (rows_st rwf_b (false) (i := ((((Args.G).getD (x2_8).toNat (0, nl0)).1)).toNat) (j := 0) (l := [(Value.bool y2_6_)]) y2_6_ (((((Args.G).getD (x2_8).toNat (0, nl0)).1)).toNat * 1) rfl (hy2_4) (Nat.le_of_ble_eq_true rfl) rfl) fun o h => ⟨o, h.1⟩), (Exists.elim (rows_st rwf_b (false) (i := ((((Args.G).getD (x2_8).toNat (0, nl0)).1)).toNat) (j := 0) (l := [(Value.bool y2_6_)]) y2_6_ (((((Args.G).getD (x2_8).toNat (0, nl0)).1)).toNat * 1) rfl (hy2_4) (Nat.le_of_ble_eq_true rfl) rfl) fun o h => h.2), (ixS (e := 4) (by kernel_rfl) (by kernel_rfl) (hy2_3).1 (hy2_3).2), (rows_ld rwf_b (false) (i := ((((Args.G).getD (x2_8).toNat (0, nl0)).1)).toNat) (j := 0) (((((Args.G).getD (x2_8).toNat (0, nl0)).1)).toNat * 1) rfl (hy2_7) (by decide) rfl), (vB hy2_8), (ixS (e := 4) (by kernel_rfl) (by kernel_rfl) (hy2_3).1 (hy2_3).2), (Exists.elim (rows_st rwf_b (false) (i := ((((Args.G).getD (x2_8).toNat (0, nl0)).1)).toNat) (j := 0) (l := [(Value.bool true)]) true (((((Args.G).getD (x2_8).toNat (0, nl0)).1)).toNat * 1) rfl (hy2_7) (Nat.le_of_ble_eq_true rfl) rfl) fun o h => ⟨o, h.1⟩), (Exists.elim (rows_st rwf_b (false) (i := ((((Args.G).getD (x2_8).toNat (0, nl0)).1)).toNat) (j := 0) (l := [(Value.bool true)]) true (((((Args.G).getD (x2_8).toNat (0, nl0)).1)).toNat * 1) rfl (hy2_7) (Nat.le_of_ble_eq_true rfl) rfl) fun o h => h.2), (m_viewportlaw11GramGrounded_3_ok n x2_0 x2_1 x2_2 ((x2_3).set ((((Args.G).getD (x2_8).toNat (0, nl0)).1)).toNat y2_6_) x2_4 ((x2_5).set ((((Args.G).getD (x2_8).toNat (0, nl0)).1)).toNat true) x2_7 x2_8 (((Args.G).getD (x2_8).toNat (0, nl0)).1) (((Args.G).getD (x2_8).toNat (0, nl0)).2) (x2_6, 0) y2_9_ hy2_9), (rows_flat rwf_b _ _), (rows_flat rwf_b _ _), (rows_flat rwf_b _ _), (rows_flat rwf_b _ _), (rows_flat rwf_b _ _), (rows_flat rwf_b _ _), trivial⟩
set_option maxRecDepth 100000 in
theorem q_viewportlaw11GramGrounded_2_3 (n : Nat) (x2_0 : Int) (x2_1 : Int) (x2_2 : Int) (x2_3 : List (Bool)) (x2_4 : Nat) (x2_5 : List (Bool)) (x2_6 : List (Bool)) (x2_7 : Int) (x2_8 : Int) (hy2_1 : x2_8 < (((Args.G).length : Nat) : Int)) (hy2_2 : 0 ≤ x2_8 ∧ x2_8 < (((Args.G).length : Nat) : Int)) (hy2_3 : 0 ≤ (((Args.G).getD (x2_8).toNat (0, nl0)).1) ∧ (((Args.G).getD (x2_8).toNat (0, nl0)).1) < ((x2_4 : Nat) : Int)) (hy2_4 : ((((Args.G).getD (x2_8).toNat (0, nl0)).1)).toNat < (x2_3).length) (hy2_5 : ¬ (((x2_3).getD ((((Args.G).getD (x2_8).toNat (0, nl0)).1)).toNat (false)) = true)) (y2_6_ : Bool) (hy2_6 : m_viewportlaw11holds n x2_0 x2_1 x2_2 (((Args.G).getD (x2_8).toNat (0, nl0)).2) false x2_4 x2_3 = some y2_6_) (hy2_7 : ((((Args.G).getD (x2_8).toNat (0, nl0)).1)).toNat < (x2_5).length) (hy2_8 : ¬ (((x2_5).getD ((((Args.G).getD (x2_8).toNat (0, nl0)).1)).toNat (false)) = true)) (y2_9_ : Bool) (hy2_9 : m_viewportlaw11holds n x2_0 x2_1 x2_2 (((Args.G).getD (x2_8).toNat (0, nl0)).2) true x2_4 x2_5 = some y2_9_) (y2_10_ : List (Bool)) (hy2_10 : m_viewportlaw11GramGrounded_3 n x2_0 x2_1 x2_2 ((x2_3).set ((((Args.G).getD (x2_8).toNat (0, nl0)).1)).toNat y2_6_) x2_4 ((x2_5).set ((((Args.G).getD (x2_8).toNat (0, nl0)).1)).toNat y2_9_) x2_7 x2_8 (((Args.G).getD (x2_8).toNat (0, nl0)).1) (((Args.G).getD (x2_8).toNat (0, nl0)).2) (x2_6, 0) = some y2_10_) : CG P none (fnN P 5) 0 (codeOf P 5 [false, false, true, false, false, true, false, false, true, false, true, true, true, true, true]) (S_viewportlaw11GramGrounded_2 x2_0 x2_1 x2_2 x2_4 x2_7 (x2_3, x2_5, x2_6, x2_8)) (.normal, S_viewportlaw11GramGrounded_2 x2_0 x2_1 x2_2 x2_4 x2_7 (((x2_3).set ((((Args.G).getD (x2_8).toNat (0, nl0)).1)).toNat y2_6_), ((x2_5).set ((((Args.G).getD (x2_8).toNat (0, nl0)).1)).toNat y2_9_), y2_10_, (w64 (x2_8 + (1 : Int))))) :=
  runC_ok hm (A := aT [(6, .val (.bool true)), (14, .pur (Value.pointer (some ⟨0, ((x2_8).toNat * 2), some 1⟩))), (15, .ld (Value.agg #[(Value.int .i64 (((Args.G).getD (x2_8).toNat (0, nl0)).1)), (nlV (((Args.G).getD (x2_8).toNat (0, nl0)).2))])), (25, .pur (Value.pointer (some ⟨1, (((((Args.G).getD (x2_8).toNat (0, nl0)).1)).toNat * 1), none⟩))), (26, .ld (Value.bool ((x2_3).getD ((((Args.G).getD (x2_8).toNat (0, nl0)).1)).toNat (false)))), (27, .val (.bool false)), (32, .call ⟨1, [(0, 1, true)], (V_viewportlaw11holds x2_0 x2_1 x2_2 (((Args.G).getD (x2_8).toNat (0, nl0)).2) false x2_4 x2_3 y2_6_), (R_viewportlaw11holds x2_0 x2_1 x2_2 (((Args.G).getD (x2_8).toNat (0, nl0)).2) false x2_4 x2_3 y2_6_), []⟩), (34, .pur (Value.pointer (some ⟨1, (((((Args.G).getD (x2_8).toNat (0, nl0)).1)).toNat * 1), none⟩))), (35, .sto (layT (rows rw_b ((x2_3).set ((((Args.G).getD (x2_8).toNat (0, nl0)).1)).toNat y2_6_)))), (43, .pur (Value.pointer (some ⟨2, (((((Args.G).getD (x2_8).toNat (0, nl0)).1)).toNat * 1), none⟩))), (44, .ld (Value.bool ((x2_5).getD ((((Args.G).getD (x2_8).toNat (0, nl0)).1)).toNat (false)))), (45, .val (.bool false)), (50, .call ⟨1, [(0, 2, true)], (V_viewportlaw11holds x2_0 x2_1 x2_2 (((Args.G).getD (x2_8).toNat (0, nl0)).2) true x2_4 x2_5 y2_9_), (R_viewportlaw11holds x2_0 x2_1 x2_2 (((Args.G).getD (x2_8).toNat (0, nl0)).2) true x2_4 x2_5 y2_9_), []⟩), (52, .pur (Value.pointer (some ⟨2, (((((Args.G).getD (x2_8).toNat (0, nl0)).1)).toNat * 1), none⟩))), (53, .sto (layT (rows rw_b ((x2_5).set ((((Args.G).getD (x2_8).toNat (0, nl0)).1)).toNat y2_9_))))]) (L := lT [(57, ⟨⟨[1, 3, 4, 5, 6, 7, 8, 9], [(0, 0, false), (1, 1, true), (2, 2, true), (3, 3, true), (4, 4, false)], 5, 0⟩, (X_viewportlaw11GramGrounded_3 x2_0 x2_1 x2_2 ((x2_3).set ((((Args.G).getD (x2_8).toNat (0, nl0)).1)).toNat y2_6_) x2_4 ((x2_5).set ((((Args.G).getD (x2_8).toNat (0, nl0)).1)).toNat y2_9_) x2_7 x2_8 (((Args.G).getD (x2_8).toNat (0, nl0)).1) (((Args.G).getD (x2_8).toNat (0, nl0)).2) y2_10_).1, (X_viewportlaw11GramGrounded_3 x2_0 x2_1 x2_2 ((x2_3).set ((((Args.G).getD (x2_8).toNat (0, nl0)).1)).toNat y2_6_) x2_4 ((x2_5).set ((((Args.G).getD (x2_8).toNat (0, nl0)).1)).toNat y2_9_) x2_7 x2_8 (((Args.G).getD (x2_8).toNat (0, nl0)).1) (((Args.G).getD (x2_8).toNat (0, nl0)).2) y2_10_).2⟩)]) (wk := ⟨[1, 3, 4, 5, 6, 7], [(0, 0, false), (1, 1, true), (2, 2, true), (3, 3, true)], 4, 0⟩)
    (ps := [(Value.bool (decide (x2_8 < (((Args.G).length : Nat) : Int)))) = (Value.bool true),
    opIndexAddr P 22 (Value.slice (some ⟨0, 0, some 1⟩) (Args.G).length Args.cG) (Value.int .i64 x2_8) Ax.h0 = some ((Value.pointer (some ⟨0, ((x2_8).toNat * 2), some 1⟩)), Ax.h0),
    loadG P 41 (Value.pointer (some ⟨0, ((x2_8).toNat * 2), some 1⟩)) Ax.h0 = some ((Value.agg #[(Value.int .i64 (((Args.G).getD (x2_8).toNat (0, nl0)).1)), (nlV (((Args.G).getD (x2_8).toNat (0, nl0)).2))]), Ax.h0),
    opIndexAddr P 35 (Value.slice (some ⟨1, 0, none⟩) x2_4 x2_4) (Value.int .i64 (((Args.G).getD (x2_8).toNat (0, nl0)).1)) Ax.h0 = some ((Value.pointer (some ⟨1, (((((Args.G).getD (x2_8).toNat (0, nl0)).1)).toNat * 1), none⟩)), Ax.h0),
    (layT (rows rw_b x2_3)).get (((((Args.G).getD (x2_8).toNat (0, nl0)).1)).toNat * 1) = some (Value.bool ((x2_3).getD ((((Args.G).getD (x2_8).toNat (0, nl0)).1)).toNat (false))),
    (Value.bool ((x2_3).getD ((((Args.G).getD (x2_8).toNat (0, nl0)).1)).toNat (false))) = (Value.bool false),
    Gv P (.func 29) (A_viewportlaw11holds x2_0 x2_1 x2_2 (((Args.G).getD (x2_8).toNat (0, nl0)).2) false x2_4 x2_3) (H_viewportlaw11holds x2_0 x2_1 x2_2 (((Args.G).getD (x2_8).toNat (0, nl0)).2) false x2_4 x2_3) (V_viewportlaw11holds x2_0 x2_1 x2_2 (((Args.G).getD (x2_8).toNat (0, nl0)).2) false x2_4 x2_3 y2_6_) (R_viewportlaw11holds x2_0 x2_1 x2_2 (((Args.G).getD (x2_8).toNat (0, nl0)).2) false x2_4 x2_3 y2_6_),
    FlatB (.cells (layT (rows rw_b x2_3)) 4),
    opIndexAddr P 35 (Value.slice (some ⟨1, 0, none⟩) x2_4 x2_4) (Value.int .i64 (((Args.G).getD (x2_8).toNat (0, nl0)).1)) Ax.h0 = some ((Value.pointer (some ⟨1, (((((Args.G).getD (x2_8).toNat (0, nl0)).1)).toNat * 1), none⟩)), Ax.h0),
    ∃ old, rdT (layT (rows rw_b x2_3)) 1 (((((Args.G).getD (x2_8).toNat (0, nl0)).1)).toNat * 1) = some old,
    layL [(Value.bool y2_6_)] (((((Args.G).getD (x2_8).toNat (0, nl0)).1)).toNat * 1) (layT (rows rw_b x2_3)) = layT (rows rw_b ((x2_3).set ((((Args.G).getD (x2_8).toNat (0, nl0)).1)).toNat y2_6_)),
    opIndexAddr P 35 (Value.slice (some ⟨2, 0, none⟩) x2_4 x2_4) (Value.int .i64 (((Args.G).getD (x2_8).toNat (0, nl0)).1)) Ax.h0 = some ((Value.pointer (some ⟨2, (((((Args.G).getD (x2_8).toNat (0, nl0)).1)).toNat * 1), none⟩)), Ax.h0),
    (layT (rows rw_b x2_5)).get (((((Args.G).getD (x2_8).toNat (0, nl0)).1)).toNat * 1) = some (Value.bool ((x2_5).getD ((((Args.G).getD (x2_8).toNat (0, nl0)).1)).toNat (false))),
    (Value.bool ((x2_5).getD ((((Args.G).getD (x2_8).toNat (0, nl0)).1)).toNat (false))) = (Value.bool false),
    Gv P (.func 29) (A_viewportlaw11holds x2_0 x2_1 x2_2 (((Args.G).getD (x2_8).toNat (0, nl0)).2) true x2_4 x2_5) (H_viewportlaw11holds x2_0 x2_1 x2_2 (((Args.G).getD (x2_8).toNat (0, nl0)).2) true x2_4 x2_5) (V_viewportlaw11holds x2_0 x2_1 x2_2 (((Args.G).getD (x2_8).toNat (0, nl0)).2) true x2_4 x2_5 y2_9_) (R_viewportlaw11holds x2_0 x2_1 x2_2 (((Args.G).getD (x2_8).toNat (0, nl0)).2) true x2_4 x2_5 y2_9_),
    FlatB (.cells (layT (rows rw_b x2_5)) 4),
    opIndexAddr P 35 (Value.slice (some ⟨2, 0, none⟩) x2_4 x2_4) (Value.int .i64 (((Args.G).getD (x2_8).toNat (0, nl0)).1)) Ax.h0 = some ((Value.pointer (some ⟨2, (((((Args.G).getD (x2_8).toNat (0, nl0)).1)).toNat * 1), none⟩)), Ax.h0),
    ∃ old, rdT (layT (rows rw_b x2_5)) 1 (((((Args.G).getD (x2_8).toNat (0, nl0)).1)).toNat * 1) = some old,
    layL [(Value.bool y2_9_)] (((((Args.G).getD (x2_8).toNat (0, nl0)).1)).toNat * 1) (layT (rows rw_b x2_5)) = layT (rows rw_b ((x2_5).set ((((Args.G).getD (x2_8).toNat (0, nl0)).1)).toNat y2_9_)),
    CG P none (fnN P 5) 0 (codeOf P 5 [false, true, true, true, true, false, false, true, false, false, true, false, false, true, false, false, true, false, true, true, true, true, true]) (S_viewportlaw11GramGrounded_3 x2_0 x2_1 x2_2 ((x2_3).set ((((Args.G).getD (x2_8).toNat (0, nl0)).1)).toNat y2_6_) x2_4 ((x2_5).set ((((Args.G).getD (x2_8).toNat (0, nl0)).1)).toNat y2_9_) x2_7 x2_8 (((Args.G).getD (x2_8).toNat (0, nl0)).1) (((Args.G).getD (x2_8).toNat (0, nl0)).2) (x2_6, 0)) (X_viewportlaw11GramGrounded_3 x2_0 x2_1 x2_2 ((x2_3).set ((((Args.G).getD (x2_8).toNat (0, nl0)).1)).toNat y2_6_) x2_4 ((x2_5).set ((((Args.G).getD (x2_8).toNat (0, nl0)).1)).toNat y2_9_) x2_7 x2_8 (((Args.G).getD (x2_8).toNat (0, nl0)).1) (((Args.G).getD (x2_8).toNat (0, nl0)).2) y2_10_),
    FlatB (.cells (layT (rows rw_b ((x2_3).set ((((Args.G).getD (x2_8).toNat (0, nl0)).1)).toNat y2_6_))) 4),
    FlatB (.cells (layT (rows rw_b ((x2_5).set ((((Args.G).getD (x2_8).toNat (0, nl0)).1)).toNat y2_9_))) 4),
    FlatB (.cells (layT (rows rw_b x2_6)) 4),
    FlatB (.cells (layT (rows rw_b ((x2_3).set ((((Args.G).getD (x2_8).toNat (0, nl0)).1)).toNat y2_6_))) 4),
    FlatB (.cells (layT (rows rw_b ((x2_5).set ((((Args.G).getD (x2_8).toNat (0, nl0)).1)).toNat y2_9_))) 4),
    FlatB (.cells (layT (rows rw_b y2_10_)) 4)]) (by kernel_rfl) ⟨(vbT hy2_1), (ixW (e := 41) (by kernel_rfl) (by kernel_rfl) (hy2_2).1 (hy2_2).2), (ldWA rwf_iL (0, nl0) (i := (x2_8).toNat) (q := 0) (L := Args.G) (n := 2) ((x2_8).toNat * 2) rfl rfl (by kernel_rfl) (by kernel_rfl) (toNatLt hy2_2) (by decide) rfl), (ixS (e := 4) (by kernel_rfl) (by kernel_rfl) (hy2_3).1 (hy2_3).2), (rows_ld rwf_b (false) (i := ((((Args.G).getD (x2_8).toNat (0, nl0)).1)).toNat) (j := 0) (((((Args.G).getD (x2_8).toNat (0, nl0)).1)).toNat * 1) rfl (hy2_4) (by decide) rfl), (vB (Bool.eq_false_iff.2 hy2_5)), (m_viewportlaw11holds_ok n x2_0 x2_1 x2_2 (((Args.G).getD (x2_8).toNat (0, nl0)).2) false x2_4 x2_3 y2_6_ hy2_6), (rows_flat rwf_b _ _), (ixS (e := 4) (by kernel_rfl) (by kernel_rfl) (hy2_3).1 (hy2_3).2), (Exists.elim (rows_st rwf_b (false) (i := ((((Args.G).getD (x2_8).toNat (0, nl0)).1)).toNat) (j := 0) (l := [(Value.bool y2_6_)]) y2_6_ (((((Args.G).getD (x2_8).toNat (0, nl0)).1)).toNat * 1) rfl (hy2_4) (Nat.le_of_ble_eq_true rfl) rfl) fun o h => ⟨o, h.1⟩), (Exists.elim (rows_st rwf_b (false) (i := ((((Args.G).getD (x2_8).toNat (0, nl0)).1)).toNat) (j := 0) (l := [(Value.bool y2_6_)]) y2_6_ (((((Args.G).getD (x2_8).toNat (0, nl0)).1)).toNat * 1) rfl (hy2_4) (Nat.le_of_ble_eq_true rfl) rfl) fun o h => h.2), (ixS (e := 4) (by kernel_rfl) (by kernel_rfl) (hy2_3).1 (hy2_3).2), (rows_ld rwf_b (false) (i := ((((Args.G).getD (x2_8).toNat (0, nl0)).1)).toNat) (j := 0) (((((Args.G).getD (x2_8).toNat (0, nl0)).1)).toNat * 1) rfl (hy2_7) (by decide) rfl), (vB (Bool.eq_false_iff.2 hy2_8)), (m_viewportlaw11holds_ok n x2_0 x2_1 x2_2 (((Args.G).getD (x2_8).toNat (0, nl0)).2) true x2_4 x2_5 y2_9_ hy2_9), (rows_flat rwf_b _ _), (ixS (e := 4) (by kernel_rfl) (by kernel_rfl) (hy2_3).1 (hy2_3).2), (Exists.elim (rows_st rwf_b (false) (i := ((((Args.G).getD (x2_8).toNat (0, nl0)).1)).toNat) (j := 0) (l := [(Value.bool y2_9_)]) y2_9_ (((((Args.G).getD (x2_8).toNat (0, nl0)).1)).toNat * 1) rfl (hy2_7) (Nat.le_of_ble_eq_true rfl) rfl) fun o h => ⟨o, h.1⟩), (Exists.elim (rows_st rwf_b (false) (i := ((((Args.G).getD (x2_8).toNat (0, nl0)).1)).toNat) (j := 0) (l := [(Value.bool y2_9_)]) y2_9_ (((((Args.G).getD (x2_8).toNat (0, nl0)).1)).toNat * 1) rfl (hy2_7) (Nat.le_of_ble_eq_true rfl) rfl) fun o h => h.2), (m_viewportlaw11GramGrounded_3_ok n x2_0 x2_1 x2_2 ((x2_3).set ((((Args.G).getD (x2_8).toNat (0, nl0)).1)).toNat y2_6_) x2_4 ((x2_5).set ((((Args.G).getD (x2_8).toNat (0, nl0)).1)).toNat y2_9_) x2_7 x2_8 (((Args.G).getD (x2_8).toNat (0, nl0)).1) (((Args.G).getD (x2_8).toNat (0, nl0)).2) (x2_6, 0) y2_10_ hy2_10), (rows_flat rwf_b _ _), (rows_flat rwf_b _ _), (rows_flat rwf_b _ _), (rows_flat rwf_b _ _), (rows_flat rwf_b _ _), (rows_flat rwf_b _ _), trivial⟩
set_option maxRecDepth 100000 in
theorem q_viewportlaw11GramGrounded_2_4 (n : Nat) (x2_0 : Int) (x2_1 : Int) (x2_2 : Int) (x2_3 : List (Bool)) (x2_4 : Nat) (x2_5 : List (Bool)) (x2_6 : List (Bool)) (x2_7 : Int) (x2_8 : Int) (hy2_1 : ¬ (x2_8 < (((Args.G).length : Nat) : Int))) : CG P none (fnN P 5) 0 (codeOf P 5 [false, false, true, false, false, true, false, false, true, false, true, true, true, true, true]) (S_viewportlaw11GramGrounded_2 x2_0 x2_1 x2_2 x2_4 x2_7 (x2_3, x2_5, x2_6, x2_8)) (X_viewportlaw11GramGrounded_2 x2_0 x2_1 x2_2 x2_4 x2_7 (x2_3, x2_5, x2_6)) :=
  runC_ok hm (A := aT [(6, .val (.bool false))]) (L := lT []) (wk := ⟨[1, 3, 4, 5, 6], [(0, 0, false), (1, 1, true), (2, 2, true), (3, 3, true)], 4, 0⟩)
    (ps := [(Value.bool (decide (x2_8 < (((Args.G).length : Nat) : Int)))) = (Value.bool false),
    FlatB (.cells (layT (rows rw_b x2_3)) 4),
    FlatB (.cells (layT (rows rw_b x2_5)) 4),
    FlatB (.cells (layT (rows rw_b x2_6)) 4)]) (by kernel_rfl) ⟨(vbF hy2_1), (rows_flat rwf_b _ _), (rows_flat rwf_b _ _), (rows_flat rwf_b _ _), trivial⟩
theorem m_viewportlaw11GramGrounded_2_ok (n : Nat) (x2_0 : Int) (x2_1 : Int) (x2_2 : Int) (x2_4 : Nat) (x2_7 : Int) (st : List (Bool) × List (Bool) × List (Bool) × Int) (r : List (Bool) × List (Bool) × List (Bool)) (h : m_viewportlaw11GramGrounded_2 n x2_0 x2_1 x2_2 x2_4 x2_7 st = some r) : CG P none (fnN P 5) 0 (codeOf P 5 [false, true, false, false, true, false, false, true, false, true, true, true, true, true]) (S_viewportlaw11GramGrounded_2 x2_0 x2_1 x2_2 x2_4 x2_7 st) (X_viewportlaw11GramGrounded_2 x2_0 x2_1 x2_2 x2_4 x2_7 r) :=
  CG.iter (b := codeOf P 5 [false, false, true, false, false, true, false, false, true, false, true, true, true, true, true]) (by kernel_rfl) (body := B_viewportlaw11GramGrounded_2 n x2_0 x2_1 x2_2 x2_4 x2_7) (S := S_viewportlaw11GramGrounded_2 x2_0 x2_1 x2_2 x2_4 x2_7) (X := X_viewportlaw11GramGrounded_2 x2_0 x2_1 x2_2 x2_4 x2_7)
    (fun s s' h => by
    obtain ⟨x2_3, x2_5, x2_6, x2_8⟩ := s
    unfold B_viewportlaw11GramGrounded_2 at h
    dsimp only at h
    by_cases hy2_1 : x2_8 < (((Args.G).length : Nat) : Int)
    · rw [if_pos hy2_1] at h
      by_cases hy2_2 : 0 ≤ x2_8 ∧ x2_8 < (((Args.G).length : Nat) : Int)
      · rw [if_pos hy2_2] at h
        by_cases hy2_3 : 0 ≤ (((Args.G).getD (x2_8).toNat (0, nl0)).1) ∧ (((Args.G).getD (x2_8).toNat (0, nl0)).1) < ((x2_4 : Nat) : Int)
        · rw [if_pos hy2_3] at h
          by_cases hy2_4 : ((((Args.G).getD (x2_8).toNat (0, nl0)).1)).toNat < (x2_3).length
          · rw [if_pos hy2_4] at h
            by_cases hy2_5 : ((x2_3).getD ((((Args.G).getD (x2_8).toNat (0, nl0)).1)).toNat (false)) = true
            · rw [if_pos hy2_5] at h
              by_cases hy2_6 : ((((Args.G).getD (x2_8).toNat (0, nl0)).1)).toNat < (x2_5).length
              · rw [if_pos hy2_6] at h
                by_cases hy2_7 : ((x2_5).getD ((((Args.G).getD (x2_8).toNat (0, nl0)).1)).toNat (false)) = true
                · rw [if_pos hy2_7] at h
                  obtain ⟨y2_8_, hy2_8, h⟩ := Option.bind_eq_some_iff.1 h
                  obtain rfl := Sum.inl.inj (Option.some.inj h); exact q_viewportlaw11GramGrounded_2_0 n x2_0 x2_1 x2_2 x2_3 x2_4 x2_5 x2_6 x2_7 x2_8 hy2_1 hy2_2 hy2_3 hy2_4 hy2_5 hy2_6 hy2_7 y2_8_ hy2_8
                · rw [if_neg hy2_7] at h
                  obtain ⟨y2_8_, hy2_8, h⟩ := Option.bind_eq_some_iff.1 h
                  obtain ⟨y2_9_, hy2_9, h⟩ := Option.bind_eq_some_iff.1 h
                  obtain rfl := Sum.inl.inj (Option.some.inj h); exact q_viewportlaw11GramGrounded_2_1 n x2_0 x2_1 x2_2 x2_3 x2_4 x2_5 x2_6 x2_7 x2_8 hy2_1 hy2_2 hy2_3 hy2_4 hy2_5 hy2_6 hy2_7 y2_8_ hy2_8 y2_9_ hy2_9
              · rw [if_neg hy2_6] at h; cases h
            · rw [if_neg hy2_5] at h
              obtain ⟨y2_6_, hy2_6, h⟩ := Option.bind_eq_some_iff.1 h
              by_cases hy2_7 : ((((Args.G).getD (x2_8).toNat (0, nl0)).1)).toNat < (x2_5).length
              · rw [if_pos hy2_7] at h
                by_cases hy2_8 : ((x2_5).getD ((((Args.G).getD (x2_8).toNat (0, nl0)).1)).toNat (false)) = true
                · rw [if_pos hy2_8] at h
                  obtain ⟨y2_9_, hy2_9, h⟩ := Option.bind_eq_some_iff.1 h
                  obtain rfl := Sum.inl.inj (Option.some.inj h); exact q_viewportlaw11GramGrounded_2_2 n x2_0 x2_1 x2_2 x2_3 x2_4 x2_5 x2_6 x2_7 x2_8 hy2_1 hy2_2 hy2_3 hy2_4 hy2_5 y2_6_ hy2_6 hy2_7 hy2_8 y2_9_ hy2_9
                · rw [if_neg hy2_8] at h
                  obtain ⟨y2_9_, hy2_9, h⟩ := Option.bind_eq_some_iff.1 h
                  obtain ⟨y2_10_, hy2_10, h⟩ := Option.bind_eq_some_iff.1 h
                  obtain rfl := Sum.inl.inj (Option.some.inj h); exact q_viewportlaw11GramGrounded_2_3 n x2_0 x2_1 x2_2 x2_3 x2_4 x2_5 x2_6 x2_7 x2_8 hy2_1 hy2_2 hy2_3 hy2_4 hy2_5 y2_6_ hy2_6 hy2_7 hy2_8 y2_9_ hy2_9 y2_10_ hy2_10
              · rw [if_neg hy2_7] at h; cases h
          · rw [if_neg hy2_4] at h; cases h
        · rw [if_neg hy2_3] at h; cases h
      · rw [if_neg hy2_2] at h; cases h
    · rw [if_neg hy2_1] at h
      cases h)
    (fun s r h => by
    obtain ⟨x2_3, x2_5, x2_6, x2_8⟩ := s
    unfold B_viewportlaw11GramGrounded_2 at h
    dsimp only at h
    by_cases hy2_1 : x2_8 < (((Args.G).length : Nat) : Int)
    · rw [if_pos hy2_1] at h
      by_cases hy2_2 : 0 ≤ x2_8 ∧ x2_8 < (((Args.G).length : Nat) : Int)
      · rw [if_pos hy2_2] at h
        by_cases hy2_3 : 0 ≤ (((Args.G).getD (x2_8).toNat (0, nl0)).1) ∧ (((Args.G).getD (x2_8).toNat (0, nl0)).1) < ((x2_4 : Nat) : Int)
        · rw [if_pos hy2_3] at h
          by_cases hy2_4 : ((((Args.G).getD (x2_8).toNat (0, nl0)).1)).toNat < (x2_3).length
          · rw [if_pos hy2_4] at h
            by_cases hy2_5 : ((x2_3).getD ((((Args.G).getD (x2_8).toNat (0, nl0)).1)).toNat (false)) = true
            · rw [if_pos hy2_5] at h
              by_cases hy2_6 : ((((Args.G).getD (x2_8).toNat (0, nl0)).1)).toNat < (x2_5).length
              · rw [if_pos hy2_6] at h
                by_cases hy2_7 : ((x2_5).getD ((((Args.G).getD (x2_8).toNat (0, nl0)).1)).toNat (false)) = true
                · rw [if_pos hy2_7] at h
                  obtain ⟨y2_8_, hy2_8, h⟩ := Option.bind_eq_some_iff.1 h
                  cases h
                · rw [if_neg hy2_7] at h
                  obtain ⟨y2_8_, hy2_8, h⟩ := Option.bind_eq_some_iff.1 h
                  obtain ⟨y2_9_, hy2_9, h⟩ := Option.bind_eq_some_iff.1 h
                  cases h
              · rw [if_neg hy2_6] at h; cases h
            · rw [if_neg hy2_5] at h
              obtain ⟨y2_6_, hy2_6, h⟩ := Option.bind_eq_some_iff.1 h
              by_cases hy2_7 : ((((Args.G).getD (x2_8).toNat (0, nl0)).1)).toNat < (x2_5).length
              · rw [if_pos hy2_7] at h
                by_cases hy2_8 : ((x2_5).getD ((((Args.G).getD (x2_8).toNat (0, nl0)).1)).toNat (false)) = true
                · rw [if_pos hy2_8] at h
                  obtain ⟨y2_9_, hy2_9, h⟩ := Option.bind_eq_some_iff.1 h
                  cases h
                · rw [if_neg hy2_8] at h
                  obtain ⟨y2_9_, hy2_9, h⟩ := Option.bind_eq_some_iff.1 h
                  obtain ⟨y2_10_, hy2_10, h⟩ := Option.bind_eq_some_iff.1 h
                  cases h
              · rw [if_neg hy2_7] at h; cases h
          · rw [if_neg hy2_4] at h; cases h
        · rw [if_neg hy2_3] at h; cases h
      · rw [if_neg hy2_2] at h; cases h
    · rw [if_neg hy2_1] at h
      obtain rfl := Sum.inr.inj (Option.some.inj h); exact q_viewportlaw11GramGrounded_2_4 n x2_0 x2_1 x2_2 x2_3 x2_4 x2_5 x2_6 x2_7 x2_8 hy2_1)
    (fun r => by intro hx; cases hx) h
noncomputable def S_viewportlaw11GramGrounded_1 (x1_0 : Int) (x1_1 : Int) (x1_2 : Int) (x1_4 : Nat) (st : List (Bool) × List (Bool) × List (Bool) × Int) : XSt := match st with
  | (x1_3, x1_5, x1_6, x1_7) => (sT 129 [(1, (Value.pointer (some ⟨0, 0, none⟩))), (3, (Value.slice (some ⟨1, 0, none⟩) x1_4 x1_4)), (4, (Value.slice (some ⟨2, 0, none⟩) x1_4 x1_4)), (5, (Value.slice (some ⟨3, 0, none⟩) x1_4 x1_4)), (6, (Value.int .i64 x1_7))], [], ⟨sB [(0, (some (.cells (layT [(Value.int .i64 x1_0), (Value.int .i64 x1_1), (Value.int .i64 x1_2), (Value.slice (some ⟨0, 0, some 1⟩) (Args.G).length Args.cG)]) 24))), (1, (some (.cells (layT (rows rw_b x1_3)) 4))), (2, (some (.cells (layT (rows rw_b x1_5)) 4))), (3, (some (.cells (layT (rows rw_b x1_6)) 4)))], 4, 0⟩)
noncomputable def X_viewportlaw11GramGrounded_1 (x1_0 : Int) (x1_1 : Int) (x1_2 : Int) (x1_4 : Nat) (r : List (Bool) × List (Bool) × List (Bool)) : Ex × XSt := match r with
  | (z1_0, z1_1, z1_2) => (.exit 0, (sT 129 [(1, (Value.pointer (some ⟨0, 0, none⟩))), (3, (Value.slice (some ⟨1, 0, none⟩) x1_4 x1_4)), (4, (Value.slice (some ⟨2, 0, none⟩) x1_4 x1_4)), (5, (Value.slice (some ⟨3, 0, none⟩) x1_4 x1_4))], [], ⟨sB [(0, (some (.cells (layT [(Value.int .i64 x1_0), (Value.int .i64 x1_1), (Value.int .i64 x1_2), (Value.slice (some ⟨0, 0, some 1⟩) (Args.G).length Args.cG)]) 24))), (1, (some (.cells (layT (rows rw_b z1_0)) 4))), (2, (some (.cells (layT (rows rw_b z1_1)) 4))), (3, (some (.cells (layT (rows rw_b z1_2)) 4)))], 4, 0⟩))
def B_viewportlaw11GramGrounded_1 (n : Nat) (x1_0 : Int) (x1_1 : Int) (x1_2 : Int) (x1_4 : Nat) (st : List (Bool) × List (Bool) × List (Bool) × Int) : Option ((List (Bool) × List (Bool) × List (Bool) × Int) ⊕ (List (Bool) × List (Bool) × List (Bool))) := match st with
  | (x1_3, x1_5, x1_6, x1_7) =>
    if x1_7 ≤ x1_1 then
      (m_viewportlaw11GramGrounded_2 n x1_0 x1_1 x1_2 x1_4 x1_7 (x1_3, x1_5, x1_6, 0)).bind fun t => match t with
      | (y1_2_0, y1_2_1, y1_2_2) =>
        some (.inl (y1_2_0, y1_2_1, y1_2_2, (w64 (x1_7 + (1 : Int)))))
    else
      some (.inr (x1_3, x1_5, x1_6))
def m_viewportlaw11GramGrounded_1 (n : Nat) (x1_0 : Int) (x1_1 : Int) (x1_2 : Int) (x1_4 : Nat) (st : List (Bool) × List (Bool) × List (Bool) × Int) : Option (List (Bool) × List (Bool) × List (Bool)) := iterM (B_viewportlaw11GramGrounded_1 n x1_0 x1_1 x1_2 x1_4) n st
set_option maxRecDepth 100000 in
theorem q_viewportlaw11GramGrounded_1_0 (n : Nat) (x1_0 : Int) (x1_1 : Int) (x1_2 : Int) (x1_3 : List (Bool)) (x1_4 : Nat) (x1_5 : List (Bool)) (x1_6 : List (Bool)) (x1_7 : Int) (hy1_1 : x1_7 ≤ x1_1) (y1_2_0 : List (Bool)) (y1_2_1 : List (Bool)) (y1_2_2 : List (Bool)) (hy1_2 : m_viewportlaw11GramGrounded_2 n x1_0 x1_1 x1_2 x1_4 x1_7 (x1_3, x1_5, x1_6, 0) = some (y1_2_0, y1_2_1, y1_2_2)) : CG P none (fnN P 5) 0 (codeOf P 5 [false, false, true, false, true, true, true, true, true]) (S_viewportlaw11GramGrounded_1 x1_0 x1_1 x1_2 x1_4 (x1_3, x1_5, x1_6, x1_7)) (.normal, S_viewportlaw11GramGrounded_1 x1_0 x1_1 x1_2 x1_4 (y1_2_0, y1_2_1, y1_2_2, (w64 (x1_7 + (1 : Int))))) :=
  runC_ok hm (A := aT [(5, .val (.bool true))]) (L := lT [(12, ⟨⟨[1, 3, 4, 5, 6, 7], [(0, 0, false), (1, 1, true), (2, 2, true), (3, 3, true)], 4, 0⟩, (X_viewportlaw11GramGrounded_2 x1_0 x1_1 x1_2 x1_4 x1_7 (y1_2_0, y1_2_1, y1_2_2)).1, (X_viewportlaw11GramGrounded_2 x1_0 x1_1 x1_2 x1_4 x1_7 (y1_2_0, y1_2_1, y1_2_2)).2⟩)]) (wk := ⟨[1, 3, 4, 5, 6], [(0, 0, false), (1, 1, true), (2, 2, true), (3, 3, true)], 4, 0⟩)
    (ps := [(Value.bool (decide (x1_7 ≤ x1_1))) = (Value.bool true),
    CG P none (fnN P 5) 0 (codeOf P 5 [false, true, false, false, true, false, false, true, false, true, true, true, true, true]) (S_viewportlaw11GramGrounded_2 x1_0 x1_1 x1_2 x1_4 x1_7 (x1_3, x1_5, x1_6, 0)) (X_viewportlaw11GramGrounded_2 x1_0 x1_1 x1_2 x1_4 x1_7 (y1_2_0, y1_2_1, y1_2_2)),
    FlatB (.cells (layT (rows rw_b x1_3)) 4),
    FlatB (.cells (layT (rows rw_b x1_5)) 4),
    FlatB (.cells (layT (rows rw_b x1_6)) 4),
    FlatB (.cells (layT (rows rw_b y1_2_0)) 4),
    FlatB (.cells (layT (rows rw_b y1_2_1)) 4),
    FlatB (.cells (layT (rows rw_b y1_2_2)) 4)]) (by kernel_rfl) ⟨(vbT hy1_1), (m_viewportlaw11GramGrounded_2_ok n x1_0 x1_1 x1_2 x1_4 x1_7 (x1_3, x1_5, x1_6, 0) (y1_2_0, y1_2_1, y1_2_2) hy1_2), (rows_flat rwf_b _ _), (rows_flat rwf_b _ _), (rows_flat rwf_b _ _), (rows_flat rwf_b _ _), (rows_flat rwf_b _ _), (rows_flat rwf_b _ _), trivial⟩
set_option maxRecDepth 100000 in
theorem q_viewportlaw11GramGrounded_1_1 (n : Nat) (x1_0 : Int) (x1_1 : Int) (x1_2 : Int) (x1_3 : List (Bool)) (x1_4 : Nat) (x1_5 : List (Bool)) (x1_6 : List (Bool)) (x1_7 : Int) (hy1_1 : ¬ (x1_7 ≤ x1_1)) : CG P none (fnN P 5) 0 (codeOf P 5 [false, false, true, false, true, true, true, true, true]) (S_viewportlaw11GramGrounded_1 x1_0 x1_1 x1_2 x1_4 (x1_3, x1_5, x1_6, x1_7)) (X_viewportlaw11GramGrounded_1 x1_0 x1_1 x1_2 x1_4 (x1_3, x1_5, x1_6)) :=
  runC_ok hm (A := aT [(5, .val (.bool false))]) (L := lT []) (wk := ⟨[1, 3, 4, 5], [(0, 0, false), (1, 1, true), (2, 2, true), (3, 3, true)], 4, 0⟩)
    (ps := [(Value.bool (decide (x1_7 ≤ x1_1))) = (Value.bool false),
    FlatB (.cells (layT (rows rw_b x1_3)) 4),
    FlatB (.cells (layT (rows rw_b x1_5)) 4),
    FlatB (.cells (layT (rows rw_b x1_6)) 4)]) (by kernel_rfl) ⟨(vbF hy1_1), (rows_flat rwf_b _ _), (rows_flat rwf_b _ _), (rows_flat rwf_b _ _), trivial⟩
theorem m_viewportlaw11GramGrounded_1_ok (n : Nat) (x1_0 : Int) (x1_1 : Int) (x1_2 : Int) (x1_4 : Nat) (st : List (Bool) × List (Bool) × List (Bool) × Int) (r : List (Bool) × List (Bool) × List (Bool)) (h : m_viewportlaw11GramGrounded_1 n x1_0 x1_1 x1_2 x1_4 st = some r) : CG P none (fnN P 5) 0 (codeOf P 5 [false, true, false, true, true, true, true, true]) (S_viewportlaw11GramGrounded_1 x1_0 x1_1 x1_2 x1_4 st) (X_viewportlaw11GramGrounded_1 x1_0 x1_1 x1_2 x1_4 r) :=
  CG.iter (b := codeOf P 5 [false, false, true, false, true, true, true, true, true]) (by kernel_rfl) (body := B_viewportlaw11GramGrounded_1 n x1_0 x1_1 x1_2 x1_4) (S := S_viewportlaw11GramGrounded_1 x1_0 x1_1 x1_2 x1_4) (X := X_viewportlaw11GramGrounded_1 x1_0 x1_1 x1_2 x1_4)
    (fun s s' h => by
    obtain ⟨x1_3, x1_5, x1_6, x1_7⟩ := s
    unfold B_viewportlaw11GramGrounded_1 at h
    dsimp only at h
    by_cases hy1_1 : x1_7 ≤ x1_1
    · rw [if_pos hy1_1] at h
      obtain ⟨⟨y1_2_0, y1_2_1, y1_2_2⟩, hy1_2, h⟩ := Option.bind_eq_some_iff.1 h
      dsimp only at h
      obtain rfl := Sum.inl.inj (Option.some.inj h); exact q_viewportlaw11GramGrounded_1_0 n x1_0 x1_1 x1_2 x1_3 x1_4 x1_5 x1_6 x1_7 hy1_1 y1_2_0 y1_2_1 y1_2_2 hy1_2
    · rw [if_neg hy1_1] at h
      cases h)
    (fun s r h => by
    obtain ⟨x1_3, x1_5, x1_6, x1_7⟩ := s
    unfold B_viewportlaw11GramGrounded_1 at h
    dsimp only at h
    by_cases hy1_1 : x1_7 ≤ x1_1
    · rw [if_pos hy1_1] at h
      obtain ⟨⟨y1_2_0, y1_2_1, y1_2_2⟩, hy1_2, h⟩ := Option.bind_eq_some_iff.1 h
      dsimp only at h
      cases h
    · rw [if_neg hy1_1] at h
      obtain rfl := Sum.inr.inj (Option.some.inj h); exact q_viewportlaw11GramGrounded_1_1 n x1_0 x1_1 x1_2 x1_3 x1_4 x1_5 x1_6 x1_7 hy1_1)
    (fun r => by intro hx; cases hx) h
noncomputable def A_viewportlaw11GramGrounded (gT : Int) (gN : Int) (gK : Int) : List Value := [(Value.agg #[(Value.int .i64 gT), (Value.int .i64 gN), (Value.int .i64 gK), (Value.slice (some ⟨0, 0, some 1⟩) (Args.G).length Args.cG)])]
noncomputable def H_viewportlaw11GramGrounded (gT : Int) (gN : Int) (gK : Int) : AH := ⟨sB [], 0, 0⟩
noncomputable def V_viewportlaw11GramGrounded (gT : Int) (gN : Int) (gK : Int) (r : Bool) : Value := match r with
  | o0 => (Value.bool o0)
noncomputable def R_viewportlaw11GramGrounded (gT : Int) (gN : Int) (gK : Int) (r : Bool) : AH := match r with
  | o0 => ⟨sB [], 0, 0⟩
def m_viewportlaw11GramGrounded (n : Nat) (gT : Int) (gN : Int) (gK : Int) : Option (Bool) :=
  (m_viewportlaw11lives n).bind fun _ =>
  (m_viewportkitLightGrammar n gT gN gK).bind fun c2_ =>
  if c2_ = true then
    (m_gramCheck n gT gN gK).bind fun c4_ =>
    if c4_ = (0 : Int) then
      if 0 ≤ gN then
        if (gN).toNat * 1 ≤ 140737488355328 then
          if 0 ≤ (0 : Int) ∧ (0 : Int) < (((gN).toNat : Nat) : Int) then
            if ((0 : Int)).toNat < ((List.replicate (gN).toNat (false))).length then
              (m_viewportlaw11GramGrounded_1 n gT gN gK ((gN).toNat) ((List.replicate (gN).toNat (false)), (List.replicate (gN).toNat (false)), (((List.replicate (gN).toNat (false))).set ((0 : Int)).toNat true), 0)).bind fun t => match t with
              | (c10_0, c10_1, c10_2) =>
                (m_gramNullable n gT gN gK).bind fun c11_ =>
                (m_viewportkitSamebool n ((gN).toNat) ((gN).toNat) c11_ c10_0).bind fun c12_ =>
                if c12_ = true then
                  (m_gramProductive n gT gN gK).bind fun c14_ =>
                  (m_viewportkitSamebool n ((gN).toNat) ((gN).toNat) c14_ c10_1).bind fun c15_ =>
                  if c15_ = true then
                    (m_gramReachable n gT gN gK).bind fun c17_ =>
                    (m_viewportkitSamebool n ((gN).toNat) ((gN).toNat) c17_ c10_2).bind fun c18_ =>
                    some c18_
                  else
                    none
                else
                  none
            else none
          else none
        else none
      else none
    else
      some true
  else
    some true
set_option maxRecDepth 100000 in
theorem p_viewportlaw11GramGrounded_0 (n : Nat) (gT : Int) (gN : Int) (gK : Int) (hc1 : m_viewportlaw11lives n = some ()) (c2_ : Bool) (hc2 : m_viewportkitLightGrammar n gT gN gK = some c2_) (hc3 : c2_ = true) (c4_ : Int) (hc4 : m_gramCheck n gT gN gK = some c4_) (hc5 : c4_ = (0 : Int)) (hc6 : 0 ≤ gN) (hc7 : (gN).toNat * 1 ≤ 140737488355328) (hc8 : 0 ≤ (0 : Int) ∧ (0 : Int) < (((gN).toNat : Nat) : Int)) (hc9 : ((0 : Int)).toNat < ((List.replicate (gN).toNat (false))).length) (c10_0 : List (Bool)) (c10_1 : List (Bool)) (c10_2 : List (Bool)) (hc10 : m_viewportlaw11GramGrounded_1 n gT gN gK ((gN).toNat) ((List.replicate (gN).toNat (false)), (List.replicate (gN).toNat (false)), (((List.replicate (gN).toNat (false))).set ((0 : Int)).toNat true), 0) = some (c10_0, c10_1, c10_2)) (c11_ : List (Bool)) (hc11 : m_gramNullable n gT gN gK = some c11_) (c12_ : Bool) (hc12 : m_viewportkitSamebool n ((gN).toNat) ((gN).toNat) c11_ c10_0 = some c12_) (hc13 : c12_ = true) (c14_ : List (Bool)) (hc14 : m_gramProductive n gT gN gK = some c14_) (c15_ : Bool) (hc15 : m_viewportkitSamebool n ((gN).toNat) ((gN).toNat) c14_ c10_1 = some c15_) (hc16 : c15_ = true) (c17_ : List (Bool)) (hc17 : m_gramReachable n gT gN gK = some c17_) (c18_ : Bool) (hc18 : m_viewportkitSamebool n ((gN).toNat) ((gN).toNat) c17_ c10_2 = some c18_) : Gv P (.func 5) (A_viewportlaw11GramGrounded gT gN gK) (H_viewportlaw11GramGrounded gT gN gK) (V_viewportlaw11GramGrounded gT gN gK c18_) (R_viewportlaw11GramGrounded gT gN gK c18_) :=
  runF_ok hm (A := aT [(5, .call ⟨0, [], (Value.bool true), Ax.h0, []⟩), (11, .call ⟨0, [], (V_viewportkitLightGrammar gT gN gK c2_), (R_viewportkitLightGrammar gT gN gK c2_), []⟩), (12, .val (.bool false)), (15, .call ⟨0, [], (V_gramCheck gT gN gK c4_), (R_gramCheck gT gN gK c4_), []⟩), (16, .val (.bool false)), (22, .mk (gN).toNat (rows rw_b (List.replicate (gN).toNat (false)))), (25, .mk (gN).toNat (rows rw_b (List.replicate (gN).toNat (false)))), (28, .mk (gN).toNat (rows rw_b (List.replicate (gN).toNat (false)))), (34, .pur (Value.pointer (some ⟨9, (((0 : Int)).toNat * 1), none⟩))), (35, .sto (layT (rows rw_b (((List.replicate (gN).toNat (false))).set ((0 : Int)).toNat true)))), (43, .call ⟨0, [], (V_gramNullable gT gN gK c11_), (R_gramNullable gT gN gK c11_), [(4, 0, true)]⟩), (45, .call ⟨2, [(0, 4, true), (1, 1, true)], (V_viewportkitSamebool ((gN).toNat) ((gN).toNat) c11_ c10_0 c12_), (R_viewportkitSamebool ((gN).toNat) ((gN).toNat) c11_ c10_0 c12_), []⟩), (46, .val (.bool true)), (48, .call ⟨0, [], (V_gramProductive gT gN gK c14_), (R_gramProductive gT gN gK c14_), [(5, 0, true)]⟩), (50, .call ⟨2, [(0, 5, true), (1, 2, true)], (V_viewportkitSamebool ((gN).toNat) ((gN).toNat) c14_ c10_1 c15_), (R_viewportkitSamebool ((gN).toNat) ((gN).toNat) c14_ c10_1 c15_), []⟩), (52, .val (.bool true)), (54, .call ⟨0, [], (V_gramReachable gT gN gK c17_), (R_gramReachable gT gN gK c17_), [(6, 0, true)]⟩), (56, .call ⟨2, [(0, 6, true), (1, 3, true)], (V_viewportkitSamebool ((gN).toNat) ((gN).toNat) c17_ c10_2 c18_), (R_viewportkitSamebool ((gN).toNat) ((gN).toNat) c17_ c10_2 c18_), []⟩)]) (L := lT [(40, ⟨⟨[1, 3, 4, 5, 6], [(0, 0, false), (1, 3, true), (2, 6, true), (3, 9, true)], 4, 0⟩, (X_viewportlaw11GramGrounded_1 gT gN gK ((gN).toNat) (c10_0, c10_1, c10_2)).1, (X_viewportlaw11GramGrounded_1 gT gN gK ((gN).toNat) (c10_0, c10_1, c10_2)).2⟩)]) (wk := ⟨[2], [], 0, 0⟩)
    (ps := [Gv P (.func 8) [] Ax.h0 (Value.bool true) Ax.h0,
    Gv P (.func 9) (A_viewportkitLightGrammar gT gN gK) (H_viewportkitLightGrammar gT gN gK) (V_viewportkitLightGrammar gT gN gK c2_) (R_viewportkitLightGrammar gT gN gK c2_),
    (Value.bool (!c2_)) = (Value.bool false),
    Gv P (.func 14) (A_gramCheck gT gN gK) (H_gramCheck gT gN gK) (V_gramCheck gT gN gK c4_) (R_gramCheck gT gN gK c4_),
    (Value.bool (c4_ != (0 : Int))) = (Value.bool false),
    natOf (Value.int .i64 gN) = some (gN).toNat,
    natOf (Value.int .i64 gN) = some (gN).toNat,
    fits (gN).toNat 1 = true,
    isZ8 [(Value.bool false)] = false,
    reps [(Value.bool false)] (gN).toNat = (rows rw_b (List.replicate (gN).toNat (false))),
    natOf (Value.int .i64 gN) = some (gN).toNat,
    natOf (Value.int .i64 gN) = some (gN).toNat,
    fits (gN).toNat 1 = true,
    isZ8 [(Value.bool false)] = false,
    reps [(Value.bool false)] (gN).toNat = (rows rw_b (List.replicate (gN).toNat (false))),
    natOf (Value.int .i64 gN) = some (gN).toNat,
    natOf (Value.int .i64 gN) = some (gN).toNat,
    fits (gN).toNat 1 = true,
    isZ8 [(Value.bool false)] = false,
    reps [(Value.bool false)] (gN).toNat = (rows rw_b (List.replicate (gN).toNat (false))),
    opIndexAddr P 35 (Value.slice (some ⟨9, 0, none⟩) (gN).toNat (gN).toNat) (Value.int .i64 (0 : Int)) Ax.h0 = some ((Value.pointer (some ⟨9, (((0 : Int)).toNat * 1), none⟩)), Ax.h0),
    ∃ old, rdT (layT (rows rw_b (List.replicate (gN).toNat (false)))) 1 (((0 : Int)).toNat * 1) = some old,
    layL [(Value.bool true)] (((0 : Int)).toNat * 1) (layT (rows rw_b (List.replicate (gN).toNat (false)))) = layT (rows rw_b (((List.replicate (gN).toNat (false))).set ((0 : Int)).toNat true)),
    CG P none (fnN P 5) 0 (codeOf P 5 [false, true, false, true, true, true, true, true]) (S_viewportlaw11GramGrounded_1 gT gN gK ((gN).toNat) ((List.replicate (gN).toNat (false)), (List.replicate (gN).toNat (false)), (((List.replicate (gN).toNat (false))).set ((0 : Int)).toNat true), 0)) (X_viewportlaw11GramGrounded_1 gT gN gK ((gN).toNat) (c10_0, c10_1, c10_2)),
    FlatB (.cells (layT (rows rw_b (List.replicate (gN).toNat (false)))) 4),
    FlatB (.cells (layT (rows rw_b (List.replicate (gN).toNat (false)))) 4),
    FlatB (.cells (layT (rows rw_b (((List.replicate (gN).toNat (false))).set ((0 : Int)).toNat true))) 4),
    Gv P (.func 20) (A_gramNullable gT gN gK) (H_gramNullable gT gN gK) (V_gramNullable gT gN gK c11_) (R_gramNullable gT gN gK c11_),
    FlatB (.cells (layT (rows rw_b c11_)) 4),
    Gv P (.func 19) (A_viewportkitSamebool ((gN).toNat) ((gN).toNat) c11_ c10_0) (H_viewportkitSamebool ((gN).toNat) ((gN).toNat) c11_ c10_0) (V_viewportkitSamebool ((gN).toNat) ((gN).toNat) c11_ c10_0 c12_) (R_viewportkitSamebool ((gN).toNat) ((gN).toNat) c11_ c10_0 c12_),
    FlatB (.cells (layT (rows rw_b c11_)) 4),
    FlatB (.cells (layT (rows rw_b c10_0)) 4),
    (Value.bool c12_) = (Value.bool true),
    Gv P (.func 22) (A_gramProductive gT gN gK) (H_gramProductive gT gN gK) (V_gramProductive gT gN gK c14_) (R_gramProductive gT gN gK c14_),
    FlatB (.cells (layT (rows rw_b c14_)) 4),
    Gv P (.func 19) (A_viewportkitSamebool ((gN).toNat) ((gN).toNat) c14_ c10_1) (H_viewportkitSamebool ((gN).toNat) ((gN).toNat) c14_ c10_1) (V_viewportkitSamebool ((gN).toNat) ((gN).toNat) c14_ c10_1 c15_) (R_viewportkitSamebool ((gN).toNat) ((gN).toNat) c14_ c10_1 c15_),
    FlatB (.cells (layT (rows rw_b c14_)) 4),
    FlatB (.cells (layT (rows rw_b c10_1)) 4),
    (Value.bool c15_) = (Value.bool true),
    Gv P (.func 24) (A_gramReachable gT gN gK) (H_gramReachable gT gN gK) (V_gramReachable gT gN gK c17_) (R_gramReachable gT gN gK c17_),
    FlatB (.cells (layT (rows rw_b c17_)) 4),
    Gv P (.func 19) (A_viewportkitSamebool ((gN).toNat) ((gN).toNat) c17_ c10_2) (H_viewportkitSamebool ((gN).toNat) ((gN).toNat) c17_ c10_2) (V_viewportkitSamebool ((gN).toNat) ((gN).toNat) c17_ c10_2 c18_) (R_viewportkitSamebool ((gN).toNat) ((gN).toNat) c17_ c10_2 c18_),
    FlatB (.cells (layT (rows rw_b c17_)) 4),
    FlatB (.cells (layT (rows rw_b c10_2)) 4)]) (by kernel_rfl) ⟨(m_viewportlaw11lives_ok n () hc1), (m_viewportkitLightGrammar_ok n gT gN gK c2_ hc2), (vBn hc3), (m_gramCheck_ok n gT gN gK c4_ hc4), (vnF hc5), (natOf_toNat hc6), (natOf_toNat hc6), (fits_ok hc7 (by omega)), (rfl), (reps_rows rw_b (false) _ rfl _), (natOf_toNat hc6), (natOf_toNat hc6), (fits_ok hc7 (by omega)), (rfl), (reps_rows rw_b (false) _ rfl _), (natOf_toNat hc6), (natOf_toNat hc6), (fits_ok hc7 (by omega)), (rfl), (reps_rows rw_b (false) _ rfl _), (ixS (e := 4) (by kernel_rfl) (by kernel_rfl) (hc8).1 (hc8).2), (Exists.elim (rows_st rwf_b (false) (i := ((0 : Int)).toNat) (j := 0) (l := [(Value.bool true)]) true (((0 : Int)).toNat * 1) rfl (hc9) (Nat.le_of_ble_eq_true rfl) rfl) fun o h => ⟨o, h.1⟩), (Exists.elim (rows_st rwf_b (false) (i := ((0 : Int)).toNat) (j := 0) (l := [(Value.bool true)]) true (((0 : Int)).toNat * 1) rfl (hc9) (Nat.le_of_ble_eq_true rfl) rfl) fun o h => h.2), (m_viewportlaw11GramGrounded_1_ok n gT gN gK ((gN).toNat) ((List.replicate (gN).toNat (false)), (List.replicate (gN).toNat (false)), (((List.replicate (gN).toNat (false))).set ((0 : Int)).toNat true), 0) (c10_0, c10_1, c10_2) hc10), (rows_flat rwf_b _ _), (rows_flat rwf_b _ _), (rows_flat rwf_b _ _), (m_gramNullable_ok n gT gN gK c11_ hc11), (rows_flat rwf_b _ _), (m_viewportkitSamebool_ok n ((gN).toNat) ((gN).toNat) c11_ c10_0 c12_ hc12), (rows_flat rwf_b _ _), (rows_flat rwf_b _ _), (vB hc13), (m_gramProductive_ok n gT gN gK c14_ hc14), (rows_flat rwf_b _ _), (m_viewportkitSamebool_ok n ((gN).toNat) ((gN).toNat) c14_ c10_1 c15_ hc15), (rows_flat rwf_b _ _), (rows_flat rwf_b _ _), (vB hc16), (m_gramReachable_ok n gT gN gK c17_ hc17), (rows_flat rwf_b _ _), (m_viewportkitSamebool_ok n ((gN).toNat) ((gN).toNat) c17_ c10_2 c18_ hc18), (rows_flat rwf_b _ _), (rows_flat rwf_b _ _), trivial⟩
set_option maxRecDepth 100000 in
theorem p_viewportlaw11GramGrounded_1 (n : Nat) (gT : Int) (gN : Int) (gK : Int) (hc1 : m_viewportlaw11lives n = some ()) (c2_ : Bool) (hc2 : m_viewportkitLightGrammar n gT gN gK = some c2_) (hc3 : c2_ = true) (c4_ : Int) (hc4 : m_gramCheck n gT gN gK = some c4_) (hc5 : ¬ (c4_ = (0 : Int))) : Gv P (.func 5) (A_viewportlaw11GramGrounded gT gN gK) (H_viewportlaw11GramGrounded gT gN gK) (V_viewportlaw11GramGrounded gT gN gK true) (R_viewportlaw11GramGrounded gT gN gK true) :=
  runF_ok hm (A := aT [(5, .call ⟨0, [], (Value.bool true), Ax.h0, []⟩), (11, .call ⟨0, [], (V_viewportkitLightGrammar gT gN gK c2_), (R_viewportkitLightGrammar gT gN gK c2_), []⟩), (12, .val (.bool false)), (15, .call ⟨0, [], (V_gramCheck gT gN gK c4_), (R_gramCheck gT gN gK c4_), []⟩), (16, .val (.bool true))]) (L := lT []) (wk := ⟨[2], [], 0, 0⟩)
    (ps := [Gv P (.func 8) [] Ax.h0 (Value.bool true) Ax.h0,
    Gv P (.func 9) (A_viewportkitLightGrammar gT gN gK) (H_viewportkitLightGrammar gT gN gK) (V_viewportkitLightGrammar gT gN gK c2_) (R_viewportkitLightGrammar gT gN gK c2_),
    (Value.bool (!c2_)) = (Value.bool false),
    Gv P (.func 14) (A_gramCheck gT gN gK) (H_gramCheck gT gN gK) (V_gramCheck gT gN gK c4_) (R_gramCheck gT gN gK c4_),
    (Value.bool (c4_ != (0 : Int))) = (Value.bool true)]) (by kernel_rfl) ⟨(m_viewportlaw11lives_ok n () hc1), (m_viewportkitLightGrammar_ok n gT gN gK c2_ hc2), (vBn hc3), (m_gramCheck_ok n gT gN gK c4_ hc4), (vnT hc5), trivial⟩
set_option maxRecDepth 100000 in
theorem p_viewportlaw11GramGrounded_2 (n : Nat) (gT : Int) (gN : Int) (gK : Int) (hc1 : m_viewportlaw11lives n = some ()) (c2_ : Bool) (hc2 : m_viewportkitLightGrammar n gT gN gK = some c2_) (hc3 : ¬ (c2_ = true)) : Gv P (.func 5) (A_viewportlaw11GramGrounded gT gN gK) (H_viewportlaw11GramGrounded gT gN gK) (V_viewportlaw11GramGrounded gT gN gK true) (R_viewportlaw11GramGrounded gT gN gK true) :=
  runF_ok hm (A := aT [(5, .call ⟨0, [], (Value.bool true), Ax.h0, []⟩), (11, .call ⟨0, [], (V_viewportkitLightGrammar gT gN gK c2_), (R_viewportkitLightGrammar gT gN gK c2_), []⟩), (12, .val (.bool true))]) (L := lT []) (wk := ⟨[2], [], 0, 0⟩)
    (ps := [Gv P (.func 8) [] Ax.h0 (Value.bool true) Ax.h0,
    Gv P (.func 9) (A_viewportkitLightGrammar gT gN gK) (H_viewportkitLightGrammar gT gN gK) (V_viewportkitLightGrammar gT gN gK c2_) (R_viewportkitLightGrammar gT gN gK c2_),
    (Value.bool (!c2_)) = (Value.bool true)]) (by kernel_rfl) ⟨(m_viewportlaw11lives_ok n () hc1), (m_viewportkitLightGrammar_ok n gT gN gK c2_ hc2), (vBn (Bool.eq_false_iff.2 hc3)), trivial⟩
theorem m_viewportlaw11GramGrounded_ok (n : Nat) (gT : Int) (gN : Int) (gK : Int) (r : Bool) (h : m_viewportlaw11GramGrounded n gT gN gK = some r) : Gv P (.func 5) (A_viewportlaw11GramGrounded gT gN gK) (H_viewportlaw11GramGrounded gT gN gK) (V_viewportlaw11GramGrounded gT gN gK r) (R_viewportlaw11GramGrounded gT gN gK r) := by
  unfold m_viewportlaw11GramGrounded at h
  obtain ⟨_, hc1, h⟩ := Option.bind_eq_some_iff.1 h
  obtain ⟨c2_, hc2, h⟩ := Option.bind_eq_some_iff.1 h
  by_cases hc3 : c2_ = true
  · rw [if_pos hc3] at h
    obtain ⟨c4_, hc4, h⟩ := Option.bind_eq_some_iff.1 h
    by_cases hc5 : c4_ = (0 : Int)
    · rw [if_pos hc5] at h
      by_cases hc6 : 0 ≤ gN
      · rw [if_pos hc6] at h
        by_cases hc7 : (gN).toNat * 1 ≤ 140737488355328
        · rw [if_pos hc7] at h
          by_cases hc8 : 0 ≤ (0 : Int) ∧ (0 : Int) < (((gN).toNat : Nat) : Int)
          · rw [if_pos hc8] at h
            by_cases hc9 : ((0 : Int)).toNat < ((List.replicate (gN).toNat (false))).length
            · rw [if_pos hc9] at h
              obtain ⟨⟨c10_0, c10_1, c10_2⟩, hc10, h⟩ := Option.bind_eq_some_iff.1 h
              dsimp only at h
              obtain ⟨c11_, hc11, h⟩ := Option.bind_eq_some_iff.1 h
              obtain ⟨c12_, hc12, h⟩ := Option.bind_eq_some_iff.1 h
              by_cases hc13 : c12_ = true
              · rw [if_pos hc13] at h
                obtain ⟨c14_, hc14, h⟩ := Option.bind_eq_some_iff.1 h
                obtain ⟨c15_, hc15, h⟩ := Option.bind_eq_some_iff.1 h
                by_cases hc16 : c15_ = true
                · rw [if_pos hc16] at h
                  obtain ⟨c17_, hc17, h⟩ := Option.bind_eq_some_iff.1 h
                  obtain ⟨c18_, hc18, h⟩ := Option.bind_eq_some_iff.1 h
                  obtain rfl := Option.some.inj h; exact p_viewportlaw11GramGrounded_0 n gT gN gK hc1 c2_ hc2 hc3 c4_ hc4 hc5 hc6 hc7 hc8 hc9 c10_0 c10_1 c10_2 hc10 c11_ hc11 c12_ hc12 hc13 c14_ hc14 c15_ hc15 hc16 c17_ hc17 c18_ hc18
                · rw [if_neg hc16] at h
                  cases h
              · rw [if_neg hc13] at h
                cases h
            · rw [if_neg hc9] at h; cases h
          · rw [if_neg hc8] at h; cases h
        · rw [if_neg hc7] at h; cases h
      · rw [if_neg hc6] at h; cases h
    · rw [if_neg hc5] at h
      obtain rfl := Option.some.inj h; exact p_viewportlaw11GramGrounded_1 n gT gN gK hc1 c2_ hc2 hc3 c4_ hc4 hc5
  · rw [if_neg hc3] at h
    obtain rfl := Option.some.inj h; exact p_viewportlaw11GramGrounded_2 n gT gN gK hc1 c2_ hc2 hc3

end Go.Proofs.Ytpbhdiapgeiopaa.gramw
