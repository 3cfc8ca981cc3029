/-
  What functions do, told by pure functions. No condition.
-/
import Derived.Test.YtpbhdiapgeiopaaGramLives
set_option linter.unusedSimpArgs false
set_option linter.unusedVariables false
set_option linter.unusedSectionVars false
set_option linter.unnecessarySimpa false
namespace Go.Proofs.Ytpbhdiapgeiopaa.gramw
open Go Go.Proofs.Ytpbhdiapgeiopaa Ax
variable [Args]
noncomputable def S_viewportkitLightGrammar_1 (x1_0 : Int) (x1_1 : Int) (x1_2 : Int) (st : Int) : XSt := match st with
  | x1_3 => (sT 86 [(1, (Value.pointer (some ⟨0, 0, none⟩))), (3, (Value.int .i64 x1_3))], [], ⟨sB [(0, (some (.cells (layT [(Value.int .i64 x1_0), (Value.int .i64 x1_1), (Value.int .i64 x1_2), (Value.slice (some ⟨0, 0, some 1⟩) (Args.G).length Args.cG)]) 24)))], 1, 0⟩)
noncomputable def X_viewportkitLightGrammar_1 (x1_0 : Int) (x1_1 : Int) (x1_2 : Int) (r : (Unit) ⊕ (Unit)) : Ex × XSt := match r with
  | .inl _ => (.ret, (sT 86 [(2, (Value.bool false))], [], ⟨sB [], 0, 0⟩))
  | .inr _ => (.exit 0, (sT 86 [(1, (Value.pointer (some ⟨0, 0, none⟩)))], [], ⟨sB [(0, (some (.cells (layT [(Value.int .i64 x1_0), (Value.int .i64 x1_1), (Value.int .i64 x1_2), (Value.slice (some ⟨0, 0, some 1⟩) (Args.G).length Args.cG)]) 24)))], 1, 0⟩))
def B_viewportkitLightGrammar_1 (n : Nat) (x1_0 : Int) (x1_1 : Int) (x1_2 : Int) (st : Int) : Option ((Int) ⊕ ((Unit) ⊕ (Unit))) := match st with
  | x1_3 =>
    if x1_3 < (((Args.G).length : Nat) : Int) then
      if 0 ≤ x1_3 ∧ x1_3 < (((Args.G).length : Nat) : Int) then
        if ((((((Args.G).getD (x1_3).toNat (0, nl0)).2)).l.length : Nat) : Int) > (5 : Int) then
          if ((((((Args.G).getD (x1_3).toNat (0, nl0)).2)).l.length : Nat) : Int) ≤ (8 : Int) then
            some (.inr (.inl ()))
          else
            if ((((((Args.G).getD (x1_3).toNat (0, nl0)).2)).l.length : Nat) : Int) > (100 : Int) then
              some (.inr (.inl ()))
            else
              some (.inl (w64 (x1_3 + (1 : Int))))
        else
          if ((((((Args.G).getD (x1_3).toNat (0, nl0)).2)).l.length : Nat) : Int) > (100 : Int) then
            some (.inr (.inl ()))
          else
            some (.inl (w64 (x1_3 + (1 : Int))))
      else none
    else
      some (.inr (.inr ()))
def m_viewportkitLightGrammar_1 (n : Nat) (x1_0 : Int) (x1_1 : Int) (x1_2 : Int) (st : Int) : Option ((Unit) ⊕ (Unit)) := iterM (B_viewportkitLightGrammar_1 n x1_0 x1_1 x1_2) n st
set_option maxRecDepth 100000 in
theorem q_viewportkitLightGrammar_1_0 (n : Nat) (x1_0 : Int) (x1_1 : Int) (x1_2 : Int) (x1_3 : Int) (hy1_1 : x1_3 < (((Args.G).length : Nat) : Int)) (hy1_2 : 0 ≤ x1_3 ∧ x1_3 < (((Args.G).length : Nat) : Int)) (hy1_3 : ((((((Args.G).getD (x1_3).toNat (0, nl0)).2)).l.length : Nat) : Int) > (5 : Int)) (hy1_4 : ((((((Args.G).getD (x1_3).toNat (0, nl0)).2)).l.length : Nat) : Int) ≤ (8 : Int)) : CG P none (fnN P 9) 0 (codeOf P 9 [false, false, true, false, true, true]) (S_viewportkitLightGrammar_1 x1_0 x1_1 x1_2 x1_3) (X_viewportkitLightGrammar_1 x1_0 x1_1 x1_2 (.inl ())) :=
  runC_ok hm (A := aT [(6, .val (.bool true)), (14, .pur (Value.pointer (some ⟨0, ((x1_3).toNat * 2), some 1⟩))), (15, .pur (Value.pointer (some ⟨0, (Nat.add ((x1_3).toNat * 2) 1), some 1⟩))), (16, .ld (nlV (((Args.G).getD (x1_3).toNat (0, nl0)).2))), (18, .val (.bool true)), (23, .pur (Value.pointer (some ⟨0, ((x1_3).toNat * 2), some 1⟩))), (24, .pur (Value.pointer (some ⟨0, (Nat.add ((x1_3).toNat * 2) 1), some 1⟩))), (25, .ld (nlV (((Args.G).getD (x1_3).toNat (0, nl0)).2))), (27, .val (.bool true))]) (L := lT []) (wk := ⟨[2], [], 0, 0⟩)
    (ps := [(Value.bool (decide (x1_3 < (((Args.G).length : Nat) : Int)))) = (Value.bool true),
    opIndexAddr P 22 (Value.slice (some ⟨0, 0, some 1⟩) (Args.G).length Args.cG) (Value.int .i64 x1_3) Ax.h0 = some ((Value.pointer (some ⟨0, ((x1_3).toNat * 2), some 1⟩)), Ax.h0),
    opFieldAddr P 41 (Value.pointer (some ⟨0, ((x1_3).toNat * 2), some 1⟩)) 1 Ax.h0 = some ((Value.pointer (some ⟨0, (Nat.add ((x1_3).toNat * 2) 1), some 1⟩)), Ax.h0),
    loadG P 32 (Value.pointer (some ⟨0, (Nat.add ((x1_3).toNat * 2) 1), some 1⟩)) Ax.h0 = some ((nlV (((Args.G).getD (x1_3).toNat (0, nl0)).2)), Ax.h0),
    (Value.bool (decide (((((((Args.G).getD (x1_3).toNat (0, nl0)).2)).l.length : Nat) : Int) > (5 : Int)))) = (Value.bool true),
    opIndexAddr P 22 (Value.slice (some ⟨0, 0, some 1⟩) (Args.G).length Args.cG) (Value.int .i64 x1_3) Ax.h0 = some ((Value.pointer (some ⟨0, ((x1_3).toNat * 2), some 1⟩)), Ax.h0),
    opFieldAddr P 41 (Value.pointer (some ⟨0, ((x1_3).toNat * 2), some 1⟩)) 1 Ax.h0 = some ((Value.pointer (some ⟨0, (Nat.add ((x1_3).toNat * 2) 1), some 1⟩)), Ax.h0),
    loadG P 32 (Value.pointer (some ⟨0, (Nat.add ((x1_3).toNat * 2) 1), some 1⟩)) Ax.h0 = some ((nlV (((Args.G).getD (x1_3).toNat (0, nl0)).2)), Ax.h0),
    (Value.bool (decide (((((((Args.G).getD (x1_3).toNat (0, nl0)).2)).l.length : Nat) : Int) ≤ (8 : Int)))) = (Value.bool true)]) (by kernel_rfl) ⟨(vbT hy1_1), (ixW (e := 41) (by kernel_rfl) (by kernel_rfl) (hy1_2).1 (hy1_2).2), (by kernel_rfl), (ldWS rwf_iL (0, nl0) (i := (x1_3).toNat) (q := 1) (L := Args.G) (Nat.add ((x1_3).toNat * 2) 1) rfl rfl (by kernel_rfl) (toNatLt hy1_2) (by decide) rfl), (vbT hy1_3), (ixW (e := 41) (by kernel_rfl) (by kernel_rfl) (hy1_2).1 (hy1_2).2), (by kernel_rfl), (ldWS rwf_iL (0, nl0) (i := (x1_3).toNat) (q := 1) (L := Args.G) (Nat.add ((x1_3).toNat * 2) 1) rfl rfl (by kernel_rfl) (toNatLt hy1_2) (by decide) rfl), (vbT hy1_4), trivial⟩
set_option maxRecDepth 100000 in
theorem q_viewportkitLightGrammar_1_1 (n : Nat) (x1_0 : Int) (x1_1 : Int) (x1_2 : Int) (x1_3 : Int) (hy1_1 : x1_3 < (((Args.G).length : Nat) : Int)) (hy1_2 : 0 ≤ x1_3 ∧ x1_3 < (((Args.G).length : Nat) : Int)) (hy1_3 : ((((((Args.G).getD (x1_3).toNat (0, nl0)).2)).l.length : Nat) : Int) > (5 : Int)) (hy1_4 : ¬ (((((((Args.G).getD (x1_3).toNat (0, nl0)).2)).l.length : Nat) : Int) ≤ (8 : Int))) (hy1_5 : ((((((Args.G).getD (x1_3).toNat (0, nl0)).2)).l.length : Nat) : Int) > (100 : Int)) : CG P none (fnN P 9) 0 (codeOf P 9 [false, false, true, false, true, true]) (S_viewportkitLightGrammar_1 x1_0 x1_1 x1_2 x1_3) (X_viewportkitLightGrammar_1 x1_0 x1_1 x1_2 (.inl ())) :=
  runC_ok hm (A := aT [(6, .val (.bool true)), (14, .pur (Value.pointer (some ⟨0, ((x1_3).toNat * 2), some 1⟩))), (15, .pur (Value.pointer (some ⟨0, (Nat.add ((x1_3).toNat * 2) 1), some 1⟩))), (16, .ld (nlV (((Args.G).getD (x1_3).toNat (0, nl0)).2))), (18, .val (.bool true)), (23, .pur (Value.pointer (some ⟨0, ((x1_3).toNat * 2), some 1⟩))), (24, .pur (Value.pointer (some ⟨0, (Nat.add ((x1_3).toNat * 2) 1), some 1⟩))), (25, .ld (nlV (((Args.G).getD (x1_3).toNat (0, nl0)).2))), (27, .val (.bool false)), (33, .pur (Value.pointer (some ⟨0, ((x1_3).toNat * 2), some 1⟩))), (34, .pur (Value.pointer (some ⟨0, (Nat.add ((x1_3).toNat * 2) 1), some 1⟩))), (35, .ld (nlV (((Args.G).getD (x1_3).toNat (0, nl0)).2))), (37, .val (.bool true))]) (L := lT []) (wk := ⟨[2], [], 0, 0⟩)
    (ps := [(Value.bool (decide (x1_3 < (((Args.G).length : Nat) : Int)))) = (Value.bool true),
    opIndexAddr P 22 (Value.slice (some ⟨0, 0, some 1⟩) (Args.G).length Args.cG) (Value.int .i64 x1_3) Ax.h0 = some ((Value.pointer (some ⟨0, ((x1_3).toNat * 2), some 1⟩)), Ax.h0),
    opFieldAddr P 41 (Value.pointer (some ⟨0, ((x1_3).toNat * 2), some 1⟩)) 1 Ax.h0 = some ((Value.pointer (some ⟨0, (Nat.add ((x1_3).toNat * 2) 1), some 1⟩)), Ax.h0),
    loadG P 32 (Value.pointer (some ⟨0, (Nat.add ((x1_3).toNat * 2) 1), some 1⟩)) Ax.h0 = some ((nlV (((Args.G).getD (x1_3).toNat (0, nl0)).2)), Ax.h0),
    (Value.bool (decide (((((((Args.G).getD (x1_3).toNat (0, nl0)).2)).l.length : Nat) : Int) > (5 : Int)))) = (Value.bool true),
    opIndexAddr P 22 (Value.slice (some ⟨0, 0, some 1⟩) (Args.G).length Args.cG) (Value.int .i64 x1_3) Ax.h0 = some ((Value.pointer (some ⟨0, ((x1_3).toNat * 2), some 1⟩)), Ax.h0),
    opFieldAddr P 41 (Value.pointer (some ⟨0, ((x1_3).toNat * 2), some 1⟩)) 1 Ax.h0 = some ((Value.pointer (some ⟨0, (Nat.add ((x1_3).toNat * 2) 1), some 1⟩)), Ax.h0),
    loadG P 32 (Value.pointer (some ⟨0, (Nat.add ((x1_3).toNat * 2) 1), some 1⟩)) Ax.h0 = some ((nlV (((Args.G).getD (x1_3).toNat (0, nl0)).2)), Ax.h0),
    (Value.bool (decide (((((((Args.G).getD (x1_3).toNat (0, nl0)).2)).l.length : Nat) : Int) ≤ (8 : Int)))) = (Value.bool false),
    opIndexAddr P 22 (Value.slice (some ⟨0, 0, some 1⟩) (Args.G).length Args.cG) (Value.int .i64 x1_3) Ax.h0 = some ((Value.pointer (some ⟨0, ((x1_3).toNat * 2), some 1⟩)), Ax.h0),
    opFieldAddr P 41 (Value.pointer (some ⟨0, ((x1_3).toNat * 2), some 1⟩)) 1 Ax.h0 = some ((Value.pointer (some ⟨0, (Nat.add ((x1_3).toNat * 2) 1), some 1⟩)), Ax.h0),
    loadG P 32 (Value.pointer (some ⟨0, (Nat.add ((x1_3).toNat * 2) 1), some 1⟩)) Ax.h0 = some ((nlV (((Args.G).getD (x1_3).toNat (0, nl0)).2)), Ax.h0),
    (Value.bool (decide (((((((Args.G).getD (x1_3).toNat (0, nl0)).2)).l.length : Nat) : Int) > (100 : Int)))) = (Value.bool true)]) (by kernel_rfl) ⟨(vbT hy1_1), (ixW (e := 41) (by kernel_rfl) (by kernel_rfl) (hy1_2).1 (hy1_2).2), (by kernel_rfl), (ldWS rwf_iL (0, nl0) (i := (x1_3).toNat) (q := 1) (L := Args.G) (Nat.add ((x1_3).toNat * 2) 1) rfl rfl (by kernel_rfl) (toNatLt hy1_2) (by decide) rfl), (vbT hy1_3), (ixW (e := 41) (by kernel_rfl) (by kernel_rfl) (hy1_2).1 (hy1_2).2), (by kernel_rfl), (ldWS rwf_iL (0, nl0) (i := (x1_3).toNat) (q := 1) (L := Args.G) (Nat.add ((x1_3).toNat * 2) 1) rfl rfl (by kernel_rfl) (toNatLt hy1_2) (by decide) rfl), (vbF hy1_4), (ixW (e := 41) (by kernel_rfl) (by kernel_rfl) (hy1_2).1 (hy1_2).2), (by kernel_rfl), (ldWS rwf_iL (0, nl0) (i := (x1_3).toNat) (q := 1) (L := Args.G) (Nat.add ((x1_3).toNat * 2) 1) rfl rfl (by kernel_rfl) (toNatLt hy1_2) (by decide) rfl), (vbT hy1_5), trivial⟩
set_option maxRecDepth 100000 in
theorem q_viewportkitLightGrammar_1_2 (n : Nat) (x1_0 : Int) (x1_1 : Int) (x1_2 : Int) (x1_3 : Int) (hy1_1 : x1_3 < (((Args.G).length : Nat) : Int)) (hy1_2 : 0 ≤ x1_3 ∧ x1_3 < (((Args.G).length : Nat) : Int)) (hy1_3 : ((((((Args.G).getD (x1_3).toNat (0, nl0)).2)).l.length : Nat) : Int) > (5 : Int)) (hy1_4 : ¬ (((((((Args.G).getD (x1_3).toNat (0, nl0)).2)).l.length : Nat) : Int) ≤ (8 : Int))) (hy1_5 : ¬ (((((((Args.G).getD (x1_3).toNat (0, nl0)).2)).l.length : Nat) : Int) > (100 : Int))) : CG P none (fnN P 9) 0 (codeOf P 9 [false, false, true, false, true, true]) (S_viewportkitLightGrammar_1 x1_0 x1_1 x1_2 x1_3) (.normal, S_viewportkitLightGrammar_1 x1_0 x1_1 x1_2 (w64 (x1_3 + (1 : Int)))) :=
  runC_ok hm (A := aT [(6, .val (.bool true)), (14, .pur (Value.pointer (some ⟨0, ((x1_3).toNat * 2), some 1⟩))), (15, .pur (Value.pointer (some ⟨0, (Nat.add ((x1_3).toNat * 2) 1), some 1⟩))), (16, .ld (nlV (((Args.G).getD (x1_3).toNat (0, nl0)).2))), (18, .val (.bool true)), (23, .pur (Value.pointer (some ⟨0, ((x1_3).toNat * 2), some 1⟩))), (24, .pur (Value.pointer (some ⟨0, (Nat.add ((x1_3).toNat * 2) 1), some 1⟩))), (25, .ld (nlV (((Args.G).getD (x1_3).toNat (0, nl0)).2))), (27, .val (.bool false)), (33, .pur (Value.pointer (some ⟨0, ((x1_3).toNat * 2), some 1⟩))), (34, .pur (Value.pointer (some ⟨0, (Nat.add ((x1_3).toNat * 2) 1), some 1⟩))), (35, .ld (nlV (((Args.G).getD (x1_3).toNat (0, nl0)).2))), (37, .val (.bool false))]) (L := lT []) (wk := ⟨[1, 3], [(0, 0, false)], 1, 0⟩)
    (ps := [(Value.bool (decide (x1_3 < (((Args.G).length : Nat) : Int)))) = (Value.bool true),
    opIndexAddr P 22 (Value.slice (some ⟨0, 0, some 1⟩) (Args.G).length Args.cG) (Value.int .i64 x1_3) Ax.h0 = some ((Value.pointer (some ⟨0, ((x1_3).toNat * 2), some 1⟩)), Ax.h0),
    opFieldAddr P 41 (Value.pointer (some ⟨0, ((x1_3).toNat * 2), some 1⟩)) 1 Ax.h0 = some ((Value.pointer (some ⟨0, (Nat.add ((x1_3).toNat * 2) 1), some 1⟩)), Ax.h0),
    loadG P 32 (Value.pointer (some ⟨0, (Nat.add ((x1_3).toNat * 2) 1), some 1⟩)) Ax.h0 = some ((nlV (((Args.G).getD (x1_3).toNat (0, nl0)).2)), Ax.h0),
    (Value.bool (decide (((((((Args.G).getD (x1_3).toNat (0, nl0)).2)).l.length : Nat) : Int) > (5 : Int)))) = (Value.bool true),
    opIndexAddr P 22 (Value.slice (some ⟨0, 0, some 1⟩) (Args.G).length Args.cG) (Value.int .i64 x1_3) Ax.h0 = some ((Value.pointer (some ⟨0, ((x1_3).toNat * 2), some 1⟩)), Ax.h0),
    opFieldAddr P 41 (Value.pointer (some ⟨0, ((x1_3).toNat * 2), some 1⟩)) 1 Ax.h0 = some ((Value.pointer (some ⟨0, (Nat.add ((x1_3).toNat * 2) 1), some 1⟩)), Ax.h0),
    loadG P 32 (Value.pointer (some ⟨0, (Nat.add ((x1_3).toNat * 2) 1), some 1⟩)) Ax.h0 = some ((nlV (((Args.G).getD (x1_3).toNat (0, nl0)).2)), Ax.h0),
    (Value.bool (decide (((((((Args.G).getD (x1_3).toNat (0, nl0)).2)).l.length : Nat) : Int) ≤ (8 : Int)))) = (Value.bool false),
    opIndexAddr P 22 (Value.slice (some ⟨0, 0, some 1⟩) (Args.G).length Args.cG) (Value.int .i64 x1_3) Ax.h0 = some ((Value.pointer (some ⟨0, ((x1_3).toNat * 2), some 1⟩)), Ax.h0),
    opFieldAddr P 41 (Value.pointer (some ⟨0, ((x1_3).toNat * 2), some 1⟩)) 1 Ax.h0 = some ((Value.pointer (some ⟨0, (Nat.add ((x1_3).toNat * 2) 1), some 1⟩)), Ax.h0),
    loadG P 32 (Value.pointer (some ⟨0, (Nat.add ((x1_3).toNat * 2) 1), some 1⟩)) Ax.h0 = some ((nlV (((Args.G).getD (x1_3).toNat (0, nl0)).2)), Ax.h0),
    (Value.bool (decide (((((((Args.G).getD (x1_3).toNat (0, nl0)).2)).l.length : Nat) : Int) > (100 : Int)))) = (Value.bool false)]) (by kernel_rfl) ⟨(vbT hy1_1), (ixW (e := 41) (by kernel_rfl) (by kernel_rfl) (hy1_2).1 (hy1_2).2), (by kernel_rfl), (ldWS rwf_iL (0, nl0) (i := (x1_3).toNat) (q := 1) (L := Args.G) (Nat.add ((x1_3).toNat * 2) 1) rfl rfl (by kernel_rfl) (toNatLt hy1_2) (by decide) rfl), (vbT hy1_3), (ixW (e := 41) (by kernel_rfl) (by kernel_rfl) (hy1_2).1 (hy1_2).2), (by kernel_rfl), (ldWS rwf_iL (0, nl0) (i := (x1_3).toNat) (q := 1) (L := Args.G) (Nat.add ((x1_3).toNat * 2) 1) rfl rfl (by kernel_rfl) (toNatLt hy1_2) (by decide) rfl), (vbF hy1_4), (ixW (e := 41) (by kernel_rfl) (by kernel_rfl) (hy1_2).1 (hy1_2).2), (by kernel_rfl), (ldWS rwf_iL (0, nl0) (i := (x1_3).toNat) (q := 1) (L := Args.G) (Nat.add ((x1_3).toNat * 2) 1) rfl rfl (by kernel_rfl) (toNatLt hy1_2) (by decide) rfl), (vbF hy1_5), trivial⟩
set_option maxRecDepth 100000 in
theorem q_viewportkitLightGrammar_1_3 (n : Nat) (x1_0 : Int) (x1_1 : Int) (x1_2 : Int) (x1_3 : Int) (hy1_1 : x1_3 < (((Args.G).length : Nat) : Int)) (hy1_2 : 0 ≤ x1_3 ∧ x1_3 < (((Args.G).length : Nat) : Int)) (hy1_3 : ¬ (((((((Args.G).getD (x1_3).toNat (0, nl0)).2)).l.length : Nat) : Int) > (5 : Int))) (hy1_4 : ((((((Args.G).getD (x1_3).toNat (0, nl0)).2)).l.length : Nat) : Int) > (100 : Int)) : CG P none (fnN P 9) 0 (codeOf P 9 [false, false, true, false, true, true]) (S_viewportkitLightGrammar_1 x1_0 x1_1 x1_2 x1_3) (X_viewportkitLightGrammar_1 x1_0 x1_1 x1_2 (.inl ())) :=
  runC_ok hm (A := aT [(6, .val (.bool true)), (14, .pur (Value.pointer (some ⟨0, ((x1_3).toNat * 2), some 1⟩))), (15, .pur (Value.pointer (some ⟨0, (Nat.add ((x1_3).toNat * 2) 1), some 1⟩))), (16, .ld (nlV (((Args.G).getD (x1_3).toNat (0, nl0)).2))), (18, .val (.bool false)), (33, .pur (Value.pointer (some ⟨0, ((x1_3).toNat * 2), some 1⟩))), (34, .pur (Value.pointer (some ⟨0, (Nat.add ((x1_3).toNat * 2) 1), some 1⟩))), (35, .ld (nlV (((Args.G).getD (x1_3).toNat (0, nl0)).2))), (37, .val (.bool true))]) (L := lT []) (wk := ⟨[2], [], 0, 0⟩)
    (ps := [(Value.bool (decide (x1_3 < (((Args.G).length : Nat) : Int)))) = (Value.bool true),
    opIndexAddr P 22 (Value.slice (some ⟨0, 0, some 1⟩) (Args.G).length Args.cG) (Value.int .i64 x1_3) Ax.h0 = some ((Value.pointer (some ⟨0, ((x1_3).toNat * 2), some 1⟩)), Ax.h0),
    opFieldAddr P 41 (Value.pointer (some ⟨0, ((x1_3).toNat * 2), some 1⟩)) 1 Ax.h0 = some ((Value.pointer (some ⟨0, (Nat.add ((x1_3).toNat * 2) 1), some 1⟩)), Ax.h0),
    loadG P 32 (Value.pointer (some ⟨0, (Nat.add ((x1_3).toNat * 2) 1), some 1⟩)) Ax.h0 = some ((nlV (((Args.G).getD (x1_3).toNat (0, nl0)).2)), Ax.h0),
    (Value.bool (decide (((((((Args.G).getD (x1_3).toNat (0, nl0)).2)).l.length : Nat) : Int) > (5 : Int)))) = (Value.bool false),
    opIndexAddr P 22 (Value.slice (some ⟨0, 0, some 1⟩) (Args.G).length Args.cG) (Value.int .i64 x1_3) Ax.h0 = some ((Value.pointer (some ⟨0, ((x1_3).toNat * 2), some 1⟩)), Ax.h0),
    opFieldAddr P 41 (Value.pointer (some ⟨0, ((x1_3).toNat * 2), some 1⟩)) 1 Ax.h0 = some ((Value.pointer (some ⟨0, (Nat.add ((x1_3).toNat * 2) 1), some 1⟩)), Ax.h0),
    loadG P 32 (Value.pointer (some ⟨0, (Nat.add ((x1_3).toNat * 2) 1), some 1⟩)) Ax.h0 = some ((nlV (((Args.G).getD (x1_3).toNat (0, nl0)).2)), Ax.h0),
    (Value.bool (decide (((((((Args.G).getD (x1_3).toNat (0, nl0)).2)).l.length : Nat) : Int) > (100 : Int)))) = (Value.bool true)]) (by kernel_rfl) ⟨(vbT hy1_1), (ixW (e := 41) (by kernel_rfl) (by kernel_rfl) (hy1_2).1 (hy1_2).2), (by kernel_rfl), (ldWS rwf_iL (0, nl0) (i := (x1_3).toNat) (q := 1) (L := Args.G) (Nat.add ((x1_3).toNat * 2) 1) rfl rfl (by kernel_rfl) (toNatLt hy1_2) (by decide) rfl), (vbF hy1_3), (ixW (e := 41) (by kernel_rfl) (by kernel_rfl) (hy1_2).1 (hy1_2).2), (by kernel_rfl), (ldWS rwf_iL (0, nl0) (i := (x1_3).toNat) (q := 1) (L := Args.G) (Nat.add ((x1_3).toNat * 2) 1) rfl rfl (by kernel_rfl) (toNatLt hy1_2) (by decide) rfl), (vbT hy1_4), trivial⟩
set_option maxRecDepth 100000 in
theorem q_viewportkitLightGrammar_1_4 (n : Nat) (x1_0 : Int) (x1_1 : Int) (x1_2 : Int) (x1_3 : Int) (hy1_1 : x1_3 < (((Args.G).length : Nat) : Int)) (hy1_2 : 0 ≤ x1_3 ∧ x1_3 < (((Args.G).length : Nat) : Int)) (hy1_3 : ¬ (((((((Args.G).getD (x1_3).toNat (0, nl0)).2)).l.length : Nat) : Int) > (5 : Int))) (hy1_4 : ¬ (((((((Args.G).getD (x1_3).toNat (0, nl0)).2)).l.length : Nat) : Int) > (100 : Int))) : CG P none (fnN P 9) 0 (codeOf P 9 [false, false, true, false, true, true]) (S_viewportkitLightGrammar_1 x1_0 x1_1 x1_2 x1_3) (.normal, S_viewportkitLightGrammar_1 x1_0 x1_1 x1_2 (w64 (x1_3 + (1 : Int)))) :=
  runC_ok hm (A := aT [(6, .val (.bool true)), (14, .pur (Value.pointer (some ⟨0, ((x1_3).toNat * 2), some 1⟩))), (15, .pur (Value.pointer (some ⟨0, (Nat.add ((x1_3).toNat * 2) 1), some 1⟩))), (16, .ld (nlV (((Args.G).getD (x1_3).toNat (0, nl0)).2))), (18, .val (.bool false)), (33, .pur (Value.pointer (some ⟨0, ((x1_3).toNat * 2), some 1⟩))), (34, .pur (Value.pointer (some ⟨0, (Nat.add ((x1_3).toNat * 2) 1), some 1⟩))), (35, .ld (nlV (((Args.G).getD (x1_3).toNat (0, nl0)).2))), (37, .val (.bool false))]) (L := lT []) (wk := ⟨[1, 3], [(0, 0, false)], 1, 0⟩)
    (ps := [(Value.bool (decide (x1_3 < (((Args.G).length : Nat) : Int)))) = (Value.bool true),
    opIndexAddr P 22 (Value.slice (some ⟨0, 0, some 1⟩) (Args.G).length Args.cG) (Value.int .i64 x1_3) Ax.h0 = some ((Value.pointer (some ⟨0, ((x1_3).toNat * 2), some 1⟩)), Ax.h0),
    opFieldAddr P 41 (Value.pointer (some ⟨0, ((x1_3).toNat * 2), some 1⟩)) 1 Ax.h0 = some ((Value.pointer (some ⟨0, (Nat.add ((x1_3).toNat * 2) 1), some 1⟩)), Ax.h0),
    loadG P 32 (Value.pointer (some ⟨0, (Nat.add ((x1_3).toNat * 2) 1), some 1⟩)) Ax.h0 = some ((nlV (((Args.G).getD (x1_3).toNat (0, nl0)).2)), Ax.h0),
    (Value.bool (decide (((((((Args.G).getD (x1_3).toNat (0, nl0)).2)).l.length : Nat) : Int) > (5 : Int)))) = (Value.bool false),
    opIndexAddr P 22 (Value.slice (some ⟨0, 0, some 1⟩) (Args.G).length Args.cG) (Value.int .i64 x1_3) Ax.h0 = some ((Value.pointer (some ⟨0, ((x1_3).toNat * 2), some 1⟩)), Ax.h0),
    opFieldAddr P 41 (Value.pointer (some ⟨0, ((x1_3).toNat * 2), some 1⟩)) 1 Ax.h0 = some ((Value.pointer (some ⟨0, (Nat.add ((x1_3).toNat * 2) 1), some 1⟩)), Ax.h0),
    loadG P 32 (Value.pointer (some ⟨0, (Nat.add ((x1_3).toNat * 2) 1), some 1⟩)) Ax.h0 = some ((nlV (((Args.G).getD (x1_3).toNat (0, nl0)).2)), Ax.h0),
    (Value.bool (decide (((((((Args.G).getD (x1_3).toNat (0, nl0)).2)).l.length : Nat) : Int) > (100 : Int)))) = (Value.bool false)]) (by kernel_rfl) ⟨(vbT hy1_1), (ixW (e := 41) (by kernel_rfl) (by kernel_rfl) (hy1_2).1 (hy1_2).2), (by kernel_rfl), (ldWS rwf_iL (0, nl0) (i := (x1_3).toNat) (q := 1) (L := Args.G) (Nat.add ((x1_3).toNat * 2) 1) rfl rfl (by kernel_rfl) (toNatLt hy1_2) (by decide) rfl), (vbF hy1_3), (ixW (e := 41) (by kernel_rfl) (by kernel_rfl) (hy1_2).1 (hy1_2).2), (by kernel_rfl), (ldWS rwf_iL (0, nl0) (i := (x1_3).toNat) (q := 1) (L := Args.G) (Nat.add ((x1_3).toNat * 2) 1) rfl rfl (by kernel_rfl) (toNatLt hy1_2) (by decide) rfl), (vbF hy1_4), trivial⟩
set_option maxRecDepth 100000 in
theorem q_viewportkitLightGrammar_1_5 (n : Nat) (x1_0 : Int) (x1_1 : Int) (x1_2 : Int) (x1_3 : Int) (hy1_1 : ¬ (x1_3 < (((Args.G).length : Nat) : Int))) : CG P none (fnN P 9) 0 (codeOf P 9 [false, false, true, false, true, true]) (S_viewportkitLightGrammar_1 x1_0 x1_1 x1_2 x1_3) (X_viewportkitLightGrammar_1 x1_0 x1_1 x1_2 (.inr ())) :=
  runC_ok hm (A := aT [(6, .val (.bool false))]) (L := lT []) (wk := ⟨[1], [(0, 0, false)], 1, 0⟩)
    (ps := [(Value.bool (decide (x1_3 < (((Args.G).length : Nat) : Int)))) = (Value.bool false)]) (by kernel_rfl) ⟨(vbF hy1_1), trivial⟩
theorem m_viewportkitLightGrammar_1_ok (n : Nat) (x1_0 : Int) (x1_1 : Int) (x1_2 : Int) (st : Int) (r : (Unit) ⊕ (Unit)) (h : m_viewportkitLightGrammar_1 n x1_0 x1_1 x1_2 st = some r) : CG P none (fnN P 9) 0 (codeOf P 9 [false, true, false, true, true]) (S_viewportkitLightGrammar_1 x1_0 x1_1 x1_2 st) (X_viewportkitLightGrammar_1 x1_0 x1_1 x1_2 r) :=
  CG.iter (b := codeOf P 9 [false, false, true, false, true, true]) (by kernel_rfl) (body := B_viewportkitLightGrammar_1 n x1_0 x1_1 x1_2) (S := S_viewportkitLightGrammar_1 x1_0 x1_1 x1_2) (X := X_viewportkitLightGrammar_1 x1_0 x1_1 x1_2)
    (fun x1_3 s' h => by
    unfold B_viewportkitLightGrammar_1 at h
    dsimp only at h
    by_cases hy1_1 : x1_3 < (((Args.G).length : Nat) : Int)
    · rw [if_pos hy1_1] at h
      by_cases hy1_2 : 0 ≤ x1_3 ∧ x1_3 < (((Args.G).length : Nat) : Int)
      · rw [if_pos hy1_2] at h
        by_cases hy1_3 : ((((((Args.G).getD (x1_3).toNat (0, nl0)).2)).l.length : Nat) : Int) > (5 : Int)
        · rw [if_pos hy1_3] at h
          by_cases hy1_4 : ((((((Args.G).getD (x1_3).toNat (0, nl0)).2)).l.length : Nat) : Int) ≤ (8 : Int)
          · rw [if_pos hy1_4] at h
            cases h
          · rw [if_neg hy1_4] at h
            by_cases hy1_5 : ((((((Args.G).getD (x1_3).toNat (0, nl0)).2)).l.length : Nat) : Int) > (100 : Int)
            · rw [if_pos hy1_5] at h
              cases h
            · rw [if_neg hy1_5] at h
              obtain rfl := Sum.inl.inj (Option.some.inj h); exact q_viewportkitLightGrammar_1_2 n x1_0 x1_1 x1_2 x1_3 hy1_1 hy1_2 hy1_3 hy1_4 hy1_5
        · rw [if_neg hy1_3] at h
          by_cases hy1_4 : ((((((Args.G).getD (x1_3).toNat (0, nl0)).2)).l.length : Nat) : Int) > (100 : Int)
          · rw [if_pos hy1_4] at h
            cases h
          · rw [if_neg hy1_4] at h
            obtain rfl := Sum.inl.inj (Option.some.inj h); exact q_viewportkitLightGrammar_1_4 n x1_0 x1_1 x1_2 x1_3 hy1_1 hy1_2 hy1_3 hy1_4
      · rw [if_neg hy1_2] at h; cases h
    · rw [if_neg hy1_1] at h
      cases h)
    (fun x1_3 r h => by
    unfold B_viewportkitLightGrammar_1 at h
    dsimp only at h
    by_cases hy1_1 : x1_3 < (((Args.G).length : Nat) : Int)
    · rw [if_pos hy1_1] at h
      by_cases hy1_2 : 0 ≤ x1_3 ∧ x1_3 < (((Args.G).length : Nat) : Int)
      · rw [if_pos hy1_2] at h
        by_cases hy1_3 : ((((((Args.G).getD (x1_3).toNat (0, nl0)).2)).l.length : Nat) : Int) > (5 : Int)
        · rw [if_pos hy1_3] at h
          by_cases hy1_4 : ((((((Args.G).getD (x1_3).toNat (0, nl0)).2)).l.length : Nat) : Int) ≤ (8 : Int)
          · rw [if_pos hy1_4] at h
            obtain rfl := Sum.inr.inj (Option.some.inj h); exact q_viewportkitLightGrammar_1_0 n x1_0 x1_1 x1_2 x1_3 hy1_1 hy1_2 hy1_3 hy1_4
          · rw [if_neg hy1_4] at h
            by_cases hy1_5 : ((((((Args.G).getD (x1_3).toNat (0, nl0)).2)).l.length : Nat) : Int) > (100 : Int)
            · rw [if_pos hy1_5] at h
              obtain rfl := Sum.inr.inj (Option.some.inj h); exact q_viewportkitLightGrammar_1_1 n x1_0 x1_1 x1_2 x1_3 hy1_1 hy1_2 hy1_3 hy1_4 hy1_5
            · rw [if_neg hy1_5] at h
              cases h
        · rw [if_neg hy1_3] at h
          by_cases hy1_4 : ((((((Args.G).getD (x1_3).toNat (0, nl0)).2)).l.length : Nat) : Int) > (100 : Int)
          · rw [if_pos hy1_4] at h
            obtain rfl := Sum.inr.inj (Option.some.inj h); exact q_viewportkitLightGrammar_1_3 n x1_0 x1_1 x1_2 x1_3 hy1_1 hy1_2 hy1_3 hy1_4
          · rw [if_neg hy1_4] at h
            cases h
      · rw [if_neg hy1_2] at h; cases h
    · rw [if_neg hy1_1] at h
      obtain rfl := Sum.inr.inj (Option.some.inj h); exact q_viewportkitLightGrammar_1_5 n x1_0 x1_1 x1_2 x1_3 hy1_1)
    (fun r => by intro hx; rcases r with _ | _ <;> cases hx) h
noncomputable def A_viewportkitLightGrammar (gT : Int) (gN : Int) (gK : Int) : List Value := [(Value.agg #[(Value.int .i64 gT), (Value.int .i64 gN), (Value.int .i64 gK), (Value.slice (some ⟨0, 0, some 1⟩) (Args.G).length Args.cG)])]
noncomputable def H_viewportkitLightGrammar (gT : Int) (gN : Int) (gK : Int) : AH := ⟨sB [], 0, 0⟩
noncomputable def V_viewportkitLightGrammar (gT : Int) (gN : Int) (gK : Int) (r : Bool) : Value := match r with
  | o0 => (Value.bool o0)
noncomputable def R_viewportkitLightGrammar (gT : Int) (gN : Int) (gK : Int) (r : Bool) : AH := match r with
  | o0 => ⟨sB [], 0, 0⟩
def m_viewportkitLightGrammar (n : Nat) (gT : Int) (gN : Int) (gK : Int) : Option (Bool) :=
  if (((Args.G).length : Nat) : Int) > (100 : Int) then
    some false
  else
    match m_viewportkitLightGrammar_1 n gT gN gK 0 with
    | none => none
    | some (.inl _) =>
      some false
    | some (.inr _) =>
      if gT > (8 : Int) then
        some true
      else
        if gN > (16 : Int) then
          some true
        else
          if gK > (3 : Int) then
            some true
          else
            if (((Args.G).length : Nat) : Int) > (64 : Int) then
              some true
            else
              if gT ≤ (4 : Int) then
                if gN ≤ (6 : Int) then
                  if (((Args.G).length : Nat) : Int) ≤ (14 : Int) then
                    if gK ≤ (2 : Int) then
                      some true
                    else
                      if gT ≤ (3 : Int) then
                        some true
                      else
                        some false
                  else
                    some false
                else
                  some false
              else
                some false
set_option maxRecDepth 100000 in
theorem p_viewportkitLightGrammar_0 (n : Nat) (gT : Int) (gN : Int) (gK : Int) (hc1 : (((Args.G).length : Nat) : Int) > (100 : Int)) : Gv P (.func 9) (A_viewportkitLightGrammar gT gN gK) (H_viewportkitLightGrammar gT gN gK) (V_viewportkitLightGrammar gT gN gK false) (R_viewportkitLightGrammar gT gN gK false) :=
  runF_ok hm (A := aT [(8, .val (.bool true))]) (L := lT []) (wk := ⟨[2], [], 0, 0⟩)
    (ps := [(Value.bool (decide ((((Args.G).length : Nat) : Int) > (100 : Int)))) = (Value.bool true)]) (by kernel_rfl) ⟨(vbT hc1), trivial⟩
set_option maxRecDepth 100000 in
theorem p_viewportkitLightGrammar_1 (n : Nat) (gT : Int) (gN : Int) (gK : Int) (hc1 : ¬ ((((Args.G).length : Nat) : Int) > (100 : Int))) (hc2 : m_viewportkitLightGrammar_1 n gT gN gK 0 = some (.inl ())) : Gv P (.func 9) (A_viewportkitLightGrammar gT gN gK) (H_viewportkitLightGrammar gT gN gK) (V_viewportkitLightGrammar gT gN gK false) (R_viewportkitLightGrammar gT gN gK false) :=
  runF_ok hm (A := aT [(8, .val (.bool false))]) (L := lT [(14, ⟨⟨[1, 3], [(0, 0, false)], 1, 0⟩, (X_viewportkitLightGrammar_1 gT gN gK (.inl ())).1, (X_viewportkitLightGrammar_1 gT gN gK (.inl ())).2⟩)]) (wk := ⟨[2], [], 0, 0⟩)
    (ps := [(Value.bool (decide ((((Args.G).length : Nat) : Int) > (100 : Int)))) = (Value.bool false),
    CG P none (fnN P 9) 0 (codeOf P 9 [false, true, false, true, true]) (S_viewportkitLightGrammar_1 gT gN gK 0) (X_viewportkitLightGrammar_1 gT gN gK (.inl ()))]) (by kernel_rfl) ⟨(vbF hc1), (m_viewportkitLightGrammar_1_ok n gT gN gK 0 (.inl ()) hc2), trivial⟩
set_option maxRecDepth 100000 in
theorem p_viewportkitLightGrammar_2 (n : Nat) (gT : Int) (gN : Int) (gK : Int) (hc1 : ¬ ((((Args.G).length : Nat) : Int) > (100 : Int))) (hc2 : m_viewportkitLightGrammar_1 n gT gN gK 0 = some (.inr ())) (hc3 : gT > (8 : Int)) : Gv P (.func 9) (A_viewportkitLightGrammar gT gN gK) (H_viewportkitLightGrammar gT gN gK) (V_viewportkitLightGrammar gT gN gK true) (R_viewportkitLightGrammar gT gN gK true) :=
  runF_ok hm (A := aT [(8, .val (.bool false)), (19, .val (.bool true))]) (L := lT [(14, ⟨⟨[1, 3], [(0, 0, false)], 1, 0⟩, (X_viewportkitLightGrammar_1 gT gN gK (.inr ())).1, (X_viewportkitLightGrammar_1 gT gN gK (.inr ())).2⟩)]) (wk := ⟨[2], [], 0, 0⟩)
    (ps := [(Value.bool (decide ((((Args.G).length : Nat) : Int) > (100 : Int)))) = (Value.bool false),
    CG P none (fnN P 9) 0 (codeOf P 9 [false, true, false, true, true]) (S_viewportkitLightGrammar_1 gT gN gK 0) (X_viewportkitLightGrammar_1 gT gN gK (.inr ())),
    (Value.bool (decide (gT > (8 : Int)))) = (Value.bool true)]) (by kernel_rfl) ⟨(vbF hc1), (m_viewportkitLightGrammar_1_ok n gT gN gK 0 (.inr ()) hc2), (vbT hc3), trivial⟩
set_option maxRecDepth 100000 in
theorem p_viewportkitLightGrammar_3 (n : Nat) (gT : Int) (gN : Int) (gK : Int) (hc1 : ¬ ((((Args.G).length : Nat) : Int) > (100 : Int))) (hc2 : m_viewportkitLightGrammar_1 n gT gN gK 0 = some (.inr ())) (hc3 : ¬ (gT > (8 : Int))) (hc4 : gN > (16 : Int)) : Gv P (.func 9) (A_viewportkitLightGrammar gT gN gK) (H_viewportkitLightGrammar gT gN gK) (V_viewportkitLightGrammar gT gN gK true) (R_viewportkitLightGrammar gT gN gK true) :=
  runF_ok hm (A := aT [(8, .val (.bool false)), (19, .val (.bool false)), (23, .val (.bool true))]) (L := lT [(14, ⟨⟨[1, 3], [(0, 0, false)], 1, 0⟩, (X_viewportkitLightGrammar_1 gT gN gK (.inr ())).1, (X_viewportkitLightGrammar_1 gT gN gK (.inr ())).2⟩)]) (wk := ⟨[2], [], 0, 0⟩)
    (ps := [(Value.bool (decide ((((Args.G).length : Nat) : Int) > (100 : Int)))) = (Value.bool false),
    CG P none (fnN P 9) 0 (codeOf P 9 [false, true, false, true, true]) (S_viewportkitLightGrammar_1 gT gN gK 0) (X_viewportkitLightGrammar_1 gT gN gK (.inr ())),
    (Value.bool (decide (gT > (8 : Int)))) = (Value.bool false),
    (Value.bool (decide (gN > (16 : Int)))) = (Value.bool true)]) (by kernel_rfl) ⟨(vbF hc1), (m_viewportkitLightGrammar_1_ok n gT gN gK 0 (.inr ()) hc2), (vbF hc3), (vbT hc4), trivial⟩
set_option maxRecDepth 100000 in
theorem p_viewportkitLightGrammar_4 (n : Nat) (gT : Int) (gN : Int) (gK : Int) (hc1 : ¬ ((((Args.G).length : Nat) : Int) > (100 : Int))) (hc2 : m_viewportkitLightGrammar_1 n gT gN gK 0 = some (.inr ())) (hc3 : ¬ (gT > (8 : Int))) (hc4 : ¬ (gN > (16 : Int))) (hc5 : gK > (3 : Int)) : Gv P (.func 9) (A_viewportkitLightGrammar gT gN gK) (H_viewportkitLightGrammar gT gN gK) (V_viewportkitLightGrammar gT gN gK true) (R_viewportkitLightGrammar gT gN gK true) :=
  runF_ok hm (A := aT [(8, .val (.bool false)), (19, .val (.bool false)), (23, .val (.bool false)), (28, .val (.bool true))]) (L := lT [(14, ⟨⟨[1, 3], [(0, 0, false)], 1, 0⟩, (X_viewportkitLightGrammar_1 gT gN gK (.inr ())).1, (X_viewportkitLightGrammar_1 gT gN gK (.inr ())).2⟩)]) (wk := ⟨[2], [], 0, 0⟩)
    (ps := [(Value.bool (decide ((((Args.G).length : Nat) : Int) > (100 : Int)))) = (Value.bool false),
    CG P none (fnN P 9) 0 (codeOf P 9 [false, true, false, true, true]) (S_viewportkitLightGrammar_1 gT gN gK 0) (X_viewportkitLightGrammar_1 gT gN gK (.inr ())),
    (Value.bool (decide (gT > (8 : Int)))) = (Value.bool false),
    (Value.bool (decide (gN > (16 : Int)))) = (Value.bool false),
    (Value.bool (decide (gK > (3 : Int)))) = (Value.bool true)]) (by kernel_rfl) ⟨(vbF hc1), (m_viewportkitLightGrammar_1_ok n gT gN gK 0 (.inr ()) hc2), (vbF hc3), (vbF hc4), (vbT hc5), trivial⟩
set_option maxRecDepth 100000 in
theorem p_viewportkitLightGrammar_5 (n : Nat) (gT : Int) (gN : Int) (gK : Int) (hc1 : ¬ ((((Args.G).length : Nat) : Int) > (100 : Int))) (hc2 : m_viewportkitLightGrammar_1 n gT gN gK 0 = some (.inr ())) (hc3 : ¬ (gT > (8 : Int))) (hc4 : ¬ (gN > (16 : Int))) (hc5 : ¬ (gK > (3 : Int))) (hc6 : (((Args.G).length : Nat) : Int) > (64 : Int)) : Gv P (.func 9) (A_viewportkitLightGrammar gT gN gK) (H_viewportkitLightGrammar gT gN gK) (V_viewportkitLightGrammar gT gN gK true) (R_viewportkitLightGrammar gT gN gK true) :=
  runF_ok hm (A := aT [(8, .val (.bool false)), (19, .val (.bool false)), (23, .val (.bool false)), (28, .val (.bool false)), (34, .val (.bool true))]) (L := lT [(14, ⟨⟨[1, 3], [(0, 0, false)], 1, 0⟩, (X_viewportkitLightGrammar_1 gT gN gK (.inr ())).1, (X_viewportkitLightGrammar_1 gT gN gK (.inr ())).2⟩)]) (wk := ⟨[2], [], 0, 0⟩)
    (ps := [(Value.bool (decide ((((Args.G).length : Nat) : Int) > (100 : Int)))) = (Value.bool false),
    CG P none (fnN P 9) 0 (codeOf P 9 [false, true, false, true, true]) (S_viewportkitLightGrammar_1 gT gN gK 0) (X_viewportkitLightGrammar_1 gT gN gK (.inr ())),
    (Value.bool (decide (gT > (8 : Int)))) = (Value.bool false),
    (Value.bool (decide (gN > (16 : Int)))) = (Value.bool false),
    (Value.bool (decide (gK > (3 : Int)))) = (Value.bool false),
    (Value.bool (decide ((((Args.G).length : Nat) : Int) > (64 : Int)))) = (Value.bool true)]) (by kernel_rfl) ⟨(vbF hc1), (m_viewportkitLightGrammar_1_ok n gT gN gK 0 (.inr ()) hc2), (vbF hc3), (vbF hc4), (vbF hc5), (vbT hc6), trivial⟩
set_option maxRecDepth 100000 in
theorem p_viewportkitLightGrammar_6 (n : Nat) (gT : Int) (gN : Int) (gK : Int) (hc1 : ¬ ((((Args.G).length : Nat) : Int) > (100 : Int))) (hc2 : m_viewportkitLightGrammar_1 n gT gN gK 0 = some (.inr ())) (hc3 : ¬ (gT > (8 : Int))) (hc4 : ¬ (gN > (16 : Int))) (hc5 : ¬ (gK > (3 : Int))) (hc6 : ¬ ((((Args.G).length : Nat) : Int) > (64 : Int))) (hc7 : gT ≤ (4 : Int)) (hc8 : gN ≤ (6 : Int)) (hc9 : (((Args.G).length : Nat) : Int) ≤ (14 : Int)) (hc10 : gK ≤ (2 : Int)) : Gv P (.func 9) (A_viewportkitLightGrammar gT gN gK) (H_viewportkitLightGrammar gT gN gK) (V_viewportkitLightGrammar gT gN gK true) (R_viewportkitLightGrammar gT gN gK true) :=
  runF_ok hm (A := aT [(8, .val (.bool false)), (19, .val (.bool false)), (23, .val (.bool false)), (28, .val (.bool false)), (34, .val (.bool false)), (40, .val (.bool true)), (44, .val (.bool true)), (50, .val (.bool true)), (55, .val (.bool true))]) (L := lT [(14, ⟨⟨[1, 3], [(0, 0, false)], 1, 0⟩, (X_viewportkitLightGrammar_1 gT gN gK (.inr ())).1, (X_viewportkitLightGrammar_1 gT gN gK (.inr ())).2⟩)]) (wk := ⟨[2], [], 0, 0⟩)
    (ps := [(Value.bool (decide ((((Args.G).length : Nat) : Int) > (100 : Int)))) = (Value.bool false),
    CG P none (fnN P 9) 0 (codeOf P 9 [false, true, false, true, true]) (S_viewportkitLightGrammar_1 gT gN gK 0) (X_viewportkitLightGrammar_1 gT gN gK (.inr ())),
    (Value.bool (decide (gT > (8 : Int)))) = (Value.bool false),
    (Value.bool (decide (gN > (16 : Int)))) = (Value.bool false),
    (Value.bool (decide (gK > (3 : Int)))) = (Value.bool false),
    (Value.bool (decide ((((Args.G).length : Nat) : Int) > (64 : Int)))) = (Value.bool false),
    (Value.bool (decide (gT ≤ (4 : Int)))) = (Value.bool true),
    (Value.bool (decide (gN ≤ (6 : Int)))) = (Value.bool true),
    (Value.bool (decide ((((Args.G).length : Nat) : Int) ≤ (14 : Int)))) = (Value.bool true),
    (Value.bool (decide (gK ≤ (2 : Int)))) = (Value.bool true)]) (by kernel_rfl) ⟨(vbF hc1), (m_viewportkitLightGrammar_1_ok n gT gN gK 0 (.inr ()) hc2), (vbF hc3), (vbF hc4), (vbF hc5), (vbF hc6), (vbT hc7), (vbT hc8), (vbT hc9), (vbT hc10), trivial⟩
set_option maxRecDepth 100000 in
theorem p_viewportkitLightGrammar_7 (n : Nat) (gT : Int) (gN : Int) (gK : Int) (hc1 : ¬ ((((Args.G).length : Nat) : Int) > (100 : Int))) (hc2 : m_viewportkitLightGrammar_1 n gT gN gK 0 = some (.inr ())) (hc3 : ¬ (gT > (8 : Int))) (hc4 : ¬ (gN > (16 : Int))) (hc5 : ¬ (gK > (3 : Int))) (hc6 : ¬ ((((Args.G).length : Nat) : Int) > (64 : Int))) (hc7 : gT ≤ (4 : Int)) (hc8 : gN ≤ (6 : Int)) (hc9 : (((Args.G).length : Nat) : Int) ≤ (14 : Int)) (hc10 : ¬ (gK ≤ (2 : Int))) (hc11 : gT ≤ (3 : Int)) : Gv P (.func 9) (A_viewportkitLightGrammar gT gN gK) (H_viewportkitLightGrammar gT gN gK) (V_viewportkitLightGrammar gT gN gK true) (R_viewportkitLightGrammar gT gN gK true) :=
  runF_ok hm (A := aT [(8, .val (.bool false)), (19, .val (.bool false)), (23, .val (.bool false)), (28, .val (.bool false)), (34, .val (.bool false)), (40, .val (.bool true)), (44, .val (.bool true)), (50, .val (.bool true)), (55, .val (.bool false)), (59, .val (.bool true))]) (L := lT [(14, ⟨⟨[1, 3], [(0, 0, false)], 1, 0⟩, (X_viewportkitLightGrammar_1 gT gN gK (.inr ())).1, (X_viewportkitLightGrammar_1 gT gN gK (.inr ())).2⟩)]) (wk := ⟨[2], [], 0, 0⟩)
    (ps := [(Value.bool (decide ((((Args.G).length : Nat) : Int) > (100 : Int)))) = (Value.bool false),
    CG P none (fnN P 9) 0 (codeOf P 9 [false, true, false, true, true]) (S_viewportkitLightGrammar_1 gT gN gK 0) (X_viewportkitLightGrammar_1 gT gN gK (.inr ())),
    (Value.bool (decide (gT > (8 : Int)))) = (Value.bool false),
    (Value.bool (decide (gN > (16 : Int)))) = (Value.bool false),
    (Value.bool (decide (gK > (3 : Int)))) = (Value.bool false),
    (Value.bool (decide ((((Args.G).length : Nat) : Int) > (64 : Int)))) = (Value.bool false),
    (Value.bool (decide (gT ≤ (4 : Int)))) = (Value.bool true),
    (Value.bool (decide (gN ≤ (6 : Int)))) = (Value.bool true),
    (Value.bool (decide ((((Args.G).length : Nat) : Int) ≤ (14 : Int)))) = (Value.bool true),
    (Value.bool (decide (gK ≤ (2 : Int)))) = (Value.bool false),
    (Value.bool (decide (gT ≤ (3 : Int)))) = (Value.bool true)]) (by kernel_rfl) ⟨(vbF hc1), (m_viewportkitLightGrammar_1_ok n gT gN gK 0 (.inr ()) hc2), (vbF hc3), (vbF hc4), (vbF hc5), (vbF hc6), (vbT hc7), (vbT hc8), (vbT hc9), (vbF hc10), (vbT hc11), trivial⟩
set_option maxRecDepth 100000 in
theorem p_viewportkitLightGrammar_8 (n : Nat) (gT : Int) (gN : Int) (gK : Int) (hc1 : ¬ ((((Args.G).length : Nat) : Int) > (100 : Int))) (hc2 : m_viewportkitLightGrammar_1 n gT gN gK 0 = some (.inr ())) (hc3 : ¬ (gT > (8 : Int))) (hc4 : ¬ (gN > (16 : Int))) (hc5 : ¬ (gK > (3 : Int))) (hc6 : ¬ ((((Args.G).length : Nat) : Int) > (64 : Int))) (hc7 : gT ≤ (4 : Int)) (hc8 : gN ≤ (6 : Int)) (hc9 : (((Args.G).length : Nat) : Int) ≤ (14 : Int)) (hc10 : ¬ (gK ≤ (2 : Int))) (hc11 : ¬ (gT ≤ (3 : Int))) : Gv P (.func 9) (A_viewportkitLightGrammar gT gN gK) (H_viewportkitLightGrammar gT gN gK) (V_viewportkitLightGrammar gT gN gK false) (R_viewportkitLightGrammar gT gN gK false) :=
  runF_ok hm (A := aT [(8, .val (.bool false)), (19, .val (.bool false)), (23, .val (.bool false)), (28, .val (.bool false)), (34, .val (.bool false)), (40, .val (.bool true)), (44, .val (.bool true)), (50, .val (.bool true)), (55, .val (.bool false)), (59, .val (.bool false))]) (L := lT [(14, ⟨⟨[1, 3], [(0, 0, false)], 1, 0⟩, (X_viewportkitLightGrammar_1 gT gN gK (.inr ())).1, (X_viewportkitLightGrammar_1 gT gN gK (.inr ())).2⟩)]) (wk := ⟨[2], [], 0, 0⟩)
    (ps := [(Value.bool (decide ((((Args.G).length : Nat) : Int) > (100 : Int)))) = (Value.bool false),
    CG P none (fnN P 9) 0 (codeOf P 9 [false, true, false, true, true]) (S_viewportkitLightGrammar_1 gT gN gK 0) (X_viewportkitLightGrammar_1 gT gN gK (.inr ())),
    (Value.bool (decide (gT > (8 : Int)))) = (Value.bool false),
    (Value.bool (decide (gN > (16 : Int)))) = (Value.bool false),
    (Value.bool (decide (gK > (3 : Int)))) = (Value.bool false),
    (Value.bool (decide ((((Args.G).length : Nat) : Int) > (64 : Int)))) = (Value.bool false),
    (Value.bool (decide (gT ≤ (4 : Int)))) = (Value.bool true),
    (Value.bool (decide (gN ≤ (6 : Int)))) = (Value.bool true),
    (Value.bool (decide ((((Args.G).length : Nat) : Int) ≤ (14 : Int)))) = (Value.bool true),
    (Value.bool (decide (gK ≤ (2 : Int)))) = (Value.bool false),
    (Value.bool (decide (gT ≤ (3 : Int)))) = (Value.bool false)]) (by kernel_rfl) ⟨(vbF hc1), (m_viewportkitLightGrammar_1_ok n gT gN gK 0 (.inr ()) hc2), (vbF hc3), (vbF hc4), (vbF hc5), (vbF hc6), (vbT hc7), (vbT hc8), (vbT hc9), (vbF hc10), (vbF hc11), trivial⟩
set_option maxRecDepth 100000 in
theorem p_viewportkitLightGrammar_9 (n : Nat) (gT : Int) (gN : Int) (gK : Int) (hc1 : ¬ ((((Args.G).length : Nat) : Int) > (100 : Int))) (hc2 : m_viewportkitLightGrammar_1 n gT gN gK 0 = some (.inr ())) (hc3 : ¬ (gT > (8 : Int))) (hc4 : ¬ (gN > (16 : Int))) (hc5 : ¬ (gK > (3 : Int))) (hc6 : ¬ ((((Args.G).length : Nat) : Int) > (64 : Int))) (hc7 : gT ≤ (4 : Int)) (hc8 : gN ≤ (6 : Int)) (hc9 : ¬ ((((Args.G).length : Nat) : Int) ≤ (14 : Int))) : Gv P (.func 9) (A_viewportkitLightGrammar gT gN gK) (H_viewportkitLightGrammar gT gN gK) (V_viewportkitLightGrammar gT gN gK false) (R_viewportkitLightGrammar gT gN gK false) :=
  runF_ok hm (A := aT [(8, .val (.bool false)), (19, .val (.bool false)), (23, .val (.bool false)), (28, .val (.bool false)), (34, .val (.bool false)), (40, .val (.bool true)), (44, .val (.bool true)), (50, .val (.bool false))]) (L := lT [(14, ⟨⟨[1, 3], [(0, 0, false)], 1, 0⟩, (X_viewportkitLightGrammar_1 gT gN gK (.inr ())).1, (X_viewportkitLightGrammar_1 gT gN gK (.inr ())).2⟩)]) (wk := ⟨[2], [], 0, 0⟩)
    (ps := [(Value.bool (decide ((((Args.G).length : Nat) : Int) > (100 : Int)))) = (Value.bool false),
    CG P none (fnN P 9) 0 (codeOf P 9 [false, true, false, true, true]) (S_viewportkitLightGrammar_1 gT gN gK 0) (X_viewportkitLightGrammar_1 gT gN gK (.inr ())),
    (Value.bool (decide (gT > (8 : Int)))) = (Value.bool false),
    (Value.bool (decide (gN > (16 : Int)))) = (Value.bool false),
    (Value.bool (decide (gK > (3 : Int)))) = (Value.bool false),
    (Value.bool (decide ((((Args.G).length : Nat) : Int) > (64 : Int)))) = (Value.bool false),
    (Value.bool (decide (gT ≤ (4 : Int)))) = (Value.bool true),
    (Value.bool (decide (gN ≤ (6 : Int)))) = (Value.bool true),
    (Value.bool (decide ((((Args.G).length : Nat) : Int) ≤ (14 : Int)))) = (Value.bool false)]) (by kernel_rfl) ⟨(vbF hc1), (m_viewportkitLightGrammar_1_ok n gT gN gK 0 (.inr ()) hc2), (vbF hc3), (vbF hc4), (vbF hc5), (vbF hc6), (vbT hc7), (vbT hc8), (vbF hc9), trivial⟩
set_option maxRecDepth 100000 in
theorem p_viewportkitLightGrammar_10 (n : Nat) (gT : Int) (gN : Int) (gK : Int) (hc1 : ¬ ((((Args.G).length : Nat) : Int) > (100 : Int))) (hc2 : m_viewportkitLightGrammar_1 n gT gN gK 0 = some (.inr ())) (hc3 : ¬ (gT > (8 : Int))) (hc4 : ¬ (gN > (16 : Int))) (hc5 : ¬ (gK > (3 : Int))) (hc6 : ¬ ((((Args.G).length : Nat) : Int) > (64 : Int))) (hc7 : gT ≤ (4 : Int)) (hc8 : ¬ (gN ≤ (6 : Int))) : Gv P (.func 9) (A_viewportkitLightGrammar gT gN gK) (H_viewportkitLightGrammar gT gN gK) (V_viewportkitLightGrammar gT gN gK false) (R_viewportkitLightGrammar gT gN gK false) :=
  runF_ok hm (A := aT [(8, .val (.bool false)), (19, .val (.bool false)), (23, .val (.bool false)), (28, .val (.bool false)), (34, .val (.bool false)), (40, .val (.bool true)), (44, .val (.bool false))]) (L := lT [(14, ⟨⟨[1, 3], [(0, 0, false)], 1, 0⟩, (X_viewportkitLightGrammar_1 gT gN gK (.inr ())).1, (X_viewportkitLightGrammar_1 gT gN gK (.inr ())).2⟩)]) (wk := ⟨[2], [], 0, 0⟩)
    (ps := [(Value.bool (decide ((((Args.G).length : Nat) : Int) > (100 : Int)))) = (Value.bool false),
    CG P none (fnN P 9) 0 (codeOf P 9 [false, true, false, true, true]) (S_viewportkitLightGrammar_1 gT gN gK 0) (X_viewportkitLightGrammar_1 gT gN gK (.inr ())),
    (Value.bool (decide (gT > (8 : Int)))) = (Value.bool false),
    (Value.bool (decide (gN > (16 : Int)))) = (Value.bool false),
    (Value.bool (decide (gK > (3 : Int)))) = (Value.bool false),
    (Value.bool (decide ((((Args.G).length : Nat) : Int) > (64 : Int)))) = (Value.bool false),
    (Value.bool (decide (gT ≤ (4 : Int)))) = (Value.bool true),
    (Value.bool (decide (gN ≤ (6 : Int)))) = (Value.bool false)]) (by kernel_rfl) ⟨(vbF hc1), (m_viewportkitLightGrammar_1_ok n gT gN gK 0 (.inr ()) hc2), (vbF hc3), (vbF hc4), (vbF hc5), (vbF hc6), (vbT hc7), (vbF hc8), trivial⟩
set_option maxRecDepth 100000 in
theorem p_viewportkitLightGrammar_11 (n : Nat) (gT : Int) (gN : Int) (gK : Int) (hc1 : ¬ ((((Args.G).length : Nat) : Int) > (100 : Int))) (hc2 : m_viewportkitLightGrammar_1 n gT gN gK 0 = some (.inr ())) (hc3 : ¬ (gT > (8 : Int))) (hc4 : ¬ (gN > (16 : Int))) (hc5 : ¬ (gK > (3 : Int))) (hc6 : ¬ ((((Args.G).length : Nat) : Int) > (64 : Int))) (hc7 : ¬ (gT ≤ (4 : Int))) : Gv P (.func 9) (A_viewportkitLightGrammar gT gN gK) (H_viewportkitLightGrammar gT gN gK) (V_viewportkitLightGrammar gT gN gK false) (R_viewportkitLightGrammar gT gN gK false) :=
  runF_ok hm (A := aT [(8, .val (.bool false)), (19, .val (.bool false)), (23, .val (.bool false)), (28, .val (.bool false)), (34, .val (.bool false)), (40, .val (.bool false))]) (L := lT [(14, ⟨⟨[1, 3], [(0, 0, false)], 1, 0⟩, (X_viewportkitLightGrammar_1 gT gN gK (.inr ())).1, (X_viewportkitLightGrammar_1 gT gN gK (.inr ())).2⟩)]) (wk := ⟨[2], [], 0, 0⟩)
    (ps := [(Value.bool (decide ((((Args.G).length : Nat) : Int) > (100 : Int)))) = (Value.bool false),
    CG P none (fnN P 9) 0 (codeOf P 9 [false, true, false, true, true]) (S_viewportkitLightGrammar_1 gT gN gK 0) (X_viewportkitLightGrammar_1 gT gN gK (.inr ())),
    (Value.bool (decide (gT > (8 : Int)))) = (Value.bool false),
    (Value.bool (decide (gN > (16 : Int)))) = (Value.bool false),
    (Value.bool (decide (gK > (3 : Int)))) = (Value.bool false),
    (Value.bool (decide ((((Args.G).length : Nat) : Int) > (64 : Int)))) = (Value.bool false),
    (Value.bool (decide (gT ≤ (4 : Int)))) = (Value.bool false)]) (by kernel_rfl) ⟨(vbF hc1), (m_viewportkitLightGrammar_1_ok n gT gN gK 0 (.inr ()) hc2), (vbF hc3), (vbF hc4), (vbF hc5), (vbF hc6), (vbF hc7), trivial⟩
theorem m_viewportkitLightGrammar_ok (n : Nat) (gT : Int) (gN : Int) (gK : Int) (r : Bool) (h : m_viewportkitLightGrammar n gT gN gK = some r) : Gv P (.func 9) (A_viewportkitLightGrammar gT gN gK) (H_viewportkitLightGrammar gT gN gK) (V_viewportkitLightGrammar gT gN gK r) (R_viewportkitLightGrammar gT gN gK r) := by
  unfold m_viewportkitLightGrammar at h
  by_cases hc1 : (((Args.G).length : Nat) : Int) > (100 : Int)
  · rw [if_pos hc1] at h
    obtain rfl := Option.some.inj h; exact p_viewportkitLightGrammar_0 n gT gN gK hc1
  · rw [if_neg hc1] at h
    rcases hc2 : m_viewportkitLightGrammar_1 n gT gN gK 0 with _ | (⟨⟩ | ⟨⟩)
    · rw [hc2] at h; cases h
    · rw [hc2] at h
      dsimp only at h
      obtain rfl := Option.some.inj h; exact p_viewportkitLightGrammar_1 n gT gN gK hc1 hc2
    · rw [hc2] at h
      dsimp only at h
      by_cases hc3 : gT > (8 : Int)
      · rw [if_pos hc3] at h
        obtain rfl := Option.some.inj h; exact p_viewportkitLightGrammar_2 n gT gN gK hc1 hc2 hc3
      · rw [if_neg hc3] at h
        by_cases hc4 : gN > (16 : Int)
        · rw [if_pos hc4] at h
          obtain rfl := Option.some.inj h; exact p_viewportkitLightGrammar_3 n gT gN gK hc1 hc2 hc3 hc4
        · rw [if_neg hc4] at h
          by_cases hc5 : gK > (3 : Int)
          · rw [if_pos hc5] at h
            obtain rfl := Option.some.inj h; exact p_viewportkitLightGrammar_4 n gT gN gK hc1 hc2 hc3 hc4 hc5
          · rw [if_neg hc5] at h
            by_cases hc6 : (((Args.G).length : Nat) : Int) > (64 : Int)
            · rw [if_pos hc6] at h
              obtain rfl := Option.some.inj h; exact p_viewportkitLightGrammar_5 n gT gN gK hc1 hc2 hc3 hc4 hc5 hc6
            · rw [if_neg hc6] at h
              by_cases hc7 : gT ≤ (4 : Int)
              · rw [if_pos hc7] at h
                by_cases hc8 : gN ≤ (6 : Int)
                · rw [if_pos hc8] at h
                  by_cases hc9 : (((Args.G).length : Nat) : Int) ≤ (14 : Int)
                  · rw [if_pos hc9] at h
                    by_cases hc10 : gK ≤ (2 : Int)
                    · rw [if_pos hc10] at h
                      obtain rfl := Option.some.inj h; exact p_viewportkitLightGrammar_6 n gT gN gK hc1 hc2 hc3 hc4 hc5 hc6 hc7 hc8 hc9 hc10
                    · rw [if_neg hc10] at h
                      by_cases hc11 : gT ≤ (3 : Int)
                      · rw [if_pos hc11] at h
                        obtain rfl := Option.some.inj h; exact p_viewportkitLightGrammar_7 n gT gN gK hc1 hc2 hc3 hc4 hc5 hc6 hc7 hc8 hc9 hc10 hc11
                      · rw [if_neg hc11] at h
                        obtain rfl := Option.some.inj h; exact p_viewportkitLightGrammar_8 n gT gN gK hc1 hc2 hc3 hc4 hc5 hc6 hc7 hc8 hc9 hc10 hc11
                  · rw [if_neg hc9] at h
                    obtain rfl := Option.some.inj h; exact p_viewportkitLightGrammar_9 n gT gN gK hc1 hc2 hc3 hc4 hc5 hc6 hc7 hc8 hc9
                · rw [if_neg hc8] at h
                  obtain rfl := Option.some.inj h; exact p_viewportkitLightGrammar_10 n gT gN gK hc1 hc2 hc3 hc4 hc5 hc6 hc7 hc8
              · rw [if_neg hc7] at h
                obtain rfl := Option.some.inj h; exact p_viewportkitLightGrammar_11 n gT gN gK hc1 hc2 hc3 hc4 hc5 hc6 hc7

noncomputable def A_gramCheck1 (gT : Int) (gN : Int) (gK : Int) (s : Int) : List Value := [(Value.int .i64 s), (Value.pointer (some ⟨0, 0, none⟩))]
noncomputable def H_gramCheck1 (gT : Int) (gN : Int) (gK : Int) (s : Int) : AH := ⟨sB [(0, (some (.cells (layT [(Value.int .i64 gT), (Value.int .i64 gN), (Value.int .i64 gK), (Value.slice (some ⟨0, 0, some 1⟩) (Args.G).length Args.cG)]) 24)))], 1, 1⟩
noncomputable def V_gramCheck1 (gT : Int) (gN : Int) (gK : Int) (s : Int) (r : Bool) : Value := match r with
  | o0 => (Value.bool o0)
noncomputable def R_gramCheck1 (gT : Int) (gN : Int) (gK : Int) (s : Int) (r : Bool) : AH := match r with
  | o0 => ⟨sB [], 1, 1⟩
def m_gramCheck1 (n : Nat) (gT : Int) (gN : Int) (gK : Int) (s : Int) : Option (Bool) :=
  if s < (0 : Int) then
    some true
  else
    if s ≥ (w64 (gT + gN)) then
      some true
    else
      some false
set_option maxRecDepth 100000 in
theorem p_gramCheck1_0 (n : Nat) (gT : Int) (gN : Int) (gK : Int) (s : Int) (hc1 : s < (0 : Int)) : Gv P (.func 33) (A_gramCheck1 gT gN gK s) (H_gramCheck1 gT gN gK s) (V_gramCheck1 gT gN gK s true) (R_gramCheck1 gT gN gK s true) :=
  runF_ok hm (A := aT [(4, .val (.bool true))]) (L := lT []) (wk := ⟨[3], [], 1, 1⟩)
    (ps := [(Value.bool (decide (s < (0 : Int)))) = (Value.bool true)]) (by kernel_rfl) ⟨(vbT hc1), trivial⟩
set_option maxRecDepth 100000 in
theorem p_gramCheck1_1 (n : Nat) (gT : Int) (gN : Int) (gK : Int) (s : Int) (hc1 : ¬ (s < (0 : Int))) (hc2 : s ≥ (w64 (gT + gN))) : Gv P (.func 33) (A_gramCheck1 gT gN gK s) (H_gramCheck1 gT gN gK s) (V_gramCheck1 gT gN gK s true) (R_gramCheck1 gT gN gK s true) :=
  runF_ok hm (A := aT [(4, .val (.bool false)), (12, .val (.bool true))]) (L := lT []) (wk := ⟨[3], [], 1, 1⟩)
    (ps := [(Value.bool (decide (s < (0 : Int)))) = (Value.bool false),
    (Value.bool (decide (s ≥ (w64 (gT + gN))))) = (Value.bool true)]) (by kernel_rfl) ⟨(vbF hc1), (vbT hc2), trivial⟩
set_option maxRecDepth 100000 in
theorem p_gramCheck1_2 (n : Nat) (gT : Int) (gN : Int) (gK : Int) (s : Int) (hc1 : ¬ (s < (0 : Int))) (hc2 : ¬ (s ≥ (w64 (gT + gN)))) : Gv P (.func 33) (A_gramCheck1 gT gN gK s) (H_gramCheck1 gT gN gK s) (V_gramCheck1 gT gN gK s false) (R_gramCheck1 gT gN gK s false) :=
  runF_ok hm (A := aT [(4, .val (.bool false)), (12, .val (.bool false))]) (L := lT []) (wk := ⟨[3], [], 1, 1⟩)
    (ps := [(Value.bool (decide (s < (0 : Int)))) = (Value.bool false),
    (Value.bool (decide (s ≥ (w64 (gT + gN))))) = (Value.bool false)]) (by kernel_rfl) ⟨(vbF hc1), (vbF hc2), trivial⟩
theorem m_gramCheck1_ok (n : Nat) (gT : Int) (gN : Int) (gK : Int) (s : Int) (r : Bool) (h : m_gramCheck1 n gT gN gK s = some r) : Gv P (.func 33) (A_gramCheck1 gT gN gK s) (H_gramCheck1 gT gN gK s) (V_gramCheck1 gT gN gK s r) (R_gramCheck1 gT gN gK s r) := by
  unfold m_gramCheck1 at h
  by_cases hc1 : s < (0 : Int)
  · rw [if_pos hc1] at h
    obtain rfl := Option.some.inj h; exact p_gramCheck1_0 n gT gN gK s hc1
  · rw [if_neg hc1] at h
    by_cases hc2 : s ≥ (w64 (gT + gN))
    · rw [if_pos hc2] at h
      obtain rfl := Option.some.inj h; exact p_gramCheck1_1 n gT gN gK s hc1 hc2
    · rw [if_neg hc2] at h
      obtain rfl := Option.some.inj h; exact p_gramCheck1_2 n gT gN gK s hc1 hc2

noncomputable def S_slicesIndexFuncintint_1 (x1_0 : Int) (x1_1 : Int) (x1_2 : Int) (x1_3 : NL) (x1_4 : Int) (st : Int) : XSt := match st with
  | x1_5 => (sT 19 [(0, (nlV x1_3)), (1, (Value.func (.func 33) #[] #[(Value.pointer (some ⟨0, 0, none⟩))])), (7, (Value.int .i64 x1_4)), (8, (Value.int .i64 x1_5))], [], ⟨sB [(0, (some (.cells (layT [(Value.int .i64 x1_0), (Value.int .i64 x1_1), (Value.int .i64 x1_2), (Value.slice (some ⟨0, 0, some 1⟩) (Args.G).length Args.cG)]) 24)))], 1, 1⟩)
noncomputable def X_slicesIndexFuncintint_1 (x1_0 : Int) (x1_1 : Int) (x1_2 : Int) (x1_3 : NL) (x1_4 : Int) (r : (Int) ⊕ (Unit)) : Ex × XSt := match r with
  | .inl z1_0 => (.ret, (sT 19 [(4, (Value.int .i64 z1_0))], [], ⟨sB [(0, (some (.cells (layT [(Value.int .i64 x1_0), (Value.int .i64 x1_1), (Value.int .i64 x1_2), (Value.slice (some ⟨0, 0, some 1⟩) (Args.G).length Args.cG)]) 24)))], 1, 1⟩))
  | .inr _ => (.exit 0, (sT 19 [], [], ⟨sB [(0, (some (.cells (layT [(Value.int .i64 x1_0), (Value.int .i64 x1_1), (Value.int .i64 x1_2), (Value.slice (some ⟨0, 0, some 1⟩) (Args.G).length Args.cG)]) 24)))], 1, 1⟩))
def B_slicesIndexFuncintint_1 (n : Nat) (x1_0 : Int) (x1_1 : Int) (x1_2 : Int) (x1_3 : NL) (x1_4 : Int) (st : Int) : Option ((Int) ⊕ ((Int) ⊕ (Unit))) := match st with
  | x1_5 =>
    if x1_5 < x1_4 then
      if 0 ≤ x1_5 ∧ x1_5 < (((x1_3).l.length : Nat) : Int) then
        if (x1_5).toNat < ((x1_3).l).length then
          (m_gramCheck1 n x1_0 x1_1 x1_2 (((x1_3).l).getD (x1_5).toNat 0)).bind fun y1_4_ =>
          if y1_4_ = true then
            some (.inr (.inl x1_5))
          else
            some (.inl (w64 (x1_5 + (1 : Int))))
        else none
      else none
    else
      some (.inr (.inr ()))
def m_slicesIndexFuncintint_1 (n : Nat) (x1_0 : Int) (x1_1 : Int) (x1_2 : Int) (x1_3 : NL) (x1_4 : Int) (st : Int) : Option ((Int) ⊕ (Unit)) := iterM (B_slicesIndexFuncintint_1 n x1_0 x1_1 x1_2 x1_3 x1_4) n st
set_option maxRecDepth 100000 in
theorem q_slicesIndexFuncintint_1_0 (n : Nat) (x1_0 : Int) (x1_1 : Int) (x1_2 : Int) (x1_3 : NL) (x1_4 : Int) (x1_5 : Int) (hy1_1 : x1_5 < x1_4) (hy1_2 : 0 ≤ x1_5 ∧ x1_5 < (((x1_3).l.length : Nat) : Int)) (hy1_3 : (x1_5).toNat < ((x1_3).l).length) (y1_4_ : Bool) (hy1_4 : m_gramCheck1 n x1_0 x1_1 x1_2 (((x1_3).l).getD (x1_5).toNat 0) = some y1_4_) (hy1_5 : y1_4_ = true) : CG P none (fnN P 48) 1 (codeOf P 48 [false, false, true, false, true]) (S_slicesIndexFuncintint_1 x1_0 x1_1 x1_2 x1_3 x1_4 x1_5) (X_slicesIndexFuncintint_1 x1_0 x1_1 x1_2 x1_3 x1_4 (.inl x1_5)) :=
  runC_ok hm (A := aT [(1, .val (.bool true)), (13, .pur (Value.pointer (some ⟨(Nat.add (x1_3).num 64), (x1_5).toNat, some 1⟩))), (14, .ld (Value.int .i64 (((x1_3).l).getD (x1_5).toNat 0))), (15, .call ⟨1, [(0, 0, false)], (V_gramCheck1 x1_0 x1_1 x1_2 (((x1_3).l).getD (x1_5).toNat 0) y1_4_), (R_gramCheck1 x1_0 x1_1 x1_2 (((x1_3).l).getD (x1_5).toNat 0) y1_4_), []⟩), (16, .val (.bool true))]) (L := lT []) (wk := ⟨[4], [(0, 0, false)], 1, 1⟩)
    (ps := [(Value.bool (decide (x1_5 < x1_4))) = (Value.bool true),
    opIndexAddr P 32 (nlV x1_3) (Value.int .i64 x1_5) Ax.h0 = some ((Value.pointer (some ⟨(Nat.add (x1_3).num 64), (x1_5).toNat, some 1⟩)), Ax.h0),
    loadG P 3 (Value.pointer (some ⟨(Nat.add (x1_3).num 64), (x1_5).toNat, some 1⟩)) Ax.h0 = some ((Value.int .i64 (((x1_3).l).getD (x1_5).toNat 0)), Ax.h0),
    Gv P (.func 33) (A_gramCheck1 x1_0 x1_1 x1_2 (((x1_3).l).getD (x1_5).toNat 0)) (H_gramCheck1 x1_0 x1_1 x1_2 (((x1_3).l).getD (x1_5).toNat 0)) (V_gramCheck1 x1_0 x1_1 x1_2 (((x1_3).l).getD (x1_5).toNat 0) y1_4_) (R_gramCheck1 x1_0 x1_1 x1_2 (((x1_3).l).getD (x1_5).toNat 0) y1_4_),
    (Value.bool y1_4_) = (Value.bool true)]) (by kernel_rfl) ⟨(vbT hy1_1), (ixW1 (e := 3) (by kernel_rfl) (by kernel_rfl) hy1_2), (ldN x1_3 (by kernel_rfl) hy1_3), (m_gramCheck1_ok n x1_0 x1_1 x1_2 (((x1_3).l).getD (x1_5).toNat 0) y1_4_ hy1_4), (vB hy1_5), trivial⟩
set_option maxRecDepth 100000 in
theorem q_slicesIndexFuncintint_1_1 (n : Nat) (x1_0 : Int) (x1_1 : Int) (x1_2 : Int) (x1_3 : NL) (x1_4 : Int) (x1_5 : Int) (hy1_1 : x1_5 < x1_4) (hy1_2 : 0 ≤ x1_5 ∧ x1_5 < (((x1_3).l.length : Nat) : Int)) (hy1_3 : (x1_5).toNat < ((x1_3).l).length) (y1_4_ : Bool) (hy1_4 : m_gramCheck1 n x1_0 x1_1 x1_2 (((x1_3).l).getD (x1_5).toNat 0) = some y1_4_) (hy1_5 : ¬ (y1_4_ = true)) : CG P none (fnN P 48) 1 (codeOf P 48 [false, false, true, false, true]) (S_slicesIndexFuncintint_1 x1_0 x1_1 x1_2 x1_3 x1_4 x1_5) (.normal, S_slicesIndexFuncintint_1 x1_0 x1_1 x1_2 x1_3 x1_4 (w64 (x1_5 + (1 : Int)))) :=
  runC_ok hm (A := aT [(1, .val (.bool true)), (13, .pur (Value.pointer (some ⟨(Nat.add (x1_3).num 64), (x1_5).toNat, some 1⟩))), (14, .ld (Value.int .i64 (((x1_3).l).getD (x1_5).toNat 0))), (15, .call ⟨1, [(0, 0, false)], (V_gramCheck1 x1_0 x1_1 x1_2 (((x1_3).l).getD (x1_5).toNat 0) y1_4_), (R_gramCheck1 x1_0 x1_1 x1_2 (((x1_3).l).getD (x1_5).toNat 0) y1_4_), []⟩), (16, .val (.bool false))]) (L := lT []) (wk := ⟨[0, 1, 7, 8], [(0, 0, false)], 1, 1⟩)
    (ps := [(Value.bool (decide (x1_5 < x1_4))) = (Value.bool true),
    opIndexAddr P 32 (nlV x1_3) (Value.int .i64 x1_5) Ax.h0 = some ((Value.pointer (some ⟨(Nat.add (x1_3).num 64), (x1_5).toNat, some 1⟩)), Ax.h0),
    loadG P 3 (Value.pointer (some ⟨(Nat.add (x1_3).num 64), (x1_5).toNat, some 1⟩)) Ax.h0 = some ((Value.int .i64 (((x1_3).l).getD (x1_5).toNat 0)), Ax.h0),
    Gv P (.func 33) (A_gramCheck1 x1_0 x1_1 x1_2 (((x1_3).l).getD (x1_5).toNat 0)) (H_gramCheck1 x1_0 x1_1 x1_2 (((x1_3).l).getD (x1_5).toNat 0)) (V_gramCheck1 x1_0 x1_1 x1_2 (((x1_3).l).getD (x1_5).toNat 0) y1_4_) (R_gramCheck1 x1_0 x1_1 x1_2 (((x1_3).l).getD (x1_5).toNat 0) y1_4_),
    (Value.bool y1_4_) = (Value.bool false)]) (by kernel_rfl) ⟨(vbT hy1_1), (ixW1 (e := 3) (by kernel_rfl) (by kernel_rfl) hy1_2), (ldN x1_3 (by kernel_rfl) hy1_3), (m_gramCheck1_ok n x1_0 x1_1 x1_2 (((x1_3).l).getD (x1_5).toNat 0) y1_4_ hy1_4), (vB (Bool.eq_false_iff.2 hy1_5)), trivial⟩
set_option maxRecDepth 100000 in
theorem q_slicesIndexFuncintint_1_2 (n : Nat) (x1_0 : Int) (x1_1 : Int) (x1_2 : Int) (x1_3 : NL) (x1_4 : Int) (x1_5 : Int) (hy1_1 : ¬ (x1_5 < x1_4)) : CG P none (fnN P 48) 1 (codeOf P 48 [false, false, true, false, true]) (S_slicesIndexFuncintint_1 x1_0 x1_1 x1_2 x1_3 x1_4 x1_5) (X_slicesIndexFuncintint_1 x1_0 x1_1 x1_2 x1_3 x1_4 (.inr ())) :=
  runC_ok hm (A := aT [(1, .val (.bool false))]) (L := lT []) (wk := ⟨[], [(0, 0, false)], 1, 1⟩)
    (ps := [(Value.bool (decide (x1_5 < x1_4))) = (Value.bool false)]) (by kernel_rfl) ⟨(vbF hy1_1), trivial⟩
theorem m_slicesIndexFuncintint_1_ok (n : Nat) (x1_0 : Int) (x1_1 : Int) (x1_2 : Int) (x1_3 : NL) (x1_4 : Int) (st : Int) (r : (Int) ⊕ (Unit)) (h : m_slicesIndexFuncintint_1 n x1_0 x1_1 x1_2 x1_3 x1_4 st = some r) : CG P none (fnN P 48) 1 (codeOf P 48 [false, true, false, true]) (S_slicesIndexFuncintint_1 x1_0 x1_1 x1_2 x1_3 x1_4 st) (X_slicesIndexFuncintint_1 x1_0 x1_1 x1_2 x1_3 x1_4 r) :=
  CG.iter (b := codeOf P 48 [false, false, true, false, true]) (by kernel_rfl) (body := B_slicesIndexFuncintint_1 n x1_0 x1_1 x1_2 x1_3 x1_4) (S := S_slicesIndexFuncintint_1 x1_0 x1_1 x1_2 x1_3 x1_4) (X := X_slicesIndexFuncintint_1 x1_0 x1_1 x1_2 x1_3 x1_4)
    (fun x1_5 s' h => by
    unfold B_slicesIndexFuncintint_1 at h
    dsimp only at h
    by_cases hy1_1 : x1_5 < x1_4
    · rw [if_pos hy1_1] at h
      by_cases hy1_2 : 0 ≤ x1_5 ∧ x1_5 < (((x1_3).l.length : Nat) : Int)
      · rw [if_pos hy1_2] at h
        by_cases hy1_3 : (x1_5).toNat < ((x1_3).l).length
        · rw [if_pos hy1_3] at h
          obtain ⟨y1_4_, hy1_4, h⟩ := Option.bind_eq_some_iff.1 h
          by_cases hy1_5 : y1_4_ = true
          · rw [if_pos hy1_5] at h
            cases h
          · rw [if_neg hy1_5] at h
            obtain rfl := Sum.inl.inj (Option.some.inj h); exact q_slicesIndexFuncintint_1_1 n x1_0 x1_1 x1_2 x1_3 x1_4 x1_5 hy1_1 hy1_2 hy1_3 y1_4_ hy1_4 hy1_5
        · rw [if_neg hy1_3] at h; cases h
      · rw [if_neg hy1_2] at h; cases h
    · rw [if_neg hy1_1] at h
      cases h)
    (fun x1_5 r h => by
    unfold B_slicesIndexFuncintint_1 at h
    dsimp only at h
    by_cases hy1_1 : x1_5 < x1_4
    · rw [if_pos hy1_1] at h
      by_cases hy1_2 : 0 ≤ x1_5 ∧ x1_5 < (((x1_3).l.length : Nat) : Int)
      · rw [if_pos hy1_2] at h
        by_cases hy1_3 : (x1_5).toNat < ((x1_3).l).length
        · rw [if_pos hy1_3] at h
          obtain ⟨y1_4_, hy1_4, h⟩ := Option.bind_eq_some_iff.1 h
          by_cases hy1_5 : y1_4_ = true
          · rw [if_pos hy1_5] at h
            obtain rfl := Sum.inr.inj (Option.some.inj h); exact q_slicesIndexFuncintint_1_0 n x1_0 x1_1 x1_2 x1_3 x1_4 x1_5 hy1_1 hy1_2 hy1_3 y1_4_ hy1_4 hy1_5
          · rw [if_neg hy1_5] at h
            cases h
        · rw [if_neg hy1_3] at h; cases h
      · rw [if_neg hy1_2] at h; cases h
    · rw [if_neg hy1_1] at h
      obtain rfl := Sum.inr.inj (Option.some.inj h); exact q_slicesIndexFuncintint_1_2 n x1_0 x1_1 x1_2 x1_3 x1_4 x1_5 hy1_1)
    (fun r => by intro hx; rcases r with _ | _ <;> cases hx) h
noncomputable def A_slicesIndexFuncintint (gT : Int) (gN : Int) (gK : Int) (pr : NL) : List Value := [(nlV pr), (Value.func (.func 33) #[] #[(Value.pointer (some ⟨0, 0, none⟩))])]
noncomputable def H_slicesIndexFuncintint (gT : Int) (gN : Int) (gK : Int) (pr : NL) : AH := ⟨sB [(0, (some (.cells (layT [(Value.int .i64 gT), (Value.int .i64 gN), (Value.int .i64 gK), (Value.slice (some ⟨0, 0, some 1⟩) (Args.G).length Args.cG)]) 24)))], 1, 1⟩
noncomputable def V_slicesIndexFuncintint (gT : Int) (gN : Int) (gK : Int) (pr : NL) (r : Int) : Value := match r with
  | o0 => (Value.int .i64 o0)
noncomputable def R_slicesIndexFuncintint (gT : Int) (gN : Int) (gK : Int) (pr : NL) (r : Int) : AH := match r with
  | o0 => ⟨sB [], 1, 1⟩
def m_slicesIndexFuncintint (n : Nat) (gT : Int) (gN : Int) (gK : Int) (pr : NL) : Option (Int) :=
  match m_slicesIndexFuncintint_1 n gT gN gK pr (((pr).l.length : Nat) : Int) 0 with
  | none => none
  | some (.inl c1_) =>
    some c1_
  | some (.inr _) =>
    some (-1)
set_option maxRecDepth 100000 in
theorem p_slicesIndexFuncintint_0 (n : Nat) (gT : Int) (gN : Int) (gK : Int) (pr : NL) (c1_ : Int) (hc1 : m_slicesIndexFuncintint_1 n gT gN gK pr (((pr).l.length : Nat) : Int) 0 = some (.inl c1_)) : Gv P (.func 48) (A_slicesIndexFuncintint gT gN gK pr) (H_slicesIndexFuncintint gT gN gK pr) (V_slicesIndexFuncintint gT gN gK pr c1_) (R_slicesIndexFuncintint gT gN gK pr c1_) :=
  runF_ok hm (A := aT []) (L := lT [(8, ⟨⟨[0, 1, 7, 8], [(0, 0, false)], 1, 1⟩, (X_slicesIndexFuncintint_1 gT gN gK pr (((pr).l.length : Nat) : Int) (.inl c1_)).1, (X_slicesIndexFuncintint_1 gT gN gK pr (((pr).l.length : Nat) : Int) (.inl c1_)).2⟩)]) (wk := ⟨[4], [], 1, 1⟩)
    (ps := [CG P none (fnN P 48) 1 (codeOf P 48 [false, true, false, true]) (S_slicesIndexFuncintint_1 gT gN gK pr (((pr).l.length : Nat) : Int) 0) (X_slicesIndexFuncintint_1 gT gN gK pr (((pr).l.length : Nat) : Int) (.inl c1_))]) (by kernel_rfl) ⟨(m_slicesIndexFuncintint_1_ok n gT gN gK pr (((pr).l.length : Nat) : Int) 0 (.inl c1_) hc1), trivial⟩
set_option maxRecDepth 100000 in
theorem p_slicesIndexFuncintint_1 (n : Nat) (gT : Int) (gN : Int) (gK : Int) (pr : NL) (hc1 : m_slicesIndexFuncintint_1 n gT gN gK pr (((pr).l.length : Nat) : Int) 0 = some (.inr ())) : Gv P (.func 48) (A_slicesIndexFuncintint gT gN gK pr) (H_slicesIndexFuncintint gT gN gK pr) (V_slicesIndexFuncintint gT gN gK pr (-1)) (R_slicesIndexFuncintint gT gN gK pr (-1)) :=
  runF_ok hm (A := aT []) (L := lT [(8, ⟨⟨[0, 1, 7, 8], [(0, 0, false)], 1, 1⟩, (X_slicesIndexFuncintint_1 gT gN gK pr (((pr).l.length : Nat) : Int) (.inr ())).1, (X_slicesIndexFuncintint_1 gT gN gK pr (((pr).l.length : Nat) : Int) (.inr ())).2⟩)]) (wk := ⟨[4], [], 1, 1⟩)
    (ps := [CG P none (fnN P 48) 1 (codeOf P 48 [false, true, false, true]) (S_slicesIndexFuncintint_1 gT gN gK pr (((pr).l.length : Nat) : Int) 0) (X_slicesIndexFuncintint_1 gT gN gK pr (((pr).l.length : Nat) : Int) (.inr ()))]) (by kernel_rfl) ⟨(m_slicesIndexFuncintint_1_ok n gT gN gK pr (((pr).l.length : Nat) : Int) 0 (.inr ()) hc1), trivial⟩
theorem m_slicesIndexFuncintint_ok (n : Nat) (gT : Int) (gN : Int) (gK : Int) (pr : NL) (r : Int) (h : m_slicesIndexFuncintint n gT gN gK pr = some r) : Gv P (.func 48) (A_slicesIndexFuncintint gT gN gK pr) (H_slicesIndexFuncintint gT gN gK pr) (V_slicesIndexFuncintint gT gN gK pr r) (R_slicesIndexFuncintint gT gN gK pr r) := by
  unfold m_slicesIndexFuncintint at h
  rcases hc1 : m_slicesIndexFuncintint_1 n gT gN gK pr (((pr).l.length : Nat) : Int) 0 with _ | (c1_ | ⟨⟩)
  · rw [hc1] at h; cases h
  · rw [hc1] at h
    dsimp only at h
    obtain rfl := Option.some.inj h; exact p_slicesIndexFuncintint_0 n gT gN gK pr c1_ hc1
  · rw [hc1] at h
    dsimp only at h
    obtain rfl := Option.some.inj h; exact p_slicesIndexFuncintint_1 n gT gN gK pr hc1

noncomputable def A_slicesContainsFuncintint (gT : Int) (gN : Int) (gK : Int) (pr : NL) : List Value := [(nlV pr), (Value.func (.func 33) #[] #[(Value.pointer (some ⟨0, 0, none⟩))])]
noncomputable def H_slicesContainsFuncintint (gT : Int) (gN : Int) (gK : Int) (pr : NL) : AH := ⟨sB [(0, (some (.cells (layT [(Value.int .i64 gT), (Value.int .i64 gN), (Value.int .i64 gK), (Value.slice (some ⟨0, 0, some 1⟩) (Args.G).length Args.cG)]) 24)))], 1, 1⟩
noncomputable def V_slicesContainsFuncintint (gT : Int) (gN : Int) (gK : Int) (pr : NL) (r : Bool) : Value := match r with
  | o0 => (Value.bool o0)
noncomputable def R_slicesContainsFuncintint (gT : Int) (gN : Int) (gK : Int) (pr : NL) (r : Bool) : AH := match r with
  | o0 => ⟨sB [], 1, 1⟩
def m_slicesContainsFuncintint (n : Nat) (gT : Int) (gN : Int) (gK : Int) (pr : NL) : Option (Bool) :=
  (m_slicesIndexFuncintint n gT gN gK pr).bind fun c1_ =>
  if c1_ ≥ (0 : Int) then
    some true
  else
    some false
set_option maxRecDepth 100000 in
theorem p_slicesContainsFuncintint_0 (n : Nat) (gT : Int) (gN : Int) (gK : Int) (pr : NL) (c1_ : Int) (hc1 : m_slicesIndexFuncintint n gT gN gK pr = some c1_) (hc2 : c1_ ≥ (0 : Int)) : Gv P (.func 34) (A_slicesContainsFuncintint gT gN gK pr) (H_slicesContainsFuncintint gT gN gK pr) (V_slicesContainsFuncintint gT gN gK pr true) (R_slicesContainsFuncintint gT gN gK pr true) :=
  runF_ok hm (A := aT [(5, .call ⟨1, [(0, 0, false)], (V_slicesIndexFuncintint gT gN gK pr c1_), (R_slicesIndexFuncintint gT gN gK pr c1_), []⟩), (6, .val (.bool true))]) (L := lT []) (wk := ⟨[4], [], 1, 1⟩)
    (ps := [Gv P (.func 48) (A_slicesIndexFuncintint gT gN gK pr) (H_slicesIndexFuncintint gT gN gK pr) (V_slicesIndexFuncintint gT gN gK pr c1_) (R_slicesIndexFuncintint gT gN gK pr c1_),
    (Value.bool (decide (c1_ ≥ (0 : Int)))) = (Value.bool true)]) (by kernel_rfl) ⟨(m_slicesIndexFuncintint_ok n gT gN gK pr c1_ hc1), (vbT hc2), trivial⟩
set_option maxRecDepth 100000 in
theorem p_slicesContainsFuncintint_1 (n : Nat) (gT : Int) (gN : Int) (gK : Int) (pr : NL) (c1_ : Int) (hc1 : m_slicesIndexFuncintint n gT gN gK pr = some c1_) (hc2 : ¬ (c1_ ≥ (0 : Int))) : Gv P (.func 34) (A_slicesContainsFuncintint gT gN gK pr) (H_slicesContainsFuncintint gT gN gK pr) (V_slicesContainsFuncintint gT gN gK pr false) (R_slicesContainsFuncintint gT gN gK pr false) :=
  runF_ok hm (A := aT [(5, .call ⟨1, [(0, 0, false)], (V_slicesIndexFuncintint gT gN gK pr c1_), (R_slicesIndexFuncintint gT gN gK pr c1_), []⟩), (6, .val (.bool false))]) (L := lT []) (wk := ⟨[4], [], 1, 1⟩)
    (ps := [Gv P (.func 48) (A_slicesIndexFuncintint gT gN gK pr) (H_slicesIndexFuncintint gT gN gK pr) (V_slicesIndexFuncintint gT gN gK pr c1_) (R_slicesIndexFuncintint gT gN gK pr c1_),
    (Value.bool (decide (c1_ ≥ (0 : Int)))) = (Value.bool false)]) (by kernel_rfl) ⟨(m_slicesIndexFuncintint_ok n gT gN gK pr c1_ hc1), (vbF hc2), trivial⟩
theorem m_slicesContainsFuncintint_ok (n : Nat) (gT : Int) (gN : Int) (gK : Int) (pr : NL) (r : Bool) (h : m_slicesContainsFuncintint n gT gN gK pr = some r) : Gv P (.func 34) (A_slicesContainsFuncintint gT gN gK pr) (H_slicesContainsFuncintint gT gN gK pr) (V_slicesContainsFuncintint gT gN gK pr r) (R_slicesContainsFuncintint gT gN gK pr r) := by
  unfold m_slicesContainsFuncintint at h
  obtain ⟨c1_, hc1, h⟩ := Option.bind_eq_some_iff.1 h
  by_cases hc2 : c1_ ≥ (0 : Int)
  · rw [if_pos hc2] at h
    obtain rfl := Option.some.inj h; exact p_slicesContainsFuncintint_0 n gT gN gK pr c1_ hc1 hc2
  · rw [if_neg hc2] at h
    obtain rfl := Option.some.inj h; exact p_slicesContainsFuncintint_1 n gT gN gK pr c1_ hc1 hc2

noncomputable def S_gramCheck_2 (x2_0 : Int) (x2_1 : Int) (x2_2 : Int) (x2_3 : Int) (st : Int) : XSt := match st with
  | x2_4 => (sT 83 [(1, (Value.pointer (some ⟨0, 0, none⟩))), (59, (Value.slice (some ⟨0, 0, some 1⟩) (Args.G).length Args.cG)), (60, (Value.int .i64 x2_3)), (61, (Value.int .i64 x2_4))], [], ⟨sB [(0, (some (.cells (layT [(Value.int .i64 x2_0), (Value.int .i64 x2_1), (Value.int .i64 x2_2), (Value.slice (some ⟨0, 0, some 1⟩) (Args.G).length Args.cG)]) 24)))], 1, 0⟩)
noncomputable def X_gramCheck_2 (x2_0 : Int) (x2_1 : Int) (x2_2 : Int) (x2_3 : Int) (r : (Unit) ⊕ (Unit)) : Ex × XSt := match r with
  | .inl _ => (.ret, (sT 83 [(2, (Value.int .i64 (2 : Int)))], [], ⟨sB [], 0, 0⟩))
  | .inr _ => (.exit 2, (sT 83 [], [], ⟨sB [], 0, 0⟩))
def B_gramCheck_2 (n : Nat) (x2_0 : Int) (x2_1 : Int) (x2_2 : Int) (x2_3 : Int) (st : Int) : Option ((Int) ⊕ ((Unit) ⊕ (Unit))) := match st with
  | x2_4 =>
    if x2_4 < x2_3 then
      if 0 ≤ x2_4 ∧ x2_4 < (((Args.G).length : Nat) : Int) then
        if (((Args.G).getD (x2_4).toNat (0, nl0)).1) < (0 : Int) then
          some (.inr (.inl ()))
        else
          if (((Args.G).getD (x2_4).toNat (0, nl0)).1) ≥ x2_1 then
            some (.inr (.inl ()))
          else
            (m_slicesContainsFuncintint n x2_0 x2_1 x2_2 (((Args.G).getD (x2_4).toNat (0, nl0)).2)).bind fun y2_5_ =>
            if y2_5_ = true then
              some (.inr (.inl ()))
            else
              some (.inl (w64 (x2_4 + (1 : Int))))
      else none
    else
      some (.inr (.inr ()))
def m_gramCheck_2 (n : Nat) (x2_0 : Int) (x2_1 : Int) (x2_2 : Int) (x2_3 : Int) (st : Int) : Option ((Unit) ⊕ (Unit)) := iterM (B_gramCheck_2 n x2_0 x2_1 x2_2 x2_3) n st
set_option maxRecDepth 100000 in
theorem q_gramCheck_2_0 (n : Nat) (x2_0 : Int) (x2_1 : Int) (x2_2 : Int) (x2_3 : Int) (x2_4 : Int) (hy2_1 : x2_4 < x2_3) (hy2_2 : 0 ≤ x2_4 ∧ x2_4 < (((Args.G).length : Nat) : Int)) (hy2_3 : (((Args.G).getD (x2_4).toNat (0, nl0)).1) < (0 : Int)) : CG P none (fnN P 14) 0 (codeOf P 14 [false, false, true, false, true, true, true, true]) (S_gramCheck_2 x2_0 x2_1 x2_2 x2_3 x2_4) (X_gramCheck_2 x2_0 x2_1 x2_2 x2_3 (.inl ())) :=
  runC_ok hm (A := aT [(1, .val (.bool true)), (7, .pur (Value.pointer (some ⟨0, ((x2_4).toNat * 2), some 1⟩))), (8, .ld (Value.agg #[(Value.int .i64 (((Args.G).getD (x2_4).toNat (0, nl0)).1)), (nlV (((Args.G).getD (x2_4).toNat (0, nl0)).2))])), (17, .val (.bool true))]) (L := lT []) (wk := ⟨[2], [], 0, 0⟩)
    (ps := [(Value.bool (decide (x2_4 < x2_3))) = (Value.bool true),
    opIndexAddr P 22 (Value.slice (some ⟨0, 0, some 1⟩) (Args.G).length Args.cG) (Value.int .i64 x2_4) Ax.h0 = some ((Value.pointer (some ⟨0, ((x2_4).toNat * 2), some 1⟩)), Ax.h0),
    loadG P 41 (Value.pointer (some ⟨0, ((x2_4).toNat * 2), some 1⟩)) Ax.h0 = some ((Value.agg #[(Value.int .i64 (((Args.G).getD (x2_4).toNat (0, nl0)).1)), (nlV (((Args.G).getD (x2_4).toNat (0, nl0)).2))]), Ax.h0),
    (Value.bool (decide ((((Args.G).getD (x2_4).toNat (0, nl0)).1) < (0 : Int)))) = (Value.bool true)]) (by kernel_rfl) ⟨(vbT hy2_1), (ixW (e := 41) (by kernel_rfl) (by kernel_rfl) (hy2_2).1 (hy2_2).2), (ldWA rwf_iL (0, nl0) (i := (x2_4).toNat) (q := 0) (L := Args.G) (n := 2) ((x2_4).toNat * 2) rfl rfl (by kernel_rfl) (by kernel_rfl) (toNatLt hy2_2) (by decide) rfl), (vbT hy2_3), trivial⟩
set_option maxRecDepth 100000 in
theorem q_gramCheck_2_1 (n : Nat) (x2_0 : Int) (x2_1 : Int) (x2_2 : Int) (x2_3 : Int) (x2_4 : Int) (hy2_1 : x2_4 < x2_3) (hy2_2 : 0 ≤ x2_4 ∧ x2_4 < (((Args.G).length : Nat) : Int)) (hy2_3 : ¬ ((((Args.G).getD (x2_4).toNat (0, nl0)).1) < (0 : Int))) (hy2_4 : (((Args.G).getD (x2_4).toNat (0, nl0)).1) ≥ x2_1) : CG P none (fnN P 14) 0 (codeOf P 14 [false, false, true, false, true, true, true, true]) (S_gramCheck_2 x2_0 x2_1 x2_2 x2_3 x2_4) (X_gramCheck_2 x2_0 x2_1 x2_2 x2_3 (.inl ())) :=
  runC_ok hm (A := aT [(1, .val (.bool true)), (7, .pur (Value.pointer (some ⟨0, ((x2_4).toNat * 2), some 1⟩))), (8, .ld (Value.agg #[(Value.int .i64 (((Args.G).getD (x2_4).toNat (0, nl0)).1)), (nlV (((Args.G).getD (x2_4).toNat (0, nl0)).2))])), (17, .val (.bool false)), (23, .val (.bool true))]) (L := lT []) (wk := ⟨[2], [], 0, 0⟩)
    (ps := [(Value.bool (decide (x2_4 < x2_3))) = (Value.bool true),
    opIndexAddr P 22 (Value.slice (some ⟨0, 0, some 1⟩) (Args.G).length Args.cG) (Value.int .i64 x2_4) Ax.h0 = some ((Value.pointer (some ⟨0, ((x2_4).toNat * 2), some 1⟩)), Ax.h0),
    loadG P 41 (Value.pointer (some ⟨0, ((x2_4).toNat * 2), some 1⟩)) Ax.h0 = some ((Value.agg #[(Value.int .i64 (((Args.G).getD (x2_4).toNat (0, nl0)).1)), (nlV (((Args.G).getD (x2_4).toNat (0, nl0)).2))]), Ax.h0),
    (Value.bool (decide ((((Args.G).getD (x2_4).toNat (0, nl0)).1) < (0 : Int)))) = (Value.bool false),
    (Value.bool (decide ((((Args.G).getD (x2_4).toNat (0, nl0)).1) ≥ x2_1))) = (Value.bool true)]) (by kernel_rfl) ⟨(vbT hy2_1), (ixW (e := 41) (by kernel_rfl) (by kernel_rfl) (hy2_2).1 (hy2_2).2), (ldWA rwf_iL (0, nl0) (i := (x2_4).toNat) (q := 0) (L := Args.G) (n := 2) ((x2_4).toNat * 2) rfl rfl (by kernel_rfl) (by kernel_rfl) (toNatLt hy2_2) (by decide) rfl), (vbF hy2_3), (vbT hy2_4), trivial⟩
set_option maxRecDepth 100000 in
theorem q_gramCheck_2_2 (n : Nat) (x2_0 : Int) (x2_1 : Int) (x2_2 : Int) (x2_3 : Int) (x2_4 : Int) (hy2_1 : x2_4 < x2_3) (hy2_2 : 0 ≤ x2_4 ∧ x2_4 < (((Args.G).length : Nat) : Int)) (hy2_3 : ¬ ((((Args.G).getD (x2_4).toNat (0, nl0)).1) < (0 : Int))) (hy2_4 : ¬ ((((Args.G).getD (x2_4).toNat (0, nl0)).1) ≥ x2_1)) (y2_5_ : Bool) (hy2_5 : m_slicesContainsFuncintint n x2_0 x2_1 x2_2 (((Args.G).getD (x2_4).toNat (0, nl0)).2) = some y2_5_) (hy2_6 : y2_5_ = true) : CG P none (fnN P 14) 0 (codeOf P 14 [false, false, true, false, true, true, true, true]) (S_gramCheck_2 x2_0 x2_1 x2_2 x2_3 x2_4) (X_gramCheck_2 x2_0 x2_1 x2_2 x2_3 (.inl ())) :=
  runC_ok hm (A := aT [(1, .val (.bool true)), (7, .pur (Value.pointer (some ⟨0, ((x2_4).toNat * 2), some 1⟩))), (8, .ld (Value.agg #[(Value.int .i64 (((Args.G).getD (x2_4).toNat (0, nl0)).1)), (nlV (((Args.G).getD (x2_4).toNat (0, nl0)).2))])), (17, .val (.bool false)), (23, .val (.bool false)), (29, .call ⟨1, [(0, 0, false)], (V_slicesContainsFuncintint x2_0 x2_1 x2_2 (((Args.G).getD (x2_4).toNat (0, nl0)).2) y2_5_), (R_slicesContainsFuncintint x2_0 x2_1 x2_2 (((Args.G).getD (x2_4).toNat (0, nl0)).2) y2_5_), []⟩), (31, .val (.bool true))]) (L := lT []) (wk := ⟨[2], [], 0, 0⟩)
    (ps := [(Value.bool (decide (x2_4 < x2_3))) = (Value.bool true),
    opIndexAddr P 22 (Value.slice (some ⟨0, 0, some 1⟩) (Args.G).length Args.cG) (Value.int .i64 x2_4) Ax.h0 = some ((Value.pointer (some ⟨0, ((x2_4).toNat * 2), some 1⟩)), Ax.h0),
    loadG P 41 (Value.pointer (some ⟨0, ((x2_4).toNat * 2), some 1⟩)) Ax.h0 = some ((Value.agg #[(Value.int .i64 (((Args.G).getD (x2_4).toNat (0, nl0)).1)), (nlV (((Args.G).getD (x2_4).toNat (0, nl0)).2))]), Ax.h0),
    (Value.bool (decide ((((Args.G).getD (x2_4).toNat (0, nl0)).1) < (0 : Int)))) = (Value.bool false),
    (Value.bool (decide ((((Args.G).getD (x2_4).toNat (0, nl0)).1) ≥ x2_1))) = (Value.bool false),
    Gv P (.func 34) (A_slicesContainsFuncintint x2_0 x2_1 x2_2 (((Args.G).getD (x2_4).toNat (0, nl0)).2)) (H_slicesContainsFuncintint x2_0 x2_1 x2_2 (((Args.G).getD (x2_4).toNat (0, nl0)).2)) (V_slicesContainsFuncintint x2_0 x2_1 x2_2 (((Args.G).getD (x2_4).toNat (0, nl0)).2) y2_5_) (R_slicesContainsFuncintint x2_0 x2_1 x2_2 (((Args.G).getD (x2_4).toNat (0, nl0)).2) y2_5_),
    (Value.bool y2_5_) = (Value.bool true)]) (by kernel_rfl) ⟨(vbT hy2_1), (ixW (e := 41) (by kernel_rfl) (by kernel_rfl) (hy2_2).1 (hy2_2).2), (ldWA rwf_iL (0, nl0) (i := (x2_4).toNat) (q := 0) (L := Args.G) (n := 2) ((x2_4).toNat * 2) rfl rfl (by kernel_rfl) (by kernel_rfl) (toNatLt hy2_2) (by decide) rfl), (vbF hy2_3), (vbF hy2_4), (m_slicesContainsFuncintint_ok n x2_0 x2_1 x2_2 (((Args.G).getD (x2_4).toNat (0, nl0)).2) y2_5_ hy2_5), (vB hy2_6), trivial⟩
set_option maxRecDepth 100000 in
theorem q_gramCheck_2_3 (n : Nat) (x2_0 : Int) (x2_1 : Int) (x2_2 : Int) (x2_3 : Int) (x2_4 : Int) (hy2_1 : x2_4 < x2_3) (hy2_2 : 0 ≤ x2_4 ∧ x2_4 < (((Args.G).length : Nat) : Int)) (hy2_3 : ¬ ((((Args.G).getD (x2_4).toNat (0, nl0)).1) < (0 : Int))) (hy2_4 : ¬ ((((Args.G).getD (x2_4).toNat (0, nl0)).1) ≥ x2_1)) (y2_5_ : Bool) (hy2_5 : m_slicesContainsFuncintint n x2_0 x2_1 x2_2 (((Args.G).getD (x2_4).toNat (0, nl0)).2) = some y2_5_) (hy2_6 : ¬ (y2_5_ = true)) : CG P none (fnN P 14) 0 (codeOf P 14 [false, false, true, false, true, true, true, true]) (S_gramCheck_2 x2_0 x2_1 x2_2 x2_3 x2_4) (.normal, S_gramCheck_2 x2_0 x2_1 x2_2 x2_3 (w64 (x2_4 + (1 : Int)))) :=
  runC_ok hm (A := aT [(1, .val (.bool true)), (7, .pur (Value.pointer (some ⟨0, ((x2_4).toNat * 2), some 1⟩))), (8, .ld (Value.agg #[(Value.int .i64 (((Args.G).getD (x2_4).toNat (0, nl0)).1)), (nlV (((Args.G).getD (x2_4).toNat (0, nl0)).2))])), (17, .val (.bool false)), (23, .val (.bool false)), (29, .call ⟨1, [(0, 0, false)], (V_slicesContainsFuncintint x2_0 x2_1 x2_2 (((Args.G).getD (x2_4).toNat (0, nl0)).2) y2_5_), (R_slicesContainsFuncintint x2_0 x2_1 x2_2 (((Args.G).getD (x2_4).toNat (0, nl0)).2) y2_5_), []⟩), (31, .val (.bool false))]) (L := lT []) (wk := ⟨[1, 59, 60, 61], [(0, 0, false)], 1, 0⟩)
    (ps := [(Value.bool (decide (x2_4 < x2_3))) = (Value.bool true),
    opIndexAddr P 22 (Value.slice (some ⟨0, 0, some 1⟩) (Args.G).length Args.cG) (Value.int .i64 x2_4) Ax.h0 = some ((Value.pointer (some ⟨0, ((x2_4).toNat * 2), some 1⟩)), Ax.h0),
    loadG P 41 (Value.pointer (some ⟨0, ((x2_4).toNat * 2), some 1⟩)) Ax.h0 = some ((Value.agg #[(Value.int .i64 (((Args.G).getD (x2_4).toNat (0, nl0)).1)), (nlV (((Args.G).getD (x2_4).toNat (0, nl0)).2))]), Ax.h0),
    (Value.bool (decide ((((Args.G).getD (x2_4).toNat (0, nl0)).1) < (0 : Int)))) = (Value.bool false),
    (Value.bool (decide ((((Args.G).getD (x2_4).toNat (0, nl0)).1) ≥ x2_1))) = (Value.bool false),
    Gv P (.func 34) (A_slicesContainsFuncintint x2_0 x2_1 x2_2 (((Args.G).getD (x2_4).toNat (0, nl0)).2)) (H_slicesContainsFuncintint x2_0 x2_1 x2_2 (((Args.G).getD (x2_4).toNat (0, nl0)).2)) (V_slicesContainsFuncintint x2_0 x2_1 x2_2 (((Args.G).getD (x2_4).toNat (0, nl0)).2) y2_5_) (R_slicesContainsFuncintint x2_0 x2_1 x2_2 (((Args.G).getD (x2_4).toNat (0, nl0)).2) y2_5_),
    (Value.bool y2_5_) = (Value.bool false)]) (by kernel_rfl) ⟨(vbT hy2_1), (ixW (e := 41) (by kernel_rfl) (by kernel_rfl) (hy2_2).1 (hy2_2).2), (ldWA rwf_iL (0, nl0) (i := (x2_4).toNat) (q := 0) (L := Args.G) (n := 2) ((x2_4).toNat * 2) rfl rfl (by kernel_rfl) (by kernel_rfl) (toNatLt hy2_2) (by decide) rfl), (vbF hy2_3), (vbF hy2_4), (m_slicesContainsFuncintint_ok n x2_0 x2_1 x2_2 (((Args.G).getD (x2_4).toNat (0, nl0)).2) y2_5_ hy2_5), (vB (Bool.eq_false_iff.2 hy2_6)), trivial⟩
set_option maxRecDepth 100000 in
theorem q_gramCheck_2_4 (n : Nat) (x2_0 : Int) (x2_1 : Int) (x2_2 : Int) (x2_3 : Int) (x2_4 : Int) (hy2_1 : ¬ (x2_4 < x2_3)) : CG P none (fnN P 14) 0 (codeOf P 14 [false, false, true, false, true, true, true, true]) (S_gramCheck_2 x2_0 x2_1 x2_2 x2_3 x2_4) (X_gramCheck_2 x2_0 x2_1 x2_2 x2_3 (.inr ())) :=
  runC_ok hm (A := aT [(1, .val (.bool false))]) (L := lT []) (wk := ⟨[], [], 0, 0⟩)
    (ps := [(Value.bool (decide (x2_4 < x2_3))) = (Value.bool false)]) (by kernel_rfl) ⟨(vbF hy2_1), trivial⟩
theorem m_gramCheck_2_ok (n : Nat) (x2_0 : Int) (x2_1 : Int) (x2_2 : Int) (x2_3 : Int) (st : Int) (r : (Unit) ⊕ (Unit)) (h : m_gramCheck_2 n x2_0 x2_1 x2_2 x2_3 st = some r) : CG P none (fnN P 14) 0 (codeOf P 14 [false, true, false, true, true, true, true]) (S_gramCheck_2 x2_0 x2_1 x2_2 x2_3 st) (X_gramCheck_2 x2_0 x2_1 x2_2 x2_3 r) :=
  CG.iter (b := codeOf P 14 [false, false, true, false, true, true, true, true]) (by kernel_rfl) (body := B_gramCheck_2 n x2_0 x2_1 x2_2 x2_3) (S := S_gramCheck_2 x2_0 x2_1 x2_2 x2_3) (X := X_gramCheck_2 x2_0 x2_1 x2_2 x2_3)
    (fun x2_4 s' h => by
    unfold B_gramCheck_2 at h
    dsimp only at h
    by_cases hy2_1 : x2_4 < x2_3
    · rw [if_pos hy2_1] at h
      by_cases hy2_2 : 0 ≤ x2_4 ∧ x2_4 < (((Args.G).length : Nat) : Int)
      · rw [if_pos hy2_2] at h
        by_cases hy2_3 : (((Args.G).getD (x2_4).toNat (0, nl0)).1) < (0 : Int)
        · rw [if_pos hy2_3] at h
          cases h
        · rw [if_neg hy2_3] at h
          by_cases hy2_4 : (((Args.G).getD (x2_4).toNat (0, nl0)).1) ≥ x2_1
          · rw [if_pos hy2_4] at h
            cases h
          · rw [if_neg hy2_4] at h
            obtain ⟨y2_5_, hy2_5, h⟩ := Option.bind_eq_some_iff.1 h
            by_cases hy2_6 : y2_5_ = true
            · rw [if_pos hy2_6] at h
              cases h
            · rw [if_neg hy2_6] at h
              obtain rfl := Sum.inl.inj (Option.some.inj h); exact q_gramCheck_2_3 n x2_0 x2_1 x2_2 x2_3 x2_4 hy2_1 hy2_2 hy2_3 hy2_4 y2_5_ hy2_5 hy2_6
      · rw [if_neg hy2_2] at h; cases h
    · rw [if_neg hy2_1] at h
      cases h)
    (fun x2_4 r h => by
    unfold B_gramCheck_2 at h
    dsimp only at h
    by_cases hy2_1 : x2_4 < x2_3
    · rw [if_pos hy2_1] at h
      by_cases hy2_2 : 0 ≤ x2_4 ∧ x2_4 < (((Args.G).length : Nat) : Int)
      · rw [if_pos hy2_2] at h
        by_cases hy2_3 : (((Args.G).getD (x2_4).toNat (0, nl0)).1) < (0 : Int)
        · rw [if_pos hy2_3] at h
          obtain rfl := Sum.inr.inj (Option.some.inj h); exact q_gramCheck_2_0 n x2_0 x2_1 x2_2 x2_3 x2_4 hy2_1 hy2_2 hy2_3
        · rw [if_neg hy2_3] at h
          by_cases hy2_4 : (((Args.G).getD (x2_4).toNat (0, nl0)).1) ≥ x2_1
          · rw [if_pos hy2_4] at h
            obtain rfl := Sum.inr.inj (Option.some.inj h); exact q_gramCheck_2_1 n x2_0 x2_1 x2_2 x2_3 x2_4 hy2_1 hy2_2 hy2_3 hy2_4
          · rw [if_neg hy2_4] at h
            obtain ⟨y2_5_, hy2_5, h⟩ := Option.bind_eq_some_iff.1 h
            by_cases hy2_6 : y2_5_ = true
            · rw [if_pos hy2_6] at h
              obtain rfl := Sum.inr.inj (Option.some.inj h); exact q_gramCheck_2_2 n x2_0 x2_1 x2_2 x2_3 x2_4 hy2_1 hy2_2 hy2_3 hy2_4 y2_5_ hy2_5 hy2_6
            · rw [if_neg hy2_6] at h
              cases h
      · rw [if_neg hy2_2] at h; cases h
    · rw [if_neg hy2_1] at h
      obtain rfl := Sum.inr.inj (Option.some.inj h); exact q_gramCheck_2_4 n x2_0 x2_1 x2_2 x2_3 x2_4 hy2_1)
    (fun r => by intro hx; rcases r with _ | _ <;> cases hx) h
noncomputable def S_gramCheck_1 (x1_0 : Int) (x1_1 : Int) (x1_2 : Int) (x1_3 : Int) (st : Int) : XSt := match st with
  | x1_4 => (sT 83 [(1, (Value.pointer (some ⟨0, 0, none⟩))), (28, (Value.slice (some ⟨0, 0, some 1⟩) (Args.G).length Args.cG)), (29, (Value.int .i64 x1_3)), (30, (Value.int .i64 x1_4))], [], ⟨sB [(0, (some (.cells (layT [(Value.int .i64 x1_0), (Value.int .i64 x1_1), (Value.int .i64 x1_2), (Value.slice (some ⟨0, 0, some 1⟩) (Args.G).length Args.cG)]) 24)))], 1, 0⟩)
noncomputable def X_gramCheck_1 (x1_0 : Int) (x1_1 : Int) (x1_2 : Int) (x1_3 : Int) (r : (Unit) ⊕ (Unit)) : Ex × XSt := match r with
  | .inl _ => (.ret, (sT 83 [(2, (Value.int .i64 (3 : Int)))], [], ⟨sB [], 0, 0⟩))
  | .inr _ => (.exit 0, (sT 83 [(1, (Value.pointer (some ⟨0, 0, none⟩)))], [], ⟨sB [(0, (some (.cells (layT [(Value.int .i64 x1_0), (Value.int .i64 x1_1), (Value.int .i64 x1_2), (Value.slice (some ⟨0, 0, some 1⟩) (Args.G).length Args.cG)]) 24)))], 1, 0⟩))
def B_gramCheck_1 (n : Nat) (x1_0 : Int) (x1_1 : Int) (x1_2 : Int) (x1_3 : Int) (st : Int) : Option ((Int) ⊕ ((Unit) ⊕ (Unit))) := match st with
  | x1_4 =>
    if x1_4 < x1_3 then
      if 0 ≤ x1_4 ∧ x1_4 < (((Args.G).length : Nat) : Int) then
        if ((((((Args.G).getD (x1_4).toNat (0, nl0)).2)).l.length : Nat) : Int) > (8 : Int) then
          some (.inr (.inl ()))
        else
          some (.inl (w64 (x1_4 + (1 : Int))))
      else none
    else
      some (.inr (.inr ()))
def m_gramCheck_1 (n : Nat) (x1_0 : Int) (x1_1 : Int) (x1_2 : Int) (x1_3 : Int) (st : Int) : Option ((Unit) ⊕ (Unit)) := iterM (B_gramCheck_1 n x1_0 x1_1 x1_2 x1_3) n st
set_option maxRecDepth 100000 in
theorem q_gramCheck_1_0 (n : Nat) (x1_0 : Int) (x1_1 : Int) (x1_2 : Int) (x1_3 : Int) (x1_4 : Int) (hy1_1 : x1_4 < x1_3) (hy1_2 : 0 ≤ x1_4 ∧ x1_4 < (((Args.G).length : Nat) : Int)) (hy1_3 : ((((((Args.G).getD (x1_4).toNat (0, nl0)).2)).l.length : Nat) : Int) > (8 : Int)) : CG P none (fnN P 14) 0 (codeOf P 14 [false, false, true, false, true, true]) (S_gramCheck_1 x1_0 x1_1 x1_2 x1_3 x1_4) (X_gramCheck_1 x1_0 x1_1 x1_2 x1_3 (.inl ())) :=
  runC_ok hm (A := aT [(1, .val (.bool true)), (7, .pur (Value.pointer (some ⟨0, ((x1_4).toNat * 2), some 1⟩))), (8, .ld (Value.agg #[(Value.int .i64 (((Args.G).getD (x1_4).toNat (0, nl0)).1)), (nlV (((Args.G).getD (x1_4).toNat (0, nl0)).2))])), (15, .val (.bool true))]) (L := lT []) (wk := ⟨[2], [], 0, 0⟩)
    (ps := [(Value.bool (decide (x1_4 < x1_3))) = (Value.bool true),
    opIndexAddr P 22 (Value.slice (some ⟨0, 0, some 1⟩) (Args.G).length Args.cG) (Value.int .i64 x1_4) Ax.h0 = some ((Value.pointer (some ⟨0, ((x1_4).toNat * 2), some 1⟩)), Ax.h0),
    loadG P 41 (Value.pointer (some ⟨0, ((x1_4).toNat * 2), some 1⟩)) Ax.h0 = some ((Value.agg #[(Value.int .i64 (((Args.G).getD (x1_4).toNat (0, nl0)).1)), (nlV (((Args.G).getD (x1_4).toNat (0, nl0)).2))]), Ax.h0),
    (Value.bool (decide (((((((Args.G).getD (x1_4).toNat (0, nl0)).2)).l.length : Nat) : Int) > (8 : Int)))) = (Value.bool true)]) (by kernel_rfl) ⟨(vbT hy1_1), (ixW (e := 41) (by kernel_rfl) (by kernel_rfl) (hy1_2).1 (hy1_2).2), (ldWA rwf_iL (0, nl0) (i := (x1_4).toNat) (q := 0) (L := Args.G) (n := 2) ((x1_4).toNat * 2) rfl rfl (by kernel_rfl) (by kernel_rfl) (toNatLt hy1_2) (by decide) rfl), (vbT hy1_3), trivial⟩
set_option maxRecDepth 100000 in
theorem q_gramCheck_1_1 (n : Nat) (x1_0 : Int) (x1_1 : Int) (x1_2 : Int) (x1_3 : Int) (x1_4 : Int) (hy1_1 : x1_4 < x1_3) (hy1_2 : 0 ≤ x1_4 ∧ x1_4 < (((Args.G).length : Nat) : Int)) (hy1_3 : ¬ (((((((Args.G).getD (x1_4).toNat (0, nl0)).2)).l.length : Nat) : Int) > (8 : Int))) : CG P none (fnN P 14) 0 (codeOf P 14 [false, false, true, false, true, true]) (S_gramCheck_1 x1_0 x1_1 x1_2 x1_3 x1_4) (.normal, S_gramCheck_1 x1_0 x1_1 x1_2 x1_3 (w64 (x1_4 + (1 : Int)))) :=
  runC_ok hm (A := aT [(1, .val (.bool true)), (7, .pur (Value.pointer (some ⟨0, ((x1_4).toNat * 2), some 1⟩))), (8, .ld (Value.agg #[(Value.int .i64 (((Args.G).getD (x1_4).toNat (0, nl0)).1)), (nlV (((Args.G).getD (x1_4).toNat (0, nl0)).2))])), (15, .val (.bool false))]) (L := lT []) (wk := ⟨[1, 28, 29, 30], [(0, 0, false)], 1, 0⟩)
    (ps := [(Value.bool (decide (x1_4 < x1_3))) = (Value.bool true),
    opIndexAddr P 22 (Value.slice (some ⟨0, 0, some 1⟩) (Args.G).length Args.cG) (Value.int .i64 x1_4) Ax.h0 = some ((Value.pointer (some ⟨0, ((x1_4).toNat * 2), some 1⟩)), Ax.h0),
    loadG P 41 (Value.pointer (some ⟨0, ((x1_4).toNat * 2), some 1⟩)) Ax.h0 = some ((Value.agg #[(Value.int .i64 (((Args.G).getD (x1_4).toNat (0, nl0)).1)), (nlV (((Args.G).getD (x1_4).toNat (0, nl0)).2))]), Ax.h0),
    (Value.bool (decide (((((((Args.G).getD (x1_4).toNat (0, nl0)).2)).l.length : Nat) : Int) > (8 : Int)))) = (Value.bool false)]) (by kernel_rfl) ⟨(vbT hy1_1), (ixW (e := 41) (by kernel_rfl) (by kernel_rfl) (hy1_2).1 (hy1_2).2), (ldWA rwf_iL (0, nl0) (i := (x1_4).toNat) (q := 0) (L := Args.G) (n := 2) ((x1_4).toNat * 2) rfl rfl (by kernel_rfl) (by kernel_rfl) (toNatLt hy1_2) (by decide) rfl), (vbF hy1_3), trivial⟩
set_option maxRecDepth 100000 in
theorem q_gramCheck_1_2 (n : Nat) (x1_0 : Int) (x1_1 : Int) (x1_2 : Int) (x1_3 : Int) (x1_4 : Int) (hy1_1 : ¬ (x1_4 < x1_3)) : CG P none (fnN P 14) 0 (codeOf P 14 [false, false, true, false, true, true]) (S_gramCheck_1 x1_0 x1_1 x1_2 x1_3 x1_4) (X_gramCheck_1 x1_0 x1_1 x1_2 x1_3 (.inr ())) :=
  runC_ok hm (A := aT [(1, .val (.bool false))]) (L := lT []) (wk := ⟨[1], [(0, 0, false)], 1, 0⟩)
    (ps := [(Value.bool (decide (x1_4 < x1_3))) = (Value.bool false)]) (by kernel_rfl) ⟨(vbF hy1_1), trivial⟩
theorem m_gramCheck_1_ok (n : Nat) (x1_0 : Int) (x1_1 : Int) (x1_2 : Int) (x1_3 : Int) (st : Int) (r : (Unit) ⊕ (Unit)) (h : m_gramCheck_1 n x1_0 x1_1 x1_2 x1_3 st = some r) : CG P none (fnN P 14) 0 (codeOf P 14 [false, true, false, true, true]) (S_gramCheck_1 x1_0 x1_1 x1_2 x1_3 st) (X_gramCheck_1 x1_0 x1_1 x1_2 x1_3 r) :=
  CG.iter (b := codeOf P 14 [false, false, true, false, true, true]) (by kernel_rfl) (body := B_gramCheck_1 n x1_0 x1_1 x1_2 x1_3) (S := S_gramCheck_1 x1_0 x1_1 x1_2 x1_3) (X := X_gramCheck_1 x1_0 x1_1 x1_2 x1_3)
    (fun x1_4 s' h => by
    unfold B_gramCheck_1 at h
    dsimp only at h
    by_cases hy1_1 : x1_4 < x1_3
    · rw [if_pos hy1_1] at h
      by_cases hy1_2 : 0 ≤ x1_4 ∧ x1_4 < (((Args.G).length : Nat) : Int)
      · rw [if_pos hy1_2] at h
        by_cases hy1_3 : ((((((Args.G).getD (x1_4).toNat (0, nl0)).2)).l.length : Nat) : Int) > (8 : Int)
        · rw [if_pos hy1_3] at h
          cases h
        · rw [if_neg hy1_3] at h
          obtain rfl := Sum.inl.inj (Option.some.inj h); exact q_gramCheck_1_1 n x1_0 x1_1 x1_2 x1_3 x1_4 hy1_1 hy1_2 hy1_3
      · rw [if_neg hy1_2] at h; cases h
    · rw [if_neg hy1_1] at h
      cases h)
    (fun x1_4 r h => by
    unfold B_gramCheck_1 at h
    dsimp only at h
    by_cases hy1_1 : x1_4 < x1_3
    · rw [if_pos hy1_1] at h
      by_cases hy1_2 : 0 ≤ x1_4 ∧ x1_4 < (((Args.G).length : Nat) : Int)
      · rw [if_pos hy1_2] at h
        by_cases hy1_3 : ((((((Args.G).getD (x1_4).toNat (0, nl0)).2)).l.length : Nat) : Int) > (8 : Int)
        · rw [if_pos hy1_3] at h
          obtain rfl := Sum.inr.inj (Option.some.inj h); exact q_gramCheck_1_0 n x1_0 x1_1 x1_2 x1_3 x1_4 hy1_1 hy1_2 hy1_3
        · rw [if_neg hy1_3] at h
          cases h
      · rw [if_neg hy1_2] at h; cases h
    · rw [if_neg hy1_1] at h
      obtain rfl := Sum.inr.inj (Option.some.inj h); exact q_gramCheck_1_2 n x1_0 x1_1 x1_2 x1_3 x1_4 hy1_1)
    (fun r => by intro hx; rcases r with _ | _ <;> cases hx) h
noncomputable def A_gramCheck (gT : Int) (gN : Int) (gK : Int) : List Value := [(Value.agg #[(Value.int .i64 gT), (Value.int .i64 gN), (Value.int .i64 gK), (Value.slice (some ⟨0, 0, some 1⟩) (Args.G).length Args.cG)])]
noncomputable def H_gramCheck (gT : Int) (gN : Int) (gK : Int) : AH := ⟨sB [], 0, 0⟩
noncomputable def V_gramCheck (gT : Int) (gN : Int) (gK : Int) (r : Int) : Value := match r with
  | o0 => (Value.int .i64 o0)
noncomputable def R_gramCheck (gT : Int) (gN : Int) (gK : Int) (r : Int) : AH := match r with
  | o0 => ⟨sB [], 0, 0⟩
def m_gramCheck (n : Nat) (gT : Int) (gN : Int) (gK : Int) : Option (Int) :=
  if gT > (8 : Int) then
    some 3
  else
    if gN > (16 : Int) then
      some 3
    else
      if gK > (3 : Int) then
        some 3
      else
        if (((Args.G).length : Nat) : Int) > (64 : Int) then
          some 3
        else
          match m_gramCheck_1 n gT gN gK (((Args.G).length : Nat) : Int) 0 with
          | none => none
          | some (.inl _) =>
            some 3
          | some (.inr _) =>
            if gT < (1 : Int) then
              some 2
            else
              if gN < (1 : Int) then
                some 2
              else
                if gK < (1 : Int) then
                  some 2
                else
                  if (((Args.G).length : Nat) : Int) < (1 : Int) then
                    some 2
                  else
                    match m_gramCheck_2 n gT gN gK (((Args.G).length : Nat) : Int) 0 with
                    | none => none
                    | some (.inl _) =>
                      some 2
                    | some (.inr _) =>
                      some 0
set_option maxRecDepth 100000 in
theorem p_gramCheck_0 (n : Nat) (gT : Int) (gN : Int) (gK : Int) (hc1 : gT > (8 : Int)) : Gv P (.func 14) (A_gramCheck gT gN gK) (H_gramCheck gT gN gK) (V_gramCheck gT gN gK 3) (R_gramCheck gT gN gK 3) :=
  runF_ok hm (A := aT [(7, .val (.bool true))]) (L := lT []) (wk := ⟨[2], [], 0, 0⟩)
    (ps := [(Value.bool (decide (gT > (8 : Int)))) = (Value.bool true)]) (by kernel_rfl) ⟨(vbT hc1), trivial⟩
set_option maxRecDepth 100000 in
theorem p_gramCheck_1 (n : Nat) (gT : Int) (gN : Int) (gK : Int) (hc1 : ¬ (gT > (8 : Int))) (hc2 : gN > (16 : Int)) : Gv P (.func 14) (A_gramCheck gT gN gK) (H_gramCheck gT gN gK) (V_gramCheck gT gN gK 3) (R_gramCheck gT gN gK 3) :=
  runF_ok hm (A := aT [(7, .val (.bool false)), (11, .val (.bool true))]) (L := lT []) (wk := ⟨[2], [], 0, 0⟩)
    (ps := [(Value.bool (decide (gT > (8 : Int)))) = (Value.bool false),
    (Value.bool (decide (gN > (16 : Int)))) = (Value.bool true)]) (by kernel_rfl) ⟨(vbF hc1), (vbT hc2), trivial⟩
set_option maxRecDepth 100000 in
theorem p_gramCheck_2 (n : Nat) (gT : Int) (gN : Int) (gK : Int) (hc1 : ¬ (gT > (8 : Int))) (hc2 : ¬ (gN > (16 : Int))) (hc3 : gK > (3 : Int)) : Gv P (.func 14) (A_gramCheck gT gN gK) (H_gramCheck gT gN gK) (V_gramCheck gT gN gK 3) (R_gramCheck gT gN gK 3) :=
  runF_ok hm (A := aT [(7, .val (.bool false)), (11, .val (.bool false)), (16, .val (.bool true))]) (L := lT []) (wk := ⟨[2], [], 0, 0⟩)
    (ps := [(Value.bool (decide (gT > (8 : Int)))) = (Value.bool false),
    (Value.bool (decide (gN > (16 : Int)))) = (Value.bool false),
    (Value.bool (decide (gK > (3 : Int)))) = (Value.bool true)]) (by kernel_rfl) ⟨(vbF hc1), (vbF hc2), (vbT hc3), trivial⟩
set_option maxRecDepth 100000 in
theorem p_gramCheck_3 (n : Nat) (gT : Int) (gN : Int) (gK : Int) (hc1 : ¬ (gT > (8 : Int))) (hc2 : ¬ (gN > (16 : Int))) (hc3 : ¬ (gK > (3 : Int))) (hc4 : (((Args.G).length : Nat) : Int) > (64 : Int)) : Gv P (.func 14) (A_gramCheck gT gN gK) (H_gramCheck gT gN gK) (V_gramCheck gT gN gK 3) (R_gramCheck gT gN gK 3) :=
  runF_ok hm (A := aT [(7, .val (.bool false)), (11, .val (.bool false)), (16, .val (.bool false)), (22, .val (.bool true))]) (L := lT []) (wk := ⟨[2], [], 0, 0⟩)
    (ps := [(Value.bool (decide (gT > (8 : Int)))) = (Value.bool false),
    (Value.bool (decide (gN > (16 : Int)))) = (Value.bool false),
    (Value.bool (decide (gK > (3 : Int)))) = (Value.bool false),
    (Value.bool (decide ((((Args.G).length : Nat) : Int) > (64 : Int)))) = (Value.bool true)]) (by kernel_rfl) ⟨(vbF hc1), (vbF hc2), (vbF hc3), (vbT hc4), trivial⟩
set_option maxRecDepth 100000 in
theorem p_gramCheck_4 (n : Nat) (gT : Int) (gN : Int) (gK : Int) (hc1 : ¬ (gT > (8 : Int))) (hc2 : ¬ (gN > (16 : Int))) (hc3 : ¬ (gK > (3 : Int))) (hc4 : ¬ ((((Args.G).length : Nat) : Int) > (64 : Int))) (hc5 : m_gramCheck_1 n gT gN gK (((Args.G).length : Nat) : Int) 0 = some (.inl ())) : Gv P (.func 14) (A_gramCheck gT gN gK) (H_gramCheck gT gN gK) (V_gramCheck gT gN gK 3) (R_gramCheck gT gN gK 3) :=
  runF_ok hm (A := aT [(7, .val (.bool false)), (11, .val (.bool false)), (16, .val (.bool false)), (22, .val (.bool false))]) (L := lT [(32, ⟨⟨[1, 28, 29, 30], [(0, 0, false)], 1, 0⟩, (X_gramCheck_1 gT gN gK (((Args.G).length : Nat) : Int) (.inl ())).1, (X_gramCheck_1 gT gN gK (((Args.G).length : Nat) : Int) (.inl ())).2⟩)]) (wk := ⟨[2], [], 0, 0⟩)
    (ps := [(Value.bool (decide (gT > (8 : Int)))) = (Value.bool false),
    (Value.bool (decide (gN > (16 : Int)))) = (Value.bool false),
    (Value.bool (decide (gK > (3 : Int)))) = (Value.bool false),
    (Value.bool (decide ((((Args.G).length : Nat) : Int) > (64 : Int)))) = (Value.bool false),
    CG P none (fnN P 14) 0 (codeOf P 14 [false, true, false, true, true]) (S_gramCheck_1 gT gN gK (((Args.G).length : Nat) : Int) 0) (X_gramCheck_1 gT gN gK (((Args.G).length : Nat) : Int) (.inl ()))]) (by kernel_rfl) ⟨(vbF hc1), (vbF hc2), (vbF hc3), (vbF hc4), (m_gramCheck_1_ok n gT gN gK (((Args.G).length : Nat) : Int) 0 (.inl ()) hc5), trivial⟩
set_option maxRecDepth 100000 in
theorem p_gramCheck_5 (n : Nat) (gT : Int) (gN : Int) (gK : Int) (hc1 : ¬ (gT > (8 : Int))) (hc2 : ¬ (gN > (16 : Int))) (hc3 : ¬ (gK > (3 : Int))) (hc4 : ¬ ((((Args.G).length : Nat) : Int) > (64 : Int))) (hc5 : m_gramCheck_1 n gT gN gK (((Args.G).length : Nat) : Int) 0 = some (.inr ())) (hc6 : gT < (1 : Int)) : Gv P (.func 14) (A_gramCheck gT gN gK) (H_gramCheck gT gN gK) (V_gramCheck gT gN gK 2) (R_gramCheck gT gN gK 2) :=
  runF_ok hm (A := aT [(7, .val (.bool false)), (11, .val (.bool false)), (16, .val (.bool false)), (22, .val (.bool false)), (37, .val (.bool true))]) (L := lT [(32, ⟨⟨[1, 28, 29, 30], [(0, 0, false)], 1, 0⟩, (X_gramCheck_1 gT gN gK (((Args.G).length : Nat) : Int) (.inr ())).1, (X_gramCheck_1 gT gN gK (((Args.G).length : Nat) : Int) (.inr ())).2⟩)]) (wk := ⟨[2], [], 0, 0⟩)
    (ps := [(Value.bool (decide (gT > (8 : Int)))) = (Value.bool false),
    (Value.bool (decide (gN > (16 : Int)))) = (Value.bool false),
    (Value.bool (decide (gK > (3 : Int)))) = (Value.bool false),
    (Value.bool (decide ((((Args.G).length : Nat) : Int) > (64 : Int)))) = (Value.bool false),
    CG P none (fnN P 14) 0 (codeOf P 14 [false, true, false, true, true]) (S_gramCheck_1 gT gN gK (((Args.G).length : Nat) : Int) 0) (X_gramCheck_1 gT gN gK (((Args.G).length : Nat) : Int) (.inr ())),
    (Value.bool (decide (gT < (1 : Int)))) = (Value.bool true)]) (by kernel_rfl) ⟨(vbF hc1), (vbF hc2), (vbF hc3), (vbF hc4), (m_gramCheck_1_ok n gT gN gK (((Args.G).length : Nat) : Int) 0 (.inr ()) hc5), (vbT hc6), trivial⟩
set_option maxRecDepth 100000 in
theorem p_gramCheck_6 (n : Nat) (gT : Int) (gN : Int) (gK : Int) (hc1 : ¬ (gT > (8 : Int))) (hc2 : ¬ (gN > (16 : Int))) (hc3 : ¬ (gK > (3 : Int))) (hc4 : ¬ ((((Args.G).length : Nat) : Int) > (64 : Int))) (hc5 : m_gramCheck_1 n gT gN gK (((Args.G).length : Nat) : Int) 0 = some (.inr ())) (hc6 : ¬ (gT < (1 : Int))) (hc7 : gN < (1 : Int)) : Gv P (.func 14) (A_gramCheck gT gN gK) (H_gramCheck gT gN gK) (V_gramCheck gT gN gK 2) (R_gramCheck gT gN gK 2) :=
  runF_ok hm (A := aT [(7, .val (.bool false)), (11, .val (.bool false)), (16, .val (.bool false)), (22, .val (.bool false)), (37, .val (.bool false)), (41, .val (.bool true))]) (L := lT [(32, ⟨⟨[1, 28, 29, 30], [(0, 0, false)], 1, 0⟩, (X_gramCheck_1 gT gN gK (((Args.G).length : Nat) : Int) (.inr ())).1, (X_gramCheck_1 gT gN gK (((Args.G).length : Nat) : Int) (.inr ())).2⟩)]) (wk := ⟨[2], [], 0, 0⟩)
    (ps := [(Value.bool (decide (gT > (8 : Int)))) = (Value.bool false),
    (Value.bool (decide (gN > (16 : Int)))) = (Value.bool false),
    (Value.bool (decide (gK > (3 : Int)))) = (Value.bool false),
    (Value.bool (decide ((((Args.G).length : Nat) : Int) > (64 : Int)))) = (Value.bool false),
    CG P none (fnN P 14) 0 (codeOf P 14 [false, true, false, true, true]) (S_gramCheck_1 gT gN gK (((Args.G).length : Nat) : Int) 0) (X_gramCheck_1 gT gN gK (((Args.G).length : Nat) : Int) (.inr ())),
    (Value.bool (decide (gT < (1 : Int)))) = (Value.bool false),
    (Value.bool (decide (gN < (1 : Int)))) = (Value.bool true)]) (by kernel_rfl) ⟨(vbF hc1), (vbF hc2), (vbF hc3), (vbF hc4), (m_gramCheck_1_ok n gT gN gK (((Args.G).length : Nat) : Int) 0 (.inr ()) hc5), (vbF hc6), (vbT hc7), trivial⟩
set_option maxRecDepth 100000 in
theorem p_gramCheck_7 (n : Nat) (gT : Int) (gN : Int) (gK : Int) (hc1 : ¬ (gT > (8 : Int))) (hc2 : ¬ (gN > (16 : Int))) (hc3 : ¬ (gK > (3 : Int))) (hc4 : ¬ ((((Args.G).length : Nat) : Int) > (64 : Int))) (hc5 : m_gramCheck_1 n gT gN gK (((Args.G).length : Nat) : Int) 0 = some (.inr ())) (hc6 : ¬ (gT < (1 : Int))) (hc7 : ¬ (gN < (1 : Int))) (hc8 : gK < (1 : Int)) : Gv P (.func 14) (A_gramCheck gT gN gK) (H_gramCheck gT gN gK) (V_gramCheck gT gN gK 2) (R_gramCheck gT gN gK 2) :=
  runF_ok hm (A := aT [(7, .val (.bool false)), (11, .val (.bool false)), (16, .val (.bool false)), (22, .val (.bool false)), (37, .val (.bool false)), (41, .val (.bool false)), (46, .val (.bool true))]) (L := lT [(32, ⟨⟨[1, 28, 29, 30], [(0, 0, false)], 1, 0⟩, (X_gramCheck_1 gT gN gK (((Args.G).length : Nat) : Int) (.inr ())).1, (X_gramCheck_1 gT gN gK (((Args.G).length : Nat) : Int) (.inr ())).2⟩)]) (wk := ⟨[2], [], 0, 0⟩)
    (ps := [(Value.bool (decide (gT > (8 : Int)))) = (Value.bool false),
    (Value.bool (decide (gN > (16 : Int)))) = (Value.bool false),
    (Value.bool (decide (gK > (3 : Int)))) = (Value.bool false),
    (Value.bool (decide ((((Args.G).length : Nat) : Int) > (64 : Int)))) = (Value.bool false),
    CG P none (fnN P 14) 0 (codeOf P 14 [false, true, false, true, true]) (S_gramCheck_1 gT gN gK (((Args.G).length : Nat) : Int) 0) (X_gramCheck_1 gT gN gK (((Args.G).length : Nat) : Int) (.inr ())),
    (Value.bool (decide (gT < (1 : Int)))) = (Value.bool false),
    (Value.bool (decide (gN < (1 : Int)))) = (Value.bool false),
    (Value.bool (decide (gK < (1 : Int)))) = (Value.bool true)]) (by kernel_rfl) ⟨(vbF hc1), (vbF hc2), (vbF hc3), (vbF hc4), (m_gramCheck_1_ok n gT gN gK (((Args.G).length : Nat) : Int) 0 (.inr ()) hc5), (vbF hc6), (vbF hc7), (vbT hc8), trivial⟩
set_option maxRecDepth 100000 in
theorem p_gramCheck_8 (n : Nat) (gT : Int) (gN : Int) (gK : Int) (hc1 : ¬ (gT > (8 : Int))) (hc2 : ¬ (gN > (16 : Int))) (hc3 : ¬ (gK > (3 : Int))) (hc4 : ¬ ((((Args.G).length : Nat) : Int) > (64 : Int))) (hc5 : m_gramCheck_1 n gT gN gK (((Args.G).length : Nat) : Int) 0 = some (.inr ())) (hc6 : ¬ (gT < (1 : Int))) (hc7 : ¬ (gN < (1 : Int))) (hc8 : ¬ (gK < (1 : Int))) (hc9 : (((Args.G).length : Nat) : Int) < (1 : Int)) : Gv P (.func 14) (A_gramCheck gT gN gK) (H_gramCheck gT gN gK) (V_gramCheck gT gN gK 2) (R_gramCheck gT gN gK 2) :=
  runF_ok hm (A := aT [(7, .val (.bool false)), (11, .val (.bool false)), (16, .val (.bool false)), (22, .val (.bool false)), (37, .val (.bool false)), (41, .val (.bool false)), (46, .val (.bool false)), (52, .val (.bool true))]) (L := lT [(32, ⟨⟨[1, 28, 29, 30], [(0, 0, false)], 1, 0⟩, (X_gramCheck_1 gT gN gK (((Args.G).length : Nat) : Int) (.inr ())).1, (X_gramCheck_1 gT gN gK (((Args.G).length : Nat) : Int) (.inr ())).2⟩)]) (wk := ⟨[2], [], 0, 0⟩)
    (ps := [(Value.bool (decide (gT > (8 : Int)))) = (Value.bool false),
    (Value.bool (decide (gN > (16 : Int)))) = (Value.bool false),
    (Value.bool (decide (gK > (3 : Int)))) = (Value.bool false),
    (Value.bool (decide ((((Args.G).length : Nat) : Int) > (64 : Int)))) = (Value.bool false),
    CG P none (fnN P 14) 0 (codeOf P 14 [false, true, false, true, true]) (S_gramCheck_1 gT gN gK (((Args.G).length : Nat) : Int) 0) (X_gramCheck_1 gT gN gK (((Args.G).length : Nat) : Int) (.inr ())),
    (Value.bool (decide (gT < (1 : Int)))) = (Value.bool false),
    (Value.bool (decide (gN < (1 : Int)))) = (Value.bool false),
    (Value.bool (decide (gK < (1 : Int)))) = (Value.bool false),
    (Value.bool (decide ((((Args.G).length : Nat) : Int) < (1 : Int)))) = (Value.bool true)]) (by kernel_rfl) ⟨(vbF hc1), (vbF hc2), (vbF hc3), (vbF hc4), (m_gramCheck_1_ok n gT gN gK (((Args.G).length : Nat) : Int) 0 (.inr ()) hc5), (vbF hc6), (vbF hc7), (vbF hc8), (vbT hc9), trivial⟩
set_option maxRecDepth 100000 in
theorem p_gramCheck_9 (n : Nat) (gT : Int) (gN : Int) (gK : Int) (hc1 : ¬ (gT > (8 : Int))) (hc2 : ¬ (gN > (16 : Int))) (hc3 : ¬ (gK > (3 : Int))) (hc4 : ¬ ((((Args.G).length : Nat) : Int) > (64 : Int))) (hc5 : m_gramCheck_1 n gT gN gK (((Args.G).length : Nat) : Int) 0 = some (.inr ())) (hc6 : ¬ (gT < (1 : Int))) (hc7 : ¬ (gN < (1 : Int))) (hc8 : ¬ (gK < (1 : Int))) (hc9 : ¬ ((((Args.G).length : Nat) : Int) < (1 : Int))) (hc10 : m_gramCheck_2 n gT gN gK (((Args.G).length : Nat) : Int) 0 = some (.inl ())) : Gv P (.func 14) (A_gramCheck gT gN gK) (H_gramCheck gT gN gK) (V_gramCheck gT gN gK 2) (R_gramCheck gT gN gK 2) :=
  runF_ok hm (A := aT [(7, .val (.bool false)), (11, .val (.bool false)), (16, .val (.bool false)), (22, .val (.bool false)), (37, .val (.bool false)), (41, .val (.bool false)), (46, .val (.bool false)), (52, .val (.bool false))]) (L := lT [(32, ⟨⟨[1, 28, 29, 30], [(0, 0, false)], 1, 0⟩, (X_gramCheck_1 gT gN gK (((Args.G).length : Nat) : Int) (.inr ())).1, (X_gramCheck_1 gT gN gK (((Args.G).length : Nat) : Int) (.inr ())).2⟩), (62, ⟨⟨[1, 59, 60, 61], [(0, 0, false)], 1, 0⟩, (X_gramCheck_2 gT gN gK (((Args.G).length : Nat) : Int) (.inl ())).1, (X_gramCheck_2 gT gN gK (((Args.G).length : Nat) : Int) (.inl ())).2⟩)]) (wk := ⟨[2], [], 0, 0⟩)
    (ps := [(Value.bool (decide (gT > (8 : Int)))) = (Value.bool false),
    (Value.bool (decide (gN > (16 : Int)))) = (Value.bool false),
    (Value.bool (decide (gK > (3 : Int)))) = (Value.bool false),
    (Value.bool (decide ((((Args.G).length : Nat) : Int) > (64 : Int)))) = (Value.bool false),
    CG P none (fnN P 14) 0 (codeOf P 14 [false, true, false, true, true]) (S_gramCheck_1 gT gN gK (((Args.G).length : Nat) : Int) 0) (X_gramCheck_1 gT gN gK (((Args.G).length : Nat) : Int) (.inr ())),
    (Value.bool (decide (gT < (1 : Int)))) = (Value.bool false),
    (Value.bool (decide (gN < (1 : Int)))) = (Value.bool false),
    (Value.bool (decide (gK < (1 : Int)))) = (Value.bool false),
    (Value.bool (decide ((((Args.G).length : Nat) : Int) < (1 : Int)))) = (Value.bool false),
    CG P none (fnN P 14) 0 (codeOf P 14 [false, true, false, true, true, true, true]) (S_gramCheck_2 gT gN gK (((Args.G).length : Nat) : Int) 0) (X_gramCheck_2 gT gN gK (((Args.G).length : Nat) : Int) (.inl ()))]) (by kernel_rfl) ⟨(vbF hc1), (vbF hc2), (vbF hc3), (vbF hc4), (m_gramCheck_1_ok n gT gN gK (((Args.G).length : Nat) : Int) 0 (.inr ()) hc5), (vbF hc6), (vbF hc7), (vbF hc8), (vbF hc9), (m_gramCheck_2_ok n gT gN gK (((Args.G).length : Nat) : Int) 0 (.inl ()) hc10), trivial⟩
set_option maxRecDepth 100000 in
theorem p_gramCheck_10 (n : Nat) (gT : Int) (gN : Int) (gK : Int) (hc1 : ¬ (gT > (8 : Int))) (hc2 : ¬ (gN > (16 : Int))) (hc3 : ¬ (gK > (3 : Int))) (hc4 : ¬ ((((Args.G).length : Nat) : Int) > (64 : Int))) (hc5 : m_gramCheck_1 n gT gN gK (((Args.G).length : Nat) : Int) 0 = some (.inr ())) (hc6 : ¬ (gT < (1 : Int))) (hc7 : ¬ (gN < (1 : Int))) (hc8 : ¬ (gK < (1 : Int))) (hc9 : ¬ ((((Args.G).length : Nat) : Int) < (1 : Int))) (hc10 : m_gramCheck_2 n gT gN gK (((Args.G).length : Nat) : Int) 0 = some (.inr ())) : Gv P (.func 14) (A_gramCheck gT gN gK) (H_gramCheck gT gN gK) (V_gramCheck gT gN gK 0) (R_gramCheck gT gN gK 0) :=
  runF_ok hm (A := aT [(7, .val (.bool false)), (11, .val (.bool false)), (16, .val (.bool false)), (22, .val (.bool false)), (37, .val (.bool false)), (41, .val (.bool false)), (46, .val (.bool false)), (52, .val (.bool false))]) (L := lT [(32, ⟨⟨[1, 28, 29, 30], [(0, 0, false)], 1, 0⟩, (X_gramCheck_1 gT gN gK (((Args.G).length : Nat) : Int) (.inr ())).1, (X_gramCheck_1 gT gN gK (((Args.G).length : Nat) : Int) (.inr ())).2⟩), (62, ⟨⟨[1, 59, 60, 61], [(0, 0, false)], 1, 0⟩, (X_gramCheck_2 gT gN gK (((Args.G).length : Nat) : Int) (.inr ())).1, (X_gramCheck_2 gT gN gK (((Args.G).length : Nat) : Int) (.inr ())).2⟩)]) (wk := ⟨[2], [], 0, 0⟩)
    (ps := [(Value.bool (decide (gT > (8 : Int)))) = (Value.bool false),
    (Value.bool (decide (gN > (16 : Int)))) = (Value.bool false),
    (Value.bool (decide (gK > (3 : Int)))) = (Value.bool false),
    (Value.bool (decide ((((Args.G).length : Nat) : Int) > (64 : Int)))) = (Value.bool false),
    CG P none (fnN P 14) 0 (codeOf P 14 [false, true, false, true, true]) (S_gramCheck_1 gT gN gK (((Args.G).length : Nat) : Int) 0) (X_gramCheck_1 gT gN gK (((Args.G).length : Nat) : Int) (.inr ())),
    (Value.bool (decide (gT < (1 : Int)))) = (Value.bool false),
    (Value.bool (decide (gN < (1 : Int)))) = (Value.bool false),
    (Value.bool (decide (gK < (1 : Int)))) = (Value.bool false),
    (Value.bool (decide ((((Args.G).length : Nat) : Int) < (1 : Int)))) = (Value.bool false),
    CG P none (fnN P 14) 0 (codeOf P 14 [false, true, false, true, true, true, true]) (S_gramCheck_2 gT gN gK (((Args.G).length : Nat) : Int) 0) (X_gramCheck_2 gT gN gK (((Args.G).length : Nat) : Int) (.inr ()))]) (by kernel_rfl) ⟨(vbF hc1), (vbF hc2), (vbF hc3), (vbF hc4), (m_gramCheck_1_ok n gT gN gK (((Args.G).length : Nat) : Int) 0 (.inr ()) hc5), (vbF hc6), (vbF hc7), (vbF hc8), (vbF hc9), (m_gramCheck_2_ok n gT gN gK (((Args.G).length : Nat) : Int) 0 (.inr ()) hc10), trivial⟩
theorem m_gramCheck_ok (n : Nat) (gT : Int) (gN : Int) (gK : Int) (r : Int) (h : m_gramCheck n gT gN gK = some r) : Gv P (.func 14) (A_gramCheck gT gN gK) (H_gramCheck gT gN gK) (V_gramCheck gT gN gK r) (R_gramCheck gT gN gK r) := by
  unfold m_gramCheck at h
  by_cases hc1 : gT > (8 : Int)
  · rw [if_pos hc1] at h
    obtain rfl := Option.some.inj h; exact p_gramCheck_0 n gT gN gK hc1
  · rw [if_neg hc1] at h
    by_cases hc2 : gN > (16 : Int)
    · rw [if_pos hc2] at h
      obtain rfl := Option.some.inj h; exact p_gramCheck_1 n gT gN gK hc1 hc2
    · rw [if_neg hc2] at h
      by_cases hc3 : gK > (3 : Int)
      · rw [if_pos hc3] at h
        obtain rfl := Option.some.inj h; exact p_gramCheck_2 n gT gN gK hc1 hc2 hc3
      · rw [if_neg hc3] at h
        by_cases hc4 : (((Args.G).length : Nat) : Int) > (64 : Int)
        · rw [if_pos hc4] at h
          obtain rfl := Option.some.inj h; exact p_gramCheck_3 n gT gN gK hc1 hc2 hc3 hc4
        · rw [if_neg hc4] at h
          rcases hc5 : m_gramCheck_1 n gT gN gK (((Args.G).length : Nat) : Int) 0 with _ | (⟨⟩ | ⟨⟩)
          · rw [hc5] at h; cases h
          · rw [hc5] at h
            dsimp only at h
            obtain rfl := Option.some.inj h; exact p_gramCheck_4 n gT gN gK hc1 hc2 hc3 hc4 hc5
          · rw [hc5] at h
            dsimp only at h
            by_cases hc6 : gT < (1 : Int)
            · rw [if_pos hc6] at h
              obtain rfl := Option.some.inj h; exact p_gramCheck_5 n gT gN gK hc1 hc2 hc3 hc4 hc5 hc6
            · rw [if_neg hc6] at h
              by_cases hc7 : gN < (1 : Int)
              · rw [if_pos hc7] at h
                obtain rfl := Option.some.inj h; exact p_gramCheck_6 n gT gN gK hc1 hc2 hc3 hc4 hc5 hc6 hc7
              · rw [if_neg hc7] at h
                by_cases hc8 : gK < (1 : Int)
                · rw [if_pos hc8] at h
                  obtain rfl := Option.some.inj h; exact p_gramCheck_7 n gT gN gK hc1 hc2 hc3 hc4 hc5 hc6 hc7 hc8
                · rw [if_neg hc8] at h
                  by_cases hc9 : (((Args.G).length : Nat) : Int) < (1 : Int)
                  · rw [if_pos hc9] at h
                    obtain rfl := Option.some.inj h; exact p_gramCheck_8 n gT gN gK hc1 hc2 hc3 hc4 hc5 hc6 hc7 hc8 hc9
                  · rw [if_neg hc9] at h
                    rcases hc10 : m_gramCheck_2 n gT gN gK (((Args.G).length : Nat) : Int) 0 with _ | (⟨⟩ | ⟨⟩)
                    · rw [hc10] at h; cases h
                    · rw [hc10] at h
                      dsimp only at h
                      obtain rfl := Option.some.inj h; exact p_gramCheck_9 n gT gN gK hc1 hc2 hc3 hc4 hc5 hc6 hc7 hc8 hc9 hc10
                    · rw [hc10] at h
                      dsimp only at h
                      obtain rfl := Option.some.inj h; exact p_gramCheck_10 n gT gN gK hc1 hc2 hc3 hc4 hc5 hc6 hc7 hc8 hc9 hc10

end Go.Proofs.Ytpbhdiapgeiopaa.gramw
