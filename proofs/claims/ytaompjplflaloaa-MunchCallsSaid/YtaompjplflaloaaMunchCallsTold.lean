/-
  What functions do, told by pure functions. No condition.
-/
import Derived.Test.YtaompjplflaloaaMunchAllTold
set_option linter.unusedSimpArgs false
set_option linter.unusedVariables false
set_option linter.unusedSectionVars false
set_option linter.unnecessarySimpa false
namespace Go.Proofs.Ytaompjplflaloaa.munchw
open Go Go.Proofs.Ytaompjplflaloaa Ax
variable [Args]
noncomputable def S_viewportref06Next_1 (x1_0 : ByteArray) (x1_2 : Int) (st : Int × Int × Int × Int × Int) : XSt := match st with
  | (x1_1, x1_3, x1_4, x1_5, x1_6) => (sT 69 [(1, (Value.string x1_0)), (3, (Value.pointer (some ⟨0, 0, none⟩))), (6, (Value.pointer (some ⟨1, 0, none⟩))), (8, (Value.pointer (some ⟨2, 0, none⟩))), (9, (Value.int .i64 x1_5)), (10, (Value.int .i64 x1_6))], [], ⟨sB [(0, (some (.cells (layT [(Value.slice (some ⟨0, 0, some 1⟩) (Args.N).length Args.cN), (Value.slice (some ⟨1, 0, some 1⟩) (Args.R).length Args.cR)]) 24))), (1, (some (.cells (layT [(Value.int .i64 (0 : Int)), (Value.int .i64 (0 : Int)), (Value.int .i64 (0 : Int)), (Value.int .i64 (0 : Int))]) 28))), (2, (some (.cells (layT [(Value.int .i64 x1_1), (Value.int .i64 x1_2), (Value.int .i64 x1_3), (Value.int .i64 x1_4)]) 28)))], 3, 0⟩)
noncomputable def X_viewportref06Next_1 (x1_0 : ByteArray) (x1_2 : Int) (r : Int × Int × Int) : Ex × XSt := match r with
  | (z1_0, z1_1, z1_2) => (.ret, (sT 69 [(6, (Value.pointer (some ⟨0, 0, none⟩))), (7, (Value.bool true))], [], ⟨sB [(0, (some (.cells (layT [(Value.int .i64 z1_0), (Value.int .i64 x1_2), (Value.int .i64 z1_1), (Value.int .i64 z1_2)]) 28)))], 1, 0⟩))
def B_viewportref06Next_1 (n : Nat) (x1_0 : ByteArray) (x1_2 : Int) (st : Int × Int × Int × Int × Int) : Option ((Int × Int × Int × Int × Int) ⊕ (Int × Int × Int)) := match st with
  | (x1_1, x1_3, x1_4, x1_5, x1_6) =>
    if x1_6 = (((x1_0).size : Nat) : Int) then
      some (.inr (x1_1, x1_3, (w64 (x1_6 + (1 : Int)))))
    else
      if 0 ≤ x1_6 ∧ x1_6 < (((x1_0).size : Nat) : Int) then
        if 0 ≤ (w64 ((w64 ((256 : Int) * x1_5)) + (IntKind.i64.wrap (byteAt x1_0 (x1_6).toNat)))) ∧ (w64 ((w64 ((256 : Int) * x1_5)) + (IntKind.i64.wrap (byteAt x1_0 (x1_6).toNat)))) < (((Args.N).length : Nat) : Int) then
          if ((Args.N).getD ((w64 ((w64 ((256 : Int) * x1_5)) + (IntKind.i64.wrap (byteAt x1_0 (x1_6).toNat))))).toNat 0) < (0 : Int) then
            some (.inr (x1_1, x1_3, (w64 (x1_6 + (1 : Int)))))
          else
            if 0 ≤ ((Args.N).getD ((w64 ((w64 ((256 : Int) * x1_5)) + (IntKind.i64.wrap (byteAt x1_0 (x1_6).toNat))))).toNat 0) ∧ ((Args.N).getD ((w64 ((w64 ((256 : Int) * x1_5)) + (IntKind.i64.wrap (byteAt x1_0 (x1_6).toNat))))).toNat 0) < (((Args.R).length : Nat) : Int) then
              if ((Args.R).getD (((Args.N).getD ((w64 ((w64 ((256 : Int) * x1_5)) + (IntKind.i64.wrap (byteAt x1_0 (x1_6).toNat))))).toNat 0)).toNat 0) ≥ (0 : Int) then
                some (.inl (((Args.R).getD (((Args.N).getD ((w64 ((w64 ((256 : Int) * x1_5)) + (IntKind.i64.wrap (byteAt x1_0 (x1_6).toNat))))).toNat 0)).toNat 0), (w64 (x1_6 + (1 : Int))), (w64 (x1_6 + (1 : Int))), ((Args.N).getD ((w64 ((w64 ((256 : Int) * x1_5)) + (IntKind.i64.wrap (byteAt x1_0 (x1_6).toNat))))).toNat 0), (w64 (x1_6 + (1 : Int)))))
              else
                some (.inl (x1_1, x1_3, (w64 (x1_6 + (1 : Int))), ((Args.N).getD ((w64 ((w64 ((256 : Int) * x1_5)) + (IntKind.i64.wrap (byteAt x1_0 (x1_6).toNat))))).toNat 0), (w64 (x1_6 + (1 : Int)))))
            else none
        else none
      else none
def m_viewportref06Next_1 (n : Nat) (x1_0 : ByteArray) (x1_2 : Int) (st : Int × Int × Int × Int × Int) : Option (Int × Int × Int) := iterM (B_viewportref06Next_1 n x1_0 x1_2) n st
set_option maxRecDepth 100000 in
theorem q_viewportref06Next_1_0 (n : Nat) (x1_0 : ByteArray) (x1_1 : Int) (x1_2 : Int) (x1_3 : Int) (x1_4 : Int) (x1_5 : Int) (x1_6 : Int) (hy1_1 : x1_6 = (((x1_0).size : Nat) : Int)) : CG P none (fnN P 8) 0 (codeOf P 8 [false, false, true, true, true, true, true]) (S_viewportref06Next_1 x1_0 x1_2 (x1_1, x1_3, x1_4, x1_5, x1_6)) (X_viewportref06Next_1 x1_0 x1_2 (x1_1, x1_3, (w64 (x1_6 + (1 : Int))))) :=
  runC_ok hm (A := aT [(12, .val (.bool true))]) (L := lT []) (wk := ⟨[6, 7], [(0, 1, false)], 1, 0⟩)
    (ps := [(Value.bool (x1_6 == (((x1_0).size : Nat) : Int))) = (Value.bool true)]) (by kernel_rfl) ⟨(veT hy1_1), trivial⟩
set_option maxRecDepth 100000 in
theorem q_viewportref06Next_1_1 (n : Nat) (x1_0 : ByteArray) (x1_1 : Int) (x1_2 : Int) (x1_3 : Int) (x1_4 : Int) (x1_5 : Int) (x1_6 : Int) (hy1_1 : ¬ (x1_6 = (((x1_0).size : Nat) : Int))) (hy1_2 : 0 ≤ x1_6 ∧ x1_6 < (((x1_0).size : Nat) : Int)) (hy1_3 : 0 ≤ (w64 ((w64 ((256 : Int) * x1_5)) + (IntKind.i64.wrap (byteAt x1_0 (x1_6).toNat)))) ∧ (w64 ((w64 ((256 : Int) * x1_5)) + (IntKind.i64.wrap (byteAt x1_0 (x1_6).toNat)))) < (((Args.N).length : Nat) : Int)) (hy1_4 : ((Args.N).getD ((w64 ((w64 ((256 : Int) * x1_5)) + (IntKind.i64.wrap (byteAt x1_0 (x1_6).toNat))))).toNat 0) < (0 : Int)) : CG P none (fnN P 8) 0 (codeOf P 8 [false, false, true, true, true, true, true]) (S_viewportref06Next_1 x1_0 x1_2 (x1_1, x1_3, x1_4, x1_5, x1_6)) (X_viewportref06Next_1 x1_0 x1_2 (x1_1, x1_3, (w64 (x1_6 + (1 : Int))))) :=
  runC_ok hm (A := aT [(12, .val (.bool false)), (21, .pur (Value.int .u8 (byteAt x1_0 (x1_6).toNat))), (24, .pur (Value.pointer (some ⟨0, ((w64 ((w64 ((256 : Int) * x1_5)) + (IntKind.i64.wrap (byteAt x1_0 (x1_6).toNat))))).toNat, some 1⟩))), (25, .ld (Value.int .i64 ((Args.N).getD ((w64 ((w64 ((256 : Int) * x1_5)) + (IntKind.i64.wrap (byteAt x1_0 (x1_6).toNat))))).toNat 0))), (30, .val (.bool true))]) (L := lT []) (wk := ⟨[6, 7], [(0, 1, false)], 1, 0⟩)
    (ps := [(Value.bool (x1_6 == (((x1_0).size : Nat) : Int))) = (Value.bool false),
    opIndex P 9 (Value.string x1_0) (Value.int .i64 x1_6) Ax.h0 = some ((Value.int .u8 (byteAt x1_0 (x1_6).toNat)), Ax.h0),
    opIndexAddr P 22 (Value.slice (some ⟨0, 0, some 1⟩) (Args.N).length Args.cN) (Value.int .i64 (w64 ((w64 ((256 : Int) * x1_5)) + (IntKind.i64.wrap (byteAt x1_0 (x1_6).toNat))))) Ax.h0 = some ((Value.pointer (some ⟨0, ((w64 ((w64 ((256 : Int) * x1_5)) + (IntKind.i64.wrap (byteAt x1_0 (x1_6).toNat))))).toNat, some 1⟩)), Ax.h0),
    loadG P 3 (Value.pointer (some ⟨0, ((w64 ((w64 ((256 : Int) * x1_5)) + (IntKind.i64.wrap (byteAt x1_0 (x1_6).toNat))))).toNat, some 1⟩)) Ax.h0 = some ((Value.int .i64 ((Args.N).getD ((w64 ((w64 ((256 : Int) * x1_5)) + (IntKind.i64.wrap (byteAt x1_0 (x1_6).toNat))))).toNat 0)), Ax.h0),
    (Value.bool (decide (((Args.N).getD ((w64 ((w64 ((256 : Int) * x1_5)) + (IntKind.i64.wrap (byteAt x1_0 (x1_6).toNat))))).toNat 0) < (0 : Int)))) = (Value.bool true)]) (by kernel_rfl) ⟨(veF hy1_1), (ixStr (by kernel_rfl) hy1_2), (ixW1 (e := 3) (by kernel_rfl) (by kernel_rfl) hy1_3), (ldW rfl (by kernel_rfl) (toNatLt hy1_3)), (vbT hy1_4), trivial⟩
set_option maxRecDepth 100000 in
theorem q_viewportref06Next_1_2 (n : Nat) (x1_0 : ByteArray) (x1_1 : Int) (x1_2 : Int) (x1_3 : Int) (x1_4 : Int) (x1_5 : Int) (x1_6 : Int) (hy1_1 : ¬ (x1_6 = (((x1_0).size : Nat) : Int))) (hy1_2 : 0 ≤ x1_6 ∧ x1_6 < (((x1_0).size : Nat) : Int)) (hy1_3 : 0 ≤ (w64 ((w64 ((256 : Int) * x1_5)) + (IntKind.i64.wrap (byteAt x1_0 (x1_6).toNat)))) ∧ (w64 ((w64 ((256 : Int) * x1_5)) + (IntKind.i64.wrap (byteAt x1_0 (x1_6).toNat)))) < (((Args.N).length : Nat) : Int)) (hy1_4 : ¬ (((Args.N).getD ((w64 ((w64 ((256 : Int) * x1_5)) + (IntKind.i64.wrap (byteAt x1_0 (x1_6).toNat))))).toNat 0) < (0 : Int))) (hy1_5 : 0 ≤ ((Args.N).getD ((w64 ((w64 ((256 : Int) * x1_5)) + (IntKind.i64.wrap (byteAt x1_0 (x1_6).toNat))))).toNat 0) ∧ ((Args.N).getD ((w64 ((w64 ((256 : Int) * x1_5)) + (IntKind.i64.wrap (byteAt x1_0 (x1_6).toNat))))).toNat 0) < (((Args.R).length : Nat) : Int)) (hy1_6 : ((Args.R).getD (((Args.N).getD ((w64 ((w64 ((256 : Int) * x1_5)) + (IntKind.i64.wrap (byteAt x1_0 (x1_6).toNat))))).toNat 0)).toNat 0) ≥ (0 : Int)) : CG P none (fnN P 8) 0 (codeOf P 8 [false, false, true, true, true, true, true]) (S_viewportref06Next_1 x1_0 x1_2 (x1_1, x1_3, x1_4, x1_5, x1_6)) (.normal, S_viewportref06Next_1 x1_0 x1_2 (((Args.R).getD (((Args.N).getD ((w64 ((w64 ((256 : Int) * x1_5)) + (IntKind.i64.wrap (byteAt x1_0 (x1_6).toNat))))).toNat 0)).toNat 0), (w64 (x1_6 + (1 : Int))), (w64 (x1_6 + (1 : Int))), ((Args.N).getD ((w64 ((w64 ((256 : Int) * x1_5)) + (IntKind.i64.wrap (byteAt x1_0 (x1_6).toNat))))).toNat 0), (w64 (x1_6 + (1 : Int))))) :=
  runC_ok hm (A := aT [(12, .val (.bool false)), (21, .pur (Value.int .u8 (byteAt x1_0 (x1_6).toNat))), (24, .pur (Value.pointer (some ⟨0, ((w64 ((w64 ((256 : Int) * x1_5)) + (IntKind.i64.wrap (byteAt x1_0 (x1_6).toNat))))).toNat, some 1⟩))), (25, .ld (Value.int .i64 ((Args.N).getD ((w64 ((w64 ((256 : Int) * x1_5)) + (IntKind.i64.wrap (byteAt x1_0 (x1_6).toNat))))).toNat 0))), (30, .val (.bool false)), (36, .pur (Value.pointer (some ⟨1, (((Args.N).getD ((w64 ((w64 ((256 : Int) * x1_5)) + (IntKind.i64.wrap (byteAt x1_0 (x1_6).toNat))))).toNat 0)).toNat, some 1⟩))), (37, .ld (Value.int .i64 ((Args.R).getD (((Args.N).getD ((w64 ((w64 ((256 : Int) * x1_5)) + (IntKind.i64.wrap (byteAt x1_0 (x1_6).toNat))))).toNat 0)).toNat 0))), (38, .val (.bool true)), (43, .pur (Value.pointer (some ⟨1, (((Args.N).getD ((w64 ((w64 ((256 : Int) * x1_5)) + (IntKind.i64.wrap (byteAt x1_0 (x1_6).toNat))))).toNat 0)).toNat, some 1⟩))), (44, .ld (Value.int .i64 ((Args.R).getD (((Args.N).getD ((w64 ((w64 ((256 : Int) * x1_5)) + (IntKind.i64.wrap (byteAt x1_0 (x1_6).toNat))))).toNat 0)).toNat 0)))]) (L := lT []) (wk := ⟨[1, 3, 6, 8, 9, 10], [(0, 0, false), (1, 1, false), (2, 2, false)], 3, 0⟩)
    (ps := [(Value.bool (x1_6 == (((x1_0).size : Nat) : Int))) = (Value.bool false),
    opIndex P 9 (Value.string x1_0) (Value.int .i64 x1_6) Ax.h0 = some ((Value.int .u8 (byteAt x1_0 (x1_6).toNat)), Ax.h0),
    opIndexAddr P 22 (Value.slice (some ⟨0, 0, some 1⟩) (Args.N).length Args.cN) (Value.int .i64 (w64 ((w64 ((256 : Int) * x1_5)) + (IntKind.i64.wrap (byteAt x1_0 (x1_6).toNat))))) Ax.h0 = some ((Value.pointer (some ⟨0, ((w64 ((w64 ((256 : Int) * x1_5)) + (IntKind.i64.wrap (byteAt x1_0 (x1_6).toNat))))).toNat, some 1⟩)), Ax.h0),
    loadG P 3 (Value.pointer (some ⟨0, ((w64 ((w64 ((256 : Int) * x1_5)) + (IntKind.i64.wrap (byteAt x1_0 (x1_6).toNat))))).toNat, some 1⟩)) Ax.h0 = some ((Value.int .i64 ((Args.N).getD ((w64 ((w64 ((256 : Int) * x1_5)) + (IntKind.i64.wrap (byteAt x1_0 (x1_6).toNat))))).toNat 0)), Ax.h0),
    (Value.bool (decide (((Args.N).getD ((w64 ((w64 ((256 : Int) * x1_5)) + (IntKind.i64.wrap (byteAt x1_0 (x1_6).toNat))))).toNat 0) < (0 : Int)))) = (Value.bool false),
    opIndexAddr P 22 (Value.slice (some ⟨1, 0, some 1⟩) (Args.R).length Args.cR) (Value.int .i64 ((Args.N).getD ((w64 ((w64 ((256 : Int) * x1_5)) + (IntKind.i64.wrap (byteAt x1_0 (x1_6).toNat))))).toNat 0)) Ax.h0 = some ((Value.pointer (some ⟨1, (((Args.N).getD ((w64 ((w64 ((256 : Int) * x1_5)) + (IntKind.i64.wrap (byteAt x1_0 (x1_6).toNat))))).toNat 0)).toNat, some 1⟩)), Ax.h0),
    loadG P 3 (Value.pointer (some ⟨1, (((Args.N).getD ((w64 ((w64 ((256 : Int) * x1_5)) + (IntKind.i64.wrap (byteAt x1_0 (x1_6).toNat))))).toNat 0)).toNat, some 1⟩)) Ax.h0 = some ((Value.int .i64 ((Args.R).getD (((Args.N).getD ((w64 ((w64 ((256 : Int) * x1_5)) + (IntKind.i64.wrap (byteAt x1_0 (x1_6).toNat))))).toNat 0)).toNat 0)), Ax.h0),
    (Value.bool (decide (((Args.R).getD (((Args.N).getD ((w64 ((w64 ((256 : Int) * x1_5)) + (IntKind.i64.wrap (byteAt x1_0 (x1_6).toNat))))).toNat 0)).toNat 0) ≥ (0 : Int)))) = (Value.bool true),
    opIndexAddr P 22 (Value.slice (some ⟨1, 0, some 1⟩) (Args.R).length Args.cR) (Value.int .i64 ((Args.N).getD ((w64 ((w64 ((256 : Int) * x1_5)) + (IntKind.i64.wrap (byteAt x1_0 (x1_6).toNat))))).toNat 0)) Ax.h0 = some ((Value.pointer (some ⟨1, (((Args.N).getD ((w64 ((w64 ((256 : Int) * x1_5)) + (IntKind.i64.wrap (byteAt x1_0 (x1_6).toNat))))).toNat 0)).toNat, some 1⟩)), Ax.h0),
    loadG P 3 (Value.pointer (some ⟨1, (((Args.N).getD ((w64 ((w64 ((256 : Int) * x1_5)) + (IntKind.i64.wrap (byteAt x1_0 (x1_6).toNat))))).toNat 0)).toNat, some 1⟩)) Ax.h0 = some ((Value.int .i64 ((Args.R).getD (((Args.N).getD ((w64 ((w64 ((256 : Int) * x1_5)) + (IntKind.i64.wrap (byteAt x1_0 (x1_6).toNat))))).toNat 0)).toNat 0)), Ax.h0)]) (by kernel_rfl) ⟨(veF hy1_1), (ixStr (by kernel_rfl) hy1_2), (ixW1 (e := 3) (by kernel_rfl) (by kernel_rfl) hy1_3), (ldW rfl (by kernel_rfl) (toNatLt hy1_3)), (vbF hy1_4), (ixW1 (e := 3) (by kernel_rfl) (by kernel_rfl) hy1_5), (ldW rfl (by kernel_rfl) (toNatLt hy1_5)), (vbT hy1_6), (ixW1 (e := 3) (by kernel_rfl) (by kernel_rfl) hy1_5), (ldW rfl (by kernel_rfl) (toNatLt hy1_5)), trivial⟩
set_option maxRecDepth 100000 in
theorem q_viewportref06Next_1_3 (n : Nat) (x1_0 : ByteArray) (x1_1 : Int) (x1_2 : Int) (x1_3 : Int) (x1_4 : Int) (x1_5 : Int) (x1_6 : Int) (hy1_1 : ¬ (x1_6 = (((x1_0).size : Nat) : Int))) (hy1_2 : 0 ≤ x1_6 ∧ x1_6 < (((x1_0).size : Nat) : Int)) (hy1_3 : 0 ≤ (w64 ((w64 ((256 : Int) * x1_5)) + (IntKind.i64.wrap (byteAt x1_0 (x1_6).toNat)))) ∧ (w64 ((w64 ((256 : Int) * x1_5)) + (IntKind.i64.wrap (byteAt x1_0 (x1_6).toNat)))) < (((Args.N).length : Nat) : Int)) (hy1_4 : ¬ (((Args.N).getD ((w64 ((w64 ((256 : Int) * x1_5)) + (IntKind.i64.wrap (byteAt x1_0 (x1_6).toNat))))).toNat 0) < (0 : Int))) (hy1_5 : 0 ≤ ((Args.N).getD ((w64 ((w64 ((256 : Int) * x1_5)) + (IntKind.i64.wrap (byteAt x1_0 (x1_6).toNat))))).toNat 0) ∧ ((Args.N).getD ((w64 ((w64 ((256 : Int) * x1_5)) + (IntKind.i64.wrap (byteAt x1_0 (x1_6).toNat))))).toNat 0) < (((Args.R).length : Nat) : Int)) (hy1_6 : ¬ (((Args.R).getD (((Args.N).getD ((w64 ((w64 ((256 : Int) * x1_5)) + (IntKind.i64.wrap (byteAt x1_0 (x1_6).toNat))))).toNat 0)).toNat 0) ≥ (0 : Int))) : CG P none (fnN P 8) 0 (codeOf P 8 [false, false, true, true, true, true, true]) (S_viewportref06Next_1 x1_0 x1_2 (x1_1, x1_3, x1_4, x1_5, x1_6)) (.normal, S_viewportref06Next_1 x1_0 x1_2 (x1_1, x1_3, (w64 (x1_6 + (1 : Int))), ((Args.N).getD ((w64 ((w64 ((256 : Int) * x1_5)) + (IntKind.i64.wrap (byteAt x1_0 (x1_6).toNat))))).toNat 0), (w64 (x1_6 + (1 : Int))))) :=
  runC_ok hm (A := aT [(12, .val (.bool false)), (21, .pur (Value.int .u8 (byteAt x1_0 (x1_6).toNat))), (24, .pur (Value.pointer (some ⟨0, ((w64 ((w64 ((256 : Int) * x1_5)) + (IntKind.i64.wrap (byteAt x1_0 (x1_6).toNat))))).toNat, some 1⟩))), (25, .ld (Value.int .i64 ((Args.N).getD ((w64 ((w64 ((256 : Int) * x1_5)) + (IntKind.i64.wrap (byteAt x1_0 (x1_6).toNat))))).toNat 0))), (30, .val (.bool false)), (36, .pur (Value.pointer (some ⟨1, (((Args.N).getD ((w64 ((w64 ((256 : Int) * x1_5)) + (IntKind.i64.wrap (byteAt x1_0 (x1_6).toNat))))).toNat 0)).toNat, some 1⟩))), (37, .ld (Value.int .i64 ((Args.R).getD (((Args.N).getD ((w64 ((w64 ((256 : Int) * x1_5)) + (IntKind.i64.wrap (byteAt x1_0 (x1_6).toNat))))).toNat 0)).toNat 0))), (38, .val (.bool false))]) (L := lT []) (wk := ⟨[1, 3, 6, 8, 9, 10], [(0, 0, false), (1, 1, false), (2, 2, false)], 3, 0⟩)
    (ps := [(Value.bool (x1_6 == (((x1_0).size : Nat) : Int))) = (Value.bool false),
    opIndex P 9 (Value.string x1_0) (Value.int .i64 x1_6) Ax.h0 = some ((Value.int .u8 (byteAt x1_0 (x1_6).toNat)), Ax.h0),
    opIndexAddr P 22 (Value.slice (some ⟨0, 0, some 1⟩) (Args.N).length Args.cN) (Value.int .i64 (w64 ((w64 ((256 : Int) * x1_5)) + (IntKind.i64.wrap (byteAt x1_0 (x1_6).toNat))))) Ax.h0 = some ((Value.pointer (some ⟨0, ((w64 ((w64 ((256 : Int) * x1_5)) + (IntKind.i64.wrap (byteAt x1_0 (x1_6).toNat))))).toNat, some 1⟩)), Ax.h0),
    loadG P 3 (Value.pointer (some ⟨0, ((w64 ((w64 ((256 : Int) * x1_5)) + (IntKind.i64.wrap (byteAt x1_0 (x1_6).toNat))))).toNat, some 1⟩)) Ax.h0 = some ((Value.int .i64 ((Args.N).getD ((w64 ((w64 ((256 : Int) * x1_5)) + (IntKind.i64.wrap (byteAt x1_0 (x1_6).toNat))))).toNat 0)), Ax.h0),
    (Value.bool (decide (((Args.N).getD ((w64 ((w64 ((256 : Int) * x1_5)) + (IntKind.i64.wrap (byteAt x1_0 (x1_6).toNat))))).toNat 0) < (0 : Int)))) = (Value.bool false),
    opIndexAddr P 22 (Value.slice (some ⟨1, 0, some 1⟩) (Args.R).length Args.cR) (Value.int .i64 ((Args.N).getD ((w64 ((w64 ((256 : Int) * x1_5)) + (IntKind.i64.wrap (byteAt x1_0 (x1_6).toNat))))).toNat 0)) Ax.h0 = some ((Value.pointer (some ⟨1, (((Args.N).getD ((w64 ((w64 ((256 : Int) * x1_5)) + (IntKind.i64.wrap (byteAt x1_0 (x1_6).toNat))))).toNat 0)).toNat, some 1⟩)), Ax.h0),
    loadG P 3 (Value.pointer (some ⟨1, (((Args.N).getD ((w64 ((w64 ((256 : Int) * x1_5)) + (IntKind.i64.wrap (byteAt x1_0 (x1_6).toNat))))).toNat 0)).toNat, some 1⟩)) Ax.h0 = some ((Value.int .i64 ((Args.R).getD (((Args.N).getD ((w64 ((w64 ((256 : Int) * x1_5)) + (IntKind.i64.wrap (byteAt x1_0 (x1_6).toNat))))).toNat 0)).toNat 0)), Ax.h0),
    (Value.bool (decide (((Args.R).getD (((Args.N).getD ((w64 ((w64 ((256 : Int) * x1_5)) + (IntKind.i64.wrap (byteAt x1_0 (x1_6).toNat))))).toNat 0)).toNat 0) ≥ (0 : Int)))) = (Value.bool false)]) (by kernel_rfl) ⟨(veF hy1_1), (ixStr (by kernel_rfl) hy1_2), (ixW1 (e := 3) (by kernel_rfl) (by kernel_rfl) hy1_3), (ldW rfl (by kernel_rfl) (toNatLt hy1_3)), (vbF hy1_4), (ixW1 (e := 3) (by kernel_rfl) (by kernel_rfl) hy1_5), (ldW rfl (by kernel_rfl) (toNatLt hy1_5)), (vbF hy1_6), trivial⟩
theorem m_viewportref06Next_1_ok (n : Nat) (x1_0 : ByteArray) (x1_2 : Int) (st : Int × Int × Int × Int × Int) (r : Int × Int × Int) (h : m_viewportref06Next_1 n x1_0 x1_2 st = some r) : CG P none (fnN P 8) 0 (codeOf P 8 [false, true, true, true, true, true]) (S_viewportref06Next_1 x1_0 x1_2 st) (X_viewportref06Next_1 x1_0 x1_2 r) :=
  CG.iter (b := codeOf P 8 [false, false, true, true, true, true, true]) (by kernel_rfl) (body := B_viewportref06Next_1 n x1_0 x1_2) (S := S_viewportref06Next_1 x1_0 x1_2) (X := X_viewportref06Next_1 x1_0 x1_2)
    (fun s s' h => by
    obtain ⟨x1_1, x1_3, x1_4, x1_5, x1_6⟩ := s
    unfold B_viewportref06Next_1 at h
    dsimp only at h
    by_cases hy1_1 : x1_6 = (((x1_0).size : Nat) : Int)
    · rw [if_pos hy1_1] at h
      cases h
    · rw [if_neg hy1_1] at h
      by_cases hy1_2 : 0 ≤ x1_6 ∧ x1_6 < (((x1_0).size : Nat) : Int)
      · rw [if_pos hy1_2] at h
        by_cases hy1_3 : 0 ≤ (w64 ((w64 ((256 : Int) * x1_5)) + (IntKind.i64.wrap (byteAt x1_0 (x1_6).toNat)))) ∧ (w64 ((w64 ((256 : Int) * x1_5)) + (IntKind.i64.wrap (byteAt x1_0 (x1_6).toNat)))) < (((Args.N).length : Nat) : Int)
        · rw [if_pos hy1_3] at h
          by_cases hy1_4 : ((Args.N).getD ((w64 ((w64 ((256 : Int) * x1_5)) + (IntKind.i64.wrap (byteAt x1_0 (x1_6).toNat))))).toNat 0) < (0 : Int)
          · rw [if_pos hy1_4] at h
            cases h
          · rw [if_neg hy1_4] at h
            by_cases hy1_5 : 0 ≤ ((Args.N).getD ((w64 ((w64 ((256 : Int) * x1_5)) + (IntKind.i64.wrap (byteAt x1_0 (x1_6).toNat))))).toNat 0) ∧ ((Args.N).getD ((w64 ((w64 ((256 : Int) * x1_5)) + (IntKind.i64.wrap (byteAt x1_0 (x1_6).toNat))))).toNat 0) < (((Args.R).length : Nat) : Int)
            · rw [if_pos hy1_5] at h
              by_cases hy1_6 : ((Args.R).getD (((Args.N).getD ((w64 ((w64 ((256 : Int) * x1_5)) + (IntKind.i64.wrap (byteAt x1_0 (x1_6).toNat))))).toNat 0)).toNat 0) ≥ (0 : Int)
              · rw [if_pos hy1_6] at h
                obtain rfl := Sum.inl.inj (Option.some.inj h); exact q_viewportref06Next_1_2 n x1_0 x1_1 x1_2 x1_3 x1_4 x1_5 x1_6 hy1_1 hy1_2 hy1_3 hy1_4 hy1_5 hy1_6
              · rw [if_neg hy1_6] at h
                obtain rfl := Sum.inl.inj (Option.some.inj h); exact q_viewportref06Next_1_3 n x1_0 x1_1 x1_2 x1_3 x1_4 x1_5 x1_6 hy1_1 hy1_2 hy1_3 hy1_4 hy1_5 hy1_6
            · rw [if_neg hy1_5] at h; cases h
        · rw [if_neg hy1_3] at h; cases h
      · rw [if_neg hy1_2] at h; cases h)
    (fun s r h => by
    obtain ⟨x1_1, x1_3, x1_4, x1_5, x1_6⟩ := s
    unfold B_viewportref06Next_1 at h
    dsimp only at h
    by_cases hy1_1 : x1_6 = (((x1_0).size : Nat) : Int)
    · rw [if_pos hy1_1] at h
      obtain rfl := Sum.inr.inj (Option.some.inj h); exact q_viewportref06Next_1_0 n x1_0 x1_1 x1_2 x1_3 x1_4 x1_5 x1_6 hy1_1
    · rw [if_neg hy1_1] at h
      by_cases hy1_2 : 0 ≤ x1_6 ∧ x1_6 < (((x1_0).size : Nat) : Int)
      · rw [if_pos hy1_2] at h
        by_cases hy1_3 : 0 ≤ (w64 ((w64 ((256 : Int) * x1_5)) + (IntKind.i64.wrap (byteAt x1_0 (x1_6).toNat)))) ∧ (w64 ((w64 ((256 : Int) * x1_5)) + (IntKind.i64.wrap (byteAt x1_0 (x1_6).toNat)))) < (((Args.N).length : Nat) : Int)
        · rw [if_pos hy1_3] at h
          by_cases hy1_4 : ((Args.N).getD ((w64 ((w64 ((256 : Int) * x1_5)) + (IntKind.i64.wrap (byteAt x1_0 (x1_6).toNat))))).toNat 0) < (0 : Int)
          · rw [if_pos hy1_4] at h
            obtain rfl := Sum.inr.inj (Option.some.inj h); exact q_viewportref06Next_1_1 n x1_0 x1_1 x1_2 x1_3 x1_4 x1_5 x1_6 hy1_1 hy1_2 hy1_3 hy1_4
          · rw [if_neg hy1_4] at h
            by_cases hy1_5 : 0 ≤ ((Args.N).getD ((w64 ((w64 ((256 : Int) * x1_5)) + (IntKind.i64.wrap (byteAt x1_0 (x1_6).toNat))))).toNat 0) ∧ ((Args.N).getD ((w64 ((w64 ((256 : Int) * x1_5)) + (IntKind.i64.wrap (byteAt x1_0 (x1_6).toNat))))).toNat 0) < (((Args.R).length : Nat) : Int)
            · rw [if_pos hy1_5] at h
              by_cases hy1_6 : ((Args.R).getD (((Args.N).getD ((w64 ((w64 ((256 : Int) * x1_5)) + (IntKind.i64.wrap (byteAt x1_0 (x1_6).toNat))))).toNat 0)).toNat 0) ≥ (0 : Int)
              · rw [if_pos hy1_6] at h
                cases h
              · rw [if_neg hy1_6] at h
                cases h
            · rw [if_neg hy1_5] at h; cases h
        · rw [if_neg hy1_3] at h; cases h
      · rw [if_neg hy1_2] at h; cases h)
    (fun r => by intro hx; cases hx) h
noncomputable def A_viewportref06Next (x : ByteArray) (a : Int) : List Value := [(Value.agg #[(Value.slice (some ⟨0, 0, some 1⟩) (Args.N).length Args.cN), (Value.slice (some ⟨1, 0, some 1⟩) (Args.R).length Args.cR)]), (Value.string x), (Value.int .i64 a)]
noncomputable def H_viewportref06Next (x : ByteArray) (a : Int) : AH := ⟨sB [], 0, 0⟩
noncomputable def V_viewportref06Next (x : ByteArray) (a : Int) (r : Int × Int × Int × Int × Bool) : Value := match r with
  | (o0, o1, o2, o3, o4) => (Value.tuple #[(Value.agg #[(Value.int .i64 o0), (Value.int .i64 o1), (Value.int .i64 o2), (Value.int .i64 o3)]), (Value.bool o4)])
noncomputable def R_viewportref06Next (x : ByteArray) (a : Int) (r : Int × Int × Int × Int × Bool) : AH := match r with
  | (o0, o1, o2, o3, o4) => ⟨sB [(0, (some (.cells (layT [(Value.int .i64 o0), (Value.int .i64 o1), (Value.int .i64 o2), (Value.int .i64 o3)]) 28)))], 1, 0⟩
def m_viewportref06Next (n : Nat) (x : ByteArray) (a : Int) : Option (Int × Int × Int × Int × Bool) :=
  (m_viewportref04Check n).bind fun c1_ =>
  if c1_ = (0 : Int) then
    if a < (0 : Int) then
      some (0, 0, 0, 0, false)
    else
      if a ≥ (((x).size : Nat) : Int) then
        some (0, 0, 0, 0, false)
      else
        (m_viewportref06Next_1 n x a ((-1), (w64 (a + (1 : Int))), 0, 0, a)).bind fun t => match t with
        | (c5_0, c5_1, c5_2) =>
          some (c5_0, a, c5_1, c5_2, true)
  else
    some (0, 0, 0, 0, false)
set_option maxRecDepth 100000 in
theorem p_viewportref06Next_0 (n : Nat) (x : ByteArray) (a : Int) (c1_ : Int) (hc1 : m_viewportref04Check n = some c1_) (hc2 : c1_ = (0 : Int)) (hc3 : a < (0 : Int)) : Gv P (.func 8) (A_viewportref06Next x a) (H_viewportref06Next x a) (V_viewportref06Next x a (0, 0, 0, 0, false)) (R_viewportref06Next x a (0, 0, 0, 0, false)) :=
  runF_ok hm (A := aT [(7, .call ⟨0, [], (V_viewportref04Check  c1_), (R_viewportref04Check  c1_), []⟩), (8, .val (.bool false)), (11, .val (.bool true))]) (L := lT []) (wk := ⟨[6, 7], [(0, 1, false)], 1, 0⟩)
    (ps := [Gv P (.func 27) A_viewportref04Check H_viewportref04Check (V_viewportref04Check  c1_) (R_viewportref04Check  c1_),
    (Value.bool (c1_ != (0 : Int))) = (Value.bool false),
    (Value.bool (decide (a < (0 : Int)))) = (Value.bool true)]) (by kernel_rfl) ⟨(m_viewportref04Check_ok n c1_ hc1), (vnF hc2), (vbT hc3), trivial⟩
set_option maxRecDepth 100000 in
theorem p_viewportref06Next_1 (n : Nat) (x : ByteArray) (a : Int) (c1_ : Int) (hc1 : m_viewportref04Check n = some c1_) (hc2 : c1_ = (0 : Int)) (hc3 : ¬ (a < (0 : Int))) (hc4 : a ≥ (((x).size : Nat) : Int)) : Gv P (.func 8) (A_viewportref06Next x a) (H_viewportref06Next x a) (V_viewportref06Next x a (0, 0, 0, 0, false)) (R_viewportref06Next x a (0, 0, 0, 0, false)) :=
  runF_ok hm (A := aT [(7, .call ⟨0, [], (V_viewportref04Check  c1_), (R_viewportref04Check  c1_), []⟩), (8, .val (.bool false)), (11, .val (.bool false)), (17, .val (.bool true))]) (L := lT []) (wk := ⟨[6, 7], [(0, 1, false)], 1, 0⟩)
    (ps := [Gv P (.func 27) A_viewportref04Check H_viewportref04Check (V_viewportref04Check  c1_) (R_viewportref04Check  c1_),
    (Value.bool (c1_ != (0 : Int))) = (Value.bool false),
    (Value.bool (decide (a < (0 : Int)))) = (Value.bool false),
    (Value.bool (decide (a ≥ (((x).size : Nat) : Int)))) = (Value.bool true)]) (by kernel_rfl) ⟨(m_viewportref04Check_ok n c1_ hc1), (vnF hc2), (vbF hc3), (vbT hc4), trivial⟩
set_option maxRecDepth 100000 in
theorem p_viewportref06Next_2 (n : Nat) (x : ByteArray) (a : Int) (c1_ : Int) (hc1 : m_viewportref04Check n = some c1_) (hc2 : c1_ = (0 : Int)) (hc3 : ¬ (a < (0 : Int))) (hc4 : ¬ (a ≥ (((x).size : Nat) : Int))) (c5_0 : Int) (c5_1 : Int) (c5_2 : Int) (hc5 : m_viewportref06Next_1 n x a ((-1), (w64 (a + (1 : Int))), 0, 0, a) = some (c5_0, c5_1, c5_2)) : Gv P (.func 8) (A_viewportref06Next x a) (H_viewportref06Next x a) (V_viewportref06Next x a (c5_0, a, c5_1, c5_2, true)) (R_viewportref06Next x a (c5_0, a, c5_1, c5_2, true)) :=
  runF_ok hm (A := aT [(7, .call ⟨0, [], (V_viewportref04Check  c1_), (R_viewportref04Check  c1_), []⟩), (8, .val (.bool false)), (11, .val (.bool false)), (17, .val (.bool false))]) (L := lT [(33, ⟨⟨[1, 3, 6, 8, 9, 10], [(0, 0, false), (1, 1, false), (2, 2, false)], 3, 0⟩, (X_viewportref06Next_1 x a (c5_0, c5_1, c5_2)).1, (X_viewportref06Next_1 x a (c5_0, c5_1, c5_2)).2⟩)]) (wk := ⟨[6, 7], [(0, 0, false)], 1, 0⟩)
    (ps := [Gv P (.func 27) A_viewportref04Check H_viewportref04Check (V_viewportref04Check  c1_) (R_viewportref04Check  c1_),
    (Value.bool (c1_ != (0 : Int))) = (Value.bool false),
    (Value.bool (decide (a < (0 : Int)))) = (Value.bool false),
    (Value.bool (decide (a ≥ (((x).size : Nat) : Int)))) = (Value.bool false),
    CG P none (fnN P 8) 0 (codeOf P 8 [false, true, true, true, true, true]) (S_viewportref06Next_1 x a ((-1), (w64 (a + (1 : Int))), 0, 0, a)) (X_viewportref06Next_1 x a (c5_0, c5_1, c5_2))]) (by kernel_rfl) ⟨(m_viewportref04Check_ok n c1_ hc1), (vnF hc2), (vbF hc3), (vbF hc4), (m_viewportref06Next_1_ok n x a ((-1), (w64 (a + (1 : Int))), 0, 0, a) (c5_0, c5_1, c5_2) hc5), trivial⟩
set_option maxRecDepth 100000 in
theorem p_viewportref06Next_3 (n : Nat) (x : ByteArray) (a : Int) (c1_ : Int) (hc1 : m_viewportref04Check n = some c1_) (hc2 : ¬ (c1_ = (0 : Int))) : Gv P (.func 8) (A_viewportref06Next x a) (H_viewportref06Next x a) (V_viewportref06Next x a (0, 0, 0, 0, false)) (R_viewportref06Next x a (0, 0, 0, 0, false)) :=
  runF_ok hm (A := aT [(7, .call ⟨0, [], (V_viewportref04Check  c1_), (R_viewportref04Check  c1_), []⟩), (8, .val (.bool true))]) (L := lT []) (wk := ⟨[6, 7], [(0, 1, false)], 1, 0⟩)
    (ps := [Gv P (.func 27) A_viewportref04Check H_viewportref04Check (V_viewportref04Check  c1_) (R_viewportref04Check  c1_),
    (Value.bool (c1_ != (0 : Int))) = (Value.bool true)]) (by kernel_rfl) ⟨(m_viewportref04Check_ok n c1_ hc1), (vnT hc2), trivial⟩
theorem m_viewportref06Next_ok (n : Nat) (x : ByteArray) (a : Int) (r : Int × Int × Int × Int × Bool) (h : m_viewportref06Next n x a = some r) : Gv P (.func 8) (A_viewportref06Next x a) (H_viewportref06Next x a) (V_viewportref06Next x a r) (R_viewportref06Next x a r) := by
  unfold m_viewportref06Next at h
  obtain ⟨c1_, hc1, h⟩ := Option.bind_eq_some_iff.1 h
  by_cases hc2 : c1_ = (0 : Int)
  · rw [if_pos hc2] at h
    by_cases hc3 : a < (0 : Int)
    · rw [if_pos hc3] at h
      obtain rfl := Option.some.inj h; exact p_viewportref06Next_0 n x a c1_ hc1 hc2 hc3
    · rw [if_neg hc3] at h
      by_cases hc4 : a ≥ (((x).size : Nat) : Int)
      · rw [if_pos hc4] at h
        obtain rfl := Option.some.inj h; exact p_viewportref06Next_1 n x a c1_ hc1 hc2 hc3 hc4
      · rw [if_neg hc4] at h
        obtain ⟨⟨c5_0, c5_1, c5_2⟩, hc5, h⟩ := Option.bind_eq_some_iff.1 h
        dsimp only at h
        obtain rfl := Option.some.inj h; exact p_viewportref06Next_2 n x a c1_ hc1 hc2 hc3 hc4 c5_0 c5_1 c5_2 hc5
  · rw [if_neg hc2] at h
    obtain rfl := Option.some.inj h; exact p_viewportref06Next_3 n x a c1_ hc1 hc2

noncomputable def S_viewportref06All_1 (x1_0 : ByteArray) (st : List (Int × Int × Int × Int) × Int) : XSt := match st with
  | (x1_1, x1_2) => (sT 29 [(1, (Value.string x1_0)), (2, (Value.pointer (some ⟨0, 0, none⟩))), (5, (slR x1_1 1 4)), (6, (Value.int .i64 x1_2))], [], ⟨sB [(0, (some (.cells (layT [(Value.slice (some ⟨0, 0, some 1⟩) (Args.N).length Args.cN), (Value.slice (some ⟨1, 0, some 1⟩) (Args.R).length Args.cR)]) 24))), (1, (nblkR rw_iiii x1_1 28))], 2, 0⟩)
noncomputable def X_viewportref06All_1 (x1_0 : ByteArray) (r : (Unit) ⊕ (List (Int × Int × Int × Int))) : Ex × XSt := match r with
  | .inl _ => (.ret, (sT 29 [(4, (Value.slice none 0 0))], [], ⟨sB [], 0, 0⟩))
  | .inr z1_0 => (.exit 0, (sT 29 [(5, (slR z1_0 0 4))], [], ⟨sB [(0, (nblkR rw_iiii z1_0 28))], 1, 0⟩))
def B_viewportref06All_1 (n : Nat) (x1_0 : ByteArray) (st : List (Int × Int × Int × Int) × Int) : Option ((List (Int × Int × Int × Int) × Int) ⊕ ((Unit) ⊕ (List (Int × Int × Int × Int)))) := match st with
  | (x1_1, x1_2) =>
    match x1_1 with
    | [] =>
      if x1_2 < (((x1_0).size : Nat) : Int) then
        (m_viewportref06Next n x1_0 x1_2).bind fun t => match t with
        | (y1_2_0, y1_2_1, y1_2_2, y1_2_3, y1_2_4) =>
          if y1_2_4 = true then
            some (.inl ([(y1_2_0, y1_2_1, y1_2_2, y1_2_3)], y1_2_2))
          else
            some (.inr (.inl ()))
      else
        some (.inr (.inr ([] : List (Int × Int × Int × Int))))
    | x1_1a :: x1_1t =>
      if x1_2 < (((x1_0).size : Nat) : Int) then
        (m_viewportref06Next n x1_0 x1_2).bind fun t => match t with
        | (y1_2_0, y1_2_1, y1_2_2, y1_2_3, y1_2_4) =>
          if y1_2_4 = true then
            if (((x1_1a :: x1_1t)).length + 1) * 32 ≤ 140737488355328 then
              some (.inl (((x1_1a :: x1_1t) ++ [(y1_2_0, y1_2_1, y1_2_2, y1_2_3)]), y1_2_2))
            else none
          else
            some (.inr (.inl ()))
      else
        some (.inr (.inr (x1_1a :: x1_1t)))
def m_viewportref06All_1 (n : Nat) (x1_0 : ByteArray) (st : List (Int × Int × Int × Int) × Int) : Option ((Unit) ⊕ (List (Int × Int × Int × Int))) := iterM (B_viewportref06All_1 n x1_0) n st
set_option maxRecDepth 100000 in
theorem q_viewportref06All_1_0 (n : Nat) (x1_0 : ByteArray) (x1_2 : Int) (hy1_1 : x1_2 < (((x1_0).size : Nat) : Int)) (y1_2_0 : Int) (y1_2_1 : Int) (y1_2_2 : Int) (y1_2_3 : Int) (y1_2_4 : Bool) (hy1_2 : m_viewportref06Next n x1_0 x1_2 = some (y1_2_0, y1_2_1, y1_2_2, y1_2_3, y1_2_4)) (hy1_3 : y1_2_4 = true) : CG P none (fnN P 11) 0 (codeOf P 11 [false, false, true, false, true, true]) (S_viewportref06All_1 x1_0 (([] : List (Int × Int × Int × Int)), x1_2)) (.normal, S_viewportref06All_1 x1_0 ([(y1_2_0, y1_2_1, y1_2_2, y1_2_3)], y1_2_2)) :=
  runC_ok hm (A := aT [(5, .val (.bool true)), (12, .call ⟨0, [], (V_viewportref06Next x1_0 x1_2 (y1_2_0, y1_2_1, y1_2_2, y1_2_3, y1_2_4)), (R_viewportref06Next x1_0 x1_2 (y1_2_0, y1_2_1, y1_2_2, y1_2_3, y1_2_4)), [(2, 0, false)]⟩), (22, .val (.bool false))]) (L := lT []) (wk := ⟨[1, 2, 5, 6], [(0, 0, false), (1, 5, false)], 2, 0⟩)
    (ps := [(Value.bool (decide (x1_2 < (((x1_0).size : Nat) : Int)))) = (Value.bool true),
    Gv P (.func 8) (A_viewportref06Next x1_0 x1_2) (H_viewportref06Next x1_0 x1_2) (V_viewportref06Next x1_0 x1_2 (y1_2_0, y1_2_1, y1_2_2, y1_2_3, y1_2_4)) (R_viewportref06Next x1_0 x1_2 (y1_2_0, y1_2_1, y1_2_2, y1_2_3, y1_2_4)),
    (Value.bool (!y1_2_4)) = (Value.bool false)]) (by kernel_rfl) ⟨(vbT hy1_1), (m_viewportref06Next_ok n x1_0 x1_2 (y1_2_0, y1_2_1, y1_2_2, y1_2_3, y1_2_4) hy1_2), (vBn hy1_3), trivial⟩
set_option maxRecDepth 100000 in
theorem q_viewportref06All_1_1 (n : Nat) (x1_0 : ByteArray) (x1_2 : Int) (hy1_1 : x1_2 < (((x1_0).size : Nat) : Int)) (y1_2_0 : Int) (y1_2_1 : Int) (y1_2_2 : Int) (y1_2_3 : Int) (y1_2_4 : Bool) (hy1_2 : m_viewportref06Next n x1_0 x1_2 = some (y1_2_0, y1_2_1, y1_2_2, y1_2_3, y1_2_4)) (hy1_3 : ¬ (y1_2_4 = true)) : CG P none (fnN P 11) 0 (codeOf P 11 [false, false, true, false, true, true]) (S_viewportref06All_1 x1_0 (([] : List (Int × Int × Int × Int)), x1_2)) (X_viewportref06All_1 x1_0 (.inl ())) :=
  runC_ok hm (A := aT [(5, .val (.bool true)), (12, .call ⟨0, [], (V_viewportref06Next x1_0 x1_2 (y1_2_0, y1_2_1, y1_2_2, y1_2_3, y1_2_4)), (R_viewportref06Next x1_0 x1_2 (y1_2_0, y1_2_1, y1_2_2, y1_2_3, y1_2_4)), [(2, 0, false)]⟩), (22, .val (.bool true))]) (L := lT []) (wk := ⟨[4], [], 0, 0⟩)
    (ps := [(Value.bool (decide (x1_2 < (((x1_0).size : Nat) : Int)))) = (Value.bool true),
    Gv P (.func 8) (A_viewportref06Next x1_0 x1_2) (H_viewportref06Next x1_0 x1_2) (V_viewportref06Next x1_0 x1_2 (y1_2_0, y1_2_1, y1_2_2, y1_2_3, y1_2_4)) (R_viewportref06Next x1_0 x1_2 (y1_2_0, y1_2_1, y1_2_2, y1_2_3, y1_2_4)),
    (Value.bool (!y1_2_4)) = (Value.bool true)]) (by kernel_rfl) ⟨(vbT hy1_1), (m_viewportref06Next_ok n x1_0 x1_2 (y1_2_0, y1_2_1, y1_2_2, y1_2_3, y1_2_4) hy1_2), (vBn (Bool.eq_false_iff.2 hy1_3)), trivial⟩
set_option maxRecDepth 100000 in
theorem q_viewportref06All_1_2 (n : Nat) (x1_0 : ByteArray) (x1_2 : Int) (hy1_1 : ¬ (x1_2 < (((x1_0).size : Nat) : Int))) : CG P none (fnN P 11) 0 (codeOf P 11 [false, false, true, false, true, true]) (S_viewportref06All_1 x1_0 (([] : List (Int × Int × Int × Int)), x1_2)) (X_viewportref06All_1 x1_0 (.inr ([] : List (Int × Int × Int × Int)))) :=
  runC_ok hm (A := aT [(5, .val (.bool false))]) (L := lT []) (wk := ⟨[5], [], 1, 0⟩)
    (ps := [(Value.bool (decide (x1_2 < (((x1_0).size : Nat) : Int)))) = (Value.bool false)]) (by kernel_rfl) ⟨(vbF hy1_1), trivial⟩
set_option maxRecDepth 100000 in
theorem q_viewportref06All_1_3 (n : Nat) (x1_0 : ByteArray) (x1_1a : Int × Int × Int × Int) (x1_1t : List (Int × Int × Int × Int)) (x1_2 : Int) (hy1_1 : x1_2 < (((x1_0).size : Nat) : Int)) (y1_2_0 : Int) (y1_2_1 : Int) (y1_2_2 : Int) (y1_2_3 : Int) (y1_2_4 : Bool) (hy1_2 : m_viewportref06Next n x1_0 x1_2 = some (y1_2_0, y1_2_1, y1_2_2, y1_2_3, y1_2_4)) (hy1_3 : y1_2_4 = true) (hy1_4 : (((x1_1a :: x1_1t)).length + 1) * 32 ≤ 140737488355328) : CG P none (fnN P 11) 0 (codeOf P 11 [false, false, true, false, true, true]) (S_viewportref06All_1 x1_0 ((x1_1a :: x1_1t), x1_2)) (.normal, S_viewportref06All_1 x1_0 (((x1_1a :: x1_1t) ++ [(y1_2_0, y1_2_1, y1_2_2, y1_2_3)]), y1_2_2)) :=
  runC_ok hm (A := aT [(5, .val (.bool true)), (12, .call ⟨0, [], (V_viewportref06Next x1_0 x1_2 (y1_2_0, y1_2_1, y1_2_2, y1_2_3, y1_2_4)), (R_viewportref06Next x1_0 x1_2 (y1_2_0, y1_2_1, y1_2_2, y1_2_3, y1_2_4)), [(2, 0, false)]⟩), (22, .val (.bool false)), (28, .app ⟨none, rows rw_iiii (x1_1a :: x1_1t), (rows rw_iiii ((x1_1a :: x1_1t) ++ [(y1_2_0, y1_2_1, y1_2_2, y1_2_3)])), (((x1_1a :: x1_1t) ++ [(y1_2_0, y1_2_1, y1_2_2, y1_2_3)])).length, false⟩)]) (L := lT []) (wk := ⟨[1, 2, 5, 6], [(0, 0, false), (1, 5, true)], 2, 0⟩)
    (ps := [(Value.bool (decide (x1_2 < (((x1_0).size : Nat) : Int)))) = (Value.bool true),
    Gv P (.func 8) (A_viewportref06Next x1_0 x1_2) (H_viewportref06Next x1_0 x1_2) (V_viewportref06Next x1_0 x1_2 (y1_2_0, y1_2_1, y1_2_2, y1_2_3, y1_2_4)) (R_viewportref06Next x1_0 x1_2 (y1_2_0, y1_2_1, y1_2_2, y1_2_3, y1_2_4)),
    (Value.bool (!y1_2_4)) = (Value.bool false),
    0 < 1,
    rdT (layT (rows rw_iiii (x1_1a :: x1_1t))) (Nat.mul ((x1_1a :: x1_1t)).length 4) 0 = some (rows rw_iiii (x1_1a :: x1_1t)),
    fits (Nat.add ((x1_1a :: x1_1t)).length 1) 32 = true,
    allCells [(Value.int .i64 y1_2_0), (Value.int .i64 y1_2_1), (Value.int .i64 y1_2_2), (Value.int .i64 y1_2_3)] = true,
    allCells (rows rw_iiii (x1_1a :: x1_1t)) = true,
    rows rw_iiii (x1_1a :: x1_1t) ++ [(Value.int .i64 y1_2_0), (Value.int .i64 y1_2_1), (Value.int .i64 y1_2_2), (Value.int .i64 y1_2_3)] = (rows rw_iiii ((x1_1a :: x1_1t) ++ [(y1_2_0, y1_2_1, y1_2_2, y1_2_3)])),
    Nat.add ((x1_1a :: x1_1t)).length 1 = (((x1_1a :: x1_1t) ++ [(y1_2_0, y1_2_1, y1_2_2, y1_2_3)])).length,
    FlatB (.cells (layT (rows rw_iiii ((x1_1a :: x1_1t) ++ [(y1_2_0, y1_2_1, y1_2_2, y1_2_3)]))) 28)]) (by kernel_rfl) ⟨(vbT hy1_1), (m_viewportref06Next_ok n x1_0 x1_2 (y1_2_0, y1_2_1, y1_2_2, y1_2_3, y1_2_4) hy1_2), (vBn hy1_3), ((by decide)), (rows_rd rwf_iiii _ _ rfl), (fits_ok hy1_4 (by have := hy1_4; show (_ : Nat) + _ ≤ _; omega)), (rfl), (rows_cells rwf_iiii _), (rows_app rw_iiii (x1_1a :: x1_1t) [(y1_2_0, y1_2_1, y1_2_2, y1_2_3)]), (by simp), (rows_flat rwf_iiii _ _), trivial⟩
set_option maxRecDepth 100000 in
theorem q_viewportref06All_1_4 (n : Nat) (x1_0 : ByteArray) (x1_1a : Int × Int × Int × Int) (x1_1t : List (Int × Int × Int × Int)) (x1_2 : Int) (hy1_1 : x1_2 < (((x1_0).size : Nat) : Int)) (y1_2_0 : Int) (y1_2_1 : Int) (y1_2_2 : Int) (y1_2_3 : Int) (y1_2_4 : Bool) (hy1_2 : m_viewportref06Next n x1_0 x1_2 = some (y1_2_0, y1_2_1, y1_2_2, y1_2_3, y1_2_4)) (hy1_3 : ¬ (y1_2_4 = true)) : CG P none (fnN P 11) 0 (codeOf P 11 [false, false, true, false, true, true]) (S_viewportref06All_1 x1_0 ((x1_1a :: x1_1t), x1_2)) (X_viewportref06All_1 x1_0 (.inl ())) :=
  runC_ok hm (A := aT [(5, .val (.bool true)), (12, .call ⟨0, [], (V_viewportref06Next x1_0 x1_2 (y1_2_0, y1_2_1, y1_2_2, y1_2_3, y1_2_4)), (R_viewportref06Next x1_0 x1_2 (y1_2_0, y1_2_1, y1_2_2, y1_2_3, y1_2_4)), [(2, 0, false)]⟩), (22, .val (.bool true))]) (L := lT []) (wk := ⟨[4], [], 0, 0⟩)
    (ps := [(Value.bool (decide (x1_2 < (((x1_0).size : Nat) : Int)))) = (Value.bool true),
    Gv P (.func 8) (A_viewportref06Next x1_0 x1_2) (H_viewportref06Next x1_0 x1_2) (V_viewportref06Next x1_0 x1_2 (y1_2_0, y1_2_1, y1_2_2, y1_2_3, y1_2_4)) (R_viewportref06Next x1_0 x1_2 (y1_2_0, y1_2_1, y1_2_2, y1_2_3, y1_2_4)),
    (Value.bool (!y1_2_4)) = (Value.bool true)]) (by kernel_rfl) ⟨(vbT hy1_1), (m_viewportref06Next_ok n x1_0 x1_2 (y1_2_0, y1_2_1, y1_2_2, y1_2_3, y1_2_4) hy1_2), (vBn (Bool.eq_false_iff.2 hy1_3)), trivial⟩
set_option maxRecDepth 100000 in
theorem q_viewportref06All_1_5 (n : Nat) (x1_0 : ByteArray) (x1_1a : Int × Int × Int × Int) (x1_1t : List (Int × Int × Int × Int)) (x1_2 : Int) (hy1_1 : ¬ (x1_2 < (((x1_0).size : Nat) : Int))) : CG P none (fnN P 11) 0 (codeOf P 11 [false, false, true, false, true, true]) (S_viewportref06All_1 x1_0 ((x1_1a :: x1_1t), x1_2)) (X_viewportref06All_1 x1_0 (.inr (x1_1a :: x1_1t))) :=
  runC_ok hm (A := aT [(5, .val (.bool false))]) (L := lT []) (wk := ⟨[5], [(0, 1, true)], 1, 0⟩)
    (ps := [(Value.bool (decide (x1_2 < (((x1_0).size : Nat) : Int)))) = (Value.bool false),
    FlatB (.cells (layT (rows rw_iiii (x1_1a :: x1_1t))) 28)]) (by kernel_rfl) ⟨(vbF hy1_1), (rows_flat rwf_iiii _ _), trivial⟩
theorem m_viewportref06All_1_ok (n : Nat) (x1_0 : ByteArray) (st : List (Int × Int × Int × Int) × Int) (r : (Unit) ⊕ (List (Int × Int × Int × Int))) (h : m_viewportref06All_1 n x1_0 st = some r) : CG P none (fnN P 11) 0 (codeOf P 11 [false, true, false, true, true]) (S_viewportref06All_1 x1_0 st) (X_viewportref06All_1 x1_0 r) :=
  CG.iter (b := codeOf P 11 [false, false, true, false, true, true]) (by kernel_rfl) (body := B_viewportref06All_1 n x1_0) (S := S_viewportref06All_1 x1_0) (X := X_viewportref06All_1 x1_0)
    (fun s s' h => by
    obtain ⟨x1_1, x1_2⟩ := s
    unfold B_viewportref06All_1 at h
    dsimp only at h
    cases x1_1 with
    | nil =>
      dsimp only at h
      by_cases hy1_1 : x1_2 < (((x1_0).size : Nat) : Int)
      · rw [if_pos hy1_1] at h
        obtain ⟨⟨y1_2_0, y1_2_1, y1_2_2, y1_2_3, y1_2_4⟩, hy1_2, h⟩ := Option.bind_eq_some_iff.1 h
        dsimp only at h
        by_cases hy1_3 : y1_2_4 = true
        · rw [if_pos hy1_3] at h
          obtain rfl := Sum.inl.inj (Option.some.inj h); exact q_viewportref06All_1_0 n x1_0 x1_2 hy1_1 y1_2_0 y1_2_1 y1_2_2 y1_2_3 y1_2_4 hy1_2 hy1_3
        · rw [if_neg hy1_3] at h
          cases h
      · rw [if_neg hy1_1] at h
        cases h
    | cons x1_1a x1_1t =>
      dsimp only at h
      by_cases hy1_1 : x1_2 < (((x1_0).size : Nat) : Int)
      · rw [if_pos hy1_1] at h
        obtain ⟨⟨y1_2_0, y1_2_1, y1_2_2, y1_2_3, y1_2_4⟩, hy1_2, h⟩ := Option.bind_eq_some_iff.1 h
        dsimp only at h
        by_cases hy1_3 : y1_2_4 = true
        · rw [if_pos hy1_3] at h
          by_cases hy1_4 : (((x1_1a :: x1_1t)).length + 1) * 32 ≤ 140737488355328
          · rw [if_pos hy1_4] at h
            obtain rfl := Sum.inl.inj (Option.some.inj h); exact q_viewportref06All_1_3 n x1_0 x1_1a x1_1t x1_2 hy1_1 y1_2_0 y1_2_1 y1_2_2 y1_2_3 y1_2_4 hy1_2 hy1_3 hy1_4
          · rw [if_neg hy1_4] at h; cases h
        · rw [if_neg hy1_3] at h
          cases h
      · rw [if_neg hy1_1] at h
        cases h)
    (fun s r h => by
    obtain ⟨x1_1, x1_2⟩ := s
    unfold B_viewportref06All_1 at h
    dsimp only at h
    cases x1_1 with
    | nil =>
      dsimp only at h
      by_cases hy1_1 : x1_2 < (((x1_0).size : Nat) : Int)
      · rw [if_pos hy1_1] at h
        obtain ⟨⟨y1_2_0, y1_2_1, y1_2_2, y1_2_3, y1_2_4⟩, hy1_2, h⟩ := Option.bind_eq_some_iff.1 h
        dsimp only at h
        by_cases hy1_3 : y1_2_4 = true
        · rw [if_pos hy1_3] at h
          cases h
        · rw [if_neg hy1_3] at h
          obtain rfl := Sum.inr.inj (Option.some.inj h); exact q_viewportref06All_1_1 n x1_0 x1_2 hy1_1 y1_2_0 y1_2_1 y1_2_2 y1_2_3 y1_2_4 hy1_2 hy1_3
      · rw [if_neg hy1_1] at h
        obtain rfl := Sum.inr.inj (Option.some.inj h); exact q_viewportref06All_1_2 n x1_0 x1_2 hy1_1
    | cons x1_1a x1_1t =>
      dsimp only at h
      by_cases hy1_1 : x1_2 < (((x1_0).size : Nat) : Int)
      · rw [if_pos hy1_1] at h
        obtain ⟨⟨y1_2_0, y1_2_1, y1_2_2, y1_2_3, y1_2_4⟩, hy1_2, h⟩ := Option.bind_eq_some_iff.1 h
        dsimp only at h
        by_cases hy1_3 : y1_2_4 = true
        · rw [if_pos hy1_3] at h
          by_cases hy1_4 : (((x1_1a :: x1_1t)).length + 1) * 32 ≤ 140737488355328
          · rw [if_pos hy1_4] at h
            cases h
          · rw [if_neg hy1_4] at h; cases h
        · rw [if_neg hy1_3] at h
          obtain rfl := Sum.inr.inj (Option.some.inj h); exact q_viewportref06All_1_4 n x1_0 x1_1a x1_1t x1_2 hy1_1 y1_2_0 y1_2_1 y1_2_2 y1_2_3 y1_2_4 hy1_2 hy1_3
      · rw [if_neg hy1_1] at h
        obtain rfl := Sum.inr.inj (Option.some.inj h); exact q_viewportref06All_1_5 n x1_0 x1_1a x1_1t x1_2 hy1_1)
    (fun r => by intro hx; rcases r with _ | _ <;> cases hx) h
noncomputable def A_viewportref06All (x : ByteArray) : List Value := [(Value.agg #[(Value.slice (some ⟨0, 0, some 1⟩) (Args.N).length Args.cN), (Value.slice (some ⟨1, 0, some 1⟩) (Args.R).length Args.cR)]), (Value.string x)]
noncomputable def H_viewportref06All (x : ByteArray) : AH := ⟨sB [], 0, 0⟩
noncomputable def V_viewportref06All (x : ByteArray) (r : List (Int × Int × Int × Int)) : Value := match r with
  | o0 => (slR o0 0 4)
noncomputable def R_viewportref06All (x : ByteArray) (r : List (Int × Int × Int × Int)) : AH := match r with
  | o0 => ⟨sB [(0, (nblkR rw_iiii o0 28))], 1, 0⟩
def m_viewportref06All (n : Nat) (x : ByteArray) : Option (List (Int × Int × Int × Int)) :=
  match m_viewportref06All_1 n x (([] : List (Int × Int × Int × Int)), 0) with
  | none => none
  | some (.inl _) =>
    some ([] : List (Int × Int × Int × Int))
  | some (.inr c1_) =>
    match c1_ with
    | [] =>
      some ([] : List (Int × Int × Int × Int))
    | c1_a :: c1_t =>
      some (c1_a :: c1_t)
set_option maxRecDepth 100000 in
theorem p_viewportref06All_0 (n : Nat) (x : ByteArray) (hc1 : m_viewportref06All_1 n x (([] : List (Int × Int × Int × Int)), 0) = some (.inl ())) : Gv P (.func 11) (A_viewportref06All x) (H_viewportref06All x) (V_viewportref06All x ([] : List (Int × Int × Int × Int))) (R_viewportref06All x ([] : List (Int × Int × Int × Int))) :=
  runF_ok hm (A := aT []) (L := lT [(9, ⟨⟨[1, 2, 5, 6], [(0, 0, false)], 2, 0⟩, (X_viewportref06All_1 x (.inl ())).1, (X_viewportref06All_1 x (.inl ())).2⟩)]) (wk := ⟨[4], [], 1, 0⟩)
    (ps := [CG P none (fnN P 11) 0 (codeOf P 11 [false, true, false, true, true]) (S_viewportref06All_1 x (([] : List (Int × Int × Int × Int)), 0)) (X_viewportref06All_1 x (.inl ()))]) (by kernel_rfl) ⟨(m_viewportref06All_1_ok n x (([] : List (Int × Int × Int × Int)), 0) (.inl ()) hc1), trivial⟩
set_option maxRecDepth 100000 in
theorem p_viewportref06All_1 (n : Nat) (x : ByteArray) (hc1 : m_viewportref06All_1 n x (([] : List (Int × Int × Int × Int)), 0) = some (.inr [])) : Gv P (.func 11) (A_viewportref06All x) (H_viewportref06All x) (V_viewportref06All x ([] : List (Int × Int × Int × Int))) (R_viewportref06All x ([] : List (Int × Int × Int × Int))) :=
  runF_ok hm (A := aT []) (L := lT [(9, ⟨⟨[1, 2, 5, 6], [(0, 0, false)], 2, 0⟩, (X_viewportref06All_1 x (.inr ([] : List (Int × Int × Int × Int)))).1, (X_viewportref06All_1 x (.inr ([] : List (Int × Int × Int × Int)))).2⟩)]) (wk := ⟨[4], [], 1, 0⟩)
    (ps := [CG P none (fnN P 11) 0 (codeOf P 11 [false, true, false, true, true]) (S_viewportref06All_1 x (([] : List (Int × Int × Int × Int)), 0)) (X_viewportref06All_1 x (.inr ([] : List (Int × Int × Int × Int))))]) (by kernel_rfl) ⟨(m_viewportref06All_1_ok n x (([] : List (Int × Int × Int × Int)), 0) (.inr ([] : List (Int × Int × Int × Int))) hc1), trivial⟩
set_option maxRecDepth 100000 in
theorem p_viewportref06All_2 (n : Nat) (x : ByteArray) (c1_a : Int × Int × Int × Int) (c1_t : List (Int × Int × Int × Int)) (hc1 : m_viewportref06All_1 n x (([] : List (Int × Int × Int × Int)), 0) = some (.inr (c1_a :: c1_t))) : Gv P (.func 11) (A_viewportref06All x) (H_viewportref06All x) (V_viewportref06All x (c1_a :: c1_t)) (R_viewportref06All x (c1_a :: c1_t)) :=
  runF_ok hm (A := aT []) (L := lT [(9, ⟨⟨[1, 2, 5, 6], [(0, 0, false)], 2, 0⟩, (X_viewportref06All_1 x (.inr (c1_a :: c1_t))).1, (X_viewportref06All_1 x (.inr (c1_a :: c1_t))).2⟩)]) (wk := ⟨[4], [(0, 0, true)], 1, 0⟩)
    (ps := [CG P none (fnN P 11) 0 (codeOf P 11 [false, true, false, true, true]) (S_viewportref06All_1 x (([] : List (Int × Int × Int × Int)), 0)) (X_viewportref06All_1 x (.inr (c1_a :: c1_t))),
    FlatB (.cells (layT (rows rw_iiii (c1_a :: c1_t))) 28)]) (by kernel_rfl) ⟨(m_viewportref06All_1_ok n x (([] : List (Int × Int × Int × Int)), 0) (.inr (c1_a :: c1_t)) hc1), (rows_flat rwf_iiii _ _), trivial⟩
theorem m_viewportref06All_ok (n : Nat) (x : ByteArray) (r : List (Int × Int × Int × Int)) (h : m_viewportref06All n x = some r) : Gv P (.func 11) (A_viewportref06All x) (H_viewportref06All x) (V_viewportref06All x r) (R_viewportref06All x r) := by
  unfold m_viewportref06All at h
  rcases hc1 : m_viewportref06All_1 n x (([] : List (Int × Int × Int × Int)), 0) with _ | (⟨⟩ | c1_)
  · rw [hc1] at h; cases h
  · rw [hc1] at h
    dsimp only at h
    obtain rfl := Option.some.inj h; exact p_viewportref06All_0 n x hc1
  · rw [hc1] at h
    dsimp only at h
    cases c1_ with
    | nil =>
      dsimp only at h
      obtain rfl := Option.some.inj h; exact p_viewportref06All_1 n x hc1
    | cons c1_a c1_t =>
      dsimp only at h
      obtain rfl := Option.some.inj h; exact p_viewportref06All_2 n x c1_a c1_t hc1

noncomputable def S_viewportkitSameapiLexemec_1 (x1_0 : List (Int × Int × Int × Int)) (x1_1 : List (Int × Int × Int × Int)) (st : Int) : XSt := match st with
  | x1_2 => (sT 26 [(0, (Value.slice (some ⟨0, 0, none⟩) (x1_0).length (Nat.add big 4))), (1, (Value.slice (some ⟨1, 0, none⟩) (x1_1).length (Nat.add big 4))), (5, (Value.int .i64 x1_2))], [], ⟨sB [(0, (some (.cells (layT (rows rw_iiii x1_0)) 28))), (1, (some (.cells (layT (rows rw_iiii x1_1)) 28)))], 2, 2⟩)
noncomputable def X_viewportkitSameapiLexemec_1 (x1_0 : List (Int × Int × Int × Int)) (x1_1 : List (Int × Int × Int × Int)) (r : (Unit) ⊕ (Unit)) : Ex × XSt := match r with
  | .inl _ => (.ret, (sT 26 [(4, (Value.bool false))], [], ⟨sB [], 2, 2⟩))
  | .inr _ => (.exit 0, (sT 26 [], [], ⟨sB [], 2, 2⟩))
def B_viewportkitSameapiLexemec_1 (n : Nat) (x1_0 : List (Int × Int × Int × Int)) (x1_1 : List (Int × Int × Int × Int)) (st : Int) : Option ((Int) ⊕ ((Unit) ⊕ (Unit))) := match st with
  | x1_2 =>
    if x1_2 < (((x1_0).length : Nat) : Int) then
      if 0 ≤ x1_2 ∧ x1_2 < (((x1_0).length : Nat) : Int) then
        if 0 ≤ x1_2 ∧ x1_2 < (((x1_1).length : Nat) : Int) then
          if (!(((((x1_0).getD (x1_2).toNat (0, 0, 0, 0)).1) == (((x1_1).getD (x1_2).toNat (0, 0, 0, 0)).1)) && (((((x1_0).getD (x1_2).toNat (0, 0, 0, 0)).2.1) == (((x1_1).getD (x1_2).toNat (0, 0, 0, 0)).2.1)) && (((((x1_0).getD (x1_2).toNat (0, 0, 0, 0)).2.2.1) == (((x1_1).getD (x1_2).toNat (0, 0, 0, 0)).2.2.1)) && (((((x1_0).getD (x1_2).toNat (0, 0, 0, 0)).2.2.2) == (((x1_1).getD (x1_2).toNat (0, 0, 0, 0)).2.2.2)) && true))))) = true then
            some (.inr (.inl ()))
          else
            some (.inl (w64 (x1_2 + (1 : Int))))
        else none
      else none
    else
      some (.inr (.inr ()))
def m_viewportkitSameapiLexemec_1 (n : Nat) (x1_0 : List (Int × Int × Int × Int)) (x1_1 : List (Int × Int × Int × Int)) (st : Int) : Option ((Unit) ⊕ (Unit)) := iterM (B_viewportkitSameapiLexemec_1 n x1_0 x1_1) n st
set_option maxRecDepth 100000 in
theorem q_viewportkitSameapiLexemec_1_0 (n : Nat) (x1_0 : List (Int × Int × Int × Int)) (x1_1 : List (Int × Int × Int × Int)) (x1_2 : Int) (hy1_1 : x1_2 < (((x1_0).length : Nat) : Int)) (hy1_2 : 0 ≤ x1_2 ∧ x1_2 < (((x1_0).length : Nat) : Int)) (hy1_3 : 0 ≤ x1_2 ∧ x1_2 < (((x1_1).length : Nat) : Int)) (hy1_4 : (!(((((x1_0).getD (x1_2).toNat (0, 0, 0, 0)).1) == (((x1_1).getD (x1_2).toNat (0, 0, 0, 0)).1)) && (((((x1_0).getD (x1_2).toNat (0, 0, 0, 0)).2.1) == (((x1_1).getD (x1_2).toNat (0, 0, 0, 0)).2.1)) && (((((x1_0).getD (x1_2).toNat (0, 0, 0, 0)).2.2.1) == (((x1_1).getD (x1_2).toNat (0, 0, 0, 0)).2.2.1)) && (((((x1_0).getD (x1_2).toNat (0, 0, 0, 0)).2.2.2) == (((x1_1).getD (x1_2).toNat (0, 0, 0, 0)).2.2.2)) && true))))) = true) : CG P none (fnN P 9) 2 (codeOf P 9 [false, false, true, false, true, true]) (S_viewportkitSameapiLexemec_1 x1_0 x1_1 x1_2) (X_viewportkitSameapiLexemec_1 x1_0 x1_1 (.inl ())) :=
  runC_ok hm (A := aT [(5, .val (.bool true)), (12, .pur (Value.pointer (some ⟨0, ((x1_2).toNat * 4), none⟩))), (13, .ld (Value.agg #[(Value.int .i64 (((x1_0).getD (x1_2).toNat (0, 0, 0, 0)).1)), (Value.int .i64 (((x1_0).getD (x1_2).toNat (0, 0, 0, 0)).2.1)), (Value.int .i64 (((x1_0).getD (x1_2).toNat (0, 0, 0, 0)).2.2.1)), (Value.int .i64 (((x1_0).getD (x1_2).toNat (0, 0, 0, 0)).2.2.2))])), (16, .pur (Value.pointer (some ⟨1, ((x1_2).toNat * 4), none⟩))), (17, .ld (Value.agg #[(Value.int .i64 (((x1_1).getD (x1_2).toNat (0, 0, 0, 0)).1)), (Value.int .i64 (((x1_1).getD (x1_2).toNat (0, 0, 0, 0)).2.1)), (Value.int .i64 (((x1_1).getD (x1_2).toNat (0, 0, 0, 0)).2.2.1)), (Value.int .i64 (((x1_1).getD (x1_2).toNat (0, 0, 0, 0)).2.2.2))])), (19, .val (.bool true))]) (L := lT []) (wk := ⟨[4], [], 2, 2⟩)
    (ps := [(Value.bool (decide (x1_2 < (((x1_0).length : Nat) : Int)))) = (Value.bool true),
    opIndexAddr P 32 (Value.slice (some ⟨0, 0, none⟩) (x1_0).length (Nat.add big 4)) (Value.int .i64 x1_2) Ax.h0 = some ((Value.pointer (some ⟨0, ((x1_2).toNat * 4), none⟩)), Ax.h0),
    rdT (layT (rows rw_iiii x1_0)) 4 ((x1_2).toNat * 4) = some [(Value.int .i64 (((x1_0).getD (x1_2).toNat (0, 0, 0, 0)).1)), (Value.int .i64 (((x1_0).getD (x1_2).toNat (0, 0, 0, 0)).2.1)), (Value.int .i64 (((x1_0).getD (x1_2).toNat (0, 0, 0, 0)).2.2.1)), (Value.int .i64 (((x1_0).getD (x1_2).toNat (0, 0, 0, 0)).2.2.2))],
    opIndexAddr P 32 (Value.slice (some ⟨1, 0, none⟩) (x1_1).length (Nat.add big 4)) (Value.int .i64 x1_2) Ax.h0 = some ((Value.pointer (some ⟨1, ((x1_2).toNat * 4), none⟩)), Ax.h0),
    rdT (layT (rows rw_iiii x1_1)) 4 ((x1_2).toNat * 4) = some [(Value.int .i64 (((x1_1).getD (x1_2).toNat (0, 0, 0, 0)).1)), (Value.int .i64 (((x1_1).getD (x1_2).toNat (0, 0, 0, 0)).2.1)), (Value.int .i64 (((x1_1).getD (x1_2).toNat (0, 0, 0, 0)).2.2.1)), (Value.int .i64 (((x1_1).getD (x1_2).toNat (0, 0, 0, 0)).2.2.2))],
    (Value.bool (!(((((x1_0).getD (x1_2).toNat (0, 0, 0, 0)).1) == (((x1_1).getD (x1_2).toNat (0, 0, 0, 0)).1)) && (((((x1_0).getD (x1_2).toNat (0, 0, 0, 0)).2.1) == (((x1_1).getD (x1_2).toNat (0, 0, 0, 0)).2.1)) && (((((x1_0).getD (x1_2).toNat (0, 0, 0, 0)).2.2.1) == (((x1_1).getD (x1_2).toNat (0, 0, 0, 0)).2.2.1)) && (((((x1_0).getD (x1_2).toNat (0, 0, 0, 0)).2.2.2) == (((x1_1).getD (x1_2).toNat (0, 0, 0, 0)).2.2.2)) && true)))))) = (Value.bool true)]) (by kernel_rfl) ⟨(vbT hy1_1), (ixS (e := 28) (by kernel_rfl) (by kernel_rfl) (hy1_2).1 (hy1_2).2), (rows_rdp rwf_iiii (0, 0, 0, 0) (i := (x1_2).toNat) (j := 0) ((x1_2).toNat * 4) rfl (toNatLt hy1_2) (by decide) rfl), (ixS (e := 28) (by kernel_rfl) (by kernel_rfl) (hy1_3).1 (hy1_3).2), (rows_rdp rwf_iiii (0, 0, 0, 0) (i := (x1_2).toNat) (j := 0) ((x1_2).toNat * 4) rfl (toNatLt hy1_3) (by decide) rfl), (vB hy1_4), trivial⟩
set_option maxRecDepth 100000 in
theorem q_viewportkitSameapiLexemec_1_1 (n : Nat) (x1_0 : List (Int × Int × Int × Int)) (x1_1 : List (Int × Int × Int × Int)) (x1_2 : Int) (hy1_1 : x1_2 < (((x1_0).length : Nat) : Int)) (hy1_2 : 0 ≤ x1_2 ∧ x1_2 < (((x1_0).length : Nat) : Int)) (hy1_3 : 0 ≤ x1_2 ∧ x1_2 < (((x1_1).length : Nat) : Int)) (hy1_4 : ¬ ((!(((((x1_0).getD (x1_2).toNat (0, 0, 0, 0)).1) == (((x1_1).getD (x1_2).toNat (0, 0, 0, 0)).1)) && (((((x1_0).getD (x1_2).toNat (0, 0, 0, 0)).2.1) == (((x1_1).getD (x1_2).toNat (0, 0, 0, 0)).2.1)) && (((((x1_0).getD (x1_2).toNat (0, 0, 0, 0)).2.2.1) == (((x1_1).getD (x1_2).toNat (0, 0, 0, 0)).2.2.1)) && (((((x1_0).getD (x1_2).toNat (0, 0, 0, 0)).2.2.2) == (((x1_1).getD (x1_2).toNat (0, 0, 0, 0)).2.2.2)) && true))))) = true)) : CG P none (fnN P 9) 2 (codeOf P 9 [false, false, true, false, true, true]) (S_viewportkitSameapiLexemec_1 x1_0 x1_1 x1_2) (.normal, S_viewportkitSameapiLexemec_1 x1_0 x1_1 (w64 (x1_2 + (1 : Int)))) :=
  runC_ok hm (A := aT [(5, .val (.bool true)), (12, .pur (Value.pointer (some ⟨0, ((x1_2).toNat * 4), none⟩))), (13, .ld (Value.agg #[(Value.int .i64 (((x1_0).getD (x1_2).toNat (0, 0, 0, 0)).1)), (Value.int .i64 (((x1_0).getD (x1_2).toNat (0, 0, 0, 0)).2.1)), (Value.int .i64 (((x1_0).getD (x1_2).toNat (0, 0, 0, 0)).2.2.1)), (Value.int .i64 (((x1_0).getD (x1_2).toNat (0, 0, 0, 0)).2.2.2))])), (16, .pur (Value.pointer (some ⟨1, ((x1_2).toNat * 4), none⟩))), (17, .ld (Value.agg #[(Value.int .i64 (((x1_1).getD (x1_2).toNat (0, 0, 0, 0)).1)), (Value.int .i64 (((x1_1).getD (x1_2).toNat (0, 0, 0, 0)).2.1)), (Value.int .i64 (((x1_1).getD (x1_2).toNat (0, 0, 0, 0)).2.2.1)), (Value.int .i64 (((x1_1).getD (x1_2).toNat (0, 0, 0, 0)).2.2.2))])), (19, .val (.bool false))]) (L := lT []) (wk := ⟨[0, 1, 5], [(0, 0, true), (1, 1, true)], 2, 2⟩)
    (ps := [(Value.bool (decide (x1_2 < (((x1_0).length : Nat) : Int)))) = (Value.bool true),
    opIndexAddr P 32 (Value.slice (some ⟨0, 0, none⟩) (x1_0).length (Nat.add big 4)) (Value.int .i64 x1_2) Ax.h0 = some ((Value.pointer (some ⟨0, ((x1_2).toNat * 4), none⟩)), Ax.h0),
    rdT (layT (rows rw_iiii x1_0)) 4 ((x1_2).toNat * 4) = some [(Value.int .i64 (((x1_0).getD (x1_2).toNat (0, 0, 0, 0)).1)), (Value.int .i64 (((x1_0).getD (x1_2).toNat (0, 0, 0, 0)).2.1)), (Value.int .i64 (((x1_0).getD (x1_2).toNat (0, 0, 0, 0)).2.2.1)), (Value.int .i64 (((x1_0).getD (x1_2).toNat (0, 0, 0, 0)).2.2.2))],
    opIndexAddr P 32 (Value.slice (some ⟨1, 0, none⟩) (x1_1).length (Nat.add big 4)) (Value.int .i64 x1_2) Ax.h0 = some ((Value.pointer (some ⟨1, ((x1_2).toNat * 4), none⟩)), Ax.h0),
    rdT (layT (rows rw_iiii x1_1)) 4 ((x1_2).toNat * 4) = some [(Value.int .i64 (((x1_1).getD (x1_2).toNat (0, 0, 0, 0)).1)), (Value.int .i64 (((x1_1).getD (x1_2).toNat (0, 0, 0, 0)).2.1)), (Value.int .i64 (((x1_1).getD (x1_2).toNat (0, 0, 0, 0)).2.2.1)), (Value.int .i64 (((x1_1).getD (x1_2).toNat (0, 0, 0, 0)).2.2.2))],
    (Value.bool (!(((((x1_0).getD (x1_2).toNat (0, 0, 0, 0)).1) == (((x1_1).getD (x1_2).toNat (0, 0, 0, 0)).1)) && (((((x1_0).getD (x1_2).toNat (0, 0, 0, 0)).2.1) == (((x1_1).getD (x1_2).toNat (0, 0, 0, 0)).2.1)) && (((((x1_0).getD (x1_2).toNat (0, 0, 0, 0)).2.2.1) == (((x1_1).getD (x1_2).toNat (0, 0, 0, 0)).2.2.1)) && (((((x1_0).getD (x1_2).toNat (0, 0, 0, 0)).2.2.2) == (((x1_1).getD (x1_2).toNat (0, 0, 0, 0)).2.2.2)) && true)))))) = (Value.bool false),
    FlatB (.cells (layT (rows rw_iiii x1_0)) 28),
    FlatB (.cells (layT (rows rw_iiii x1_1)) 28)]) (by kernel_rfl) ⟨(vbT hy1_1), (ixS (e := 28) (by kernel_rfl) (by kernel_rfl) (hy1_2).1 (hy1_2).2), (rows_rdp rwf_iiii (0, 0, 0, 0) (i := (x1_2).toNat) (j := 0) ((x1_2).toNat * 4) rfl (toNatLt hy1_2) (by decide) rfl), (ixS (e := 28) (by kernel_rfl) (by kernel_rfl) (hy1_3).1 (hy1_3).2), (rows_rdp rwf_iiii (0, 0, 0, 0) (i := (x1_2).toNat) (j := 0) ((x1_2).toNat * 4) rfl (toNatLt hy1_3) (by decide) rfl), (vB (Bool.eq_false_iff.2 hy1_4)), (rows_flat rwf_iiii _ _), (rows_flat rwf_iiii _ _), trivial⟩
set_option maxRecDepth 100000 in
theorem q_viewportkitSameapiLexemec_1_2 (n : Nat) (x1_0 : List (Int × Int × Int × Int)) (x1_1 : List (Int × Int × Int × Int)) (x1_2 : Int) (hy1_1 : ¬ (x1_2 < (((x1_0).length : Nat) : Int))) : CG P none (fnN P 9) 2 (codeOf P 9 [false, false, true, false, true, true]) (S_viewportkitSameapiLexemec_1 x1_0 x1_1 x1_2) (X_viewportkitSameapiLexemec_1 x1_0 x1_1 (.inr ())) :=
  runC_ok hm (A := aT [(5, .val (.bool false))]) (L := lT []) (wk := ⟨[], [], 2, 2⟩)
    (ps := [(Value.bool (decide (x1_2 < (((x1_0).length : Nat) : Int)))) = (Value.bool false)]) (by kernel_rfl) ⟨(vbF hy1_1), trivial⟩
theorem m_viewportkitSameapiLexemec_1_ok (n : Nat) (x1_0 : List (Int × Int × Int × Int)) (x1_1 : List (Int × Int × Int × Int)) (st : Int) (r : (Unit) ⊕ (Unit)) (h : m_viewportkitSameapiLexemec_1 n x1_0 x1_1 st = some r) : CG P none (fnN P 9) 2 (codeOf P 9 [false, true, false, true, true]) (S_viewportkitSameapiLexemec_1 x1_0 x1_1 st) (X_viewportkitSameapiLexemec_1 x1_0 x1_1 r) :=
  CG.iter (b := codeOf P 9 [false, false, true, false, true, true]) (by kernel_rfl) (body := B_viewportkitSameapiLexemec_1 n x1_0 x1_1) (S := S_viewportkitSameapiLexemec_1 x1_0 x1_1) (X := X_viewportkitSameapiLexemec_1 x1_0 x1_1)
    (fun x1_2 s' h => by
    unfold B_viewportkitSameapiLexemec_1 at h
    dsimp only at h
    by_cases hy1_1 : x1_2 < (((x1_0).length : Nat) : Int)
    · rw [if_pos hy1_1] at h
      by_cases hy1_2 : 0 ≤ x1_2 ∧ x1_2 < (((x1_0).length : Nat) : Int)
      · rw [if_pos hy1_2] at h
        by_cases hy1_3 : 0 ≤ x1_2 ∧ x1_2 < (((x1_1).length : Nat) : Int)
        · rw [if_pos hy1_3] at h
          by_cases hy1_4 : (!(((((x1_0).getD (x1_2).toNat (0, 0, 0, 0)).1) == (((x1_1).getD (x1_2).toNat (0, 0, 0, 0)).1)) && (((((x1_0).getD (x1_2).toNat (0, 0, 0, 0)).2.1) == (((x1_1).getD (x1_2).toNat (0, 0, 0, 0)).2.1)) && (((((x1_0).getD (x1_2).toNat (0, 0, 0, 0)).2.2.1) == (((x1_1).getD (x1_2).toNat (0, 0, 0, 0)).2.2.1)) && (((((x1_0).getD (x1_2).toNat (0, 0, 0, 0)).2.2.2) == (((x1_1).getD (x1_2).toNat (0, 0, 0, 0)).2.2.2)) && true))))) = true
          · rw [if_pos hy1_4] at h
            cases h
          · rw [if_neg hy1_4] at h
            obtain rfl := Sum.inl.inj (Option.some.inj h); exact q_viewportkitSameapiLexemec_1_1 n x1_0 x1_1 x1_2 hy1_1 hy1_2 hy1_3 hy1_4
        · rw [if_neg hy1_3] at h; cases h
      · rw [if_neg hy1_2] at h; cases h
    · rw [if_neg hy1_1] at h
      cases h)
    (fun x1_2 r h => by
    unfold B_viewportkitSameapiLexemec_1 at h
    dsimp only at h
    by_cases hy1_1 : x1_2 < (((x1_0).length : Nat) : Int)
    · rw [if_pos hy1_1] at h
      by_cases hy1_2 : 0 ≤ x1_2 ∧ x1_2 < (((x1_0).length : Nat) : Int)
      · rw [if_pos hy1_2] at h
        by_cases hy1_3 : 0 ≤ x1_2 ∧ x1_2 < (((x1_1).length : Nat) : Int)
        · rw [if_pos hy1_3] at h
          by_cases hy1_4 : (!(((((x1_0).getD (x1_2).toNat (0, 0, 0, 0)).1) == (((x1_1).getD (x1_2).toNat (0, 0, 0, 0)).1)) && (((((x1_0).getD (x1_2).toNat (0, 0, 0, 0)).2.1) == (((x1_1).getD (x1_2).toNat (0, 0, 0, 0)).2.1)) && (((((x1_0).getD (x1_2).toNat (0, 0, 0, 0)).2.2.1) == (((x1_1).getD (x1_2).toNat (0, 0, 0, 0)).2.2.1)) && (((((x1_0).getD (x1_2).toNat (0, 0, 0, 0)).2.2.2) == (((x1_1).getD (x1_2).toNat (0, 0, 0, 0)).2.2.2)) && true))))) = true
          · rw [if_pos hy1_4] at h
            obtain rfl := Sum.inr.inj (Option.some.inj h); exact q_viewportkitSameapiLexemec_1_0 n x1_0 x1_1 x1_2 hy1_1 hy1_2 hy1_3 hy1_4
          · rw [if_neg hy1_4] at h
            cases h
        · rw [if_neg hy1_3] at h; cases h
      · rw [if_neg hy1_2] at h; cases h
    · rw [if_neg hy1_1] at h
      obtain rfl := Sum.inr.inj (Option.some.inj h); exact q_viewportkitSameapiLexemec_1_2 n x1_0 x1_1 x1_2 hy1_1)
    (fun r => by intro hx; rcases r with _ | _ <;> cases hx) h
noncomputable def A_viewportkitSameapiLexemec (L : List (Int × Int × Int × Int)) (K : List (Int × Int × Int × Int)) : List Value := [(Value.slice (some ⟨0, 0, none⟩) (L).length (Nat.add big 4)), (Value.slice (some ⟨1, 0, none⟩) (K).length (Nat.add big 4))]
noncomputable def H_viewportkitSameapiLexemec (L : List (Int × Int × Int × Int)) (K : List (Int × Int × Int × Int)) : AH := ⟨sB [(0, (some (.cells (layT (rows rw_iiii L)) 28))), (1, (some (.cells (layT (rows rw_iiii K)) 28)))], 2, 2⟩
noncomputable def V_viewportkitSameapiLexemec (L : List (Int × Int × Int × Int)) (K : List (Int × Int × Int × Int)) (r : Bool) : Value := match r with
  | o0 => (Value.bool o0)
noncomputable def R_viewportkitSameapiLexemec (L : List (Int × Int × Int × Int)) (K : List (Int × Int × Int × Int)) (r : Bool) : AH := match r with
  | o0 => ⟨sB [], 2, 2⟩
def m_viewportkitSameapiLexemec (n : Nat) (L : List (Int × Int × Int × Int)) (K : List (Int × Int × Int × Int)) : Option (Bool) :=
  if (((L).length : Nat) : Int) = (((K).length : Nat) : Int) then
    match m_viewportkitSameapiLexemec_1 n L K 0 with
    | none => none
    | some (.inl _) =>
      some false
    | some (.inr _) =>
      some true
  else
    some false
set_option maxRecDepth 100000 in
theorem p_viewportkitSameapiLexemec_0 (n : Nat) (L : List (Int × Int × Int × Int)) (K : List (Int × Int × Int × Int)) (hc1 : (((L).length : Nat) : Int) = (((K).length : Nat) : Int)) (hc2 : m_viewportkitSameapiLexemec_1 n L K 0 = some (.inl ())) : Gv P (.func 9) (A_viewportkitSameapiLexemec L K) (H_viewportkitSameapiLexemec L K) (V_viewportkitSameapiLexemec L K false) (R_viewportkitSameapiLexemec L K false) :=
  runF_ok hm (A := aT [(8, .val (.bool false))]) (L := lT [(14, ⟨⟨[0, 1, 5], [(0, 0, true), (1, 1, true)], 2, 2⟩, (X_viewportkitSameapiLexemec_1 L K (.inl ())).1, (X_viewportkitSameapiLexemec_1 L K (.inl ())).2⟩)]) (wk := ⟨[4], [], 2, 2⟩)
    (ps := [(Value.bool ((((L).length : Nat) : Int) != (((K).length : Nat) : Int))) = (Value.bool false),
    CG P none (fnN P 9) 2 (codeOf P 9 [false, true, false, true, true]) (S_viewportkitSameapiLexemec_1 L K 0) (X_viewportkitSameapiLexemec_1 L K (.inl ())),
    FlatB (.cells (layT (rows rw_iiii L)) 28),
    FlatB (.cells (layT (rows rw_iiii K)) 28)]) (by kernel_rfl) ⟨(vnF hc1), (m_viewportkitSameapiLexemec_1_ok n L K 0 (.inl ()) hc2), (rows_flat rwf_iiii _ _), (rows_flat rwf_iiii _ _), trivial⟩
set_option maxRecDepth 100000 in
theorem p_viewportkitSameapiLexemec_1 (n : Nat) (L : List (Int × Int × Int × Int)) (K : List (Int × Int × Int × Int)) (hc1 : (((L).length : Nat) : Int) = (((K).length : Nat) : Int)) (hc2 : m_viewportkitSameapiLexemec_1 n L K 0 = some (.inr ())) : Gv P (.func 9) (A_viewportkitSameapiLexemec L K) (H_viewportkitSameapiLexemec L K) (V_viewportkitSameapiLexemec L K true) (R_viewportkitSameapiLexemec L K true) :=
  runF_ok hm (A := aT [(8, .val (.bool false))]) (L := lT [(14, ⟨⟨[0, 1, 5], [(0, 0, true), (1, 1, true)], 2, 2⟩, (X_viewportkitSameapiLexemec_1 L K (.inr ())).1, (X_viewportkitSameapiLexemec_1 L K (.inr ())).2⟩)]) (wk := ⟨[4], [], 2, 2⟩)
    (ps := [(Value.bool ((((L).length : Nat) : Int) != (((K).length : Nat) : Int))) = (Value.bool false),
    CG P none (fnN P 9) 2 (codeOf P 9 [false, true, false, true, true]) (S_viewportkitSameapiLexemec_1 L K 0) (X_viewportkitSameapiLexemec_1 L K (.inr ())),
    FlatB (.cells (layT (rows rw_iiii L)) 28),
    FlatB (.cells (layT (rows rw_iiii K)) 28)]) (by kernel_rfl) ⟨(vnF hc1), (m_viewportkitSameapiLexemec_1_ok n L K 0 (.inr ()) hc2), (rows_flat rwf_iiii _ _), (rows_flat rwf_iiii _ _), trivial⟩
set_option maxRecDepth 100000 in
theorem p_viewportkitSameapiLexemec_2 (n : Nat) (L : List (Int × Int × Int × Int)) (K : List (Int × Int × Int × Int)) (hc1 : ¬ ((((L).length : Nat) : Int) = (((K).length : Nat) : Int))) : Gv P (.func 9) (A_viewportkitSameapiLexemec L K) (H_viewportkitSameapiLexemec L K) (V_viewportkitSameapiLexemec L K false) (R_viewportkitSameapiLexemec L K false) :=
  runF_ok hm (A := aT [(8, .val (.bool true))]) (L := lT []) (wk := ⟨[4], [], 2, 2⟩)
    (ps := [(Value.bool ((((L).length : Nat) : Int) != (((K).length : Nat) : Int))) = (Value.bool true)]) (by kernel_rfl) ⟨(vnT hc1), trivial⟩
theorem m_viewportkitSameapiLexemec_ok (n : Nat) (L : List (Int × Int × Int × Int)) (K : List (Int × Int × Int × Int)) (r : Bool) (h : m_viewportkitSameapiLexemec n L K = some r) : Gv P (.func 9) (A_viewportkitSameapiLexemec L K) (H_viewportkitSameapiLexemec L K) (V_viewportkitSameapiLexemec L K r) (R_viewportkitSameapiLexemec L K r) := by
  unfold m_viewportkitSameapiLexemec at h
  by_cases hc1 : (((L).length : Nat) : Int) = (((K).length : Nat) : Int)
  · rw [if_pos hc1] at h
    rcases hc2 : m_viewportkitSameapiLexemec_1 n L K 0 with _ | (⟨⟩ | ⟨⟩)
    · rw [hc2] at h; cases h
    · rw [hc2] at h
      dsimp only at h
      obtain rfl := Option.some.inj h; exact p_viewportkitSameapiLexemec_0 n L K hc1 hc2
    · rw [hc2] at h
      dsimp only at h
      obtain rfl := Option.some.inj h; exact p_viewportkitSameapiLexemec_1 n L K hc1 hc2
  · rw [if_neg hc1] at h
    obtain rfl := Option.some.inj h; exact p_viewportkitSameapiLexemec_2 n L K hc1

noncomputable def S_viewportkitSameapiLexemed_1 (st : Unit) : XSt := match st with
  | _ => (sT 26 [(0, (Value.slice none 0 0)), (1, (Value.slice none 0 0)), (5, (Value.int .i64 (0 : Int)))], [], ⟨sB [], 0, 0⟩)
noncomputable def X_viewportkitSameapiLexemed_1 (r : Unit) : Ex × XSt := match r with
  | _ => (.exit 0, (sT 26 [], [], ⟨sB [], 0, 0⟩))
def B_viewportkitSameapiLexemed_1 (n : Nat) (st : Unit) : Option ((Unit) ⊕ (Unit)) := match st with
  | _ =>
    some (.inr ())
def m_viewportkitSameapiLexemed_1 (n : Nat) (st : Unit) : Option (Unit) := iterM (B_viewportkitSameapiLexemed_1 n) n st
set_option maxRecDepth 100000 in
theorem q_viewportkitSameapiLexemed_1_0 (n : Nat)  : CG P none (fnN P 9) 0 (codeOf P 9 [false, false, true, false, true, true]) (S_viewportkitSameapiLexemed_1 ()) (X_viewportkitSameapiLexemed_1 ()) :=
  runC_ok hm (A := aT []) (L := lT []) (wk := ⟨[], [], 0, 0⟩)
    (ps := []) (by kernel_rfl) trivial
theorem m_viewportkitSameapiLexemed_1_ok (n : Nat) (st : Unit) (r : Unit) (h : m_viewportkitSameapiLexemed_1 n st = some r) : CG P none (fnN P 9) 0 (codeOf P 9 [false, true, false, true, true]) (S_viewportkitSameapiLexemed_1 st) (X_viewportkitSameapiLexemed_1 r) :=
  CG.iter (b := codeOf P 9 [false, false, true, false, true, true]) (by kernel_rfl) (body := B_viewportkitSameapiLexemed_1 n) (S := S_viewportkitSameapiLexemed_1) (X := X_viewportkitSameapiLexemed_1)
    (fun s s' h => by
    unfold B_viewportkitSameapiLexemed_1 at h
    dsimp only at h
    cases h)
    (fun s r h => by
    unfold B_viewportkitSameapiLexemed_1 at h
    dsimp only at h
    obtain rfl := Sum.inr.inj (Option.some.inj h); exact q_viewportkitSameapiLexemed_1_0 n)
    (fun r => by intro hx; cases hx) h
noncomputable def A_viewportkitSameapiLexemed : List Value := [(Value.slice none 0 0), (Value.slice none 0 0)]
noncomputable def H_viewportkitSameapiLexemed : AH := ⟨sB [], 0, 0⟩
noncomputable def V_viewportkitSameapiLexemed (r : Unit) : Value := match r with
  | _ => (Value.bool true)
noncomputable def R_viewportkitSameapiLexemed (r : Unit) : AH := match r with
  | _ => ⟨sB [], 0, 0⟩
def m_viewportkitSameapiLexemed (n : Nat) : Option (Unit) :=
  (m_viewportkitSameapiLexemed_1 n ()).bind fun _ =>
  some ()
set_option maxRecDepth 100000 in
theorem p_viewportkitSameapiLexemed_0 (n : Nat) (hc1 : m_viewportkitSameapiLexemed_1 n () = some ()) : Gv P (.func 9) A_viewportkitSameapiLexemed H_viewportkitSameapiLexemed (V_viewportkitSameapiLexemed  ()) (R_viewportkitSameapiLexemed  ()) :=
  runF_ok hm (A := aT []) (L := lT [(14, ⟨⟨[0, 1, 5], [], 0, 0⟩, (X_viewportkitSameapiLexemed_1 ()).1, (X_viewportkitSameapiLexemed_1 ()).2⟩)]) (wk := ⟨[4], [], 0, 0⟩)
    (ps := [CG P none (fnN P 9) 0 (codeOf P 9 [false, true, false, true, true]) (S_viewportkitSameapiLexemed_1 ()) (X_viewportkitSameapiLexemed_1 ())]) (by kernel_rfl) ⟨(m_viewportkitSameapiLexemed_1_ok n () () hc1), trivial⟩
theorem m_viewportkitSameapiLexemed_ok (n : Nat) (r : Unit) (h : m_viewportkitSameapiLexemed n = some r) : Gv P (.func 9) A_viewportkitSameapiLexemed H_viewportkitSameapiLexemed (V_viewportkitSameapiLexemed  r) (R_viewportkitSameapiLexemed  r) := by
  unfold m_viewportkitSameapiLexemed at h
  obtain ⟨_, hc1, h⟩ := Option.bind_eq_some_iff.1 h
  obtain rfl := Option.some.inj h; exact p_viewportkitSameapiLexemed_0 n hc1

noncomputable def S_viewportkitSameapiLexemee_1 (x1_0 : List (Int × Int × Int × Int)) (st : Unit) : XSt := match st with
  | _ => (sT 26 [(0, (Value.slice none 0 0)), (1, (Value.slice (some ⟨0, 0, none⟩) (x1_0).length (Nat.add big 4))), (5, (Value.int .i64 (0 : Int)))], [], ⟨sB [(0, (some (.cells (layT (rows rw_iiii x1_0)) 28)))], 1, 1⟩)
noncomputable def X_viewportkitSameapiLexemee_1 (x1_0 : List (Int × Int × Int × Int)) (r : Unit) : Ex × XSt := match r with
  | _ => (.exit 0, (sT 26 [], [], ⟨sB [], 1, 1⟩))
def B_viewportkitSameapiLexemee_1 (n : Nat) (x1_0 : List (Int × Int × Int × Int)) (st : Unit) : Option ((Unit) ⊕ (Unit)) := match st with
  | _ =>
    some (.inr ())
def m_viewportkitSameapiLexemee_1 (n : Nat) (x1_0 : List (Int × Int × Int × Int)) (st : Unit) : Option (Unit) := iterM (B_viewportkitSameapiLexemee_1 n x1_0) n st
set_option maxRecDepth 100000 in
theorem q_viewportkitSameapiLexemee_1_0 (n : Nat) (x1_0 : List (Int × Int × Int × Int)) : CG P none (fnN P 9) 1 (codeOf P 9 [false, false, true, false, true, true]) (S_viewportkitSameapiLexemee_1 x1_0 ()) (X_viewportkitSameapiLexemee_1 x1_0 ()) :=
  runC_ok hm (A := aT []) (L := lT []) (wk := ⟨[], [], 1, 1⟩)
    (ps := []) (by kernel_rfl) trivial
theorem m_viewportkitSameapiLexemee_1_ok (n : Nat) (x1_0 : List (Int × Int × Int × Int)) (st : Unit) (r : Unit) (h : m_viewportkitSameapiLexemee_1 n x1_0 st = some r) : CG P none (fnN P 9) 1 (codeOf P 9 [false, true, false, true, true]) (S_viewportkitSameapiLexemee_1 x1_0 st) (X_viewportkitSameapiLexemee_1 x1_0 r) :=
  CG.iter (b := codeOf P 9 [false, false, true, false, true, true]) (by kernel_rfl) (body := B_viewportkitSameapiLexemee_1 n x1_0) (S := S_viewportkitSameapiLexemee_1 x1_0) (X := X_viewportkitSameapiLexemee_1 x1_0)
    (fun s s' h => by
    unfold B_viewportkitSameapiLexemee_1 at h
    dsimp only at h
    cases h)
    (fun s r h => by
    unfold B_viewportkitSameapiLexemee_1 at h
    dsimp only at h
    obtain rfl := Sum.inr.inj (Option.some.inj h); exact q_viewportkitSameapiLexemee_1_0 n x1_0)
    (fun r => by intro hx; cases hx) h
noncomputable def A_viewportkitSameapiLexemee (K : List (Int × Int × Int × Int)) : List Value := [(Value.slice none 0 0), (Value.slice (some ⟨0, 0, none⟩) (K).length (Nat.add big 4))]
noncomputable def H_viewportkitSameapiLexemee (K : List (Int × Int × Int × Int)) : AH := ⟨sB [(0, (some (.cells (layT (rows rw_iiii K)) 28)))], 1, 1⟩
noncomputable def V_viewportkitSameapiLexemee (K : List (Int × Int × Int × Int)) (r : Bool) : Value := match r with
  | o0 => (Value.bool o0)
noncomputable def R_viewportkitSameapiLexemee (K : List (Int × Int × Int × Int)) (r : Bool) : AH := match r with
  | o0 => ⟨sB [], 1, 1⟩
def m_viewportkitSameapiLexemee (n : Nat) (K : List (Int × Int × Int × Int)) : Option (Bool) :=
  if (0 : Int) = (((K).length : Nat) : Int) then
    (m_viewportkitSameapiLexemee_1 n K ()).bind fun _ =>
    some true
  else
    some false
set_option maxRecDepth 100000 in
theorem p_viewportkitSameapiLexemee_0 (n : Nat) (K : List (Int × Int × Int × Int)) (hc1 : (0 : Int) = (((K).length : Nat) : Int)) (hc2 : m_viewportkitSameapiLexemee_1 n K () = some ()) : Gv P (.func 9) (A_viewportkitSameapiLexemee K) (H_viewportkitSameapiLexemee K) (V_viewportkitSameapiLexemee K true) (R_viewportkitSameapiLexemee K true) :=
  runF_ok hm (A := aT [(8, .val (.bool false))]) (L := lT [(14, ⟨⟨[0, 1, 5], [(0, 0, true)], 1, 1⟩, (X_viewportkitSameapiLexemee_1 K ()).1, (X_viewportkitSameapiLexemee_1 K ()).2⟩)]) (wk := ⟨[4], [], 1, 1⟩)
    (ps := [(Value.bool ((0 : Int) != (((K).length : Nat) : Int))) = (Value.bool false),
    CG P none (fnN P 9) 1 (codeOf P 9 [false, true, false, true, true]) (S_viewportkitSameapiLexemee_1 K ()) (X_viewportkitSameapiLexemee_1 K ()),
    FlatB (.cells (layT (rows rw_iiii K)) 28)]) (by kernel_rfl) ⟨(vnF hc1), (m_viewportkitSameapiLexemee_1_ok n K () () hc2), (rows_flat rwf_iiii _ _), trivial⟩
set_option maxRecDepth 100000 in
theorem p_viewportkitSameapiLexemee_1 (n : Nat) (K : List (Int × Int × Int × Int)) (hc1 : ¬ ((0 : Int) = (((K).length : Nat) : Int))) : Gv P (.func 9) (A_viewportkitSameapiLexemee K) (H_viewportkitSameapiLexemee K) (V_viewportkitSameapiLexemee K false) (R_viewportkitSameapiLexemee K false) :=
  runF_ok hm (A := aT [(8, .val (.bool true))]) (L := lT []) (wk := ⟨[4], [], 1, 1⟩)
    (ps := [(Value.bool ((0 : Int) != (((K).length : Nat) : Int))) = (Value.bool true)]) (by kernel_rfl) ⟨(vnT hc1), trivial⟩
theorem m_viewportkitSameapiLexemee_ok (n : Nat) (K : List (Int × Int × Int × Int)) (r : Bool) (h : m_viewportkitSameapiLexemee n K = some r) : Gv P (.func 9) (A_viewportkitSameapiLexemee K) (H_viewportkitSameapiLexemee K) (V_viewportkitSameapiLexemee K r) (R_viewportkitSameapiLexemee K r) := by
  unfold m_viewportkitSameapiLexemee at h
  by_cases hc1 : (0 : Int) = (((K).length : Nat) : Int)
  · rw [if_pos hc1] at h
    obtain ⟨_, hc2, h⟩ := Option.bind_eq_some_iff.1 h
    obtain rfl := Option.some.inj h; exact p_viewportkitSameapiLexemee_0 n K hc1 hc2
  · rw [if_neg hc1] at h
    obtain rfl := Option.some.inj h; exact p_viewportkitSameapiLexemee_1 n K hc1

noncomputable def S_viewportkitSameapiLexemef_1 (x1_0 : List (Int × Int × Int × Int)) (st : Unit) : XSt := match st with
  | _ => (sT 26 [(0, (Value.slice (some ⟨0, 0, none⟩) (x1_0).length (Nat.add big 4))), (1, (Value.slice none 0 0)), (5, (Value.int .i64 (0 : Int)))], [], ⟨sB [(0, (some (.cells (layT (rows rw_iiii x1_0)) 28)))], 1, 1⟩)
noncomputable def X_viewportkitSameapiLexemef_1 (x1_0 : List (Int × Int × Int × Int)) (r : Unit) : Ex × XSt := match r with
  | _ => (.exit 0, (sT 26 [], [], ⟨sB [], 1, 1⟩))
def B_viewportkitSameapiLexemef_1 (n : Nat) (x1_0 : List (Int × Int × Int × Int)) (st : Unit) : Option ((Unit) ⊕ (Unit)) := match st with
  | _ =>
    if (0 : Int) < (((x1_0).length : Nat) : Int) then
      none
    else
      some (.inr ())
def m_viewportkitSameapiLexemef_1 (n : Nat) (x1_0 : List (Int × Int × Int × Int)) (st : Unit) : Option (Unit) := iterM (B_viewportkitSameapiLexemef_1 n x1_0) n st
set_option maxRecDepth 100000 in
theorem q_viewportkitSameapiLexemef_1_0 (n : Nat) (x1_0 : List (Int × Int × Int × Int)) (hy1_1 : ¬ ((0 : Int) < (((x1_0).length : Nat) : Int))) : CG P none (fnN P 9) 1 (codeOf P 9 [false, false, true, false, true, true]) (S_viewportkitSameapiLexemef_1 x1_0 ()) (X_viewportkitSameapiLexemef_1 x1_0 ()) :=
  runC_ok hm (A := aT [(5, .val (.bool false))]) (L := lT []) (wk := ⟨[], [], 1, 1⟩)
    (ps := [(Value.bool (decide ((0 : Int) < (((x1_0).length : Nat) : Int)))) = (Value.bool false)]) (by kernel_rfl) ⟨(vbF hy1_1), trivial⟩
theorem m_viewportkitSameapiLexemef_1_ok (n : Nat) (x1_0 : List (Int × Int × Int × Int)) (st : Unit) (r : Unit) (h : m_viewportkitSameapiLexemef_1 n x1_0 st = some r) : CG P none (fnN P 9) 1 (codeOf P 9 [false, true, false, true, true]) (S_viewportkitSameapiLexemef_1 x1_0 st) (X_viewportkitSameapiLexemef_1 x1_0 r) :=
  CG.iter (b := codeOf P 9 [false, false, true, false, true, true]) (by kernel_rfl) (body := B_viewportkitSameapiLexemef_1 n x1_0) (S := S_viewportkitSameapiLexemef_1 x1_0) (X := X_viewportkitSameapiLexemef_1 x1_0)
    (fun s s' h => by
    unfold B_viewportkitSameapiLexemef_1 at h
    dsimp only at h
    by_cases hy1_1 : (0 : Int) < (((x1_0).length : Nat) : Int)
    · rw [if_pos hy1_1] at h
      cases h
    · rw [if_neg hy1_1] at h
      cases h)
    (fun s r h => by
    unfold B_viewportkitSameapiLexemef_1 at h
    dsimp only at h
    by_cases hy1_1 : (0 : Int) < (((x1_0).length : Nat) : Int)
    · rw [if_pos hy1_1] at h
      cases h
    · rw [if_neg hy1_1] at h
      obtain rfl := Sum.inr.inj (Option.some.inj h); exact q_viewportkitSameapiLexemef_1_0 n x1_0 hy1_1)
    (fun r => by intro hx; cases hx) h
noncomputable def A_viewportkitSameapiLexemef (L : List (Int × Int × Int × Int)) : List Value := [(Value.slice (some ⟨0, 0, none⟩) (L).length (Nat.add big 4)), (Value.slice none 0 0)]
noncomputable def H_viewportkitSameapiLexemef (L : List (Int × Int × Int × Int)) : AH := ⟨sB [(0, (some (.cells (layT (rows rw_iiii L)) 28)))], 1, 1⟩
noncomputable def V_viewportkitSameapiLexemef (L : List (Int × Int × Int × Int)) (r : Bool) : Value := match r with
  | o0 => (Value.bool o0)
noncomputable def R_viewportkitSameapiLexemef (L : List (Int × Int × Int × Int)) (r : Bool) : AH := match r with
  | o0 => ⟨sB [], 1, 1⟩
def m_viewportkitSameapiLexemef (n : Nat) (L : List (Int × Int × Int × Int)) : Option (Bool) :=
  if (((L).length : Nat) : Int) = (0 : Int) then
    (m_viewportkitSameapiLexemef_1 n L ()).bind fun _ =>
    some true
  else
    some false
set_option maxRecDepth 100000 in
theorem p_viewportkitSameapiLexemef_0 (n : Nat) (L : List (Int × Int × Int × Int)) (hc1 : (((L).length : Nat) : Int) = (0 : Int)) (hc2 : m_viewportkitSameapiLexemef_1 n L () = some ()) : Gv P (.func 9) (A_viewportkitSameapiLexemef L) (H_viewportkitSameapiLexemef L) (V_viewportkitSameapiLexemef L true) (R_viewportkitSameapiLexemef L true) :=
  runF_ok hm (A := aT [(8, .val (.bool false))]) (L := lT [(14, ⟨⟨[0, 1, 5], [(0, 0, true)], 1, 1⟩, (X_viewportkitSameapiLexemef_1 L ()).1, (X_viewportkitSameapiLexemef_1 L ()).2⟩)]) (wk := ⟨[4], [], 1, 1⟩)
    (ps := [(Value.bool ((((L).length : Nat) : Int) != (0 : Int))) = (Value.bool false),
    CG P none (fnN P 9) 1 (codeOf P 9 [false, true, false, true, true]) (S_viewportkitSameapiLexemef_1 L ()) (X_viewportkitSameapiLexemef_1 L ()),
    FlatB (.cells (layT (rows rw_iiii L)) 28)]) (by kernel_rfl) ⟨(vnF hc1), (m_viewportkitSameapiLexemef_1_ok n L () () hc2), (rows_flat rwf_iiii _ _), trivial⟩
set_option maxRecDepth 100000 in
theorem p_viewportkitSameapiLexemef_1 (n : Nat) (L : List (Int × Int × Int × Int)) (hc1 : ¬ ((((L).length : Nat) : Int) = (0 : Int))) : Gv P (.func 9) (A_viewportkitSameapiLexemef L) (H_viewportkitSameapiLexemef L) (V_viewportkitSameapiLexemef L false) (R_viewportkitSameapiLexemef L false) :=
  runF_ok hm (A := aT [(8, .val (.bool true))]) (L := lT []) (wk := ⟨[4], [], 1, 1⟩)
    (ps := [(Value.bool ((((L).length : Nat) : Int) != (0 : Int))) = (Value.bool true)]) (by kernel_rfl) ⟨(vnT hc1), trivial⟩
theorem m_viewportkitSameapiLexemef_ok (n : Nat) (L : List (Int × Int × Int × Int)) (r : Bool) (h : m_viewportkitSameapiLexemef n L = some r) : Gv P (.func 9) (A_viewportkitSameapiLexemef L) (H_viewportkitSameapiLexemef L) (V_viewportkitSameapiLexemef L r) (R_viewportkitSameapiLexemef L r) := by
  unfold m_viewportkitSameapiLexemef at h
  by_cases hc1 : (((L).length : Nat) : Int) = (0 : Int)
  · rw [if_pos hc1] at h
    obtain ⟨_, hc2, h⟩ := Option.bind_eq_some_iff.1 h
    obtain rfl := Option.some.inj h; exact p_viewportkitSameapiLexemef_0 n L hc1 hc2
  · rw [if_neg hc1] at h
    obtain rfl := Option.some.inj h; exact p_viewportkitSameapiLexemef_1 n L hc1

noncomputable def A_viewportlaw06MunchCalls (x : ByteArray) (a : Int) : List Value := [(Value.agg #[(Value.slice (some ⟨0, 0, some 1⟩) (Args.N).length Args.cN), (Value.slice (some ⟨1, 0, some 1⟩) (Args.R).length Args.cR)]), (Value.string x), (Value.int .i64 a)]
noncomputable def H_viewportlaw06MunchCalls (x : ByteArray) (a : Int) : AH := ⟨sB [], 0, 0⟩
noncomputable def V_viewportlaw06MunchCalls (x : ByteArray) (a : Int) (r : Bool) : Value := match r with
  | o0 => (Value.bool o0)
noncomputable def R_viewportlaw06MunchCalls (x : ByteArray) (a : Int) (r : Bool) : AH := match r with
  | o0 => ⟨sB [], 0, 0⟩
def m_viewportlaw06MunchCalls (n : Nat) (x : ByteArray) (a : Int) : Option (Bool) :=
  (m_viewportlaw06lives n).bind fun _ =>
  (m_viewportkitLightDfa n 24).bind fun c2_ =>
  if c2_ = true then
    if (((x).size : Nat) : Int) > (60 : Int) then
      some true
    else
      (m_munchNext n x a).bind fun t => match t with
      | (c5_0, c5_1, c5_2, c5_3, c5_4) =>
        (m_viewportref06Next n x a).bind fun t => match t with
        | (c6_0, c6_1, c6_2, c6_3, c6_4) =>
          if ((c5_0 == c6_0) && ((c5_1 == c6_1) && ((c5_2 == c6_2) && ((c5_3 == c6_3) && true)))) = true then
            if c5_4 = true then
              if c6_4 = true then
                (m_munchAll n x).bind fun c10_ =>
                match c10_ with
                | [] =>
                  (m_viewportref06All n x).bind fun c11_ =>
                  match c11_ with
                  | [] =>
                    (m_viewportkitSameapiLexemed n).bind fun _ =>
                    some true
                  | c11_a :: c11_t =>
                    (m_viewportkitSameapiLexemee n (c11_a :: c11_t)).bind fun c12_ =>
                    some c12_
                | c10_a :: c10_t =>
                  (m_viewportref06All n x).bind fun c11_ =>
                  match c11_ with
                  | [] =>
                    (m_viewportkitSameapiLexemef n (c10_a :: c10_t)).bind fun c12_ =>
                    some c12_
                  | c11_a :: c11_t =>
                    (m_viewportkitSameapiLexemec n (c10_a :: c10_t) (c11_a :: c11_t)).bind fun c12_ =>
                    some c12_
              else
                none
            else
              if c6_4 = true then
                none
              else
                (m_munchAll n x).bind fun c10_ =>
                match c10_ with
                | [] =>
                  (m_viewportref06All n x).bind fun c11_ =>
                  match c11_ with
                  | [] =>
                    (m_viewportkitSameapiLexemed n).bind fun _ =>
                    some true
                  | c11_a :: c11_t =>
                    (m_viewportkitSameapiLexemee n (c11_a :: c11_t)).bind fun c12_ =>
                    some c12_
                | c10_a :: c10_t =>
                  (m_viewportref06All n x).bind fun c11_ =>
                  match c11_ with
                  | [] =>
                    (m_viewportkitSameapiLexemef n (c10_a :: c10_t)).bind fun c12_ =>
                    some c12_
                  | c11_a :: c11_t =>
                    (m_viewportkitSameapiLexemec n (c10_a :: c10_t) (c11_a :: c11_t)).bind fun c12_ =>
                    some c12_
          else
            none
  else
    some true
set_option maxRecDepth 100000 in
theorem p_viewportlaw06MunchCalls_0 (n : Nat) (x : ByteArray) (a : Int) (hc1 : m_viewportlaw06lives n = some ()) (c2_ : Bool) (hc2 : m_viewportkitLightDfa n 24 = some c2_) (hc3 : c2_ = true) (hc4 : (((x).size : Nat) : Int) > (60 : Int)) : Gv P (.func 3) (A_viewportlaw06MunchCalls x a) (H_viewportlaw06MunchCalls x a) (V_viewportlaw06MunchCalls x a true) (R_viewportlaw06MunchCalls x a true) :=
  runF_ok hm (A := aT [(5, .call ⟨0, [], (Value.bool true), Ax.h0, []⟩), (11, .call ⟨0, [], (V_viewportkitLightDfa 24 c2_), (R_viewportkitLightDfa 24 c2_), []⟩), (12, .val (.bool false)), (16, .val (.bool true))]) (L := lT []) (wk := ⟨[6], [], 0, 0⟩)
    (ps := [Gv P (.func 5) [] Ax.h0 (Value.bool true) Ax.h0,
    Gv P (.func 6) (A_viewportkitLightDfa 24) (H_viewportkitLightDfa 24) (V_viewportkitLightDfa 24 c2_) (R_viewportkitLightDfa 24 c2_),
    (Value.bool (!c2_)) = (Value.bool false),
    (Value.bool (decide ((((x).size : Nat) : Int) > (60 : Int)))) = (Value.bool true)]) (by kernel_rfl) ⟨(m_viewportlaw06lives_ok n () hc1), (m_viewportkitLightDfa_ok n 24 c2_ hc2), (vBn hc3), (vbT hc4), trivial⟩
set_option maxRecDepth 100000 in
theorem p_viewportlaw06MunchCalls_1 (n : Nat) (x : ByteArray) (a : Int) (hc1 : m_viewportlaw06lives n = some ()) (c2_ : Bool) (hc2 : m_viewportkitLightDfa n 24 = some c2_) (hc3 : c2_ = true) (hc4 : ¬ ((((x).size : Nat) : Int) > (60 : Int))) (c5_0 : Int) (c5_1 : Int) (c5_2 : Int) (c5_3 : Int) (c5_4 : Bool) (hc5 : m_munchNext n x a = some (c5_0, c5_1, c5_2, c5_3, c5_4)) (c6_0 : Int) (c6_1 : Int) (c6_2 : Int) (c6_3 : Int) (c6_4 : Bool) (hc6 : m_viewportref06Next n x a = some (c6_0, c6_1, c6_2, c6_3, c6_4)) (hc7 : ((c5_0 == c6_0) && ((c5_1 == c6_1) && ((c5_2 == c6_2) && ((c5_3 == c6_3) && true)))) = true) (hc8 : c5_4 = true) (hc9 : c6_4 = true) (hc10 : m_munchAll n x = some []) (hc11 : m_viewportref06All n x = some []) (hc12 : m_viewportkitSameapiLexemed n = some ()) : Gv P (.func 3) (A_viewportlaw06MunchCalls x a) (H_viewportlaw06MunchCalls x a) (V_viewportlaw06MunchCalls x a true) (R_viewportlaw06MunchCalls x a true) :=
  runF_ok hm (A := aT [(5, .call ⟨0, [], (Value.bool true), Ax.h0, []⟩), (11, .call ⟨0, [], (V_viewportkitLightDfa 24 c2_), (R_viewportkitLightDfa 24 c2_), []⟩), (12, .val (.bool false)), (16, .val (.bool false)), (23, .call ⟨0, [], (V_munchNext x a (c5_0, c5_1, c5_2, c5_3, c5_4)), (R_munchNext x a (c5_0, c5_1, c5_2, c5_3, c5_4)), [(1, 0, false)]⟩), (34, .call ⟨0, [], (V_viewportref06Next x a (c6_0, c6_1, c6_2, c6_3, c6_4)), (R_viewportref06Next x a (c6_0, c6_1, c6_2, c6_3, c6_4)), [(3, 0, false)]⟩), (45, .val (.bool true)), (48, .val (.bool true)), (53, .call ⟨0, [], (V_munchAll x ([] : List (Int × Int × Int × Int))), (R_munchAll x ([] : List (Int × Int × Int × Int))), []⟩), (56, .call ⟨0, [], (V_viewportref06All x ([] : List (Int × Int × Int × Int))), (R_viewportref06All x ([] : List (Int × Int × Int × Int))), []⟩), (57, .call ⟨0, [], (V_viewportkitSameapiLexemed  ()), (R_viewportkitSameapiLexemed  ()), []⟩)]) (L := lT []) (wk := ⟨[6], [], 0, 0⟩)
    (ps := [Gv P (.func 5) [] Ax.h0 (Value.bool true) Ax.h0,
    Gv P (.func 6) (A_viewportkitLightDfa 24) (H_viewportkitLightDfa 24) (V_viewportkitLightDfa 24 c2_) (R_viewportkitLightDfa 24 c2_),
    (Value.bool (!c2_)) = (Value.bool false),
    (Value.bool (decide ((((x).size : Nat) : Int) > (60 : Int)))) = (Value.bool false),
    Gv P (.func 7) (A_munchNext x a) (H_munchNext x a) (V_munchNext x a (c5_0, c5_1, c5_2, c5_3, c5_4)) (R_munchNext x a (c5_0, c5_1, c5_2, c5_3, c5_4)),
    Gv P (.func 8) (A_viewportref06Next x a) (H_viewportref06Next x a) (V_viewportref06Next x a (c6_0, c6_1, c6_2, c6_3, c6_4)) (R_viewportref06Next x a (c6_0, c6_1, c6_2, c6_3, c6_4)),
    (Value.bool ((c5_0 == c6_0) && ((c5_1 == c6_1) && ((c5_2 == c6_2) && ((c5_3 == c6_3) && true))))) = (Value.bool true),
    (Value.bool (c5_4 == c6_4)) = (Value.bool true),
    Gv P (.func 10) (A_munchAll x) (H_munchAll x) (V_munchAll x ([] : List (Int × Int × Int × Int))) (R_munchAll x ([] : List (Int × Int × Int × Int))),
    Gv P (.func 11) (A_viewportref06All x) (H_viewportref06All x) (V_viewportref06All x ([] : List (Int × Int × Int × Int))) (R_viewportref06All x ([] : List (Int × Int × Int × Int))),
    Gv P (.func 9) A_viewportkitSameapiLexemed H_viewportkitSameapiLexemed (V_viewportkitSameapiLexemed  ()) (R_viewportkitSameapiLexemed  ())]) (by kernel_rfl) ⟨(m_viewportlaw06lives_ok n () hc1), (m_viewportkitLightDfa_ok n 24 c2_ hc2), (vBn hc3), (vbF hc4), (m_munchNext_ok n x a (c5_0, c5_1, c5_2, c5_3, c5_4) hc5), (m_viewportref06Next_ok n x a (c6_0, c6_1, c6_2, c6_3, c6_4) hc6), (vB hc7), (vEqB hc8 hc9), (m_munchAll_ok n x ([] : List (Int × Int × Int × Int)) hc10), (m_viewportref06All_ok n x ([] : List (Int × Int × Int × Int)) hc11), (m_viewportkitSameapiLexemed_ok n () hc12), trivial⟩
set_option maxRecDepth 100000 in
theorem p_viewportlaw06MunchCalls_2 (n : Nat) (x : ByteArray) (a : Int) (hc1 : m_viewportlaw06lives n = some ()) (c2_ : Bool) (hc2 : m_viewportkitLightDfa n 24 = some c2_) (hc3 : c2_ = true) (hc4 : ¬ ((((x).size : Nat) : Int) > (60 : Int))) (c5_0 : Int) (c5_1 : Int) (c5_2 : Int) (c5_3 : Int) (c5_4 : Bool) (hc5 : m_munchNext n x a = some (c5_0, c5_1, c5_2, c5_3, c5_4)) (c6_0 : Int) (c6_1 : Int) (c6_2 : Int) (c6_3 : Int) (c6_4 : Bool) (hc6 : m_viewportref06Next n x a = some (c6_0, c6_1, c6_2, c6_3, c6_4)) (hc7 : ((c5_0 == c6_0) && ((c5_1 == c6_1) && ((c5_2 == c6_2) && ((c5_3 == c6_3) && true)))) = true) (hc8 : c5_4 = true) (hc9 : c6_4 = true) (hc10 : m_munchAll n x = some []) (c11_a : Int × Int × Int × Int) (c11_t : List (Int × Int × Int × Int)) (hc11 : m_viewportref06All n x = some (c11_a :: c11_t)) (c12_ : Bool) (hc12 : m_viewportkitSameapiLexemee n (c11_a :: c11_t) = some c12_) : Gv P (.func 3) (A_viewportlaw06MunchCalls x a) (H_viewportlaw06MunchCalls x a) (V_viewportlaw06MunchCalls x a c12_) (R_viewportlaw06MunchCalls x a c12_) :=
  runF_ok hm (A := aT [(5, .call ⟨0, [], (Value.bool true), Ax.h0, []⟩), (11, .call ⟨0, [], (V_viewportkitLightDfa 24 c2_), (R_viewportkitLightDfa 24 c2_), []⟩), (12, .val (.bool false)), (16, .val (.bool false)), (23, .call ⟨0, [], (V_munchNext x a (c5_0, c5_1, c5_2, c5_3, c5_4)), (R_munchNext x a (c5_0, c5_1, c5_2, c5_3, c5_4)), [(1, 0, false)]⟩), (34, .call ⟨0, [], (V_viewportref06Next x a (c6_0, c6_1, c6_2, c6_3, c6_4)), (R_viewportref06Next x a (c6_0, c6_1, c6_2, c6_3, c6_4)), [(3, 0, false)]⟩), (45, .val (.bool true)), (48, .val (.bool true)), (53, .call ⟨0, [], (V_munchAll x ([] : List (Int × Int × Int × Int))), (R_munchAll x ([] : List (Int × Int × Int × Int))), []⟩), (56, .call ⟨0, [], (V_viewportref06All x (c11_a :: c11_t)), (R_viewportref06All x (c11_a :: c11_t)), [(6, 0, true)]⟩), (57, .call ⟨1, [(0, 6, true)], (V_viewportkitSameapiLexemee (c11_a :: c11_t) c12_), (R_viewportkitSameapiLexemee (c11_a :: c11_t) c12_), []⟩)]) (L := lT []) (wk := ⟨[6], [], 0, 0⟩)
    (ps := [Gv P (.func 5) [] Ax.h0 (Value.bool true) Ax.h0,
    Gv P (.func 6) (A_viewportkitLightDfa 24) (H_viewportkitLightDfa 24) (V_viewportkitLightDfa 24 c2_) (R_viewportkitLightDfa 24 c2_),
    (Value.bool (!c2_)) = (Value.bool false),
    (Value.bool (decide ((((x).size : Nat) : Int) > (60 : Int)))) = (Value.bool false),
    Gv P (.func 7) (A_munchNext x a) (H_munchNext x a) (V_munchNext x a (c5_0, c5_1, c5_2, c5_3, c5_4)) (R_munchNext x a (c5_0, c5_1, c5_2, c5_3, c5_4)),
    Gv P (.func 8) (A_viewportref06Next x a) (H_viewportref06Next x a) (V_viewportref06Next x a (c6_0, c6_1, c6_2, c6_3, c6_4)) (R_viewportref06Next x a (c6_0, c6_1, c6_2, c6_3, c6_4)),
    (Value.bool ((c5_0 == c6_0) && ((c5_1 == c6_1) && ((c5_2 == c6_2) && ((c5_3 == c6_3) && true))))) = (Value.bool true),
    (Value.bool (c5_4 == c6_4)) = (Value.bool true),
    Gv P (.func 10) (A_munchAll x) (H_munchAll x) (V_munchAll x ([] : List (Int × Int × Int × Int))) (R_munchAll x ([] : List (Int × Int × Int × Int))),
    Gv P (.func 11) (A_viewportref06All x) (H_viewportref06All x) (V_viewportref06All x (c11_a :: c11_t)) (R_viewportref06All x (c11_a :: c11_t)),
    FlatB (.cells (layT (rows rw_iiii (c11_a :: c11_t))) 28),
    Gv P (.func 9) (A_viewportkitSameapiLexemee (c11_a :: c11_t)) (H_viewportkitSameapiLexemee (c11_a :: c11_t)) (V_viewportkitSameapiLexemee (c11_a :: c11_t) c12_) (R_viewportkitSameapiLexemee (c11_a :: c11_t) c12_),
    FlatB (.cells (layT (rows rw_iiii (c11_a :: c11_t))) 28)]) (by kernel_rfl) ⟨(m_viewportlaw06lives_ok n () hc1), (m_viewportkitLightDfa_ok n 24 c2_ hc2), (vBn hc3), (vbF hc4), (m_munchNext_ok n x a (c5_0, c5_1, c5_2, c5_3, c5_4) hc5), (m_viewportref06Next_ok n x a (c6_0, c6_1, c6_2, c6_3, c6_4) hc6), (vB hc7), (vEqB hc8 hc9), (m_munchAll_ok n x ([] : List (Int × Int × Int × Int)) hc10), (m_viewportref06All_ok n x (c11_a :: c11_t) hc11), (rows_flat rwf_iiii _ _), (m_viewportkitSameapiLexemee_ok n (c11_a :: c11_t) c12_ hc12), (rows_flat rwf_iiii _ _), trivial⟩
set_option maxRecDepth 100000 in
theorem p_viewportlaw06MunchCalls_3 (n : Nat) (x : ByteArray) (a : Int) (hc1 : m_viewportlaw06lives n = some ()) (c2_ : Bool) (hc2 : m_viewportkitLightDfa n 24 = some c2_) (hc3 : c2_ = true) (hc4 : ¬ ((((x).size : Nat) : Int) > (60 : Int))) (c5_0 : Int) (c5_1 : Int) (c5_2 : Int) (c5_3 : Int) (c5_4 : Bool) (hc5 : m_munchNext n x a = some (c5_0, c5_1, c5_2, c5_3, c5_4)) (c6_0 : Int) (c6_1 : Int) (c6_2 : Int) (c6_3 : Int) (c6_4 : Bool) (hc6 : m_viewportref06Next n x a = some (c6_0, c6_1, c6_2, c6_3, c6_4)) (hc7 : ((c5_0 == c6_0) && ((c5_1 == c6_1) && ((c5_2 == c6_2) && ((c5_3 == c6_3) && true)))) = true) (hc8 : c5_4 = true) (hc9 : c6_4 = true) (c10_a : Int × Int × Int × Int) (c10_t : List (Int × Int × Int × Int)) (hc10 : m_munchAll n x = some (c10_a :: c10_t)) (hc11 : m_viewportref06All n x = some []) (c12_ : Bool) (hc12 : m_viewportkitSameapiLexemef n (c10_a :: c10_t) = some c12_) : Gv P (.func 3) (A_viewportlaw06MunchCalls x a) (H_viewportlaw06MunchCalls x a) (V_viewportlaw06MunchCalls x a c12_) (R_viewportlaw06MunchCalls x a c12_) :=
  runF_ok hm (A := aT [(5, .call ⟨0, [], (Value.bool true), Ax.h0, []⟩), (11, .call ⟨0, [], (V_viewportkitLightDfa 24 c2_), (R_viewportkitLightDfa 24 c2_), []⟩), (12, .val (.bool false)), (16, .val (.bool false)), (23, .call ⟨0, [], (V_munchNext x a (c5_0, c5_1, c5_2, c5_3, c5_4)), (R_munchNext x a (c5_0, c5_1, c5_2, c5_3, c5_4)), [(1, 0, false)]⟩), (34, .call ⟨0, [], (V_viewportref06Next x a (c6_0, c6_1, c6_2, c6_3, c6_4)), (R_viewportref06Next x a (c6_0, c6_1, c6_2, c6_3, c6_4)), [(3, 0, false)]⟩), (45, .val (.bool true)), (48, .val (.bool true)), (53, .call ⟨0, [], (V_munchAll x (c10_a :: c10_t)), (R_munchAll x (c10_a :: c10_t)), [(5, 0, true)]⟩), (56, .call ⟨0, [], (V_viewportref06All x ([] : List (Int × Int × Int × Int))), (R_viewportref06All x ([] : List (Int × Int × Int × Int))), []⟩), (57, .call ⟨1, [(0, 5, true)], (V_viewportkitSameapiLexemef (c10_a :: c10_t) c12_), (R_viewportkitSameapiLexemef (c10_a :: c10_t) c12_), []⟩)]) (L := lT []) (wk := ⟨[6], [], 0, 0⟩)
    (ps := [Gv P (.func 5) [] Ax.h0 (Value.bool true) Ax.h0,
    Gv P (.func 6) (A_viewportkitLightDfa 24) (H_viewportkitLightDfa 24) (V_viewportkitLightDfa 24 c2_) (R_viewportkitLightDfa 24 c2_),
    (Value.bool (!c2_)) = (Value.bool false),
    (Value.bool (decide ((((x).size : Nat) : Int) > (60 : Int)))) = (Value.bool false),
    Gv P (.func 7) (A_munchNext x a) (H_munchNext x a) (V_munchNext x a (c5_0, c5_1, c5_2, c5_3, c5_4)) (R_munchNext x a (c5_0, c5_1, c5_2, c5_3, c5_4)),
    Gv P (.func 8) (A_viewportref06Next x a) (H_viewportref06Next x a) (V_viewportref06Next x a (c6_0, c6_1, c6_2, c6_3, c6_4)) (R_viewportref06Next x a (c6_0, c6_1, c6_2, c6_3, c6_4)),
    (Value.bool ((c5_0 == c6_0) && ((c5_1 == c6_1) && ((c5_2 == c6_2) && ((c5_3 == c6_3) && true))))) = (Value.bool true),
    (Value.bool (c5_4 == c6_4)) = (Value.bool true),
    Gv P (.func 10) (A_munchAll x) (H_munchAll x) (V_munchAll x (c10_a :: c10_t)) (R_munchAll x (c10_a :: c10_t)),
    FlatB (.cells (layT (rows rw_iiii (c10_a :: c10_t))) 28),
    Gv P (.func 11) (A_viewportref06All x) (H_viewportref06All x) (V_viewportref06All x ([] : List (Int × Int × Int × Int))) (R_viewportref06All x ([] : List (Int × Int × Int × Int))),
    Gv P (.func 9) (A_viewportkitSameapiLexemef (c10_a :: c10_t)) (H_viewportkitSameapiLexemef (c10_a :: c10_t)) (V_viewportkitSameapiLexemef (c10_a :: c10_t) c12_) (R_viewportkitSameapiLexemef (c10_a :: c10_t) c12_),
    FlatB (.cells (layT (rows rw_iiii (c10_a :: c10_t))) 28)]) (by kernel_rfl) ⟨(m_viewportlaw06lives_ok n () hc1), (m_viewportkitLightDfa_ok n 24 c2_ hc2), (vBn hc3), (vbF hc4), (m_munchNext_ok n x a (c5_0, c5_1, c5_2, c5_3, c5_4) hc5), (m_viewportref06Next_ok n x a (c6_0, c6_1, c6_2, c6_3, c6_4) hc6), (vB hc7), (vEqB hc8 hc9), (m_munchAll_ok n x (c10_a :: c10_t) hc10), (rows_flat rwf_iiii _ _), (m_viewportref06All_ok n x ([] : List (Int × Int × Int × Int)) hc11), (m_viewportkitSameapiLexemef_ok n (c10_a :: c10_t) c12_ hc12), (rows_flat rwf_iiii _ _), trivial⟩
set_option maxRecDepth 100000 in
theorem p_viewportlaw06MunchCalls_4 (n : Nat) (x : ByteArray) (a : Int) (hc1 : m_viewportlaw06lives n = some ()) (c2_ : Bool) (hc2 : m_viewportkitLightDfa n 24 = some c2_) (hc3 : c2_ = true) (hc4 : ¬ ((((x).size : Nat) : Int) > (60 : Int))) (c5_0 : Int) (c5_1 : Int) (c5_2 : Int) (c5_3 : Int) (c5_4 : Bool) (hc5 : m_munchNext n x a = some (c5_0, c5_1, c5_2, c5_3, c5_4)) (c6_0 : Int) (c6_1 : Int) (c6_2 : Int) (c6_3 : Int) (c6_4 : Bool) (hc6 : m_viewportref06Next n x a = some (c6_0, c6_1, c6_2, c6_3, c6_4)) (hc7 : ((c5_0 == c6_0) && ((c5_1 == c6_1) && ((c5_2 == c6_2) && ((c5_3 == c6_3) && true)))) = true) (hc8 : c5_4 = true) (hc9 : c6_4 = true) (c10_a : Int × Int × Int × Int) (c10_t : List (Int × Int × Int × Int)) (hc10 : m_munchAll n x = some (c10_a :: c10_t)) (c11_a : Int × Int × Int × Int) (c11_t : List (Int × Int × Int × Int)) (hc11 : m_viewportref06All n x = some (c11_a :: c11_t)) (c12_ : Bool) (hc12 : m_viewportkitSameapiLexemec n (c10_a :: c10_t) (c11_a :: c11_t) = some c12_) : Gv P (.func 3) (A_viewportlaw06MunchCalls x a) (H_viewportlaw06MunchCalls x a) (V_viewportlaw06MunchCalls x a c12_) (R_viewportlaw06MunchCalls x a c12_) :=
  runF_ok hm (A := aT [(5, .call ⟨0, [], (Value.bool true), Ax.h0, []⟩), (11, .call ⟨0, [], (V_viewportkitLightDfa 24 c2_), (R_viewportkitLightDfa 24 c2_), []⟩), (12, .val (.bool false)), (16, .val (.bool false)), (23, .call ⟨0, [], (V_munchNext x a (c5_0, c5_1, c5_2, c5_3, c5_4)), (R_munchNext x a (c5_0, c5_1, c5_2, c5_3, c5_4)), [(1, 0, false)]⟩), (34, .call ⟨0, [], (V_viewportref06Next x a (c6_0, c6_1, c6_2, c6_3, c6_4)), (R_viewportref06Next x a (c6_0, c6_1, c6_2, c6_3, c6_4)), [(3, 0, false)]⟩), (45, .val (.bool true)), (48, .val (.bool true)), (53, .call ⟨0, [], (V_munchAll x (c10_a :: c10_t)), (R_munchAll x (c10_a :: c10_t)), [(5, 0, true)]⟩), (56, .call ⟨0, [], (V_viewportref06All x (c11_a :: c11_t)), (R_viewportref06All x (c11_a :: c11_t)), [(6, 0, true)]⟩), (57, .call ⟨2, [(0, 5, true), (1, 6, true)], (V_viewportkitSameapiLexemec (c10_a :: c10_t) (c11_a :: c11_t) c12_), (R_viewportkitSameapiLexemec (c10_a :: c10_t) (c11_a :: c11_t) c12_), []⟩)]) (L := lT []) (wk := ⟨[6], [], 0, 0⟩)
    (ps := [Gv P (.func 5) [] Ax.h0 (Value.bool true) Ax.h0,
    Gv P (.func 6) (A_viewportkitLightDfa 24) (H_viewportkitLightDfa 24) (V_viewportkitLightDfa 24 c2_) (R_viewportkitLightDfa 24 c2_),
    (Value.bool (!c2_)) = (Value.bool false),
    (Value.bool (decide ((((x).size : Nat) : Int) > (60 : Int)))) = (Value.bool false),
    Gv P (.func 7) (A_munchNext x a) (H_munchNext x a) (V_munchNext x a (c5_0, c5_1, c5_2, c5_3, c5_4)) (R_munchNext x a (c5_0, c5_1, c5_2, c5_3, c5_4)),
    Gv P (.func 8) (A_viewportref06Next x a) (H_viewportref06Next x a) (V_viewportref06Next x a (c6_0, c6_1, c6_2, c6_3, c6_4)) (R_viewportref06Next x a (c6_0, c6_1, c6_2, c6_3, c6_4)),
    (Value.bool ((c5_0 == c6_0) && ((c5_1 == c6_1) && ((c5_2 == c6_2) && ((c5_3 == c6_3) && true))))) = (Value.bool true),
    (Value.bool (c5_4 == c6_4)) = (Value.bool true),
    Gv P (.func 10) (A_munchAll x) (H_munchAll x) (V_munchAll x (c10_a :: c10_t)) (R_munchAll x (c10_a :: c10_t)),
    FlatB (.cells (layT (rows rw_iiii (c10_a :: c10_t))) 28),
    Gv P (.func 11) (A_viewportref06All x) (H_viewportref06All x) (V_viewportref06All x (c11_a :: c11_t)) (R_viewportref06All x (c11_a :: c11_t)),
    FlatB (.cells (layT (rows rw_iiii (c11_a :: c11_t))) 28),
    Gv P (.func 9) (A_viewportkitSameapiLexemec (c10_a :: c10_t) (c11_a :: c11_t)) (H_viewportkitSameapiLexemec (c10_a :: c10_t) (c11_a :: c11_t)) (V_viewportkitSameapiLexemec (c10_a :: c10_t) (c11_a :: c11_t) c12_) (R_viewportkitSameapiLexemec (c10_a :: c10_t) (c11_a :: c11_t) c12_),
    FlatB (.cells (layT (rows rw_iiii (c10_a :: c10_t))) 28),
    FlatB (.cells (layT (rows rw_iiii (c11_a :: c11_t))) 28)]) (by kernel_rfl) ⟨(m_viewportlaw06lives_ok n () hc1), (m_viewportkitLightDfa_ok n 24 c2_ hc2), (vBn hc3), (vbF hc4), (m_munchNext_ok n x a (c5_0, c5_1, c5_2, c5_3, c5_4) hc5), (m_viewportref06Next_ok n x a (c6_0, c6_1, c6_2, c6_3, c6_4) hc6), (vB hc7), (vEqB hc8 hc9), (m_munchAll_ok n x (c10_a :: c10_t) hc10), (rows_flat rwf_iiii _ _), (m_viewportref06All_ok n x (c11_a :: c11_t) hc11), (rows_flat rwf_iiii _ _), (m_viewportkitSameapiLexemec_ok n (c10_a :: c10_t) (c11_a :: c11_t) c12_ hc12), (rows_flat rwf_iiii _ _), (rows_flat rwf_iiii _ _), trivial⟩
set_option maxRecDepth 100000 in
theorem p_viewportlaw06MunchCalls_5 (n : Nat) (x : ByteArray) (a : Int) (hc1 : m_viewportlaw06lives n = some ()) (c2_ : Bool) (hc2 : m_viewportkitLightDfa n 24 = some c2_) (hc3 : c2_ = true) (hc4 : ¬ ((((x).size : Nat) : Int) > (60 : Int))) (c5_0 : Int) (c5_1 : Int) (c5_2 : Int) (c5_3 : Int) (c5_4 : Bool) (hc5 : m_munchNext n x a = some (c5_0, c5_1, c5_2, c5_3, c5_4)) (c6_0 : Int) (c6_1 : Int) (c6_2 : Int) (c6_3 : Int) (c6_4 : Bool) (hc6 : m_viewportref06Next n x a = some (c6_0, c6_1, c6_2, c6_3, c6_4)) (hc7 : ((c5_0 == c6_0) && ((c5_1 == c6_1) && ((c5_2 == c6_2) && ((c5_3 == c6_3) && true)))) = true) (hc8 : ¬ (c5_4 = true)) (hc9 : ¬ (c6_4 = true)) (hc10 : m_munchAll n x = some []) (hc11 : m_viewportref06All n x = some []) (hc12 : m_viewportkitSameapiLexemed n = some ()) : Gv P (.func 3) (A_viewportlaw06MunchCalls x a) (H_viewportlaw06MunchCalls x a) (V_viewportlaw06MunchCalls x a true) (R_viewportlaw06MunchCalls x a true) :=
  runF_ok hm (A := aT [(5, .call ⟨0, [], (Value.bool true), Ax.h0, []⟩), (11, .call ⟨0, [], (V_viewportkitLightDfa 24 c2_), (R_viewportkitLightDfa 24 c2_), []⟩), (12, .val (.bool false)), (16, .val (.bool false)), (23, .call ⟨0, [], (V_munchNext x a (c5_0, c5_1, c5_2, c5_3, c5_4)), (R_munchNext x a (c5_0, c5_1, c5_2, c5_3, c5_4)), [(1, 0, false)]⟩), (34, .call ⟨0, [], (V_viewportref06Next x a (c6_0, c6_1, c6_2, c6_3, c6_4)), (R_viewportref06Next x a (c6_0, c6_1, c6_2, c6_3, c6_4)), [(3, 0, false)]⟩), (45, .val (.bool true)), (48, .val (.bool true)), (53, .call ⟨0, [], (V_munchAll x ([] : List (Int × Int × Int × Int))), (R_munchAll x ([] : List (Int × Int × Int × Int))), []⟩), (56, .call ⟨0, [], (V_viewportref06All x ([] : List (Int × Int × Int × Int))), (R_viewportref06All x ([] : List (Int × Int × Int × Int))), []⟩), (57, .call ⟨0, [], (V_viewportkitSameapiLexemed  ()), (R_viewportkitSameapiLexemed  ()), []⟩)]) (L := lT []) (wk := ⟨[6], [], 0, 0⟩)
    (ps := [Gv P (.func 5) [] Ax.h0 (Value.bool true) Ax.h0,
    Gv P (.func 6) (A_viewportkitLightDfa 24) (H_viewportkitLightDfa 24) (V_viewportkitLightDfa 24 c2_) (R_viewportkitLightDfa 24 c2_),
    (Value.bool (!c2_)) = (Value.bool false),
    (Value.bool (decide ((((x).size : Nat) : Int) > (60 : Int)))) = (Value.bool false),
    Gv P (.func 7) (A_munchNext x a) (H_munchNext x a) (V_munchNext x a (c5_0, c5_1, c5_2, c5_3, c5_4)) (R_munchNext x a (c5_0, c5_1, c5_2, c5_3, c5_4)),
    Gv P (.func 8) (A_viewportref06Next x a) (H_viewportref06Next x a) (V_viewportref06Next x a (c6_0, c6_1, c6_2, c6_3, c6_4)) (R_viewportref06Next x a (c6_0, c6_1, c6_2, c6_3, c6_4)),
    (Value.bool ((c5_0 == c6_0) && ((c5_1 == c6_1) && ((c5_2 == c6_2) && ((c5_3 == c6_3) && true))))) = (Value.bool true),
    (Value.bool (c5_4 == c6_4)) = (Value.bool true),
    Gv P (.func 10) (A_munchAll x) (H_munchAll x) (V_munchAll x ([] : List (Int × Int × Int × Int))) (R_munchAll x ([] : List (Int × Int × Int × Int))),
    Gv P (.func 11) (A_viewportref06All x) (H_viewportref06All x) (V_viewportref06All x ([] : List (Int × Int × Int × Int))) (R_viewportref06All x ([] : List (Int × Int × Int × Int))),
    Gv P (.func 9) A_viewportkitSameapiLexemed H_viewportkitSameapiLexemed (V_viewportkitSameapiLexemed  ()) (R_viewportkitSameapiLexemed  ())]) (by kernel_rfl) ⟨(m_viewportlaw06lives_ok n () hc1), (m_viewportkitLightDfa_ok n 24 c2_ hc2), (vBn hc3), (vbF hc4), (m_munchNext_ok n x a (c5_0, c5_1, c5_2, c5_3, c5_4) hc5), (m_viewportref06Next_ok n x a (c6_0, c6_1, c6_2, c6_3, c6_4) hc6), (vB hc7), (vEqB (Bool.eq_false_iff.2 hc8) (Bool.eq_false_iff.2 hc9)), (m_munchAll_ok n x ([] : List (Int × Int × Int × Int)) hc10), (m_viewportref06All_ok n x ([] : List (Int × Int × Int × Int)) hc11), (m_viewportkitSameapiLexemed_ok n () hc12), trivial⟩
set_option maxRecDepth 100000 in
theorem p_viewportlaw06MunchCalls_6 (n : Nat) (x : ByteArray) (a : Int) (hc1 : m_viewportlaw06lives n = some ()) (c2_ : Bool) (hc2 : m_viewportkitLightDfa n 24 = some c2_) (hc3 : c2_ = true) (hc4 : ¬ ((((x).size : Nat) : Int) > (60 : Int))) (c5_0 : Int) (c5_1 : Int) (c5_2 : Int) (c5_3 : Int) (c5_4 : Bool) (hc5 : m_munchNext n x a = some (c5_0, c5_1, c5_2, c5_3, c5_4)) (c6_0 : Int) (c6_1 : Int) (c6_2 : Int) (c6_3 : Int) (c6_4 : Bool) (hc6 : m_viewportref06Next n x a = some (c6_0, c6_1, c6_2, c6_3, c6_4)) (hc7 : ((c5_0 == c6_0) && ((c5_1 == c6_1) && ((c5_2 == c6_2) && ((c5_3 == c6_3) && true)))) = true) (hc8 : ¬ (c5_4 = true)) (hc9 : ¬ (c6_4 = true)) (hc10 : m_munchAll n x = some []) (c11_a : Int × Int × Int × Int) (c11_t : List (Int × Int × Int × Int)) (hc11 : m_viewportref06All n x = some (c11_a :: c11_t)) (c12_ : Bool) (hc12 : m_viewportkitSameapiLexemee n (c11_a :: c11_t) = some c12_) : Gv P (.func 3) (A_viewportlaw06MunchCalls x a) (H_viewportlaw06MunchCalls x a) (V_viewportlaw06MunchCalls x a c12_) (R_viewportlaw06MunchCalls x a c12_) :=
  runF_ok hm (A := aT [(5, .call ⟨0, [], (Value.bool true), Ax.h0, []⟩), (11, .call ⟨0, [], (V_viewportkitLightDfa 24 c2_), (R_viewportkitLightDfa 24 c2_), []⟩), (12, .val (.bool false)), (16, .val (.bool false)), (23, .call ⟨0, [], (V_munchNext x a (c5_0, c5_1, c5_2, c5_3, c5_4)), (R_munchNext x a (c5_0, c5_1, c5_2, c5_3, c5_4)), [(1, 0, false)]⟩), (34, .call ⟨0, [], (V_viewportref06Next x a (c6_0, c6_1, c6_2, c6_3, c6_4)), (R_viewportref06Next x a (c6_0, c6_1, c6_2, c6_3, c6_4)), [(3, 0, false)]⟩), (45, .val (.bool true)), (48, .val (.bool true)), (53, .call ⟨0, [], (V_munchAll x ([] : List (Int × Int × Int × Int))), (R_munchAll x ([] : List (Int × Int × Int × Int))), []⟩), (56, .call ⟨0, [], (V_viewportref06All x (c11_a :: c11_t)), (R_viewportref06All x (c11_a :: c11_t)), [(6, 0, true)]⟩), (57, .call ⟨1, [(0, 6, true)], (V_viewportkitSameapiLexemee (c11_a :: c11_t) c12_), (R_viewportkitSameapiLexemee (c11_a :: c11_t) c12_), []⟩)]) (L := lT []) (wk := ⟨[6], [], 0, 0⟩)
    (ps := [Gv P (.func 5) [] Ax.h0 (Value.bool true) Ax.h0,
    Gv P (.func 6) (A_viewportkitLightDfa 24) (H_viewportkitLightDfa 24) (V_viewportkitLightDfa 24 c2_) (R_viewportkitLightDfa 24 c2_),
    (Value.bool (!c2_)) = (Value.bool false),
    (Value.bool (decide ((((x).size : Nat) : Int) > (60 : Int)))) = (Value.bool false),
    Gv P (.func 7) (A_munchNext x a) (H_munchNext x a) (V_munchNext x a (c5_0, c5_1, c5_2, c5_3, c5_4)) (R_munchNext x a (c5_0, c5_1, c5_2, c5_3, c5_4)),
    Gv P (.func 8) (A_viewportref06Next x a) (H_viewportref06Next x a) (V_viewportref06Next x a (c6_0, c6_1, c6_2, c6_3, c6_4)) (R_viewportref06Next x a (c6_0, c6_1, c6_2, c6_3, c6_4)),
    (Value.bool ((c5_0 == c6_0) && ((c5_1 == c6_1) && ((c5_2 == c6_2) && ((c5_3 == c6_3) && true))))) = (Value.bool true),
    (Value.bool (c5_4 == c6_4)) = (Value.bool true),
    Gv P (.func 10) (A_munchAll x) (H_munchAll x) (V_munchAll x ([] : List (Int × Int × Int × Int))) (R_munchAll x ([] : List (Int × Int × Int × Int))),
    Gv P (.func 11) (A_viewportref06All x) (H_viewportref06All x) (V_viewportref06All x (c11_a :: c11_t)) (R_viewportref06All x (c11_a :: c11_t)),
    FlatB (.cells (layT (rows rw_iiii (c11_a :: c11_t))) 28),
    Gv P (.func 9) (A_viewportkitSameapiLexemee (c11_a :: c11_t)) (H_viewportkitSameapiLexemee (c11_a :: c11_t)) (V_viewportkitSameapiLexemee (c11_a :: c11_t) c12_) (R_viewportkitSameapiLexemee (c11_a :: c11_t) c12_),
    FlatB (.cells (layT (rows rw_iiii (c11_a :: c11_t))) 28)]) (by kernel_rfl) ⟨(m_viewportlaw06lives_ok n () hc1), (m_viewportkitLightDfa_ok n 24 c2_ hc2), (vBn hc3), (vbF hc4), (m_munchNext_ok n x a (c5_0, c5_1, c5_2, c5_3, c5_4) hc5), (m_viewportref06Next_ok n x a (c6_0, c6_1, c6_2, c6_3, c6_4) hc6), (vB hc7), (vEqB (Bool.eq_false_iff.2 hc8) (Bool.eq_false_iff.2 hc9)), (m_munchAll_ok n x ([] : List (Int × Int × Int × Int)) hc10), (m_viewportref06All_ok n x (c11_a :: c11_t) hc11), (rows_flat rwf_iiii _ _), (m_viewportkitSameapiLexemee_ok n (c11_a :: c11_t) c12_ hc12), (rows_flat rwf_iiii _ _), trivial⟩
set_option maxRecDepth 100000 in
theorem p_viewportlaw06MunchCalls_7 (n : Nat) (x : ByteArray) (a : Int) (hc1 : m_viewportlaw06lives n = some ()) (c2_ : Bool) (hc2 : m_viewportkitLightDfa n 24 = some c2_) (hc3 : c2_ = true) (hc4 : ¬ ((((x).size : Nat) : Int) > (60 : Int))) (c5_0 : Int) (c5_1 : Int) (c5_2 : Int) (c5_3 : Int) (c5_4 : Bool) (hc5 : m_munchNext n x a = some (c5_0, c5_1, c5_2, c5_3, c5_4)) (c6_0 : Int) (c6_1 : Int) (c6_2 : Int) (c6_3 : Int) (c6_4 : Bool) (hc6 : m_viewportref06Next n x a = some (c6_0, c6_1, c6_2, c6_3, c6_4)) (hc7 : ((c5_0 == c6_0) && ((c5_1 == c6_1) && ((c5_2 == c6_2) && ((c5_3 == c6_3) && true)))) = true) (hc8 : ¬ (c5_4 = true)) (hc9 : ¬ (c6_4 = true)) (c10_a : Int × Int × Int × Int) (c10_t : List (Int × Int × Int × Int)) (hc10 : m_munchAll n x = some (c10_a :: c10_t)) (hc11 : m_viewportref06All n x = some []) (c12_ : Bool) (hc12 : m_viewportkitSameapiLexemef n (c10_a :: c10_t) = some c12_) : Gv P (.func 3) (A_viewportlaw06MunchCalls x a) (H_viewportlaw06MunchCalls x a) (V_viewportlaw06MunchCalls x a c12_) (R_viewportlaw06MunchCalls x a c12_) :=
  runF_ok hm (A := aT [(5, .call ⟨0, [], (Value.bool true), Ax.h0, []⟩), (11, .call ⟨0, [], (V_viewportkitLightDfa 24 c2_), (R_viewportkitLightDfa 24 c2_), []⟩), (12, .val (.bool false)), (16, .val (.bool false)), (23, .call ⟨0, [], (V_munchNext x a (c5_0, c5_1, c5_2, c5_3, c5_4)), (R_munchNext x a (c5_0, c5_1, c5_2, c5_3, c5_4)), [(1, 0, false)]⟩), (34, .call ⟨0, [], (V_viewportref06Next x a (c6_0, c6_1, c6_2, c6_3, c6_4)), (R_viewportref06Next x a (c6_0, c6_1, c6_2, c6_3, c6_4)), [(3, 0, false)]⟩), (45, .val (.bool true)), (48, .val (.bool true)), (53, .call ⟨0, [], (V_munchAll x (c10_a :: c10_t)), (R_munchAll x (c10_a :: c10_t)), [(5, 0, true)]⟩), (56, .call ⟨0, [], (V_viewportref06All x ([] : List (Int × Int × Int × Int))), (R_viewportref06All x ([] : List (Int × Int × Int × Int))), []⟩), (57, .call ⟨1, [(0, 5, true)], (V_viewportkitSameapiLexemef (c10_a :: c10_t) c12_), (R_viewportkitSameapiLexemef (c10_a :: c10_t) c12_), []⟩)]) (L := lT []) (wk := ⟨[6], [], 0, 0⟩)
    (ps := [Gv P (.func 5) [] Ax.h0 (Value.bool true) Ax.h0,
    Gv P (.func 6) (A_viewportkitLightDfa 24) (H_viewportkitLightDfa 24) (V_viewportkitLightDfa 24 c2_) (R_viewportkitLightDfa 24 c2_),
    (Value.bool (!c2_)) = (Value.bool false),
    (Value.bool (decide ((((x).size : Nat) : Int) > (60 : Int)))) = (Value.bool false),
    Gv P (.func 7) (A_munchNext x a) (H_munchNext x a) (V_munchNext x a (c5_0, c5_1, c5_2, c5_3, c5_4)) (R_munchNext x a (c5_0, c5_1, c5_2, c5_3, c5_4)),
    Gv P (.func 8) (A_viewportref06Next x a) (H_viewportref06Next x a) (V_viewportref06Next x a (c6_0, c6_1, c6_2, c6_3, c6_4)) (R_viewportref06Next x a (c6_0, c6_1, c6_2, c6_3, c6_4)),
    (Value.bool ((c5_0 == c6_0) && ((c5_1 == c6_1) && ((c5_2 == c6_2) && ((c5_3 == c6_3) && true))))) = (Value.bool true),
    (Value.bool (c5_4 == c6_4)) = (Value.bool true),
    Gv P (.func 10) (A_munchAll x) (H_munchAll x) (V_munchAll x (c10_a :: c10_t)) (R_munchAll x (c10_a :: c10_t)),
    FlatB (.cells (layT (rows rw_iiii (c10_a :: c10_t))) 28),
    Gv P (.func 11) (A_viewportref06All x) (H_viewportref06All x) (V_viewportref06All x ([] : List (Int × Int × Int × Int))) (R_viewportref06All x ([] : List (Int × Int × Int × Int))),
    Gv P (.func 9) (A_viewportkitSameapiLexemef (c10_a :: c10_t)) (H_viewportkitSameapiLexemef (c10_a :: c10_t)) (V_viewportkitSameapiLexemef (c10_a :: c10_t) c12_) (R_viewportkitSameapiLexemef (c10_a :: c10_t) c12_),
    FlatB (.cells (layT (rows rw_iiii (c10_a :: c10_t))) 28)]) (by kernel_rfl) ⟨(m_viewportlaw06lives_ok n () hc1), (m_viewportkitLightDfa_ok n 24 c2_ hc2), (vBn hc3), (vbF hc4), (m_munchNext_ok n x a (c5_0, c5_1, c5_2, c5_3, c5_4) hc5), (m_viewportref06Next_ok n x a (c6_0, c6_1, c6_2, c6_3, c6_4) hc6), (vB hc7), (vEqB (Bool.eq_false_iff.2 hc8) (Bool.eq_false_iff.2 hc9)), (m_munchAll_ok n x (c10_a :: c10_t) hc10), (rows_flat rwf_iiii _ _), (m_viewportref06All_ok n x ([] : List (Int × Int × Int × Int)) hc11), (m_viewportkitSameapiLexemef_ok n (c10_a :: c10_t) c12_ hc12), (rows_flat rwf_iiii _ _), trivial⟩
set_option maxRecDepth 100000 in
theorem p_viewportlaw06MunchCalls_8 (n : Nat) (x : ByteArray) (a : Int) (hc1 : m_viewportlaw06lives n = some ()) (c2_ : Bool) (hc2 : m_viewportkitLightDfa n 24 = some c2_) (hc3 : c2_ = true) (hc4 : ¬ ((((x).size : Nat) : Int) > (60 : Int))) (c5_0 : Int) (c5_1 : Int) (c5_2 : Int) (c5_3 : Int) (c5_4 : Bool) (hc5 : m_munchNext n x a = some (c5_0, c5_1, c5_2, c5_3, c5_4)) (c6_0 : Int) (c6_1 : Int) (c6_2 : Int) (c6_3 : Int) (c6_4 : Bool) (hc6 : m_viewportref06Next n x a = some (c6_0, c6_1, c6_2, c6_3, c6_4)) (hc7 : ((c5_0 == c6_0) && ((c5_1 == c6_1) && ((c5_2 == c6_2) && ((c5_3 == c6_3) && true)))) = true) (hc8 : ¬ (c5_4 = true)) (hc9 : ¬ (c6_4 = true)) (c10_a : Int × Int × Int × Int) (c10_t : List (Int × Int × Int × Int)) (hc10 : m_munchAll n x = some (c10_a :: c10_t)) (c11_a : Int × Int × Int × Int) (c11_t : List (Int × Int × Int × Int)) (hc11 : m_viewportref06All n x = some (c11_a :: c11_t)) (c12_ : Bool) (hc12 : m_viewportkitSameapiLexemec n (c10_a :: c10_t) (c11_a :: c11_t) = some c12_) : Gv P (.func 3) (A_viewportlaw06MunchCalls x a) (H_viewportlaw06MunchCalls x a) (V_viewportlaw06MunchCalls x a c12_) (R_viewportlaw06MunchCalls x a c12_) :=
  runF_ok hm (A := aT [(5, .call ⟨0, [], (Value.bool true), Ax.h0, []⟩), (11, .call ⟨0, [], (V_viewportkitLightDfa 24 c2_), (R_viewportkitLightDfa 24 c2_), []⟩), (12, .val (.bool false)), (16, .val (.bool false)), (23, .call ⟨0, [], (V_munchNext x a (c5_0, c5_1, c5_2, c5_3, c5_4)), (R_munchNext x a (c5_0, c5_1, c5_2, c5_3, c5_4)), [(1, 0, false)]⟩), (34, .call ⟨0, [], (V_viewportref06Next x a (c6_0, c6_1, c6_2, c6_3, c6_4)), (R_viewportref06Next x a (c6_0, c6_1, c6_2, c6_3, c6_4)), [(3, 0, false)]⟩), (45, .val (.bool true)), (48, .val (.bool true)), (53, .call ⟨0, [], (V_munchAll x (c10_a :: c10_t)), (R_munchAll x (c10_a :: c10_t)), [(5, 0, true)]⟩), (56, .call ⟨0, [], (V_viewportref06All x (c11_a :: c11_t)), (R_viewportref06All x (c11_a :: c11_t)), [(6, 0, true)]⟩), (57, .call ⟨2, [(0, 5, true), (1, 6, true)], (V_viewportkitSameapiLexemec (c10_a :: c10_t) (c11_a :: c11_t) c12_), (R_viewportkitSameapiLexemec (c10_a :: c10_t) (c11_a :: c11_t) c12_), []⟩)]) (L := lT []) (wk := ⟨[6], [], 0, 0⟩)
    (ps := [Gv P (.func 5) [] Ax.h0 (Value.bool true) Ax.h0,
    Gv P (.func 6) (A_viewportkitLightDfa 24) (H_viewportkitLightDfa 24) (V_viewportkitLightDfa 24 c2_) (R_viewportkitLightDfa 24 c2_),
    (Value.bool (!c2_)) = (Value.bool false),
    (Value.bool (decide ((((x).size : Nat) : Int) > (60 : Int)))) = (Value.bool false),
    Gv P (.func 7) (A_munchNext x a) (H_munchNext x a) (V_munchNext x a (c5_0, c5_1, c5_2, c5_3, c5_4)) (R_munchNext x a (c5_0, c5_1, c5_2, c5_3, c5_4)),
    Gv P (.func 8) (A_viewportref06Next x a) (H_viewportref06Next x a) (V_viewportref06Next x a (c6_0, c6_1, c6_2, c6_3, c6_4)) (R_viewportref06Next x a (c6_0, c6_1, c6_2, c6_3, c6_4)),
    (Value.bool ((c5_0 == c6_0) && ((c5_1 == c6_1) && ((c5_2 == c6_2) && ((c5_3 == c6_3) && true))))) = (Value.bool true),
    (Value.bool (c5_4 == c6_4)) = (Value.bool true),
    Gv P (.func 10) (A_munchAll x) (H_munchAll x) (V_munchAll x (c10_a :: c10_t)) (R_munchAll x (c10_a :: c10_t)),
    FlatB (.cells (layT (rows rw_iiii (c10_a :: c10_t))) 28),
    Gv P (.func 11) (A_viewportref06All x) (H_viewportref06All x) (V_viewportref06All x (c11_a :: c11_t)) (R_viewportref06All x (c11_a :: c11_t)),
    FlatB (.cells (layT (rows rw_iiii (c11_a :: c11_t))) 28),
    Gv P (.func 9) (A_viewportkitSameapiLexemec (c10_a :: c10_t) (c11_a :: c11_t)) (H_viewportkitSameapiLexemec (c10_a :: c10_t) (c11_a :: c11_t)) (V_viewportkitSameapiLexemec (c10_a :: c10_t) (c11_a :: c11_t) c12_) (R_viewportkitSameapiLexemec (c10_a :: c10_t) (c11_a :: c11_t) c12_),
    FlatB (.cells (layT (rows rw_iiii (c10_a :: c10_t))) 28),
    FlatB (.cells (layT (rows rw_iiii (c11_a :: c11_t))) 28)]) (by kernel_rfl) ⟨(m_viewportlaw06lives_ok n () hc1), (m_viewportkitLightDfa_ok n 24 c2_ hc2), (vBn hc3), (vbF hc4), (m_munchNext_ok n x a (c5_0, c5_1, c5_2, c5_3, c5_4) hc5), (m_viewportref06Next_ok n x a (c6_0, c6_1, c6_2, c6_3, c6_4) hc6), (vB hc7), (vEqB (Bool.eq_false_iff.2 hc8) (Bool.eq_false_iff.2 hc9)), (m_munchAll_ok n x (c10_a :: c10_t) hc10), (rows_flat rwf_iiii _ _), (m_viewportref06All_ok n x (c11_a :: c11_t) hc11), (rows_flat rwf_iiii _ _), (m_viewportkitSameapiLexemec_ok n (c10_a :: c10_t) (c11_a :: c11_t) c12_ hc12), (rows_flat rwf_iiii _ _), (rows_flat rwf_iiii _ _), trivial⟩
set_option maxRecDepth 100000 in
theorem p_viewportlaw06MunchCalls_9 (n : Nat) (x : ByteArray) (a : Int) (hc1 : m_viewportlaw06lives n = some ()) (c2_ : Bool) (hc2 : m_viewportkitLightDfa n 24 = some c2_) (hc3 : ¬ (c2_ = true)) : Gv P (.func 3) (A_viewportlaw06MunchCalls x a) (H_viewportlaw06MunchCalls x a) (V_viewportlaw06MunchCalls x a true) (R_viewportlaw06MunchCalls x a true) :=
  runF_ok hm (A := aT [(5, .call ⟨0, [], (Value.bool true), Ax.h0, []⟩), (11, .call ⟨0, [], (V_viewportkitLightDfa 24 c2_), (R_viewportkitLightDfa 24 c2_), []⟩), (12, .val (.bool true))]) (L := lT []) (wk := ⟨[6], [], 0, 0⟩)
    (ps := [Gv P (.func 5) [] Ax.h0 (Value.bool true) Ax.h0,
    Gv P (.func 6) (A_viewportkitLightDfa 24) (H_viewportkitLightDfa 24) (V_viewportkitLightDfa 24 c2_) (R_viewportkitLightDfa 24 c2_),
    (Value.bool (!c2_)) = (Value.bool true)]) (by kernel_rfl) ⟨(m_viewportlaw06lives_ok n () hc1), (m_viewportkitLightDfa_ok n 24 c2_ hc2), (vBn (Bool.eq_false_iff.2 hc3)), trivial⟩
theorem m_viewportlaw06MunchCalls_ok (n : Nat) (x : ByteArray) (a : Int) (r : Bool) (h : m_viewportlaw06MunchCalls n x a = some r) : Gv P (.func 3) (A_viewportlaw06MunchCalls x a) (H_viewportlaw06MunchCalls x a) (V_viewportlaw06MunchCalls x a r) (R_viewportlaw06MunchCalls x a r) := by
  unfold m_viewportlaw06MunchCalls at h
  obtain ⟨_, hc1, h⟩ := Option.bind_eq_some_iff.1 h
  obtain ⟨c2_, hc2, h⟩ := Option.bind_eq_some_iff.1 h
  by_cases hc3 : c2_ = true
  · rw [if_pos hc3] at h
    by_cases hc4 : (((x).size : Nat) : Int) > (60 : Int)
    · rw [if_pos hc4] at h
      obtain rfl := Option.some.inj h; exact p_viewportlaw06MunchCalls_0 n x a hc1 c2_ hc2 hc3 hc4
    · rw [if_neg hc4] at h
      obtain ⟨⟨c5_0, c5_1, c5_2, c5_3, c5_4⟩, hc5, h⟩ := Option.bind_eq_some_iff.1 h
      dsimp only at h
      obtain ⟨⟨c6_0, c6_1, c6_2, c6_3, c6_4⟩, hc6, h⟩ := Option.bind_eq_some_iff.1 h
      dsimp only at h
      by_cases hc7 : ((c5_0 == c6_0) && ((c5_1 == c6_1) && ((c5_2 == c6_2) && ((c5_3 == c6_3) && true)))) = true
      · rw [if_pos hc7] at h
        by_cases hc8 : c5_4 = true
        · rw [if_pos hc8] at h
          by_cases hc9 : c6_4 = true
          · rw [if_pos hc9] at h
            obtain ⟨c10_, hc10, h⟩ := Option.bind_eq_some_iff.1 h
            cases c10_ with
            | nil =>
              dsimp only at h
              obtain ⟨c11_, hc11, h⟩ := Option.bind_eq_some_iff.1 h
              cases c11_ with
              | nil =>
                dsimp only at h
                obtain ⟨_, hc12, h⟩ := Option.bind_eq_some_iff.1 h
                obtain rfl := Option.some.inj h; exact p_viewportlaw06MunchCalls_1 n x a hc1 c2_ hc2 hc3 hc4 c5_0 c5_1 c5_2 c5_3 c5_4 hc5 c6_0 c6_1 c6_2 c6_3 c6_4 hc6 hc7 hc8 hc9 hc10 hc11 hc12
              | cons c11_a c11_t =>
                dsimp only at h
                obtain ⟨c12_, hc12, h⟩ := Option.bind_eq_some_iff.1 h
                obtain rfl := Option.some.inj h; exact p_viewportlaw06MunchCalls_2 n x a hc1 c2_ hc2 hc3 hc4 c5_0 c5_1 c5_2 c5_3 c5_4 hc5 c6_0 c6_1 c6_2 c6_3 c6_4 hc6 hc7 hc8 hc9 hc10 c11_a c11_t hc11 c12_ hc12
            | cons c10_a c10_t =>
              dsimp only at h
              obtain ⟨c11_, hc11, h⟩ := Option.bind_eq_some_iff.1 h
              cases c11_ with
              | nil =>
                dsimp only at h
                obtain ⟨c12_, hc12, h⟩ := Option.bind_eq_some_iff.1 h
                obtain rfl := Option.some.inj h; exact p_viewportlaw06MunchCalls_3 n x a hc1 c2_ hc2 hc3 hc4 c5_0 c5_1 c5_2 c5_3 c5_4 hc5 c6_0 c6_1 c6_2 c6_3 c6_4 hc6 hc7 hc8 hc9 c10_a c10_t hc10 hc11 c12_ hc12
              | cons c11_a c11_t =>
                dsimp only at h
                obtain ⟨c12_, hc12, h⟩ := Option.bind_eq_some_iff.1 h
                obtain rfl := Option.some.inj h; exact p_viewportlaw06MunchCalls_4 n x a hc1 c2_ hc2 hc3 hc4 c5_0 c5_1 c5_2 c5_3 c5_4 hc5 c6_0 c6_1 c6_2 c6_3 c6_4 hc6 hc7 hc8 hc9 c10_a c10_t hc10 c11_a c11_t hc11 c12_ hc12
          · rw [if_neg hc9] at h
            cases h
        · rw [if_neg hc8] at h
          by_cases hc9 : c6_4 = true
          · rw [if_pos hc9] at h
            cases h
          · rw [if_neg hc9] at h
            obtain ⟨c10_, hc10, h⟩ := Option.bind_eq_some_iff.1 h
            cases c10_ with
            | nil =>
              dsimp only at h
              obtain ⟨c11_, hc11, h⟩ := Option.bind_eq_some_iff.1 h
              cases c11_ with
              | nil =>
                dsimp only at h
                obtain ⟨_, hc12, h⟩ := Option.bind_eq_some_iff.1 h
                obtain rfl := Option.some.inj h; exact p_viewportlaw06MunchCalls_5 n x a hc1 c2_ hc2 hc3 hc4 c5_0 c5_1 c5_2 c5_3 c5_4 hc5 c6_0 c6_1 c6_2 c6_3 c6_4 hc6 hc7 hc8 hc9 hc10 hc11 hc12
              | cons c11_a c11_t =>
                dsimp only at h
                obtain ⟨c12_, hc12, h⟩ := Option.bind_eq_some_iff.1 h
                obtain rfl := Option.some.inj h; exact p_viewportlaw06MunchCalls_6 n x a hc1 c2_ hc2 hc3 hc4 c5_0 c5_1 c5_2 c5_3 c5_4 hc5 c6_0 c6_1 c6_2 c6_3 c6_4 hc6 hc7 hc8 hc9 hc10 c11_a c11_t hc11 c12_ hc12
            | cons c10_a c10_t =>
              dsimp only at h
              obtain ⟨c11_, hc11, h⟩ := Option.bind_eq_some_iff.1 h
              cases c11_ with
              | nil =>
                dsimp only at h
                obtain ⟨c12_, hc12, h⟩ := Option.bind_eq_some_iff.1 h
                obtain rfl := Option.some.inj h; exact p_viewportlaw06MunchCalls_7 n x a hc1 c2_ hc2 hc3 hc4 c5_0 c5_1 c5_2 c5_3 c5_4 hc5 c6_0 c6_1 c6_2 c6_3 c6_4 hc6 hc7 hc8 hc9 c10_a c10_t hc10 hc11 c12_ hc12
              | cons c11_a c11_t =>
                dsimp only at h
                obtain ⟨c12_, hc12, h⟩ := Option.bind_eq_some_iff.1 h
                obtain rfl := Option.some.inj h; exact p_viewportlaw06MunchCalls_8 n x a hc1 c2_ hc2 hc3 hc4 c5_0 c5_1 c5_2 c5_3 c5_4 hc5 c6_0 c6_1 c6_2 c6_3 c6_4 hc6 hc7 hc8 hc9 c10_a c10_t hc10 c11_a c11_t hc11 c12_ hc12
      · rw [if_neg hc7] at h
        cases h
  · rw [if_neg hc3] at h
    obtain rfl := Option.some.inj h; exact p_viewportlaw06MunchCalls_9 n x a hc1 c2_ hc2 hc3

end Go.Proofs.Ytaompjplflaloaa.munchw
