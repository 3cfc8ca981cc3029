/-
  What functions do, told by pure functions. No condition.
-/
import Derived.Test.YtnfndhblfpaphaaHsATold
set_option linter.unusedSimpArgs false
set_option linter.unusedVariables false
set_option linter.unusedSectionVars false
set_option linter.unnecessarySimpa false
namespace Go.Proofs.Ytnfndhblfpaphaa.hsw
open Go Go.Proofs.Ytnfndhblfpaphaa Ax
variable [Args]
noncomputable def A_heapHeapviewportlaw23itemTakeq3 (a0 : List (Int × Int × Int)) (a1 : Nat) (a2 : Int) : List Value := [(Value.pointer (some ⟨0, 0, none⟩))]
noncomputable def H_heapHeapviewportlaw23itemTakeq3 (a0 : List (Int × Int × Int)) (a1 : Nat) (a2 : Int) : AH := ⟨sB [(0, (some (.cells (layT [(Value.pointer (some ⟨0, 0, none⟩)), (Value.func (.func 8) #[] #[]), (Value.slice (some ⟨1, 0, none⟩) a1 (Nat.add big 3)), (Value.int .i64 a2)]) 51))), (1, (some (.cells (layT (rows rw_iii a0)) 55)))], 2, 2⟩
noncomputable def V_heapHeapviewportlaw23itemTakeq3 (a0 : List (Int × Int × Int)) (a1 : Nat) (a2 : Int) (r : List (Int × Int × Int) × Nat × Int × Int × Bool) : Value := match r with
  | (o0, o1, o2, o3, o4) => (Value.tuple #[(Value.agg #[(Value.int .i64 o2), (Value.int .i64 o3)]), (Value.bool o4)])
noncomputable def R_heapHeapviewportlaw23itemTakeq3 (a0 : List (Int × Int × Int)) (a1 : Nat) (a2 : Int) (r : List (Int × Int × Int) × Nat × Int × Int × Bool) : AH := match r with
  | (o0, o1, o2, o3, o4) => ⟨sB [(0, (some (.cells (layT [(Value.pointer (some ⟨0, 0, none⟩)), (Value.func (.func 8) #[] #[]), (Value.slice (some ⟨1, 0, none⟩) o1 (Nat.add big 3)), (Value.int .i64 a2)]) 51))), (1, (some (.cells (layT (rows rw_iii o0)) 55))), (2, (some (.cells (layT [(Value.int .i64 o2), (Value.int .i64 o3)]) 27)))], 3, 0⟩
noncomputable abbrev G_heapHeapviewportlaw23itemTakeq3 (a0 : List (Int × Int × Int)) (a1 : Nat) (a2 : Int) (r : List (Int × Int × Int) × Nat × Int × Int × Bool) : Prop := Gv P (.func 13) (A_heapHeapviewportlaw23itemTakeq3 a0 a1 a2) (H_heapHeapviewportlaw23itemTakeq3 a0 a1 a2) (V_heapHeapviewportlaw23itemTakeq3 a0 a1 a2 r) (R_heapHeapviewportlaw23itemTakeq3 a0 a1 a2 r)
def m_heapHeapviewportlaw23itemTakeq3 (n : Nat) (a0 : List (Int × Int × Int)) (a1 : Nat) (a2 : Int) : Option (List (Int × Int × Int) × Nat × Int × Int × Bool) :=
  (m_heapHeapviewportlaw23itemLeastq3 n a0 a1 a2).bind fun t => match t with
  | (c1_0, c1_1, c1_2) =>
    if c1_2 = true then
      if 0 ≤ (w64 (((a1 : Nat) : Int) - (1 : Int))) ∧ (w64 (((a1 : Nat) : Int) - (1 : Int))) < ((a1 : Nat) : Int) then
        if ((w64 (((a1 : Nat) : Int) - (1 : Int)))).toNat < (a0).length then
          if 0 ≤ (0 : Int) ∧ (0 : Int) < ((a1 : Nat) : Int) then
            if ((0 : Int)).toNat < (a0).length then
              if ((w64 (((a1 : Nat) : Int) - (1 : Int)))).toNat < (((a0).set ((0 : Int)).toNat ((((a0).getD ((w64 (((a1 : Nat) : Int) - (1 : Int)))).toNat (0, 0, 0)).1), (((a0).getD ((w64 (((a1 : Nat) : Int) - (1 : Int)))).toNat (0, 0, 0)).2.1), (((a0).getD ((w64 (((a1 : Nat) : Int) - (1 : Int)))).toNat (0, 0, 0)).2.2)))).length then
                if 0 ≤ (w64 (((a1 : Nat) : Int) - (1 : Int))) ∧ (w64 (((a1 : Nat) : Int) - (1 : Int))) ≤ ((a1 : Nat) : Int) then
                  (m_heapHeapviewportlaw23itemdownq1 n ((((a0).set ((0 : Int)).toNat ((((a0).getD ((w64 (((a1 : Nat) : Int) - (1 : Int)))).toNat (0, 0, 0)).1), (((a0).getD ((w64 (((a1 : Nat) : Int) - (1 : Int)))).toNat (0, 0, 0)).2.1), (((a0).getD ((w64 (((a1 : Nat) : Int) - (1 : Int)))).toNat (0, 0, 0)).2.2)))).set ((w64 (((a1 : Nat) : Int) - (1 : Int)))).toNat ((0 : Int), (0 : Int), (0 : Int))) (((w64 (((a1 : Nat) : Int) - (1 : Int)))).toNat) a2 0).bind fun c9_ =>
                  some (c9_, (((w64 (((a1 : Nat) : Int) - (1 : Int)))).toNat), c1_0, c1_1, true)
                else none
              else none
            else none
          else none
        else none
      else none
    else
      some (a0, a1, c1_0, c1_1, false)
set_option maxRecDepth 100000 in
theorem p_heapHeapviewportlaw23itemTakeq3_0 (n : Nat) (a0 : List (Int × Int × Int)) (a1 : Nat) (a2 : Int) (c1_0 : Int) (c1_1 : Int) (c1_2 : Bool) (hc1 : m_heapHeapviewportlaw23itemLeastq3 n a0 a1 a2 = some (c1_0, c1_1, c1_2)) (hc2 : c1_2 = true) (hc3 : 0 ≤ (w64 (((a1 : Nat) : Int) - (1 : Int))) ∧ (w64 (((a1 : Nat) : Int) - (1 : Int))) < ((a1 : Nat) : Int)) (hc4 : ((w64 (((a1 : Nat) : Int) - (1 : Int)))).toNat < (a0).length) (hc5 : 0 ≤ (0 : Int) ∧ (0 : Int) < ((a1 : Nat) : Int)) (hc6 : ((0 : Int)).toNat < (a0).length) (hc7 : ((w64 (((a1 : Nat) : Int) - (1 : Int)))).toNat < (((a0).set ((0 : Int)).toNat ((((a0).getD ((w64 (((a1 : Nat) : Int) - (1 : Int)))).toNat (0, 0, 0)).1), (((a0).getD ((w64 (((a1 : Nat) : Int) - (1 : Int)))).toNat (0, 0, 0)).2.1), (((a0).getD ((w64 (((a1 : Nat) : Int) - (1 : Int)))).toNat (0, 0, 0)).2.2)))).length) (hc8 : 0 ≤ (w64 (((a1 : Nat) : Int) - (1 : Int))) ∧ (w64 (((a1 : Nat) : Int) - (1 : Int))) ≤ ((a1 : Nat) : Int)) (c9_ : List (Int × Int × Int)) (hc9 : m_heapHeapviewportlaw23itemdownq1 n ((((a0).set ((0 : Int)).toNat ((((a0).getD ((w64 (((a1 : Nat) : Int) - (1 : Int)))).toNat (0, 0, 0)).1), (((a0).getD ((w64 (((a1 : Nat) : Int) - (1 : Int)))).toNat (0, 0, 0)).2.1), (((a0).getD ((w64 (((a1 : Nat) : Int) - (1 : Int)))).toNat (0, 0, 0)).2.2)))).set ((w64 (((a1 : Nat) : Int) - (1 : Int)))).toNat ((0 : Int), (0 : Int), (0 : Int))) (((w64 (((a1 : Nat) : Int) - (1 : Int)))).toNat) a2 0 = some c9_) : G_heapHeapviewportlaw23itemTakeq3 a0 a1 a2 (c9_, (((w64 (((a1 : Nat) : Int) - (1 : Int)))).toNat), c1_0, c1_1, true) :=
  runF_ok hm (A := aT [(5, .call ⟨2, [(0, 0, false), (1, 1, true)], (V_heapHeapviewportlaw23itemLeastq3 a0 a1 a2 (c1_0, c1_1, c1_2)), (R_heapHeapviewportlaw23itemLeastq3 a0 a1 a2 (c1_0, c1_1, c1_2)), [(3, 2, false)]⟩), (15, .val (.bool false)), (35, .pur (Value.pointer (some ⟨1, (((w64 (((a1 : Nat) : Int) - (1 : Int)))).toNat * 3), none⟩))), (36, .ld (Value.agg #[(Value.int .i64 (((a0).getD ((w64 (((a1 : Nat) : Int) - (1 : Int)))).toNat (0, 0, 0)).1)), (Value.int .i64 (((a0).getD ((w64 (((a1 : Nat) : Int) - (1 : Int)))).toNat (0, 0, 0)).2.1)), (Value.int .i64 (((a0).getD ((w64 (((a1 : Nat) : Int) - (1 : Int)))).toNat (0, 0, 0)).2.2))])), (37, .pur (Value.pointer (some ⟨1, (((0 : Int)).toNat * 3), none⟩))), (38, .sto (layT (rows rw_iii ((a0).set ((0 : Int)).toNat ((((a0).getD ((w64 (((a1 : Nat) : Int) - (1 : Int)))).toNat (0, 0, 0)).1), (((a0).getD ((w64 (((a1 : Nat) : Int) - (1 : Int)))).toNat (0, 0, 0)).2.1), (((a0).getD ((w64 (((a1 : Nat) : Int) - (1 : Int)))).toNat (0, 0, 0)).2.2)))))), (46, .pur (Value.pointer (some ⟨1, (((w64 (((a1 : Nat) : Int) - (1 : Int)))).toNat * 3), none⟩))), (47, .sto (layT (rows rw_iii ((((a0).set ((0 : Int)).toNat ((((a0).getD ((w64 (((a1 : Nat) : Int) - (1 : Int)))).toNat (0, 0, 0)).1), (((a0).getD ((w64 (((a1 : Nat) : Int) - (1 : Int)))).toNat (0, 0, 0)).2.1), (((a0).getD ((w64 (((a1 : Nat) : Int) - (1 : Int)))).toNat (0, 0, 0)).2.2)))).set ((w64 (((a1 : Nat) : Int) - (1 : Int)))).toNat ((0 : Int), (0 : Int), (0 : Int)))))), (55, .pur (Value.slice (some ⟨1, 0, none⟩) ((w64 (((a1 : Nat) : Int) - (1 : Int)))).toNat (Nat.add big 3))), (61, .call ⟨2, [(0, 0, false), (1, 1, true)], (V_heapHeapviewportlaw23itemdownq1 ((((a0).set ((0 : Int)).toNat ((((a0).getD ((w64 (((a1 : Nat) : Int) - (1 : Int)))).toNat (0, 0, 0)).1), (((a0).getD ((w64 (((a1 : Nat) : Int) - (1 : Int)))).toNat (0, 0, 0)).2.1), (((a0).getD ((w64 (((a1 : Nat) : Int) - (1 : Int)))).toNat (0, 0, 0)).2.2)))).set ((w64 (((a1 : Nat) : Int) - (1 : Int)))).toNat ((0 : Int), (0 : Int), (0 : Int))) (((w64 (((a1 : Nat) : Int) - (1 : Int)))).toNat) a2 0 c9_), (R_heapHeapviewportlaw23itemdownq1 ((((a0).set ((0 : Int)).toNat ((((a0).getD ((w64 (((a1 : Nat) : Int) - (1 : Int)))).toNat (0, 0, 0)).1), (((a0).getD ((w64 (((a1 : Nat) : Int) - (1 : Int)))).toNat (0, 0, 0)).2.1), (((a0).getD ((w64 (((a1 : Nat) : Int) - (1 : Int)))).toNat (0, 0, 0)).2.2)))).set ((w64 (((a1 : Nat) : Int) - (1 : Int)))).toNat ((0 : Int), (0 : Int), (0 : Int))) (((w64 (((a1 : Nat) : Int) - (1 : Int)))).toNat) a2 0 c9_), [(1, 1, true)]⟩)]) (L := lT []) (wk := ⟨[2, 3], [(0, 0, false), (1, 1, true), (2, 2, false)], 3, 0⟩)
    (ps := [G_heapHeapviewportlaw23itemLeastq3 a0 a1 a2 (c1_0, c1_1, c1_2),
    FlatB (.cells (layT (rows rw_iii a0)) 55),
    (Value.bool (!c1_2)) = (Value.bool false),
    opIndexAddr P 49 (Value.slice (some ⟨1, 0, none⟩) a1 (Nat.add big 3)) (Value.int .i64 (w64 (((a1 : Nat) : Int) - (1 : Int)))) Ax.h0 = some ((Value.pointer (some ⟨1, (((w64 (((a1 : Nat) : Int) - (1 : Int)))).toNat * 3), none⟩)), Ax.h0),
    rdT (layT (rows rw_iii a0)) 3 (((w64 (((a1 : Nat) : Int) - (1 : Int)))).toNat * 3) = some [(Value.int .i64 (((a0).getD ((w64 (((a1 : Nat) : Int) - (1 : Int)))).toNat (0, 0, 0)).1)), (Value.int .i64 (((a0).getD ((w64 (((a1 : Nat) : Int) - (1 : Int)))).toNat (0, 0, 0)).2.1)), (Value.int .i64 (((a0).getD ((w64 (((a1 : Nat) : Int) - (1 : Int)))).toNat (0, 0, 0)).2.2))],
    opIndexAddr P 49 (Value.slice (some ⟨1, 0, none⟩) a1 (Nat.add big 3)) (Value.int .i64 (0 : Int)) Ax.h0 = some ((Value.pointer (some ⟨1, (((0 : Int)).toNat * 3), none⟩)), Ax.h0),
    ∃ old, rdT (layT (rows rw_iii a0)) 3 (((0 : Int)).toNat * 3) = some old,
    layL [(Value.int .i64 (((a0).getD ((w64 (((a1 : Nat) : Int) - (1 : Int)))).toNat (0, 0, 0)).1)), (Value.int .i64 (((a0).getD ((w64 (((a1 : Nat) : Int) - (1 : Int)))).toNat (0, 0, 0)).2.1)), (Value.int .i64 (((a0).getD ((w64 (((a1 : Nat) : Int) - (1 : Int)))).toNat (0, 0, 0)).2.2))] (((0 : Int)).toNat * 3) (layT (rows rw_iii a0)) = layT (rows rw_iii ((a0).set ((0 : Int)).toNat ((((a0).getD ((w64 (((a1 : Nat) : Int) - (1 : Int)))).toNat (0, 0, 0)).1), (((a0).getD ((w64 (((a1 : Nat) : Int) - (1 : Int)))).toNat (0, 0, 0)).2.1), (((a0).getD ((w64 (((a1 : Nat) : Int) - (1 : Int)))).toNat (0, 0, 0)).2.2)))),
    opIndexAddr P 49 (Value.slice (some ⟨1, 0, none⟩) a1 (Nat.add big 3)) (Value.int .i64 (w64 (((a1 : Nat) : Int) - (1 : Int)))) Ax.h0 = some ((Value.pointer (some ⟨1, (((w64 (((a1 : Nat) : Int) - (1 : Int)))).toNat * 3), none⟩)), Ax.h0),
    ∃ old, rdT (layT (rows rw_iii ((a0).set ((0 : Int)).toNat ((((a0).getD ((w64 (((a1 : Nat) : Int) - (1 : Int)))).toNat (0, 0, 0)).1), (((a0).getD ((w64 (((a1 : Nat) : Int) - (1 : Int)))).toNat (0, 0, 0)).2.1), (((a0).getD ((w64 (((a1 : Nat) : Int) - (1 : Int)))).toNat (0, 0, 0)).2.2))))) 3 (((w64 (((a1 : Nat) : Int) - (1 : Int)))).toNat * 3) = some old,
    layL [(Value.int .i64 (0 : Int)), (Value.int .i64 (0 : Int)), (Value.int .i64 (0 : Int))] (((w64 (((a1 : Nat) : Int) - (1 : Int)))).toNat * 3) (layT (rows rw_iii ((a0).set ((0 : Int)).toNat ((((a0).getD ((w64 (((a1 : Nat) : Int) - (1 : Int)))).toNat (0, 0, 0)).1), (((a0).getD ((w64 (((a1 : Nat) : Int) - (1 : Int)))).toNat (0, 0, 0)).2.1), (((a0).getD ((w64 (((a1 : Nat) : Int) - (1 : Int)))).toNat (0, 0, 0)).2.2))))) = layT (rows rw_iii ((((a0).set ((0 : Int)).toNat ((((a0).getD ((w64 (((a1 : Nat) : Int) - (1 : Int)))).toNat (0, 0, 0)).1), (((a0).getD ((w64 (((a1 : Nat) : Int) - (1 : Int)))).toNat (0, 0, 0)).2.1), (((a0).getD ((w64 (((a1 : Nat) : Int) - (1 : Int)))).toNat (0, 0, 0)).2.2)))).set ((w64 (((a1 : Nat) : Int) - (1 : Int)))).toNat ((0 : Int), (0 : Int), (0 : Int)))),
    opSlice P 49 (Value.slice (some ⟨1, 0, none⟩) a1 (Nat.add big 3)) none (some (Value.int .i64 (w64 (((a1 : Nat) : Int) - (1 : Int))))) none Ax.h0 = some ((Value.slice (some ⟨1, 0, none⟩) ((w64 (((a1 : Nat) : Int) - (1 : Int)))).toNat (Nat.add big 3)), Ax.h0),
    G_heapHeapviewportlaw23itemdownq1 ((((a0).set ((0 : Int)).toNat ((((a0).getD ((w64 (((a1 : Nat) : Int) - (1 : Int)))).toNat (0, 0, 0)).1), (((a0).getD ((w64 (((a1 : Nat) : Int) - (1 : Int)))).toNat (0, 0, 0)).2.1), (((a0).getD ((w64 (((a1 : Nat) : Int) - (1 : Int)))).toNat (0, 0, 0)).2.2)))).set ((w64 (((a1 : Nat) : Int) - (1 : Int)))).toNat ((0 : Int), (0 : Int), (0 : Int))) (((w64 (((a1 : Nat) : Int) - (1 : Int)))).toNat) a2 0 c9_,
    FlatB (.cells (layT (rows rw_iii ((((a0).set ((0 : Int)).toNat ((((a0).getD ((w64 (((a1 : Nat) : Int) - (1 : Int)))).toNat (0, 0, 0)).1), (((a0).getD ((w64 (((a1 : Nat) : Int) - (1 : Int)))).toNat (0, 0, 0)).2.1), (((a0).getD ((w64 (((a1 : Nat) : Int) - (1 : Int)))).toNat (0, 0, 0)).2.2)))).set ((w64 (((a1 : Nat) : Int) - (1 : Int)))).toNat ((0 : Int), (0 : Int), (0 : Int))))) 55),
    FlatB (.cells (layT (rows rw_iii c9_)) 55),
    FlatB (.cells (layT (rows rw_iii c9_)) 55)]) (by kernel_rfl) ⟨(m_heapHeapviewportlaw23itemLeastq3_ok n a0 a1 a2 (c1_0, c1_1, c1_2) hc1), (rows_flat rwf_iii _ _), (vBn hc2), (ixS (e := 55) (by kernel_rfl) (by kernel_rfl) (hc3).1 (hc3).2), (rows_rdp rwf_iii (0, 0, 0) (i := ((w64 (((a1 : Nat) : Int) - (1 : Int)))).toNat) (j := 0) (((w64 (((a1 : Nat) : Int) - (1 : Int)))).toNat * 3) rfl (hc4) (by decide) rfl), (ixS (e := 55) (by kernel_rfl) (by kernel_rfl) (hc5).1 (hc5).2), (Exists.elim (rows_st rwf_iii (0, 0, 0) (i := ((0 : Int)).toNat) (j := 0) (l := [(Value.int .i64 (((a0).getD ((w64 (((a1 : Nat) : Int) - (1 : Int)))).toNat (0, 0, 0)).1)), (Value.int .i64 (((a0).getD ((w64 (((a1 : Nat) : Int) - (1 : Int)))).toNat (0, 0, 0)).2.1)), (Value.int .i64 (((a0).getD ((w64 (((a1 : Nat) : Int) - (1 : Int)))).toNat (0, 0, 0)).2.2))]) ((((a0).getD ((w64 (((a1 : Nat) : Int) - (1 : Int)))).toNat (0, 0, 0)).1), (((a0).getD ((w64 (((a1 : Nat) : Int) - (1 : Int)))).toNat (0, 0, 0)).2.1), (((a0).getD ((w64 (((a1 : Nat) : Int) - (1 : Int)))).toNat (0, 0, 0)).2.2)) (((0 : Int)).toNat * 3) rfl (hc6) (Nat.le_of_ble_eq_true rfl) rfl) fun o h => ⟨o, h.1⟩), (Exists.elim (rows_st rwf_iii (0, 0, 0) (i := ((0 : Int)).toNat) (j := 0) (l := [(Value.int .i64 (((a0).getD ((w64 (((a1 : Nat) : Int) - (1 : Int)))).toNat (0, 0, 0)).1)), (Value.int .i64 (((a0).getD ((w64 (((a1 : Nat) : Int) - (1 : Int)))).toNat (0, 0, 0)).2.1)), (Value.int .i64 (((a0).getD ((w64 (((a1 : Nat) : Int) - (1 : Int)))).toNat (0, 0, 0)).2.2))]) ((((a0).getD ((w64 (((a1 : Nat) : Int) - (1 : Int)))).toNat (0, 0, 0)).1), (((a0).getD ((w64 (((a1 : Nat) : Int) - (1 : Int)))).toNat (0, 0, 0)).2.1), (((a0).getD ((w64 (((a1 : Nat) : Int) - (1 : Int)))).toNat (0, 0, 0)).2.2)) (((0 : Int)).toNat * 3) rfl (hc6) (Nat.le_of_ble_eq_true rfl) rfl) fun o h => h.2), (ixS (e := 55) (by kernel_rfl) (by kernel_rfl) (hc3).1 (hc3).2), (Exists.elim (rows_st rwf_iii (0, 0, 0) (i := ((w64 (((a1 : Nat) : Int) - (1 : Int)))).toNat) (j := 0) (l := [(Value.int .i64 (0 : Int)), (Value.int .i64 (0 : Int)), (Value.int .i64 (0 : Int))]) ((0 : Int), (0 : Int), (0 : Int)) (((w64 (((a1 : Nat) : Int) - (1 : Int)))).toNat * 3) rfl (hc7) (Nat.le_of_ble_eq_true rfl) rfl) fun o h => ⟨o, h.1⟩), (Exists.elim (rows_st rwf_iii (0, 0, 0) (i := ((w64 (((a1 : Nat) : Int) - (1 : Int)))).toNat) (j := 0) (l := [(Value.int .i64 (0 : Int)), (Value.int .i64 (0 : Int)), (Value.int .i64 (0 : Int))]) ((0 : Int), (0 : Int), (0 : Int)) (((w64 (((a1 : Nat) : Int) - (1 : Int)))).toNat * 3) rfl (hc7) (Nat.le_of_ble_eq_true rfl) rfl) fun o h => h.2), (slRowHi (e := 55) (es := 3) (by kernel_rfl) (by kernel_rfl) rfl rfl hc8), (m_heapHeapviewportlaw23itemdownq1_ok n ((((a0).set ((0 : Int)).toNat ((((a0).getD ((w64 (((a1 : Nat) : Int) - (1 : Int)))).toNat (0, 0, 0)).1), (((a0).getD ((w64 (((a1 : Nat) : Int) - (1 : Int)))).toNat (0, 0, 0)).2.1), (((a0).getD ((w64 (((a1 : Nat) : Int) - (1 : Int)))).toNat (0, 0, 0)).2.2)))).set ((w64 (((a1 : Nat) : Int) - (1 : Int)))).toNat ((0 : Int), (0 : Int), (0 : Int))) (((w64 (((a1 : Nat) : Int) - (1 : Int)))).toNat) a2 0 c9_ hc9), (rows_flat rwf_iii _ _), (rows_flat rwf_iii _ _), (rows_flat rwf_iii _ _), trivial⟩
set_option maxRecDepth 100000 in
theorem p_heapHeapviewportlaw23itemTakeq3_1 (n : Nat) (a0 : List (Int × Int × Int)) (a1 : Nat) (a2 : Int) (c1_0 : Int) (c1_1 : Int) (c1_2 : Bool) (hc1 : m_heapHeapviewportlaw23itemLeastq3 n a0 a1 a2 = some (c1_0, c1_1, c1_2)) (hc2 : ¬ (c1_2 = true)) : G_heapHeapviewportlaw23itemTakeq3 a0 a1 a2 (a0, a1, c1_0, c1_1, false) :=
  runF_ok hm (A := aT [(5, .call ⟨2, [(0, 0, false), (1, 1, true)], (V_heapHeapviewportlaw23itemLeastq3 a0 a1 a2 (c1_0, c1_1, c1_2)), (R_heapHeapviewportlaw23itemLeastq3 a0 a1 a2 (c1_0, c1_1, c1_2)), [(3, 2, false)]⟩), (15, .val (.bool true))]) (L := lT []) (wk := ⟨[2, 3], [(0, 0, false), (1, 1, true), (2, 2, false)], 3, 0⟩)
    (ps := [G_heapHeapviewportlaw23itemLeastq3 a0 a1 a2 (c1_0, c1_1, c1_2),
    FlatB (.cells (layT (rows rw_iii a0)) 55),
    (Value.bool (!c1_2)) = (Value.bool true),
    FlatB (.cells (layT (rows rw_iii a0)) 55)]) (by kernel_rfl) ⟨(m_heapHeapviewportlaw23itemLeastq3_ok n a0 a1 a2 (c1_0, c1_1, c1_2) hc1), (rows_flat rwf_iii _ _), (vBn (Bool.eq_false_iff.2 hc2)), (rows_flat rwf_iii _ _), trivial⟩
theorem m_heapHeapviewportlaw23itemTakeq3_ok (n : Nat) (a0 : List (Int × Int × Int)) (a1 : Nat) (a2 : Int) (r : List (Int × Int × Int) × Nat × Int × Int × Bool) (h : m_heapHeapviewportlaw23itemTakeq3 n a0 a1 a2 = some r) : G_heapHeapviewportlaw23itemTakeq3 a0 a1 a2 r := by
  unfold m_heapHeapviewportlaw23itemTakeq3 at h
  obtain ⟨⟨c1_0, c1_1, c1_2⟩, hc1, h⟩ := Option.bind_eq_some_iff.1 h
  dsimp only at h
  by_cases hc2 : c1_2 = true
  · rw [if_pos hc2] at h
    by_cases hc3 : 0 ≤ (w64 (((a1 : Nat) : Int) - (1 : Int))) ∧ (w64 (((a1 : Nat) : Int) - (1 : Int))) < ((a1 : Nat) : Int)
    · rw [if_pos hc3] at h
      by_cases hc4 : ((w64 (((a1 : Nat) : Int) - (1 : Int)))).toNat < (a0).length
      · rw [if_pos hc4] at h
        by_cases hc5 : 0 ≤ (0 : Int) ∧ (0 : Int) < ((a1 : Nat) : Int)
        · rw [if_pos hc5] at h
          by_cases hc6 : ((0 : Int)).toNat < (a0).length
          · rw [if_pos hc6] at h
            by_cases hc7 : ((w64 (((a1 : Nat) : Int) - (1 : Int)))).toNat < (((a0).set ((0 : Int)).toNat ((((a0).getD ((w64 (((a1 : Nat) : Int) - (1 : Int)))).toNat (0, 0, 0)).1), (((a0).getD ((w64 (((a1 : Nat) : Int) - (1 : Int)))).toNat (0, 0, 0)).2.1), (((a0).getD ((w64 (((a1 : Nat) : Int) - (1 : Int)))).toNat (0, 0, 0)).2.2)))).length
            · rw [if_pos hc7] at h
              by_cases hc8 : 0 ≤ (w64 (((a1 : Nat) : Int) - (1 : Int))) ∧ (w64 (((a1 : Nat) : Int) - (1 : Int))) ≤ ((a1 : Nat) : Int)
              · rw [if_pos hc8] at h
                obtain ⟨c9_, hc9, h⟩ := Option.bind_eq_some_iff.1 h
                obtain rfl := Option.some.inj h; exact p_heapHeapviewportlaw23itemTakeq3_0 n a0 a1 a2 c1_0 c1_1 c1_2 hc1 hc2 hc3 hc4 hc5 hc6 hc7 hc8 c9_ hc9
              · rw [if_neg hc8] at h; cases h
            · rw [if_neg hc7] at h; cases h
          · rw [if_neg hc6] at h; cases h
        · rw [if_neg hc5] at h; cases h
      · rw [if_neg hc4] at h; cases h
    · rw [if_neg hc3] at h; cases h
  · rw [if_neg hc2] at h
    obtain rfl := Option.some.inj h; exact p_heapHeapviewportlaw23itemTakeq3_1 n a0 a1 a2 c1_0 c1_1 c1_2 hc1 hc2

noncomputable def A_viewportref23HeapLeastq3 (a0 : List (Int × Int)) (a1 : Nat) (a2 : Nat) : List Value := [(Value.pointer (some ⟨0, 0, none⟩))]
noncomputable def H_viewportref23HeapLeastq3 (a0 : List (Int × Int)) (a1 : Nat) (a2 : Nat) : AH := ⟨sB [(0, (some (.cells (layT [(Value.slice (some ⟨1, (a1 * 2), none⟩) a2 (Nat.add big 2))]) 32))), (1, (some (.cells (layT (rows rw_ii a0)) 27)))], 2, 2⟩
noncomputable def V_viewportref23HeapLeastq3 (a0 : List (Int × Int)) (a1 : Nat) (a2 : Nat) (r : Int × Int × Bool) : Value := match r with
  | (o0, o1, o2) => (Value.tuple #[(Value.agg #[(Value.int .i64 o0), (Value.int .i64 o1)]), (Value.bool o2)])
noncomputable def R_viewportref23HeapLeastq3 (a0 : List (Int × Int)) (a1 : Nat) (a2 : Nat) (r : Int × Int × Bool) : AH := match r with
  | (o0, o1, o2) => ⟨sB [(2, (some (.cells (layT [(Value.int .i64 o0), (Value.int .i64 o1)]) 27)))], 3, 2⟩
noncomputable abbrev G_viewportref23HeapLeastq3 (a0 : List (Int × Int)) (a1 : Nat) (a2 : Nat) (r : Int × Int × Bool) : Prop := Gv P (.func 16) (A_viewportref23HeapLeastq3 a0 a1 a2) (H_viewportref23HeapLeastq3 a0 a1 a2) (V_viewportref23HeapLeastq3 a0 a1 a2 r) (R_viewportref23HeapLeastq3 a0 a1 a2 r)
def m_viewportref23HeapLeastq3 (n : Nat) (a0 : List (Int × Int)) (a1 : Nat) (a2 : Nat) : Option (Int × Int × Bool) :=
  if ((a2 : Nat) : Int) = (0 : Int) then
    some (0, 0, false)
  else
    if 0 ≤ (0 : Int) ∧ (0 : Int) < ((a2 : Nat) : Int) then
      if (a1 + ((0 : Int)).toNat) < (a0).length then
        some ((((a0).getD (a1 + ((0 : Int)).toNat) (0, 0)).1), (((a0).getD (a1 + ((0 : Int)).toNat) (0, 0)).2), true)
      else none
    else none
set_option maxRecDepth 100000 in
theorem p_viewportref23HeapLeastq3_0 (n : Nat) (a0 : List (Int × Int)) (a1 : Nat) (a2 : Nat) (hc1 : ((a2 : Nat) : Int) = (0 : Int)) : G_viewportref23HeapLeastq3 a0 a1 a2 (0, 0, false) :=
  runF_ok hm (A := aT [(10, .val (.bool true))]) (L := lT []) (wk := ⟨[2, 3], [(2, 2, false)], 3, 2⟩)
    (ps := [(Value.bool (((a2 : Nat) : Int) == (0 : Int))) = (Value.bool true)]) (by kernel_rfl) ⟨(veT hc1), trivial⟩
set_option maxRecDepth 100000 in
theorem p_viewportref23HeapLeastq3_1 (n : Nat) (a0 : List (Int × Int)) (a1 : Nat) (a2 : Nat) (hc1 : ¬ (((a2 : Nat) : Int) = (0 : Int))) (hc2 : 0 ≤ (0 : Int) ∧ (0 : Int) < ((a2 : Nat) : Int)) (hc3 : (a1 + ((0 : Int)).toNat) < (a0).length) : G_viewportref23HeapLeastq3 a0 a1 a2 ((((a0).getD (a1 + ((0 : Int)).toNat) (0, 0)).1), (((a0).getD (a1 + ((0 : Int)).toNat) (0, 0)).2), true) :=
  runF_ok hm (A := aT [(10, .val (.bool false)), (17, .pur (Value.pointer (some ⟨1, ((a1 + ((0 : Int)).toNat) * 2), none⟩))), (18, .ld (Value.agg #[(Value.int .i64 (((a0).getD (a1 + ((0 : Int)).toNat) (0, 0)).1)), (Value.int .i64 (((a0).getD (a1 + ((0 : Int)).toNat) (0, 0)).2))]))]) (L := lT []) (wk := ⟨[2, 3], [(2, 2, false)], 3, 2⟩)
    (ps := [(Value.bool (((a2 : Nat) : Int) == (0 : Int))) = (Value.bool false),
    opIndexAddr P 30 (Value.slice (some ⟨1, (a1 * 2), none⟩) a2 (Nat.add big 2)) (Value.int .i64 (0 : Int)) Ax.h0 = some ((Value.pointer (some ⟨1, ((a1 + ((0 : Int)).toNat) * 2), none⟩)), Ax.h0),
    rdT (layT (rows rw_ii a0)) 2 ((a1 + ((0 : Int)).toNat) * 2) = some [(Value.int .i64 (((a0).getD (a1 + ((0 : Int)).toNat) (0, 0)).1)), (Value.int .i64 (((a0).getD (a1 + ((0 : Int)).toNat) (0, 0)).2))]]) (by kernel_rfl) ⟨(veF hc1), (ixSO (e := 27) (es := 2) a1 (by kernel_rfl) (by kernel_rfl) hc2), (rows_rdp rwf_ii (0, 0) (i := (a1 + ((0 : Int)).toNat)) (j := 0) ((a1 + ((0 : Int)).toNat) * 2) rfl (hc3) (by decide) rfl), trivial⟩
theorem m_viewportref23HeapLeastq3_ok (n : Nat) (a0 : List (Int × Int)) (a1 : Nat) (a2 : Nat) (r : Int × Int × Bool) (h : m_viewportref23HeapLeastq3 n a0 a1 a2 = some r) : G_viewportref23HeapLeastq3 a0 a1 a2 r := by
  unfold m_viewportref23HeapLeastq3 at h
  by_cases hc1 : ((a2 : Nat) : Int) = (0 : Int)
  · rw [if_pos hc1] at h
    obtain rfl := Option.some.inj h; exact p_viewportref23HeapLeastq3_0 n a0 a1 a2 hc1
  · rw [if_neg hc1] at h
    by_cases hc2 : 0 ≤ (0 : Int) ∧ (0 : Int) < ((a2 : Nat) : Int)
    · rw [if_pos hc2] at h
      by_cases hc3 : (a1 + ((0 : Int)).toNat) < (a0).length
      · rw [if_pos hc3] at h
        obtain rfl := Option.some.inj h; exact p_viewportref23HeapLeastq3_1 n a0 a1 a2 hc1 hc2 hc3
      · rw [if_neg hc3] at h; cases h
    · rw [if_neg hc2] at h; cases h

noncomputable def A_viewportref23HeapTakeq3 (a0 : List (Int × Int)) (a1 : Nat) (a2 : Nat) : List Value := [(Value.pointer (some ⟨0, 0, none⟩))]
noncomputable def H_viewportref23HeapTakeq3 (a0 : List (Int × Int)) (a1 : Nat) (a2 : Nat) : AH := ⟨sB [(0, (some (.cells (layT [(Value.slice (some ⟨1, (a1 * 2), none⟩) a2 (Nat.add big 2))]) 32))), (1, (some (.cells (layT (rows rw_ii a0)) 27)))], 2, 2⟩
noncomputable def V_viewportref23HeapTakeq3 (a0 : List (Int × Int)) (a1 : Nat) (a2 : Nat) (r : Nat × Nat × Int × Int × Bool) : Value := match r with
  | (o0, o1, o2, o3, o4) => (Value.tuple #[(Value.agg #[(Value.int .i64 o2), (Value.int .i64 o3)]), (Value.bool o4)])
noncomputable def R_viewportref23HeapTakeq3 (a0 : List (Int × Int)) (a1 : Nat) (a2 : Nat) (r : Nat × Nat × Int × Int × Bool) : AH := match r with
  | (o0, o1, o2, o3, o4) => ⟨sB [(0, (some (.cells (layT [(Value.slice (some ⟨1, (o0 * 2), none⟩) o1 (Nat.add big 2))]) 32))), (1, (some (.cells (layT (rows rw_ii a0)) 27))), (2, (some (.cells (layT [(Value.int .i64 o2), (Value.int .i64 o3)]) 27)))], 3, 0⟩
noncomputable abbrev G_viewportref23HeapTakeq3 (a0 : List (Int × Int)) (a1 : Nat) (a2 : Nat) (r : Nat × Nat × Int × Int × Bool) : Prop := Gv P (.func 14) (A_viewportref23HeapTakeq3 a0 a1 a2) (H_viewportref23HeapTakeq3 a0 a1 a2) (V_viewportref23HeapTakeq3 a0 a1 a2 r) (R_viewportref23HeapTakeq3 a0 a1 a2 r)
def m_viewportref23HeapTakeq3 (n : Nat) (a0 : List (Int × Int)) (a1 : Nat) (a2 : Nat) : Option (Nat × Nat × Int × Int × Bool) :=
  (m_viewportref23HeapLeastq3 n a0 a1 a2).bind fun t => match t with
  | (c1_0, c1_1, c1_2) =>
    if c1_2 = true then
      if 0 ≤ (1 : Int) ∧ (1 : Int) ≤ ((a2 : Nat) : Int) then
        some ((a1 + ((1 : Int)).toNat), (a2 - ((1 : Int)).toNat), c1_0, c1_1, c1_2)
      else none
    else
      some (a1, a2, c1_0, c1_1, c1_2)
set_option maxRecDepth 100000 in
theorem p_viewportref23HeapTakeq3_0 (n : Nat) (a0 : List (Int × Int)) (a1 : Nat) (a2 : Nat) (c1_0 : Int) (c1_1 : Int) (c1_2 : Bool) (hc1 : m_viewportref23HeapLeastq3 n a0 a1 a2 = some (c1_0, c1_1, c1_2)) (hc2 : c1_2 = true) (hc3 : 0 ≤ (1 : Int) ∧ (1 : Int) ≤ ((a2 : Nat) : Int)) : G_viewportref23HeapTakeq3 a0 a1 a2 ((a1 + ((1 : Int)).toNat), (a2 - ((1 : Int)).toNat), c1_0, c1_1, c1_2) :=
  runF_ok hm (A := aT [(5, .call ⟨2, [(0, 0, false), (1, 1, true)], (V_viewportref23HeapLeastq3 a0 a1 a2 (c1_0, c1_1, c1_2)), (R_viewportref23HeapLeastq3 a0 a1 a2 (c1_0, c1_1, c1_2)), [(3, 2, false)]⟩), (15, .val (.bool true)), (21, .pur (Value.slice (some ⟨1, ((a1 + ((1 : Int)).toNat) * 2), none⟩) (a2 - ((1 : Int)).toNat) (Nat.add big 2)))]) (L := lT []) (wk := ⟨[2, 3], [(0, 0, false), (1, 1, true), (2, 2, false)], 3, 0⟩)
    (ps := [G_viewportref23HeapLeastq3 a0 a1 a2 (c1_0, c1_1, c1_2),
    FlatB (.cells (layT (rows rw_ii a0)) 27),
    (Value.bool c1_2) = (Value.bool true),
    opSlice P 30 (Value.slice (some ⟨1, (a1 * 2), none⟩) a2 (Nat.add big 2)) (some (Value.int .i64 (1 : Int))) none none Ax.h0 = some ((Value.slice (some ⟨1, ((a1 + ((1 : Int)).toNat) * 2), none⟩) (a2 - ((1 : Int)).toNat) (Nat.add big 2)), Ax.h0),
    FlatB (.cells (layT (rows rw_ii a0)) 27)]) (by kernel_rfl) ⟨(m_viewportref23HeapLeastq3_ok n a0 a1 a2 (c1_0, c1_1, c1_2) hc1), (rows_flat rwf_ii _ _), (vB hc2), (slRowO (e := 27) (es := 2) a1 (by kernel_rfl) (by kernel_rfl) rfl rfl hc3), (rows_flat rwf_ii _ _), trivial⟩
set_option maxRecDepth 100000 in
theorem p_viewportref23HeapTakeq3_1 (n : Nat) (a0 : List (Int × Int)) (a1 : Nat) (a2 : Nat) (c1_0 : Int) (c1_1 : Int) (c1_2 : Bool) (hc1 : m_viewportref23HeapLeastq3 n a0 a1 a2 = some (c1_0, c1_1, c1_2)) (hc2 : ¬ (c1_2 = true)) : G_viewportref23HeapTakeq3 a0 a1 a2 (a1, a2, c1_0, c1_1, c1_2) :=
  runF_ok hm (A := aT [(5, .call ⟨2, [(0, 0, false), (1, 1, true)], (V_viewportref23HeapLeastq3 a0 a1 a2 (c1_0, c1_1, c1_2)), (R_viewportref23HeapLeastq3 a0 a1 a2 (c1_0, c1_1, c1_2)), [(3, 2, false)]⟩), (15, .val (.bool false))]) (L := lT []) (wk := ⟨[2, 3], [(0, 0, false), (1, 1, true), (2, 2, false)], 3, 0⟩)
    (ps := [G_viewportref23HeapLeastq3 a0 a1 a2 (c1_0, c1_1, c1_2),
    FlatB (.cells (layT (rows rw_ii a0)) 27),
    (Value.bool c1_2) = (Value.bool false),
    FlatB (.cells (layT (rows rw_ii a0)) 27)]) (by kernel_rfl) ⟨(m_viewportref23HeapLeastq3_ok n a0 a1 a2 (c1_0, c1_1, c1_2) hc1), (rows_flat rwf_ii _ _), (vB (Bool.eq_false_iff.2 hc2)), (rows_flat rwf_ii _ _), trivial⟩
theorem m_viewportref23HeapTakeq3_ok (n : Nat) (a0 : List (Int × Int)) (a1 : Nat) (a2 : Nat) (r : Nat × Nat × Int × Int × Bool) (h : m_viewportref23HeapTakeq3 n a0 a1 a2 = some r) : G_viewportref23HeapTakeq3 a0 a1 a2 r := by
  unfold m_viewportref23HeapTakeq3 at h
  obtain ⟨⟨c1_0, c1_1, c1_2⟩, hc1, h⟩ := Option.bind_eq_some_iff.1 h
  dsimp only at h
  by_cases hc2 : c1_2 = true
  · rw [if_pos hc2] at h
    by_cases hc3 : 0 ≤ (1 : Int) ∧ (1 : Int) ≤ ((a2 : Nat) : Int)
    · rw [if_pos hc3] at h
      obtain rfl := Option.some.inj h; exact p_viewportref23HeapTakeq3_0 n a0 a1 a2 c1_0 c1_1 c1_2 hc1 hc2 hc3
    · rw [if_neg hc3] at h; cases h
  · rw [if_neg hc2] at h
    obtain rfl := Option.some.inj h; exact p_viewportref23HeapTakeq3_1 n a0 a1 a2 c1_0 c1_1 c1_2 hc1 hc2

noncomputable def A_heapHeapviewportlaw23itemAllq1 (a0 : Int) : List Value := [(Value.pointer (some ⟨0, 0, none⟩))]
noncomputable def H_heapHeapviewportlaw23itemAllq1 (a0 : Int) : AH := ⟨sB [(0, (some (.cells (layT [(Value.pointer (some ⟨0, 0, none⟩)), (Value.func (.func 8) #[] #[]), (Value.slice none 0 0), (Value.int .i64 a0)]) 51)))], 1, 1⟩
noncomputable def V_heapHeapviewportlaw23itemAllq1 (a0 : Int) (r : Unit) : Value := match r with
  | _ => (Value.func (.func 23) #[] #[(Value.pointer (some ⟨1, 0, none⟩))])
noncomputable def R_heapHeapviewportlaw23itemAllq1 (a0 : Int) (r : Unit) : AH := match r with
  | _ => ⟨sB [(0, (some (.cells (layT [(Value.pointer (some ⟨0, 0, none⟩)), (Value.func (.func 8) #[] #[]), (Value.slice none 0 0), (Value.int .i64 a0)]) 51))), (1, (some (.cells (layT [(Value.pointer (some ⟨0, 0, none⟩))]) 24)))], 2, 1⟩
noncomputable abbrev G_heapHeapviewportlaw23itemAllq1 (a0 : Int) (r : Unit) : Prop := Gv P (.func 18) (A_heapHeapviewportlaw23itemAllq1 a0) (H_heapHeapviewportlaw23itemAllq1 a0) (V_heapHeapviewportlaw23itemAllq1 a0 r) (R_heapHeapviewportlaw23itemAllq1 a0 r)
def m_heapHeapviewportlaw23itemAllq1 (n : Nat) (a0 : Int) : Option (Unit) :=
  some ()
set_option maxRecDepth 100000 in
theorem p_heapHeapviewportlaw23itemAllq1_0 (n : Nat) (a0 : Int) : G_heapHeapviewportlaw23itemAllq1 a0 () :=
  runF_ok hm (A := aT []) (L := lT []) (wk := ⟨[2], [(0, 0, false), (1, 1, false)], 2, 1⟩)
    (ps := []) (by kernel_rfl) trivial
theorem m_heapHeapviewportlaw23itemAllq1_ok (n : Nat) (a0 : Int) (r : Unit) (h : m_heapHeapviewportlaw23itemAllq1 n a0 = some r) : G_heapHeapviewportlaw23itemAllq1 a0 r := by
  unfold m_heapHeapviewportlaw23itemAllq1 at h
  obtain rfl := Option.some.inj h; exact p_heapHeapviewportlaw23itemAllq1_0 n a0

noncomputable def A_slicesCloneviewportref23Itemq1 : List Value := [(Value.slice none 0 0)]
noncomputable def H_slicesCloneviewportref23Itemq1 : AH := ⟨sB [], 0, 0⟩
noncomputable def V_slicesCloneviewportref23Itemq1 (r : Unit) : Value := match r with
  | _ => (Value.slice none 0 0)
noncomputable def R_slicesCloneviewportref23Itemq1 (r : Unit) : AH := match r with
  | _ => ⟨sB [], 0, 0⟩
noncomputable abbrev G_slicesCloneviewportref23Itemq1  (r : Unit) : Prop := Gv P (.func 24) (A_slicesCloneviewportref23Itemq1 ) (H_slicesCloneviewportref23Itemq1 ) (V_slicesCloneviewportref23Itemq1  r) (R_slicesCloneviewportref23Itemq1  r)
def m_slicesCloneviewportref23Itemq1 (n : Nat) : Option (Unit) :=
  some ()
set_option maxRecDepth 100000 in
theorem p_slicesCloneviewportref23Itemq1_0 (n : Nat)  : G_slicesCloneviewportref23Itemq1  () :=
  runF_ok hm (A := aT []) (L := lT []) (wk := ⟨[2], [], 0, 0⟩)
    (ps := []) (by kernel_rfl) trivial
theorem m_slicesCloneviewportref23Itemq1_ok (n : Nat) (r : Unit) (h : m_slicesCloneviewportref23Itemq1 n = some r) : G_slicesCloneviewportref23Itemq1  r := by
  unfold m_slicesCloneviewportref23Itemq1 at h
  obtain rfl := Option.some.inj h; exact p_slicesCloneviewportref23Itemq1_0 n

noncomputable def A_heapHeapviewportlaw23itemdrainq1 (a0 : Int) : List Value := [(Value.pointer (some ⟨0, 0, none⟩))]
noncomputable def H_heapHeapviewportlaw23itemdrainq1 (a0 : Int) : AH := ⟨sB [(0, (some (.cells (layT [(Value.pointer (some ⟨0, 0, none⟩)), (Value.func (.func 8) #[] #[]), (Value.slice none 0 0), (Value.int .i64 a0)]) 51)))], 1, 1⟩
noncomputable def V_heapHeapviewportlaw23itemdrainq1 (a0 : Int) (r : Unit) : Value := match r with
  | _ => (Value.func (.func 27) #[] #[(Value.pointer (some ⟨1, 0, none⟩))])
noncomputable def R_heapHeapviewportlaw23itemdrainq1 (a0 : Int) (r : Unit) : AH := match r with
  | _ => ⟨sB [(0, (some (.cells (layT [(Value.pointer (some ⟨0, 0, none⟩)), (Value.func (.func 8) #[] #[]), (Value.slice none 0 0), (Value.int .i64 a0)]) 51))), (1, (some (.cells (layT [(Value.pointer (some ⟨0, 0, none⟩))]) 24)))], 2, 1⟩
noncomputable abbrev G_heapHeapviewportlaw23itemdrainq1 (a0 : Int) (r : Unit) : Prop := Gv P (.func 25) (A_heapHeapviewportlaw23itemdrainq1 a0) (H_heapHeapviewportlaw23itemdrainq1 a0) (V_heapHeapviewportlaw23itemdrainq1 a0 r) (R_heapHeapviewportlaw23itemdrainq1 a0 r)
def m_heapHeapviewportlaw23itemdrainq1 (n : Nat) (a0 : Int) : Option (Unit) :=
  some ()
set_option maxRecDepth 100000 in
theorem p_heapHeapviewportlaw23itemdrainq1_0 (n : Nat) (a0 : Int) : G_heapHeapviewportlaw23itemdrainq1 a0 () :=
  runF_ok hm (A := aT []) (L := lT []) (wk := ⟨[2], [(0, 0, false), (1, 1, false)], 2, 1⟩)
    (ps := []) (by kernel_rfl) trivial
theorem m_heapHeapviewportlaw23itemdrainq1_ok (n : Nat) (a0 : Int) (r : Unit) (h : m_heapHeapviewportlaw23itemdrainq1 n a0 = some r) : G_heapHeapviewportlaw23itemdrainq1 a0 r := by
  unfold m_heapHeapviewportlaw23itemdrainq1 at h
  obtain rfl := Option.some.inj h; exact p_heapHeapviewportlaw23itemdrainq1_0 n a0

noncomputable def S_heapHeapviewportlaw23itemdrain1q1_1 (x1_0 : Bool) (x1_1 : Int) (x1_2 : Int) (x1_3 : Int) (st : Unit) : XSt := match st with
  | _ => (sT 17 [(0, (Value.func (.yield 0) #[] #[])), (1, (Value.pointer (some ⟨11, 0, none⟩)))], [], ⟨sB [(0, (some (rblk P 23 [false, true, true, true, true, true] .ready none [(2, (Value.pointer (some ⟨2, 0, none⟩))), (22, (Value.func (.func 27) #[] #[(Value.pointer (some ⟨11, 0, none⟩))]))] 1))), (1, (some (.marks true))), (2, (some (.cells (layT [(Value.func (.yield 3) #[] #[])]) 57))), (3, (some (rblk P 3 [false, true, false, true, true, true, true, true, true, true, true] .ready none [(2, (Value.pointer (some ⟨5, 0, none⟩))), (3, (Value.pointer (some ⟨6, 0, none⟩))), (4, (Value.pointer (some ⟨7, 0, none⟩))), (15, (Value.pointer (some ⟨9, 0, none⟩))), (108, (Value.func (.func 23) #[] #[(Value.pointer (some ⟨10, 0, none⟩))]))] 4))), (4, (some (.marks true))), (5, (some (.cells (layT [(Value.bool x1_0)]) 4))), (6, (some (.cells (layT [(Value.pointer (some ⟨6, 0, none⟩)), (Value.func (.func 8) #[] #[]), (Value.slice none 0 0), (Value.int .i64 x1_1)]) 51))), (7, (some (.cells (layT [(Value.pointer (some ⟨8, 0, none⟩))]) 29))), (8, (some (.cells (layT [(Value.slice none 0 0)]) 32))), (9, (some (.cells (layT [(Value.int .i64 x1_2)]) 3))), (10, (some (.cells (layT [(Value.pointer (some ⟨6, 0, none⟩))]) 24))), (11, (some (.cells (layT [(Value.pointer (some ⟨12, 0, none⟩))]) 24))), (12, (some (.cells (layT [(Value.pointer (some ⟨12, 0, none⟩)), (Value.func (.func 8) #[] #[]), (Value.slice none 0 0), (Value.int .i64 x1_3)]) 51)))], 13, 13⟩)
noncomputable def X_heapHeapviewportlaw23itemdrain1q1_1 (x1_0 : Bool) (x1_1 : Int) (x1_2 : Int) (x1_3 : Int) (r : Unit) : Ex × XSt := match r with
  | _ => (.exit 0, (sT 17 [], [], ⟨sB [(0, (some (rblk P 23 [false, true, true, true, true, true] .ready none [(2, (Value.pointer (some ⟨2, 0, none⟩))), (22, (Value.func (.func 27) #[] #[(Value.pointer (some ⟨11, 0, none⟩))]))] 1))), (1, (some (.marks true))), (2, (some (.cells (layT [(Value.func (.yield 3) #[] #[])]) 57))), (3, (some (rblk P 3 [false, true, false, true, true, true, true, true, true, true, true] .ready none [(2, (Value.pointer (some ⟨5, 0, none⟩))), (3, (Value.pointer (some ⟨6, 0, none⟩))), (4, (Value.pointer (some ⟨7, 0, none⟩))), (15, (Value.pointer (some ⟨9, 0, none⟩))), (108, (Value.func (.func 23) #[] #[(Value.pointer (some ⟨10, 0, none⟩))]))] 4))), (4, (some (.marks true))), (5, (some (.cells (layT [(Value.bool x1_0)]) 4))), (6, (some (.cells (layT [(Value.pointer (some ⟨6, 0, none⟩)), (Value.func (.func 8) #[] #[]), (Value.slice none 0 0), (Value.int .i64 x1_1)]) 51))), (7, (some (.cells (layT [(Value.pointer (some ⟨8, 0, none⟩))]) 29))), (8, (some (.cells (layT [(Value.slice none 0 0)]) 32))), (9, (some (.cells (layT [(Value.int .i64 x1_2)]) 3))), (10, (some (.cells (layT [(Value.pointer (some ⟨6, 0, none⟩))]) 24))), (11, (some (.cells (layT [(Value.pointer (some ⟨12, 0, none⟩))]) 24))), (12, (some (.cells (layT [(Value.pointer (some ⟨12, 0, none⟩)), (Value.func (.func 8) #[] #[]), (Value.slice none 0 0), (Value.int .i64 x1_3)]) 51)))], 13, 13⟩))
def B_heapHeapviewportlaw23itemdrain1q1_1 (n : Nat) (x1_0 : Bool) (x1_1 : Int) (x1_2 : Int) (x1_3 : Int) (st : Unit) : Option ((Unit) ⊕ (Unit)) := match st with
  | _ =>
    (m_heapHeapviewportlaw23itemLenq2 n x1_3).bind fun _ =>
    some (.inr ())
def m_heapHeapviewportlaw23itemdrain1q1_1 (n : Nat) (x1_0 : Bool) (x1_1 : Int) (x1_2 : Int) (x1_3 : Int) (st : Unit) : Option (Unit) := iterM (B_heapHeapviewportlaw23itemdrain1q1_1 n x1_0 x1_1 x1_2 x1_3) n st
set_option maxRecDepth 100000 in
theorem q_heapHeapviewportlaw23itemdrain1q1_1_0 (n : Nat) {rnd : Option Nat} (x1_0 : Bool) (x1_1 : Int) (x1_2 : Int) (x1_3 : Int) (hy1_1 : m_heapHeapviewportlaw23itemLenq2 n x1_3 = some ()) : CG P rnd (fnN P 27) 13 (codeOf P 27 [false, false]) (S_heapHeapviewportlaw23itemdrain1q1_1 x1_0 x1_1 x1_2 x1_3 ()) (X_heapHeapviewportlaw23itemdrain1q1_1 x1_0 x1_1 x1_2 x1_3 ()) :=
  runC_ok hm (A := aT [(3, .call ⟨1, [(0, 12, false)], (V_heapHeapviewportlaw23itemLenq2 x1_3 ()), (R_heapHeapviewportlaw23itemLenq2 x1_3 ()), []⟩)]) (L := lT []) (wk := ⟨[], [(0, 0, false), (1, 1, false), (2, 2, false), (3, 3, false), (4, 4, false), (5, 5, false), (6, 6, false), (7, 7, false), (8, 8, false), (9, 9, false), (10, 10, false), (11, 11, false), (12, 12, false)], 13, 13⟩)
    (ps := [G_heapHeapviewportlaw23itemLenq2 x1_3 ()]) (by kernel_rfl) ⟨(m_heapHeapviewportlaw23itemLenq2_ok n x1_3 () hy1_1), trivial⟩
theorem m_heapHeapviewportlaw23itemdrain1q1_1_ok (n : Nat) {rnd : Option Nat} (x1_0 : Bool) (x1_1 : Int) (x1_2 : Int) (x1_3 : Int) (st : Unit) (r : Unit) (h : m_heapHeapviewportlaw23itemdrain1q1_1 n x1_0 x1_1 x1_2 x1_3 st = some r) : CG P rnd (fnN P 27) 13 (codeOf P 27 [false]) (S_heapHeapviewportlaw23itemdrain1q1_1 x1_0 x1_1 x1_2 x1_3 st) (X_heapHeapviewportlaw23itemdrain1q1_1 x1_0 x1_1 x1_2 x1_3 r) :=
  CG.iter (b := codeOf P 27 [false, false]) (by kernel_rfl) (body := B_heapHeapviewportlaw23itemdrain1q1_1 n x1_0 x1_1 x1_2 x1_3) (S := S_heapHeapviewportlaw23itemdrain1q1_1 x1_0 x1_1 x1_2 x1_3) (X := X_heapHeapviewportlaw23itemdrain1q1_1 x1_0 x1_1 x1_2 x1_3)
    (fun s s' h => by
    unfold B_heapHeapviewportlaw23itemdrain1q1_1 at h
    dsimp only at h
    obtain ⟨_, hy1_1, h⟩ := Option.bind_eq_some_iff.1 h
    cases h)
    (fun s r h => by
    unfold B_heapHeapviewportlaw23itemdrain1q1_1 at h
    dsimp only at h
    obtain ⟨_, hy1_1, h⟩ := Option.bind_eq_some_iff.1 h
    obtain rfl := Sum.inr.inj (Option.some.inj h); exact q_heapHeapviewportlaw23itemdrain1q1_1_0 n x1_0 x1_1 x1_2 x1_3 hy1_1)
    (fun r => by intro hx; cases hx) h
noncomputable def A_heapHeapviewportlaw23itemdrain1q1 (a0 : Bool) (a1 : Int) (a2 : Int) (a3 : Int) : List Value := [(Value.func (.yield 0) #[] #[]), (Value.pointer (some ⟨11, 0, none⟩))]
noncomputable def H_heapHeapviewportlaw23itemdrain1q1 (a0 : Bool) (a1 : Int) (a2 : Int) (a3 : Int) : AH := ⟨sB [(0, (some (rblk P 23 [false, true, true, true, true, true] .ready none [(2, (Value.pointer (some ⟨2, 0, none⟩))), (22, (Value.func (.func 27) #[] #[(Value.pointer (some ⟨11, 0, none⟩))]))] 1))), (1, (some (.marks true))), (2, (some (.cells (layT [(Value.func (.yield 3) #[] #[])]) 57))), (3, (some (rblk P 3 [false, true, false, true, true, true, true, true, true, true, true] .ready none [(2, (Value.pointer (some ⟨5, 0, none⟩))), (3, (Value.pointer (some ⟨6, 0, none⟩))), (4, (Value.pointer (some ⟨7, 0, none⟩))), (15, (Value.pointer (some ⟨9, 0, none⟩))), (108, (Value.func (.func 23) #[] #[(Value.pointer (some ⟨10, 0, none⟩))]))] 4))), (4, (some (.marks true))), (5, (some (.cells (layT [(Value.bool a0)]) 4))), (6, (some (.cells (layT [(Value.pointer (some ⟨6, 0, none⟩)), (Value.func (.func 8) #[] #[]), (Value.slice none 0 0), (Value.int .i64 a1)]) 51))), (7, (some (.cells (layT [(Value.pointer (some ⟨8, 0, none⟩))]) 29))), (8, (some (.cells (layT [(Value.slice none 0 0)]) 32))), (9, (some (.cells (layT [(Value.int .i64 a2)]) 3))), (10, (some (.cells (layT [(Value.pointer (some ⟨6, 0, none⟩))]) 24))), (11, (some (.cells (layT [(Value.pointer (some ⟨12, 0, none⟩))]) 24))), (12, (some (.cells (layT [(Value.pointer (some ⟨12, 0, none⟩)), (Value.func (.func 8) #[] #[]), (Value.slice none 0 0), (Value.int .i64 a3)]) 51)))], 13, 13⟩
noncomputable def V_heapHeapviewportlaw23itemdrain1q1 (a0 : Bool) (a1 : Int) (a2 : Int) (a3 : Int) (r : Unit) : Value := match r with
  | _ => (Value.tuple #[])
noncomputable def R_heapHeapviewportlaw23itemdrain1q1 (a0 : Bool) (a1 : Int) (a2 : Int) (a3 : Int) (r : Unit) : AH := match r with
  | _ => ⟨sB [], 13, 13⟩
noncomputable abbrev G_heapHeapviewportlaw23itemdrain1q1 (a0 : Bool) (a1 : Int) (a2 : Int) (a3 : Int) (r : Unit) : Prop := Gv P (.func 27) (A_heapHeapviewportlaw23itemdrain1q1 a0 a1 a2 a3) (H_heapHeapviewportlaw23itemdrain1q1 a0 a1 a2 a3) (V_heapHeapviewportlaw23itemdrain1q1 a0 a1 a2 a3 r) (R_heapHeapviewportlaw23itemdrain1q1 a0 a1 a2 a3 r)
def m_heapHeapviewportlaw23itemdrain1q1 (n : Nat) (a0 : Bool) (a1 : Int) (a2 : Int) (a3 : Int) : Option (Unit) :=
  (m_heapHeapviewportlaw23itemdrain1q1_1 n a0 a1 a2 a3 ()).bind fun _ =>
  some ()
set_option maxRecDepth 100000 in
theorem p_heapHeapviewportlaw23itemdrain1q1_0 (n : Nat) (a0 : Bool) (a1 : Int) (a2 : Int) (a3 : Int) (hc1 : m_heapHeapviewportlaw23itemdrain1q1_1 n a0 a1 a2 a3 () = some ()) : G_heapHeapviewportlaw23itemdrain1q1 a0 a1 a2 a3 () :=
  runF_ok hm (A := aT []) (L := lT [(1, ⟨⟨[0, 1], [(0, 0, false), (1, 1, false), (2, 2, false), (3, 3, false), (4, 4, false), (5, 5, false), (6, 6, false), (7, 7, false), (8, 8, false), (9, 9, false), (10, 10, false), (11, 11, false), (12, 12, false)], 13, 13⟩, (X_heapHeapviewportlaw23itemdrain1q1_1 a0 a1 a2 a3 ()).1, (X_heapHeapviewportlaw23itemdrain1q1_1 a0 a1 a2 a3 ()).2⟩)]) (wk := ⟨[], [], 13, 13⟩)
    (ps := [CG P none (fnN P 27) 13 (codeOf P 27 [false]) (S_heapHeapviewportlaw23itemdrain1q1_1 a0 a1 a2 a3 ()) (X_heapHeapviewportlaw23itemdrain1q1_1 a0 a1 a2 a3 ())]) (by kernel_rfl) ⟨(m_heapHeapviewportlaw23itemdrain1q1_1_ok n a0 a1 a2 a3 () () hc1), trivial⟩
theorem m_heapHeapviewportlaw23itemdrain1q1_ok (n : Nat) (a0 : Bool) (a1 : Int) (a2 : Int) (a3 : Int) (r : Unit) (h : m_heapHeapviewportlaw23itemdrain1q1 n a0 a1 a2 a3 = some r) : G_heapHeapviewportlaw23itemdrain1q1 a0 a1 a2 a3 r := by
  unfold m_heapHeapviewportlaw23itemdrain1q1 at h
  obtain ⟨_, hc1, h⟩ := Option.bind_eq_some_iff.1 h
  obtain rfl := Option.some.inj h; exact p_heapHeapviewportlaw23itemdrain1q1_0 n a0 a1 a2 a3 hc1

noncomputable def A_heapHeapviewportlaw23itemAll1q1 (a0 : Bool) (a1 : Int) (a2 : Int) : List Value := [(Value.func (.yield 0) #[] #[]), (Value.pointer (some ⟨7, 0, none⟩))]
noncomputable def H_heapHeapviewportlaw23itemAll1q1 (a0 : Bool) (a1 : Int) (a2 : Int) : AH := ⟨sB [(0, (some (rblk P 3 [false, true, false, true, true, true, true, true, true, true, true] .ready none [(2, (Value.pointer (some ⟨2, 0, none⟩))), (3, (Value.pointer (some ⟨3, 0, none⟩))), (4, (Value.pointer (some ⟨4, 0, none⟩))), (15, (Value.pointer (some ⟨6, 0, none⟩))), (108, (Value.func (.func 23) #[] #[(Value.pointer (some ⟨7, 0, none⟩))]))] 1))), (1, (some (.marks true))), (2, (some (.cells (layT [(Value.bool a0)]) 4))), (3, (some (.cells (layT [(Value.pointer (some ⟨3, 0, none⟩)), (Value.func (.func 8) #[] #[]), (Value.slice none 0 0), (Value.int .i64 a1)]) 51))), (4, (some (.cells (layT [(Value.pointer (some ⟨5, 0, none⟩))]) 29))), (5, (some (.cells (layT [(Value.slice none 0 0)]) 32))), (6, (some (.cells (layT [(Value.int .i64 a2)]) 3))), (7, (some (.cells (layT [(Value.pointer (some ⟨3, 0, none⟩))]) 24)))], 8, 8⟩
noncomputable def V_heapHeapviewportlaw23itemAll1q1 (a0 : Bool) (a1 : Int) (a2 : Int) (r : Unit) : Value := match r with
  | _ => (Value.tuple #[])
noncomputable def R_heapHeapviewportlaw23itemAll1q1 (a0 : Bool) (a1 : Int) (a2 : Int) (r : Unit) : AH := match r with
  | _ => ⟨sB [(8, (some (.marks false)))], 9, 8⟩
noncomputable abbrev G_heapHeapviewportlaw23itemAll1q1 (a0 : Bool) (a1 : Int) (a2 : Int) (r : Unit) : Prop := Gv P (.func 23) (A_heapHeapviewportlaw23itemAll1q1 a0 a1 a2) (H_heapHeapviewportlaw23itemAll1q1 a0 a1 a2) (V_heapHeapviewportlaw23itemAll1q1 a0 a1 a2 r) (R_heapHeapviewportlaw23itemAll1q1 a0 a1 a2 r)
def m_heapHeapviewportlaw23itemAll1q1 (n : Nat) (a0 : Bool) (a1 : Int) (a2 : Int) : Option (Unit) :=
  (m_heapHeapviewportlaw23itemvalidq1 n a1).bind fun _ =>
  (m_heapNewviewportref23Itemq1 n).bind fun _ =>
  (m_slicesCloneviewportref23Itemq1 n).bind fun _ =>
  (m_heapHeapviewportlaw23itemdrainq1 n 0).bind fun _ =>
  (m_heapHeapviewportlaw23itemdrain1q1 n a0 a1 a2 0).bind fun _ =>
  some ()
set_option maxRecDepth 100000 in
theorem p_heapHeapviewportlaw23itemAll1q1_0 (n : Nat) (a0 : Bool) (a1 : Int) (a2 : Int) (hc1 : m_heapHeapviewportlaw23itemvalidq1 n a1 = some ()) (hc2 : m_heapNewviewportref23Itemq1 n = some ()) (hc3 : m_slicesCloneviewportref23Itemq1 n = some ()) (hc4 : m_heapHeapviewportlaw23itemdrainq1 n 0 = some ()) (hc5 : m_heapHeapviewportlaw23itemdrain1q1 n a0 a1 a2 0 = some ()) : G_heapHeapviewportlaw23itemAll1q1 a0 a1 a2 () :=
  runF_ok hm (A := aT [(5, .call ⟨1, [(0, 3, false)], (V_heapHeapviewportlaw23itemvalidq1 a1 ()), (R_heapHeapviewportlaw23itemvalidq1 a1 ()), []⟩), (13, .call ⟨0, [], (V_heapNewviewportref23Itemq1  ()), (R_heapNewviewportref23Itemq1  ()), [(9, 0, false)]⟩), (21, .call ⟨0, [], (V_slicesCloneviewportref23Itemq1  ()), (R_slicesCloneviewportref23Itemq1  ()), []⟩), (27, .call ⟨1, [(0, 9, false)], (V_heapHeapviewportlaw23itemdrainq1 0 ()), (R_heapHeapviewportlaw23itemdrainq1 0 ()), [(9, 0, false), (10, 1, false)]⟩), (29, .rng ⟨13, [(0, 12, false), (1, 11, false), (2, 8, false), (3, 0, false), (4, 1, false), (5, 2, false), (6, 3, false), (7, 4, false), (8, 5, false), (9, 6, false), (10, 7, false), (11, 10, false), (12, 9, false)], (V_heapHeapviewportlaw23itemdrain1q1 a0 a1 a2 0 ()), (R_heapHeapviewportlaw23itemdrain1q1 a0 a1 a2 0 ()), []⟩ [2, 22])]) (L := lT []) (wk := ⟨[], [(8, 11, false)], 9, 8⟩)
    (ps := [G_heapHeapviewportlaw23itemvalidq1 a1 (),
    G_heapNewviewportref23Itemq1  (),
    G_slicesCloneviewportref23Itemq1  (),
    G_heapHeapviewportlaw23itemdrainq1 0 (),
    G_heapHeapviewportlaw23itemdrain1q1 a0 a1 a2 0 ()]) (by kernel_rfl) ⟨(m_heapHeapviewportlaw23itemvalidq1_ok n a1 () hc1), (m_heapNewviewportref23Itemq1_ok n () hc2), (m_slicesCloneviewportref23Itemq1_ok n () hc3), (m_heapHeapviewportlaw23itemdrainq1_ok n 0 () hc4), (m_heapHeapviewportlaw23itemdrain1q1_ok n a0 a1 a2 0 () hc5), trivial⟩
theorem m_heapHeapviewportlaw23itemAll1q1_ok (n : Nat) (a0 : Bool) (a1 : Int) (a2 : Int) (r : Unit) (h : m_heapHeapviewportlaw23itemAll1q1 n a0 a1 a2 = some r) : G_heapHeapviewportlaw23itemAll1q1 a0 a1 a2 r := by
  unfold m_heapHeapviewportlaw23itemAll1q1 at h
  obtain ⟨_, hc1, h⟩ := Option.bind_eq_some_iff.1 h
  obtain ⟨_, hc2, h⟩ := Option.bind_eq_some_iff.1 h
  obtain ⟨_, hc3, h⟩ := Option.bind_eq_some_iff.1 h
  obtain ⟨_, hc4, h⟩ := Option.bind_eq_some_iff.1 h
  obtain ⟨_, hc5, h⟩ := Option.bind_eq_some_iff.1 h
  obtain rfl := Option.some.inj h; exact p_heapHeapviewportlaw23itemAll1q1_0 n a0 a1 a2 hc1 hc2 hc3 hc4 hc5

noncomputable def A_heapHeapviewportlaw23itemAllq2 (a0 : List (Int × Int × Int)) (a1 : Nat) (a2 : Int) : List Value := [(Value.pointer (some ⟨0, 0, none⟩))]
noncomputable def H_heapHeapviewportlaw23itemAllq2 (a0 : List (Int × Int × Int)) (a1 : Nat) (a2 : Int) : AH := ⟨sB [(0, (some (.cells (layT [(Value.pointer (some ⟨0, 0, none⟩)), (Value.func (.func 8) #[] #[]), (Value.slice (some ⟨1, 0, none⟩) a1 (Nat.add big 3)), (Value.int .i64 a2)]) 51))), (1, (some (.cells (layT (rows rw_iii a0)) 55)))], 2, 2⟩
noncomputable def V_heapHeapviewportlaw23itemAllq2 (a0 : List (Int × Int × Int)) (a1 : Nat) (a2 : Int) (r : Unit) : Value := match r with
  | _ => (Value.func (.func 23) #[] #[(Value.pointer (some ⟨2, 0, none⟩))])
noncomputable def R_heapHeapviewportlaw23itemAllq2 (a0 : List (Int × Int × Int)) (a1 : Nat) (a2 : Int) (r : Unit) : AH := match r with
  | _ => ⟨sB [(0, (some (.cells (layT [(Value.pointer (some ⟨0, 0, none⟩)), (Value.func (.func 8) #[] #[]), (Value.slice (some ⟨1, 0, none⟩) a1 (Nat.add big 3)), (Value.int .i64 a2)]) 51))), (1, (some (.cells (layT (rows rw_iii a0)) 55))), (2, (some (.cells (layT [(Value.pointer (some ⟨0, 0, none⟩))]) 24)))], 3, 2⟩
noncomputable abbrev G_heapHeapviewportlaw23itemAllq2 (a0 : List (Int × Int × Int)) (a1 : Nat) (a2 : Int) (r : Unit) : Prop := Gv P (.func 18) (A_heapHeapviewportlaw23itemAllq2 a0 a1 a2) (H_heapHeapviewportlaw23itemAllq2 a0 a1 a2) (V_heapHeapviewportlaw23itemAllq2 a0 a1 a2 r) (R_heapHeapviewportlaw23itemAllq2 a0 a1 a2 r)
def m_heapHeapviewportlaw23itemAllq2 (n : Nat) (a0 : List (Int × Int × Int)) (a1 : Nat) (a2 : Int) : Option (Unit) :=
  some ()
set_option maxRecDepth 100000 in
theorem p_heapHeapviewportlaw23itemAllq2_0 (n : Nat) (a0 : List (Int × Int × Int)) (a1 : Nat) (a2 : Int) : G_heapHeapviewportlaw23itemAllq2 a0 a1 a2 () :=
  runF_ok hm (A := aT []) (L := lT []) (wk := ⟨[2], [(0, 0, false), (1, 1, true), (2, 2, false)], 3, 2⟩)
    (ps := [FlatB (.cells (layT (rows rw_iii a0)) 55)]) (by kernel_rfl) ⟨(rows_flat rwf_iii _ _), trivial⟩
theorem m_heapHeapviewportlaw23itemAllq2_ok (n : Nat) (a0 : List (Int × Int × Int)) (a1 : Nat) (a2 : Int) (r : Unit) (h : m_heapHeapviewportlaw23itemAllq2 n a0 a1 a2 = some r) : G_heapHeapviewportlaw23itemAllq2 a0 a1 a2 r := by
  unfold m_heapHeapviewportlaw23itemAllq2 at h
  obtain rfl := Option.some.inj h; exact p_heapHeapviewportlaw23itemAllq2_0 n a0 a1 a2

noncomputable def A_slicesCloneviewportref23Itemq2 (a0 : List (Int × Int × Int)) (a1 : Nat) : List Value := [(Value.slice (some ⟨0, 0, none⟩) a1 (Nat.add big 3))]
noncomputable def H_slicesCloneviewportref23Itemq2 (a0 : List (Int × Int × Int)) (a1 : Nat) : AH := ⟨sB [(0, (some (.cells (layT (rows rw_iii a0)) 55)))], 1, 1⟩
noncomputable def V_slicesCloneviewportref23Itemq2 (a0 : List (Int × Int × Int)) (a1 : Nat) (r : (List (Int × Int × Int)) ⊕ (Unit)) : Value := match r with
  | .inl o0 => (Value.slice (some ⟨1, 0, none⟩) (o0).length (Nat.add big 3))
  | .inr _ => (Value.slice (some ⟨1, 0, none⟩) 0 0)
noncomputable def R_slicesCloneviewportref23Itemq2 (a0 : List (Int × Int × Int)) (a1 : Nat) (r : (List (Int × Int × Int)) ⊕ (Unit)) : AH := match r with
  | .inl o0 => ⟨sB [(1, (some (.cells (layT (rows rw_iii o0)) 55)))], 2, 1⟩
  | .inr _ => ⟨sB [(1, (some (.cells (layT []) 55)))], 2, 1⟩
noncomputable abbrev G_slicesCloneviewportref23Itemq2 (a0 : List (Int × Int × Int)) (a1 : Nat) (r : (List (Int × Int × Int)) ⊕ (Unit)) : Prop := Gv P (.func 24) (A_slicesCloneviewportref23Itemq2 a0 a1) (H_slicesCloneviewportref23Itemq2 a0 a1) (V_slicesCloneviewportref23Itemq2 a0 a1 r) (R_slicesCloneviewportref23Itemq2 a0 a1 r)
def m_slicesCloneviewportref23Itemq2 (n : Nat) (a0 : List (Int × Int × Int)) (a1 : Nat) : Option ((List (Int × Int × Int)) ⊕ (Unit)) :=
  if 0 < a1 then
    if 0 + a1 ≤ (a0).length then
      if (0 + a1) * 24 ≤ 140737488355328 then
        if 0 < 0 + a1 then
          some (.inl (([] : List (Int × Int × Int)) ++ (List.take a1 (List.drop 0 a0))))
        else none
      else none
    else none
  else
    some (.inr ())
set_option maxRecDepth 100000 in
theorem p_slicesCloneviewportref23Itemq2_0 (n : Nat) (a0 : List (Int × Int × Int)) (a1 : Nat) (hc1 : 0 < a1) (hc2 : 0 + a1 ≤ (a0).length) (hc3 : (0 + a1) * 24 ≤ 140737488355328) (hc4 : 0 < 0 + a1) : G_slicesCloneviewportref23Itemq2 a0 a1 (.inl (([] : List (Int × Int × Int)) ++ (List.take a1 (List.drop 0 a0)))) :=
  runF_ok hm (A := aT [(10, .app ⟨some (a1, (rows rw_iii (List.take a1 (List.drop 0 a0)))), ([] : List Value), (rows rw_iii (([] : List (Int × Int × Int)) ++ (List.take a1 (List.drop 0 a0)))), ((([] : List (Int × Int × Int)) ++ (List.take a1 (List.drop 0 a0)))).length, true⟩)]) (L := lT []) (wk := ⟨[2], [(1, 2, true)], 2, 1⟩)
    (ps := [a1 = a1,
    rdT (layT (rows rw_iii a0)) (Nat.mul a1 3) 0 = some (rows rw_iii (List.take a1 (List.drop 0 a0))),
    0 < a1,
    0 < big,
    0 < Nat.add 0 a1,
    rdT (layT ([] : List Value)) (Nat.mul 0 3) 0 = some (([] : List Value)),
    fits (Nat.add 0 a1) 24 = true,
    ([] : List Value) ++ (rows rw_iii (List.take a1 (List.drop 0 a0))) = (rows rw_iii (([] : List (Int × Int × Int)) ++ (List.take a1 (List.drop 0 a0)))),
    Nat.add 0 a1 = ((([] : List (Int × Int × Int)) ++ (List.take a1 (List.drop 0 a0)))).length,
    FlatB (.cells (layT (rows rw_iii (([] : List (Int × Int × Int)) ++ (List.take a1 (List.drop 0 a0))))) 55)]) (by kernel_rfl) ⟨(rfl), ((Nat.zero_mul 3 ▸ rows_rdSub rwf_iii _ 0 _ hc2)), (hc1), ((by decide)), (hc4), (rfl), (fits_ok hc3 (by have := hc3; show (_ : Nat) + _ ≤ _; omega)), (rows_app rw_iii ([] : List (Int × Int × Int)) (List.take a1 (List.drop 0 a0))), (by simp <;> omega), (rows_flat rwf_iii _ _), trivial⟩
set_option maxRecDepth 100000 in
theorem p_slicesCloneviewportref23Itemq2_1 (n : Nat) (a0 : List (Int × Int × Int)) (a1 : Nat) (hc1 : ¬ (0 < a1)) : G_slicesCloneviewportref23Itemq2 a0 a1 (.inr ()) :=
  runF_ok hm (A := aT [(10, .app0)]) (L := lT []) (wk := ⟨[2], [(1, 1, false)], 2, 1⟩)
    (ps := [0 = a1,
    rdT (layT (rows rw_iii a0)) (Nat.mul a1 3) 0 = some [],
    ∀ H : AH, appTop H 3 55 24 (0, []) (Value.slice (some ⟨1, 0, none⟩) 0 0) = some ((Value.slice (some ⟨1, 0, none⟩) 0 0), H)]) (by kernel_rfl) ⟨((by have := hc1; omega)), (rdT_zero (by have := hc1; omega)), (fun _ => rfl), trivial⟩
theorem m_slicesCloneviewportref23Itemq2_ok (n : Nat) (a0 : List (Int × Int × Int)) (a1 : Nat) (r : (List (Int × Int × Int)) ⊕ (Unit)) (h : m_slicesCloneviewportref23Itemq2 n a0 a1 = some r) : G_slicesCloneviewportref23Itemq2 a0 a1 r := by
  unfold m_slicesCloneviewportref23Itemq2 at h
  by_cases hc1 : 0 < a1
  · rw [if_pos hc1] at h
    by_cases hc2 : 0 + a1 ≤ (a0).length
    · rw [if_pos hc2] at h
      by_cases hc3 : (0 + a1) * 24 ≤ 140737488355328
      · rw [if_pos hc3] at h
        by_cases hc4 : 0 < 0 + a1
        · rw [if_pos hc4] at h
          obtain rfl := Option.some.inj h; exact p_slicesCloneviewportref23Itemq2_0 n a0 a1 hc1 hc2 hc3 hc4
        · rw [if_neg hc4] at h; cases h
      · rw [if_neg hc3] at h; cases h
    · rw [if_neg hc2] at h; cases h
  · rw [if_neg hc1] at h
    obtain rfl := Option.some.inj h; exact p_slicesCloneviewportref23Itemq2_1 n a0 a1 hc1

noncomputable def A_heapHeapviewportlaw23itemdrainq2 (a0 : List (Int × Int × Int)) (a1 : Int) : List Value := [(Value.pointer (some ⟨0, 0, none⟩))]
noncomputable def H_heapHeapviewportlaw23itemdrainq2 (a0 : List (Int × Int × Int)) (a1 : Int) : AH := ⟨sB [(0, (some (.cells (layT [(Value.pointer (some ⟨0, 0, none⟩)), (Value.func (.func 8) #[] #[]), (Value.slice (some ⟨1, 0, none⟩) (a0).length (Nat.add big 3)), (Value.int .i64 a1)]) 51))), (1, (some (.cells (layT (rows rw_iii a0)) 55)))], 2, 2⟩
noncomputable def V_heapHeapviewportlaw23itemdrainq2 (a0 : List (Int × Int × Int)) (a1 : Int) (r : Unit) : Value := match r with
  | _ => (Value.func (.func 27) #[] #[(Value.pointer (some ⟨2, 0, none⟩))])
noncomputable def R_heapHeapviewportlaw23itemdrainq2 (a0 : List (Int × Int × Int)) (a1 : Int) (r : Unit) : AH := match r with
  | _ => ⟨sB [(0, (some (.cells (layT [(Value.pointer (some ⟨0, 0, none⟩)), (Value.func (.func 8) #[] #[]), (Value.slice (some ⟨1, 0, none⟩) (a0).length (Nat.add big 3)), (Value.int .i64 a1)]) 51))), (1, (some (.cells (layT (rows rw_iii a0)) 55))), (2, (some (.cells (layT [(Value.pointer (some ⟨0, 0, none⟩))]) 24)))], 3, 2⟩
noncomputable abbrev G_heapHeapviewportlaw23itemdrainq2 (a0 : List (Int × Int × Int)) (a1 : Int) (r : Unit) : Prop := Gv P (.func 25) (A_heapHeapviewportlaw23itemdrainq2 a0 a1) (H_heapHeapviewportlaw23itemdrainq2 a0 a1) (V_heapHeapviewportlaw23itemdrainq2 a0 a1 r) (R_heapHeapviewportlaw23itemdrainq2 a0 a1 r)
def m_heapHeapviewportlaw23itemdrainq2 (n : Nat) (a0 : List (Int × Int × Int)) (a1 : Int) : Option (Unit) :=
  some ()
set_option maxRecDepth 100000 in
theorem p_heapHeapviewportlaw23itemdrainq2_0 (n : Nat) (a0 : List (Int × Int × Int)) (a1 : Int) : G_heapHeapviewportlaw23itemdrainq2 a0 a1 () :=
  runF_ok hm (A := aT []) (L := lT []) (wk := ⟨[2], [(0, 0, false), (1, 1, true), (2, 2, false)], 3, 2⟩)
    (ps := [FlatB (.cells (layT (rows rw_iii a0)) 55)]) (by kernel_rfl) ⟨(rows_flat rwf_iii _ _), trivial⟩
theorem m_heapHeapviewportlaw23itemdrainq2_ok (n : Nat) (a0 : List (Int × Int × Int)) (a1 : Int) (r : Unit) (h : m_heapHeapviewportlaw23itemdrainq2 n a0 a1 = some r) : G_heapHeapviewportlaw23itemdrainq2 a0 a1 r := by
  unfold m_heapHeapviewportlaw23itemdrainq2 at h
  obtain rfl := Option.some.inj h; exact p_heapHeapviewportlaw23itemdrainq2_0 n a0 a1

noncomputable def A_viewportlaw23HeapScript_111010y1 (a0 : Bool) (a1 : List (Int × Int × Int)) (a2 : Nat) (a3 : Int) (a4 : List (Int × Int)) (a5 : Nat) (a6 : Nat) (a7 : Int) (a8 : Int) (a9 : Int) : List Value := [(Value.agg #[(Value.int .i64 a8), (Value.int .i64 a9)])]
noncomputable def H_viewportlaw23HeapScript_111010y1 (a0 : Bool) (a1 : List (Int × Int × Int)) (a2 : Nat) (a3 : Int) (a4 : List (Int × Int)) (a5 : Nat) (a6 : Nat) (a7 : Int) (a8 : Int) (a9 : Int) : AH := ⟨sB [(0, (some (rblk P 3 [false, true, false, true, true, true, true, true, true, true, true] .ready none [(2, (Value.pointer (some ⟨2, 0, none⟩))), (3, (Value.pointer (some ⟨3, 0, none⟩))), (4, (Value.pointer (some ⟨5, 0, none⟩))), (15, (Value.pointer (some ⟨8, 0, none⟩))), (108, (Value.func (.func 23) #[] #[(Value.pointer (some ⟨9, 0, none⟩))]))] 1))), (1, (some (.marks true))), (2, (some (.cells (layT [(Value.bool a0)]) 4))), (3, (some (.cells (layT [(Value.pointer (some ⟨3, 0, none⟩)), (Value.func (.func 8) #[] #[]), (Value.slice (some ⟨4, 0, none⟩) a2 (Nat.add big 3)), (Value.int .i64 a3)]) 51))), (4, (some (.cells (layT (rows rw_iii a1)) 55))), (5, (some (.cells (layT [(Value.pointer (some ⟨6, 0, none⟩))]) 29))), (6, (some (.cells (layT [(Value.slice (some ⟨7, (a5 * 2), none⟩) a6 (Nat.add big 2))]) 32))), (7, (some (.cells (layT (rows rw_ii a4)) 27))), (8, (some (.cells (layT [(Value.int .i64 a7)]) 3))), (9, (some (.cells (layT [(Value.pointer (some ⟨3, 0, none⟩))]) 24)))], 10, 10⟩
noncomputable def V_viewportlaw23HeapScript_111010y1 (a0 : Bool) (a1 : List (Int × Int × Int)) (a2 : Nat) (a3 : Int) (a4 : List (Int × Int)) (a5 : Nat) (a6 : Nat) (a7 : Int) (a8 : Int) (a9 : Int) (r : Unit) : Value := match r with
  | _ => (Value.bool true)
noncomputable def R_viewportlaw23HeapScript_111010y1 (a0 : Bool) (a1 : List (Int × Int × Int)) (a2 : Nat) (a3 : Int) (a4 : List (Int × Int)) (a5 : Nat) (a6 : Nat) (a7 : Int) (a8 : Int) (a9 : Int) (r : Unit) : AH := match r with
  | _ => ⟨sB [(0, (some (rblk P 3 [false, true, false, true, true, true, true, true, true, true, true] .ready none [(2, (Value.pointer (some ⟨2, 0, none⟩))), (3, (Value.pointer (some ⟨3, 0, none⟩))), (4, (Value.pointer (some ⟨5, 0, none⟩))), (15, (Value.pointer (some ⟨8, 0, none⟩))), (108, (Value.func (.func 23) #[] #[(Value.pointer (some ⟨9, 0, none⟩))]))] 1))), (1, (some (.marks true))), (2, (some (.cells (layT [(Value.bool a0)]) 4))), (3, (some (.cells (layT [(Value.pointer (some ⟨3, 0, none⟩)), (Value.func (.func 8) #[] #[]), (Value.slice (some ⟨4, 0, none⟩) a2 (Nat.add big 3)), (Value.int .i64 a3)]) 51))), (4, (some (.cells (layT (rows rw_iii a1)) 55))), (5, (some (.cells (layT [(Value.pointer (some ⟨6, 0, none⟩))]) 29))), (6, (some (.cells (layT [(Value.slice (some ⟨7, (a5 * 2), none⟩) a6 (Nat.add big 2))]) 32))), (7, (some (.cells (layT (rows rw_ii a4)) 27))), (8, (some (.cells (layT [(Value.int .i64 (w64 (a7 + (1 : Int))))]) 3))), (9, (some (.cells (layT [(Value.pointer (some ⟨3, 0, none⟩))]) 24)))], 10, 0⟩
def m_viewportlaw23HeapScript_111010y1 (n : Nat) (a0 : Bool) (a1 : List (Int × Int × Int)) (a2 : Nat) (a3 : Int) (a4 : List (Int × Int)) (a5 : Nat) (a6 : Nat) (a7 : Int) (a8 : Int) (a9 : Int) : Option (Unit) :=
  if a7 ≥ ((a6 : Nat) : Int) then
    none
  else
    if 0 ≤ a7 ∧ a7 < ((a6 : Nat) : Int) then
      if (a5 + (a7).toNat) < (a4).length then
        if (!((a8 == (((a4).getD (a5 + (a7).toNat) (0, 0)).1)) && ((a9 == (((a4).getD (a5 + (a7).toNat) (0, 0)).2)) && true))) = true then
          none
        else
          some ()
      else none
    else none
set_option maxRecDepth 100000 in
theorem p_viewportlaw23HeapScript_111010y1_0 (n : Nat) (a0 : Bool) (a1 : List (Int × Int × Int)) (a2 : Nat) (a3 : Int) (a4 : List (Int × Int)) (a5 : Nat) (a6 : Nat) (a7 : Int) (a8 : Int) (a9 : Int) (hc1 : ¬ (a7 ≥ ((a6 : Nat) : Int))) (hc2 : 0 ≤ a7 ∧ a7 < ((a6 : Nat) : Int)) (hc3 : (a5 + (a7).toNat) < (a4).length) (hc4 : ¬ ((!((a8 == (((a4).getD (a5 + (a7).toNat) (0, 0)).1)) && ((a9 == (((a4).getD (a5 + (a7).toNat) (0, 0)).2)) && true))) = true)) : Gv P (.yield 0) (A_viewportlaw23HeapScript_111010y1 a0 a1 a2 a3 a4 a5 a6 a7 a8 a9) (H_viewportlaw23HeapScript_111010y1 a0 a1 a2 a3 a4 a5 a6 a7 a8 a9) (V_viewportlaw23HeapScript_111010y1 a0 a1 a2 a3 a4 a5 a6 a7 a8 a9 ()) (R_viewportlaw23HeapScript_111010y1 a0 a1 a2 a3 a4 a5 a6 a7 a8 a9 ()) :=
  runY_ok hm (A1 := aT []) (L1 := lT []) (A2 := aT [(9, .val (.bool false)), (17, .pur (Value.pointer (some ⟨7, ((a5 + (a7).toNat) * 2), none⟩))), (18, .ld (Value.agg #[(Value.int .i64 (((a4).getD (a5 + (a7).toNat) (0, 0)).1)), (Value.int .i64 (((a4).getD (a5 + (a7).toNat) (0, 0)).2))])), (21, .val (.bool false))]) (L2 := lT []) (wk := ⟨[], [(0, 0, false), (1, 1, false), (2, 2, false), (3, 3, false), (4, 4, true), (5, 5, false), (6, 6, false), (7, 7, true), (8, 8, false), (9, 9, false)], 10, 0⟩)
    (ps := [(Value.bool (decide (a7 ≥ ((a6 : Nat) : Int)))) = (Value.bool false),
    opIndexAddr P 30 (Value.slice (some ⟨7, (a5 * 2), none⟩) a6 (Nat.add big 2)) (Value.int .i64 a7) Ax.h0 = some ((Value.pointer (some ⟨7, ((a5 + (a7).toNat) * 2), none⟩)), Ax.h0),
    rdT (layT (rows rw_ii a4)) 2 ((a5 + (a7).toNat) * 2) = some [(Value.int .i64 (((a4).getD (a5 + (a7).toNat) (0, 0)).1)), (Value.int .i64 (((a4).getD (a5 + (a7).toNat) (0, 0)).2))],
    (Value.bool (!((a8 == (((a4).getD (a5 + (a7).toNat) (0, 0)).1)) && ((a9 == (((a4).getD (a5 + (a7).toNat) (0, 0)).2)) && true)))) = (Value.bool false),
    FlatB (.cells (layT (rows rw_iii a1)) 55),
    FlatB (.cells (layT (rows rw_ii a4)) 27)]) (by kernel_rfl) ⟨(vbF hc1), (ixSO (e := 27) (es := 2) a5 (by kernel_rfl) (by kernel_rfl) hc2), (rows_rdp rwf_ii (0, 0) (i := (a5 + (a7).toNat)) (j := 0) ((a5 + (a7).toNat) * 2) rfl (hc3) (by decide) rfl), (vB (Bool.eq_false_iff.2 hc4)), (rows_flat rwf_iii _ _), (rows_flat rwf_ii _ _), trivial⟩
theorem m_viewportlaw23HeapScript_111010y1_ok (n : Nat) (a0 : Bool) (a1 : List (Int × Int × Int)) (a2 : Nat) (a3 : Int) (a4 : List (Int × Int)) (a5 : Nat) (a6 : Nat) (a7 : Int) (a8 : Int) (a9 : Int) (r : Unit) (h : m_viewportlaw23HeapScript_111010y1 n a0 a1 a2 a3 a4 a5 a6 a7 a8 a9 = some r) : Gv P (.yield 0) (A_viewportlaw23HeapScript_111010y1 a0 a1 a2 a3 a4 a5 a6 a7 a8 a9) (H_viewportlaw23HeapScript_111010y1 a0 a1 a2 a3 a4 a5 a6 a7 a8 a9) (V_viewportlaw23HeapScript_111010y1 a0 a1 a2 a3 a4 a5 a6 a7 a8 a9 r) (R_viewportlaw23HeapScript_111010y1 a0 a1 a2 a3 a4 a5 a6 a7 a8 a9 r) := by
  unfold m_viewportlaw23HeapScript_111010y1 at h
  by_cases hc1 : a7 ≥ ((a6 : Nat) : Int)
  · rw [if_pos hc1] at h
    cases h
  · rw [if_neg hc1] at h
    by_cases hc2 : 0 ≤ a7 ∧ a7 < ((a6 : Nat) : Int)
    · rw [if_pos hc2] at h
      by_cases hc3 : (a5 + (a7).toNat) < (a4).length
      · rw [if_pos hc3] at h
        by_cases hc4 : (!((a8 == (((a4).getD (a5 + (a7).toNat) (0, 0)).1)) && ((a9 == (((a4).getD (a5 + (a7).toNat) (0, 0)).2)) && true))) = true
        · rw [if_pos hc4] at h
          cases h
        · rw [if_neg hc4] at h
          obtain rfl := Option.some.inj h; exact p_viewportlaw23HeapScript_111010y1_0 n a0 a1 a2 a3 a4 a5 a6 a7 a8 a9 hc1 hc2 hc3 hc4
      · rw [if_neg hc3] at h; cases h
    · rw [if_neg hc2] at h; cases h

noncomputable def A_heapHeapviewportlaw23itemAll1_111110y1 (a0 : Bool) (a1 : List (Int × Int × Int)) (a2 : Nat) (a3 : Int) (a4 : List (Int × Int)) (a5 : Nat) (a6 : Nat) (a7 : Int) (a8 : List (Int × Int × Int)) (a9 : Nat) (a10 : Int) (a11 : Int) (a12 : Int) : List Value := [(Value.agg #[(Value.int .i64 a11), (Value.int .i64 a12)])]
noncomputable def H_heapHeapviewportlaw23itemAll1_111110y1 (a0 : Bool) (a1 : List (Int × Int × Int)) (a2 : Nat) (a3 : Int) (a4 : List (Int × Int)) (a5 : Nat) (a6 : Nat) (a7 : Int) (a8 : List (Int × Int × Int)) (a9 : Nat) (a10 : Int) (a11 : Int) (a12 : Int) : AH := ⟨sB [(0, (some (rblk P 23 [false, true, true, true, true, true] .ready none [(2, (Value.pointer (some ⟨2, 0, none⟩))), (22, (Value.func (.func 27) #[] #[(Value.pointer (some ⟨13, 0, none⟩))]))] 1))), (1, (some (.marks true))), (2, (some (.cells (layT [(Value.func (.yield 3) #[] #[])]) 57))), (3, (some (rblk P 3 [false, true, false, true, true, true, true, true, true, true, true] .ready none [(2, (Value.pointer (some ⟨5, 0, none⟩))), (3, (Value.pointer (some ⟨6, 0, none⟩))), (4, (Value.pointer (some ⟨8, 0, none⟩))), (15, (Value.pointer (some ⟨11, 0, none⟩))), (108, (Value.func (.func 23) #[] #[(Value.pointer (some ⟨12, 0, none⟩))]))] 4))), (4, (some (.marks true))), (5, (some (.cells (layT [(Value.bool a0)]) 4))), (6, (some (.cells (layT [(Value.pointer (some ⟨6, 0, none⟩)), (Value.func (.func 8) #[] #[]), (Value.slice (some ⟨7, 0, none⟩) a2 (Nat.add big 3)), (Value.int .i64 a3)]) 51))), (7, (some (.cells (layT (rows rw_iii a1)) 55))), (8, (some (.cells (layT [(Value.pointer (some ⟨9, 0, none⟩))]) 29))), (9, (some (.cells (layT [(Value.slice (some ⟨10, (a5 * 2), none⟩) a6 (Nat.add big 2))]) 32))), (10, (some (.cells (layT (rows rw_ii a4)) 27))), (11, (some (.cells (layT [(Value.int .i64 a7)]) 3))), (12, (some (.cells (layT [(Value.pointer (some ⟨6, 0, none⟩))]) 24))), (13, (some (.cells (layT [(Value.pointer (some ⟨14, 0, none⟩))]) 24))), (14, (some (.cells (layT [(Value.pointer (some ⟨14, 0, none⟩)), (Value.func (.func 8) #[] #[]), (Value.slice (some ⟨15, 0, none⟩) a9 (Nat.add big 3)), (Value.int .i64 a10)]) 51))), (15, (some (.cells (layT (rows rw_iii a8)) 55)))], 16, 16⟩
noncomputable def V_heapHeapviewportlaw23itemAll1_111110y1 (a0 : Bool) (a1 : List (Int × Int × Int)) (a2 : Nat) (a3 : Int) (a4 : List (Int × Int)) (a5 : Nat) (a6 : Nat) (a7 : Int) (a8 : List (Int × Int × Int)) (a9 : Nat) (a10 : Int) (a11 : Int) (a12 : Int) (r : Unit) : Value := match r with
  | _ => (Value.bool true)
noncomputable def R_heapHeapviewportlaw23itemAll1_111110y1 (a0 : Bool) (a1 : List (Int × Int × Int)) (a2 : Nat) (a3 : Int) (a4 : List (Int × Int)) (a5 : Nat) (a6 : Nat) (a7 : Int) (a8 : List (Int × Int × Int)) (a9 : Nat) (a10 : Int) (a11 : Int) (a12 : Int) (r : Unit) : AH := match r with
  | _ => ⟨sB [(0, (some (rblk P 23 [false, true, true, true, true, true] .ready none [(2, (Value.pointer (some ⟨2, 0, none⟩))), (22, (Value.func (.func 27) #[] #[(Value.pointer (some ⟨13, 0, none⟩))]))] 1))), (1, (some (.marks true))), (2, (some (.cells (layT [(Value.func (.yield 3) #[] #[])]) 57))), (3, (some (rblk P 3 [false, true, false, true, true, true, true, true, true, true, true] .ready none [(2, (Value.pointer (some ⟨5, 0, none⟩))), (3, (Value.pointer (some ⟨6, 0, none⟩))), (4, (Value.pointer (some ⟨8, 0, none⟩))), (15, (Value.pointer (some ⟨11, 0, none⟩))), (108, (Value.func (.func 23) #[] #[(Value.pointer (some ⟨12, 0, none⟩))]))] 4))), (4, (some (.marks true))), (5, (some (.cells (layT [(Value.bool a0)]) 4))), (6, (some (.cells (layT [(Value.pointer (some ⟨6, 0, none⟩)), (Value.func (.func 8) #[] #[]), (Value.slice (some ⟨7, 0, none⟩) a2 (Nat.add big 3)), (Value.int .i64 a3)]) 51))), (7, (some (.cells (layT (rows rw_iii a1)) 55))), (8, (some (.cells (layT [(Value.pointer (some ⟨9, 0, none⟩))]) 29))), (9, (some (.cells (layT [(Value.slice (some ⟨10, (a5 * 2), none⟩) a6 (Nat.add big 2))]) 32))), (10, (some (.cells (layT (rows rw_ii a4)) 27))), (11, (some (.cells (layT [(Value.int .i64 (w64 (a7 + (1 : Int))))]) 3))), (12, (some (.cells (layT [(Value.pointer (some ⟨6, 0, none⟩))]) 24))), (13, (some (.cells (layT [(Value.pointer (some ⟨14, 0, none⟩))]) 24))), (14, (some (.cells (layT [(Value.pointer (some ⟨14, 0, none⟩)), (Value.func (.func 8) #[] #[]), (Value.slice (some ⟨15, 0, none⟩) a9 (Nat.add big 3)), (Value.int .i64 a10)]) 51))), (15, (some (.cells (layT (rows rw_iii a8)) 55)))], 16, 0⟩
def m_heapHeapviewportlaw23itemAll1_111110y1 (n : Nat) (a0 : Bool) (a1 : List (Int × Int × Int)) (a2 : Nat) (a3 : Int) (a4 : List (Int × Int)) (a5 : Nat) (a6 : Nat) (a7 : Int) (a8 : List (Int × Int × Int)) (a9 : Nat) (a10 : Int) (a11 : Int) (a12 : Int) : Option (Unit) :=
  (m_viewportlaw23HeapScript_111010y1 n a0 a1 a2 a3 a4 a5 a6 a7 a11 a12).bind fun _ =>
  some ()
set_option maxRecDepth 100000 in
theorem p_heapHeapviewportlaw23itemAll1_111110y1_0 (n : Nat) (a0 : Bool) (a1 : List (Int × Int × Int)) (a2 : Nat) (a3 : Int) (a4 : List (Int × Int)) (a5 : Nat) (a6 : Nat) (a7 : Int) (a8 : List (Int × Int × Int)) (a9 : Nat) (a10 : Int) (a11 : Int) (a12 : Int) (hc1 : m_viewportlaw23HeapScript_111010y1 n a0 a1 a2 a3 a4 a5 a6 a7 a11 a12 = some ()) : Gv P (.yield 0) (A_heapHeapviewportlaw23itemAll1_111110y1 a0 a1 a2 a3 a4 a5 a6 a7 a8 a9 a10 a11 a12) (H_heapHeapviewportlaw23itemAll1_111110y1 a0 a1 a2 a3 a4 a5 a6 a7 a8 a9 a10 a11 a12) (V_heapHeapviewportlaw23itemAll1_111110y1 a0 a1 a2 a3 a4 a5 a6 a7 a8 a9 a10 a11 a12 ()) (R_heapHeapviewportlaw23itemAll1_111110y1 a0 a1 a2 a3 a4 a5 a6 a7 a8 a9 a10 a11 a12 ()) :=
  runY_ok hm (A1 := aT []) (L1 := lT []) (A2 := aT [(4, .call ⟨10, [(0, 3, false), (1, 4, false), (2, 5, false), (3, 6, false), (4, 7, true), (5, 8, false), (6, 9, false), (7, 10, true), (8, 11, false), (9, 12, false)], (V_viewportlaw23HeapScript_111010y1 a0 a1 a2 a3 a4 a5 a6 a7 a11 a12 ()), (R_viewportlaw23HeapScript_111010y1 a0 a1 a2 a3 a4 a5 a6 a7 a11 a12 ()), [(3, 0, false), (4, 1, false), (5, 2, false), (6, 3, false), (7, 4, true), (8, 5, false), (9, 6, false), (10, 7, true), (11, 8, false), (12, 9, false)]⟩)]) (L2 := lT []) (wk := ⟨[], [(0, 0, false), (1, 1, false), (2, 2, false), (3, 3, false), (4, 4, false), (5, 5, false), (6, 6, false), (7, 7, true), (8, 8, false), (9, 9, false), (10, 10, true), (11, 11, false), (12, 12, false), (13, 13, false), (14, 14, false), (15, 15, true)], 16, 0⟩)
    (ps := [Gv P (.yield 0) (A_viewportlaw23HeapScript_111010y1 a0 a1 a2 a3 a4 a5 a6 a7 a11 a12) (H_viewportlaw23HeapScript_111010y1 a0 a1 a2 a3 a4 a5 a6 a7 a11 a12) (V_viewportlaw23HeapScript_111010y1 a0 a1 a2 a3 a4 a5 a6 a7 a11 a12 ()) (R_viewportlaw23HeapScript_111010y1 a0 a1 a2 a3 a4 a5 a6 a7 a11 a12 ()),
    FlatB (.cells (layT (rows rw_iii a1)) 55),
    FlatB (.cells (layT (rows rw_ii a4)) 27),
    FlatB (.cells (layT (rows rw_iii a1)) 55),
    FlatB (.cells (layT (rows rw_ii a4)) 27),
    FlatB (.cells (layT (rows rw_iii a1)) 55),
    FlatB (.cells (layT (rows rw_ii a4)) 27),
    FlatB (.cells (layT (rows rw_iii a8)) 55)]) (by kernel_rfl) ⟨(m_viewportlaw23HeapScript_111010y1_ok n a0 a1 a2 a3 a4 a5 a6 a7 a11 a12 () hc1), (rows_flat rwf_iii _ _), (rows_flat rwf_ii _ _), (rows_flat rwf_iii _ _), (rows_flat rwf_ii _ _), (rows_flat rwf_iii _ _), (rows_flat rwf_ii _ _), (rows_flat rwf_iii _ _), trivial⟩
theorem m_heapHeapviewportlaw23itemAll1_111110y1_ok (n : Nat) (a0 : Bool) (a1 : List (Int × Int × Int)) (a2 : Nat) (a3 : Int) (a4 : List (Int × Int)) (a5 : Nat) (a6 : Nat) (a7 : Int) (a8 : List (Int × Int × Int)) (a9 : Nat) (a10 : Int) (a11 : Int) (a12 : Int) (r : Unit) (h : m_heapHeapviewportlaw23itemAll1_111110y1 n a0 a1 a2 a3 a4 a5 a6 a7 a8 a9 a10 a11 a12 = some r) : Gv P (.yield 0) (A_heapHeapviewportlaw23itemAll1_111110y1 a0 a1 a2 a3 a4 a5 a6 a7 a8 a9 a10 a11 a12) (H_heapHeapviewportlaw23itemAll1_111110y1 a0 a1 a2 a3 a4 a5 a6 a7 a8 a9 a10 a11 a12) (V_heapHeapviewportlaw23itemAll1_111110y1 a0 a1 a2 a3 a4 a5 a6 a7 a8 a9 a10 a11 a12 r) (R_heapHeapviewportlaw23itemAll1_111110y1 a0 a1 a2 a3 a4 a5 a6 a7 a8 a9 a10 a11 a12 r) := by
  unfold m_heapHeapviewportlaw23itemAll1_111110y1 at h
  obtain ⟨_, hc1, h⟩ := Option.bind_eq_some_iff.1 h
  obtain rfl := Option.some.inj h; exact p_heapHeapviewportlaw23itemAll1_111110y1_0 n a0 a1 a2 a3 a4 a5 a6 a7 a8 a9 a10 a11 a12 hc1

noncomputable def S_heapHeapviewportlaw23itemdrain1q2_1 (x1_0 : Bool) (x1_1 : List (Int × Int × Int)) (x1_2 : Nat) (x1_3 : Int) (x1_4 : List (Int × Int)) (x1_5 : Nat) (x1_6 : Nat) (x1_10 : Int) (st : Int × List (Int × Int × Int) × Nat) : XSt := match st with
  | (x1_7, x1_8, x1_9) => (sT 17 [(0, (Value.func (.yield 0) #[] #[])), (1, (Value.pointer (some ⟨13, 0, none⟩)))], [], ⟨sB [(0, (some (rblk P 23 [false, true, true, true, true, true] .ready none [(2, (Value.pointer (some ⟨2, 0, none⟩))), (22, (Value.func (.func 27) #[] #[(Value.pointer (some ⟨13, 0, none⟩))]))] 1))), (1, (some (.marks true))), (2, (some (.cells (layT [(Value.func (.yield 3) #[] #[])]) 57))), (3, (some (rblk P 3 [false, true, false, true, true, true, true, true, true, true, true] .ready none [(2, (Value.pointer (some ⟨5, 0, none⟩))), (3, (Value.pointer (some ⟨6, 0, none⟩))), (4, (Value.pointer (some ⟨8, 0, none⟩))), (15, (Value.pointer (some ⟨11, 0, none⟩))), (108, (Value.func (.func 23) #[] #[(Value.pointer (some ⟨12, 0, none⟩))]))] 4))), (4, (some (.marks true))), (5, (some (.cells (layT [(Value.bool x1_0)]) 4))), (6, (some (.cells (layT [(Value.pointer (some ⟨6, 0, none⟩)), (Value.func (.func 8) #[] #[]), (Value.slice (some ⟨7, 0, none⟩) x1_2 (Nat.add big 3)), (Value.int .i64 x1_3)]) 51))), (7, (some (.cells (layT (rows rw_iii x1_1)) 55))), (8, (some (.cells (layT [(Value.pointer (some ⟨9, 0, none⟩))]) 29))), (9, (some (.cells (layT [(Value.slice (some ⟨10, (x1_5 * 2), none⟩) x1_6 (Nat.add big 2))]) 32))), (10, (some (.cells (layT (rows rw_ii x1_4)) 27))), (11, (some (.cells (layT [(Value.int .i64 x1_7)]) 3))), (12, (some (.cells (layT [(Value.pointer (some ⟨6, 0, none⟩))]) 24))), (13, (some (.cells (layT [(Value.pointer (some ⟨14, 0, none⟩))]) 24))), (14, (some (.cells (layT [(Value.pointer (some ⟨14, 0, none⟩)), (Value.func (.func 8) #[] #[]), (Value.slice (some ⟨15, 0, none⟩) x1_9 (Nat.add big 3)), (Value.int .i64 x1_10)]) 51))), (15, (some (.cells (layT (rows rw_iii x1_8)) 55)))], 16, 0⟩)
noncomputable def X_heapHeapviewportlaw23itemdrain1q2_1 (x1_0 : Bool) (x1_1 : List (Int × Int × Int)) (x1_2 : Nat) (x1_3 : Int) (x1_4 : List (Int × Int)) (x1_5 : Nat) (x1_6 : Nat) (x1_10 : Int) (r : Int × List (Int × Int × Int) × Nat) : Ex × XSt := match r with
  | (z1_0, z1_1, z1_2) => (.exit 0, (sT 17 [], [], ⟨sB [(0, (some (rblk P 23 [false, true, true, true, true, true] .ready none [(2, (Value.pointer (some ⟨2, 0, none⟩))), (22, (Value.func (.func 27) #[] #[(Value.pointer (some ⟨13, 0, none⟩))]))] 1))), (1, (some (.marks true))), (2, (some (.cells (layT [(Value.func (.yield 3) #[] #[])]) 57))), (3, (some (rblk P 3 [false, true, false, true, true, true, true, true, true, true, true] .ready none [(2, (Value.pointer (some ⟨5, 0, none⟩))), (3, (Value.pointer (some ⟨6, 0, none⟩))), (4, (Value.pointer (some ⟨8, 0, none⟩))), (15, (Value.pointer (some ⟨11, 0, none⟩))), (108, (Value.func (.func 23) #[] #[(Value.pointer (some ⟨12, 0, none⟩))]))] 4))), (4, (some (.marks true))), (5, (some (.cells (layT [(Value.bool x1_0)]) 4))), (6, (some (.cells (layT [(Value.pointer (some ⟨6, 0, none⟩)), (Value.func (.func 8) #[] #[]), (Value.slice (some ⟨7, 0, none⟩) x1_2 (Nat.add big 3)), (Value.int .i64 x1_3)]) 51))), (7, (some (.cells (layT (rows rw_iii x1_1)) 55))), (8, (some (.cells (layT [(Value.pointer (some ⟨9, 0, none⟩))]) 29))), (9, (some (.cells (layT [(Value.slice (some ⟨10, (x1_5 * 2), none⟩) x1_6 (Nat.add big 2))]) 32))), (10, (some (.cells (layT (rows rw_ii x1_4)) 27))), (11, (some (.cells (layT [(Value.int .i64 z1_0)]) 3))), (12, (some (.cells (layT [(Value.pointer (some ⟨6, 0, none⟩))]) 24))), (13, (some (.cells (layT [(Value.pointer (some ⟨14, 0, none⟩))]) 24))), (14, (some (.cells (layT [(Value.pointer (some ⟨14, 0, none⟩)), (Value.func (.func 8) #[] #[]), (Value.slice (some ⟨15, 0, none⟩) z1_2 (Nat.add big 3)), (Value.int .i64 x1_10)]) 51))), (15, (some (.cells (layT (rows rw_iii z1_1)) 55)))], 16, 0⟩))
def B_heapHeapviewportlaw23itemdrain1q2_1 (n : Nat) (x1_0 : Bool) (x1_1 : List (Int × Int × Int)) (x1_2 : Nat) (x1_3 : Int) (x1_4 : List (Int × Int)) (x1_5 : Nat) (x1_6 : Nat) (x1_10 : Int) (st : Int × List (Int × Int × Int) × Nat) : Option ((Int × List (Int × Int × Int) × Nat) ⊕ (Int × List (Int × Int × Int) × Nat)) := match st with
  | (x1_7, x1_8, x1_9) =>
    (m_heapHeapviewportlaw23itemLenq3 n x1_8 x1_9 x1_10).bind fun _ =>
    if ((x1_9 : Nat) : Int) > (0 : Int) then
      (m_heapHeapviewportlaw23itemTakeq3 n x1_8 x1_9 x1_10).bind fun t => match t with
      | (y1_3_0, y1_3_1, y1_3_2, y1_3_3, y1_3_4) =>
        match y1_3_0 with
        | [] =>
          none
        | y1_3_0a :: y1_3_0t =>
          (m_heapHeapviewportlaw23itemAll1_111110y1 n x1_0 x1_1 x1_2 x1_3 x1_4 x1_5 x1_6 x1_7 (y1_3_0a :: y1_3_0t) y1_3_1 x1_10 y1_3_2 y1_3_3).bind fun _ =>
          some (.inl ((w64 (x1_7 + (1 : Int))), (y1_3_0a :: y1_3_0t), y1_3_1))
    else
      some (.inr (x1_7, x1_8, x1_9))
def m_heapHeapviewportlaw23itemdrain1q2_1 (n : Nat) (x1_0 : Bool) (x1_1 : List (Int × Int × Int)) (x1_2 : Nat) (x1_3 : Int) (x1_4 : List (Int × Int)) (x1_5 : Nat) (x1_6 : Nat) (x1_10 : Int) (st : Int × List (Int × Int × Int) × Nat) : Option (Int × List (Int × Int × Int) × Nat) := iterM (B_heapHeapviewportlaw23itemdrain1q2_1 n x1_0 x1_1 x1_2 x1_3 x1_4 x1_5 x1_6 x1_10) n st
set_option maxRecDepth 100000 in
theorem q_heapHeapviewportlaw23itemdrain1q2_1_0 (n : Nat) {rnd : Option Nat} (x1_0 : Bool) (x1_1 : List (Int × Int × Int)) (x1_2 : Nat) (x1_3 : Int) (x1_4 : List (Int × Int)) (x1_5 : Nat) (x1_6 : Nat) (x1_7 : Int) (x1_8 : List (Int × Int × Int)) (x1_9 : Nat) (x1_10 : Int) (hy1_1 : m_heapHeapviewportlaw23itemLenq3 n x1_8 x1_9 x1_10 = some ()) (hy1_2 : ((x1_9 : Nat) : Int) > (0 : Int)) (y1_3_0a : Int × Int × Int) (y1_3_0t : List (Int × Int × Int)) (y1_3_1 : Nat) (y1_3_2 : Int) (y1_3_3 : Int) (y1_3_4 : Bool) (hy1_3 : m_heapHeapviewportlaw23itemTakeq3 n x1_8 x1_9 x1_10 = some ((y1_3_0a :: y1_3_0t), y1_3_1, y1_3_2, y1_3_3, y1_3_4)) (hy1_4 : m_heapHeapviewportlaw23itemAll1_111110y1 n x1_0 x1_1 x1_2 x1_3 x1_4 x1_5 x1_6 x1_7 (y1_3_0a :: y1_3_0t) y1_3_1 x1_10 y1_3_2 y1_3_3 = some ()) : CG P rnd (fnN P 27) 16 (codeOf P 27 [false, false]) (S_heapHeapviewportlaw23itemdrain1q2_1 x1_0 x1_1 x1_2 x1_3 x1_4 x1_5 x1_6 x1_10 (x1_7, x1_8, x1_9)) (.normal, S_heapHeapviewportlaw23itemdrain1q2_1 x1_0 x1_1 x1_2 x1_3 x1_4 x1_5 x1_6 x1_10 ((w64 (x1_7 + (1 : Int))), (y1_3_0a :: y1_3_0t), y1_3_1)) :=
  runC_ok hm (A := aT [(3, .call ⟨2, [(0, 14, false), (1, 15, true)], (V_heapHeapviewportlaw23itemLenq3 x1_8 x1_9 x1_10 ()), (R_heapHeapviewportlaw23itemLenq3 x1_8 x1_9 x1_10 ()), []⟩), (4, .val (.bool true)), (9, .call ⟨2, [(0, 14, false), (1, 15, true)], (V_heapHeapviewportlaw23itemTakeq3 x1_8 x1_9 x1_10 ((y1_3_0a :: y1_3_0t), y1_3_1, y1_3_2, y1_3_3, y1_3_4)), (R_heapHeapviewportlaw23itemTakeq3 x1_8 x1_9 x1_10 ((y1_3_0a :: y1_3_0t), y1_3_1, y1_3_2, y1_3_3, y1_3_4)), [(14, 0, false), (15, 1, true), (16, 2, false)]⟩), (19, .call ⟨16, [(0, 0, false), (1, 1, false), (2, 2, false), (3, 3, false), (4, 4, false), (5, 5, false), (6, 6, false), (7, 7, true), (8, 8, false), (9, 9, false), (10, 10, true), (11, 11, false), (12, 12, false), (13, 13, false), (14, 14, false), (15, 15, true)], (V_heapHeapviewportlaw23itemAll1_111110y1 x1_0 x1_1 x1_2 x1_3 x1_4 x1_5 x1_6 x1_7 (y1_3_0a :: y1_3_0t) y1_3_1 x1_10 y1_3_2 y1_3_3 ()), (R_heapHeapviewportlaw23itemAll1_111110y1 x1_0 x1_1 x1_2 x1_3 x1_4 x1_5 x1_6 x1_7 (y1_3_0a :: y1_3_0t) y1_3_1 x1_10 y1_3_2 y1_3_3 ()), [(0, 0, false), (1, 1, false), (2, 2, false), (3, 3, false), (4, 4, false), (5, 5, false), (6, 6, false), (7, 7, true), (8, 8, false), (9, 9, false), (10, 10, true), (11, 11, false), (12, 12, false), (13, 13, false), (14, 14, false), (15, 15, true)]⟩)]) (L := lT []) (wk := ⟨[0, 1], [(0, 0, false), (1, 1, false), (2, 2, false), (3, 3, false), (4, 4, false), (5, 5, false), (6, 6, false), (7, 7, true), (8, 8, false), (9, 9, false), (10, 10, true), (11, 11, false), (12, 12, false), (13, 13, false), (14, 14, false), (15, 15, true)], 16, 0⟩)
    (ps := [G_heapHeapviewportlaw23itemLenq3 x1_8 x1_9 x1_10 (),
    FlatB (.cells (layT (rows rw_iii x1_8)) 55),
    (Value.bool (decide (((x1_9 : Nat) : Int) > (0 : Int)))) = (Value.bool true),
    G_heapHeapviewportlaw23itemTakeq3 x1_8 x1_9 x1_10 ((y1_3_0a :: y1_3_0t), y1_3_1, y1_3_2, y1_3_3, y1_3_4),
    FlatB (.cells (layT (rows rw_iii x1_8)) 55),
    FlatB (.cells (layT (rows rw_iii (y1_3_0a :: y1_3_0t))) 55),
    Gv P (.yield 0) (A_heapHeapviewportlaw23itemAll1_111110y1 x1_0 x1_1 x1_2 x1_3 x1_4 x1_5 x1_6 x1_7 (y1_3_0a :: y1_3_0t) y1_3_1 x1_10 y1_3_2 y1_3_3) (H_heapHeapviewportlaw23itemAll1_111110y1 x1_0 x1_1 x1_2 x1_3 x1_4 x1_5 x1_6 x1_7 (y1_3_0a :: y1_3_0t) y1_3_1 x1_10 y1_3_2 y1_3_3) (V_heapHeapviewportlaw23itemAll1_111110y1 x1_0 x1_1 x1_2 x1_3 x1_4 x1_5 x1_6 x1_7 (y1_3_0a :: y1_3_0t) y1_3_1 x1_10 y1_3_2 y1_3_3 ()) (R_heapHeapviewportlaw23itemAll1_111110y1 x1_0 x1_1 x1_2 x1_3 x1_4 x1_5 x1_6 x1_7 (y1_3_0a :: y1_3_0t) y1_3_1 x1_10 y1_3_2 y1_3_3 ()),
    FlatB (.cells (layT (rows rw_iii x1_1)) 55),
    FlatB (.cells (layT (rows rw_ii x1_4)) 27),
    FlatB (.cells (layT (rows rw_iii (y1_3_0a :: y1_3_0t))) 55),
    FlatB (.cells (layT (rows rw_iii x1_1)) 55),
    FlatB (.cells (layT (rows rw_ii x1_4)) 27),
    FlatB (.cells (layT (rows rw_iii (y1_3_0a :: y1_3_0t))) 55),
    FlatB (.cells (layT (rows rw_iii x1_1)) 55),
    FlatB (.cells (layT (rows rw_ii x1_4)) 27),
    FlatB (.cells (layT (rows rw_iii (y1_3_0a :: y1_3_0t))) 55)]) (by kernel_rfl) ⟨(m_heapHeapviewportlaw23itemLenq3_ok n x1_8 x1_9 x1_10 () hy1_1), (rows_flat rwf_iii _ _), (vbT hy1_2), (m_heapHeapviewportlaw23itemTakeq3_ok n x1_8 x1_9 x1_10 ((y1_3_0a :: y1_3_0t), y1_3_1, y1_3_2, y1_3_3, y1_3_4) hy1_3), (rows_flat rwf_iii _ _), (rows_flat rwf_iii _ _), (m_heapHeapviewportlaw23itemAll1_111110y1_ok n x1_0 x1_1 x1_2 x1_3 x1_4 x1_5 x1_6 x1_7 (y1_3_0a :: y1_3_0t) y1_3_1 x1_10 y1_3_2 y1_3_3 () hy1_4), (rows_flat rwf_iii _ _), (rows_flat rwf_ii _ _), (rows_flat rwf_iii _ _), (rows_flat rwf_iii _ _), (rows_flat rwf_ii _ _), (rows_flat rwf_iii _ _), (rows_flat rwf_iii _ _), (rows_flat rwf_ii _ _), (rows_flat rwf_iii _ _), trivial⟩
set_option maxRecDepth 100000 in
theorem q_heapHeapviewportlaw23itemdrain1q2_1_1 (n : Nat) {rnd : Option Nat} (x1_0 : Bool) (x1_1 : List (Int × Int × Int)) (x1_2 : Nat) (x1_3 : Int) (x1_4 : List (Int × Int)) (x1_5 : Nat) (x1_6 : Nat) (x1_7 : Int) (x1_8 : List (Int × Int × Int)) (x1_9 : Nat) (x1_10 : Int) (hy1_1 : m_heapHeapviewportlaw23itemLenq3 n x1_8 x1_9 x1_10 = some ()) (hy1_2 : ¬ (((x1_9 : Nat) : Int) > (0 : Int))) : CG P rnd (fnN P 27) 16 (codeOf P 27 [false, false]) (S_heapHeapviewportlaw23itemdrain1q2_1 x1_0 x1_1 x1_2 x1_3 x1_4 x1_5 x1_6 x1_10 (x1_7, x1_8, x1_9)) (X_heapHeapviewportlaw23itemdrain1q2_1 x1_0 x1_1 x1_2 x1_3 x1_4 x1_5 x1_6 x1_10 (x1_7, x1_8, x1_9)) :=
  runC_ok hm (A := aT [(3, .call ⟨2, [(0, 14, false), (1, 15, true)], (V_heapHeapviewportlaw23itemLenq3 x1_8 x1_9 x1_10 ()), (R_heapHeapviewportlaw23itemLenq3 x1_8 x1_9 x1_10 ()), []⟩), (4, .val (.bool false))]) (L := lT []) (wk := ⟨[], [(0, 0, false), (1, 1, false), (2, 2, false), (3, 3, false), (4, 4, false), (5, 5, false), (6, 6, false), (7, 7, true), (8, 8, false), (9, 9, false), (10, 10, true), (11, 11, false), (12, 12, false), (13, 13, false), (14, 14, false), (15, 15, true)], 16, 0⟩)
    (ps := [G_heapHeapviewportlaw23itemLenq3 x1_8 x1_9 x1_10 (),
    FlatB (.cells (layT (rows rw_iii x1_8)) 55),
    (Value.bool (decide (((x1_9 : Nat) : Int) > (0 : Int)))) = (Value.bool false),
    FlatB (.cells (layT (rows rw_iii x1_1)) 55),
    FlatB (.cells (layT (rows rw_ii x1_4)) 27),
    FlatB (.cells (layT (rows rw_iii x1_8)) 55)]) (by kernel_rfl) ⟨(m_heapHeapviewportlaw23itemLenq3_ok n x1_8 x1_9 x1_10 () hy1_1), (rows_flat rwf_iii _ _), (vbF hy1_2), (rows_flat rwf_iii _ _), (rows_flat rwf_ii _ _), (rows_flat rwf_iii _ _), trivial⟩
theorem m_heapHeapviewportlaw23itemdrain1q2_1_ok (n : Nat) {rnd : Option Nat} (x1_0 : Bool) (x1_1 : List (Int × Int × Int)) (x1_2 : Nat) (x1_3 : Int) (x1_4 : List (Int × Int)) (x1_5 : Nat) (x1_6 : Nat) (x1_10 : Int) (st : Int × List (Int × Int × Int) × Nat) (r : Int × List (Int × Int × Int) × Nat) (h : m_heapHeapviewportlaw23itemdrain1q2_1 n x1_0 x1_1 x1_2 x1_3 x1_4 x1_5 x1_6 x1_10 st = some r) : CG P rnd (fnN P 27) 16 (codeOf P 27 [false]) (S_heapHeapviewportlaw23itemdrain1q2_1 x1_0 x1_1 x1_2 x1_3 x1_4 x1_5 x1_6 x1_10 st) (X_heapHeapviewportlaw23itemdrain1q2_1 x1_0 x1_1 x1_2 x1_3 x1_4 x1_5 x1_6 x1_10 r) :=
  CG.iter (b := codeOf P 27 [false, false]) (by kernel_rfl) (body := B_heapHeapviewportlaw23itemdrain1q2_1 n x1_0 x1_1 x1_2 x1_3 x1_4 x1_5 x1_6 x1_10) (S := S_heapHeapviewportlaw23itemdrain1q2_1 x1_0 x1_1 x1_2 x1_3 x1_4 x1_5 x1_6 x1_10) (X := X_heapHeapviewportlaw23itemdrain1q2_1 x1_0 x1_1 x1_2 x1_3 x1_4 x1_5 x1_6 x1_10)
    (fun s s' h => by
    obtain ⟨x1_7, x1_8, x1_9⟩ := s
    unfold B_heapHeapviewportlaw23itemdrain1q2_1 at h
    dsimp only at h
    obtain ⟨_, hy1_1, h⟩ := Option.bind_eq_some_iff.1 h
    by_cases hy1_2 : ((x1_9 : Nat) : Int) > (0 : Int)
    · rw [if_pos hy1_2] at h
      obtain ⟨⟨y1_3_0, y1_3_1, y1_3_2, y1_3_3, y1_3_4⟩, hy1_3, h⟩ := Option.bind_eq_some_iff.1 h
      dsimp only at h
      cases y1_3_0 with
      | nil =>
        dsimp only at h
        cases h
      | cons y1_3_0a y1_3_0t =>
        dsimp only at h
        obtain ⟨_, hy1_4, h⟩ := Option.bind_eq_some_iff.1 h
        obtain rfl := Sum.inl.inj (Option.some.inj h); exact q_heapHeapviewportlaw23itemdrain1q2_1_0 n x1_0 x1_1 x1_2 x1_3 x1_4 x1_5 x1_6 x1_7 x1_8 x1_9 x1_10 hy1_1 hy1_2 y1_3_0a y1_3_0t y1_3_1 y1_3_2 y1_3_3 y1_3_4 hy1_3 hy1_4
    · rw [if_neg hy1_2] at h
      cases h)
    (fun s r h => by
    obtain ⟨x1_7, x1_8, x1_9⟩ := s
    unfold B_heapHeapviewportlaw23itemdrain1q2_1 at h
    dsimp only at h
    obtain ⟨_, hy1_1, h⟩ := Option.bind_eq_some_iff.1 h
    by_cases hy1_2 : ((x1_9 : Nat) : Int) > (0 : Int)
    · rw [if_pos hy1_2] at h
      obtain ⟨⟨y1_3_0, y1_3_1, y1_3_2, y1_3_3, y1_3_4⟩, hy1_3, h⟩ := Option.bind_eq_some_iff.1 h
      dsimp only at h
      cases y1_3_0 with
      | nil =>
        dsimp only at h
        cases h
      | cons y1_3_0a y1_3_0t =>
        dsimp only at h
        obtain ⟨_, hy1_4, h⟩ := Option.bind_eq_some_iff.1 h
        cases h
    · rw [if_neg hy1_2] at h
      obtain rfl := Sum.inr.inj (Option.some.inj h); exact q_heapHeapviewportlaw23itemdrain1q2_1_1 n x1_0 x1_1 x1_2 x1_3 x1_4 x1_5 x1_6 x1_7 x1_8 x1_9 x1_10 hy1_1 hy1_2)
    (fun r => by intro hx; cases hx) h
noncomputable def A_heapHeapviewportlaw23itemdrain1q2 (a0 : Bool) (a1 : List (Int × Int × Int)) (a2 : Nat) (a3 : Int) (a4 : List (Int × Int)) (a5 : Nat) (a6 : Nat) (a7 : Int) (a8 : List (Int × Int × Int)) (a9 : Int) : List Value := [(Value.func (.yield 0) #[] #[]), (Value.pointer (some ⟨13, 0, none⟩))]
noncomputable def H_heapHeapviewportlaw23itemdrain1q2 (a0 : Bool) (a1 : List (Int × Int × Int)) (a2 : Nat) (a3 : Int) (a4 : List (Int × Int)) (a5 : Nat) (a6 : Nat) (a7 : Int) (a8 : List (Int × Int × Int)) (a9 : Int) : AH := ⟨sB [(0, (some (rblk P 23 [false, true, true, true, true, true] .ready none [(2, (Value.pointer (some ⟨2, 0, none⟩))), (22, (Value.func (.func 27) #[] #[(Value.pointer (some ⟨13, 0, none⟩))]))] 1))), (1, (some (.marks true))), (2, (some (.cells (layT [(Value.func (.yield 3) #[] #[])]) 57))), (3, (some (rblk P 3 [false, true, false, true, true, true, true, true, true, true, true] .ready none [(2, (Value.pointer (some ⟨5, 0, none⟩))), (3, (Value.pointer (some ⟨6, 0, none⟩))), (4, (Value.pointer (some ⟨8, 0, none⟩))), (15, (Value.pointer (some ⟨11, 0, none⟩))), (108, (Value.func (.func 23) #[] #[(Value.pointer (some ⟨12, 0, none⟩))]))] 4))), (4, (some (.marks true))), (5, (some (.cells (layT [(Value.bool a0)]) 4))), (6, (some (.cells (layT [(Value.pointer (some ⟨6, 0, none⟩)), (Value.func (.func 8) #[] #[]), (Value.slice (some ⟨7, 0, none⟩) a2 (Nat.add big 3)), (Value.int .i64 a3)]) 51))), (7, (some (.cells (layT (rows rw_iii a1)) 55))), (8, (some (.cells (layT [(Value.pointer (some ⟨9, 0, none⟩))]) 29))), (9, (some (.cells (layT [(Value.slice (some ⟨10, (a5 * 2), none⟩) a6 (Nat.add big 2))]) 32))), (10, (some (.cells (layT (rows rw_ii a4)) 27))), (11, (some (.cells (layT [(Value.int .i64 a7)]) 3))), (12, (some (.cells (layT [(Value.pointer (some ⟨6, 0, none⟩))]) 24))), (13, (some (.cells (layT [(Value.pointer (some ⟨14, 0, none⟩))]) 24))), (14, (some (.cells (layT [(Value.pointer (some ⟨14, 0, none⟩)), (Value.func (.func 8) #[] #[]), (Value.slice (some ⟨15, 0, none⟩) (a8).length (Nat.add big 3)), (Value.int .i64 a9)]) 51))), (15, (some (.cells (layT (rows rw_iii a8)) 55)))], 16, 16⟩
noncomputable def V_heapHeapviewportlaw23itemdrain1q2 (a0 : Bool) (a1 : List (Int × Int × Int)) (a2 : Nat) (a3 : Int) (a4 : List (Int × Int)) (a5 : Nat) (a6 : Nat) (a7 : Int) (a8 : List (Int × Int × Int)) (a9 : Int) (r : Int × List (Int × Int × Int) × Nat) : Value := match r with
  | (o0, o1, o2) => (Value.tuple #[])
noncomputable def R_heapHeapviewportlaw23itemdrain1q2 (a0 : Bool) (a1 : List (Int × Int × Int)) (a2 : Nat) (a3 : Int) (a4 : List (Int × Int)) (a5 : Nat) (a6 : Nat) (a7 : Int) (a8 : List (Int × Int × Int)) (a9 : Int) (r : Int × List (Int × Int × Int) × Nat) : AH := match r with
  | (o0, o1, o2) => ⟨sB [(0, (some (rblk P 23 [false, true, true, true, true, true] .ready none [(2, (Value.pointer (some ⟨2, 0, none⟩))), (22, (Value.func (.func 27) #[] #[(Value.pointer (some ⟨13, 0, none⟩))]))] 1))), (1, (some (.marks true))), (2, (some (.cells (layT [(Value.func (.yield 3) #[] #[])]) 57))), (3, (some (rblk P 3 [false, true, false, true, true, true, true, true, true, true, true] .ready none [(2, (Value.pointer (some ⟨5, 0, none⟩))), (3, (Value.pointer (some ⟨6, 0, none⟩))), (4, (Value.pointer (some ⟨8, 0, none⟩))), (15, (Value.pointer (some ⟨11, 0, none⟩))), (108, (Value.func (.func 23) #[] #[(Value.pointer (some ⟨12, 0, none⟩))]))] 4))), (4, (some (.marks true))), (5, (some (.cells (layT [(Value.bool a0)]) 4))), (6, (some (.cells (layT [(Value.pointer (some ⟨6, 0, none⟩)), (Value.func (.func 8) #[] #[]), (Value.slice (some ⟨7, 0, none⟩) a2 (Nat.add big 3)), (Value.int .i64 a3)]) 51))), (7, (some (.cells (layT (rows rw_iii a1)) 55))), (8, (some (.cells (layT [(Value.pointer (some ⟨9, 0, none⟩))]) 29))), (9, (some (.cells (layT [(Value.slice (some ⟨10, (a5 * 2), none⟩) a6 (Nat.add big 2))]) 32))), (10, (some (.cells (layT (rows rw_ii a4)) 27))), (11, (some (.cells (layT [(Value.int .i64 o0)]) 3))), (12, (some (.cells (layT [(Value.pointer (some ⟨6, 0, none⟩))]) 24))), (13, (some (.cells (layT [(Value.pointer (some ⟨14, 0, none⟩))]) 24))), (14, (some (.cells (layT [(Value.pointer (some ⟨14, 0, none⟩)), (Value.func (.func 8) #[] #[]), (Value.slice (some ⟨15, 0, none⟩) o2 (Nat.add big 3)), (Value.int .i64 a9)]) 51))), (15, (some (.cells (layT (rows rw_iii o1)) 55)))], 16, 0⟩
noncomputable abbrev G_heapHeapviewportlaw23itemdrain1q2 (a0 : Bool) (a1 : List (Int × Int × Int)) (a2 : Nat) (a3 : Int) (a4 : List (Int × Int)) (a5 : Nat) (a6 : Nat) (a7 : Int) (a8 : List (Int × Int × Int)) (a9 : Int) (r : Int × List (Int × Int × Int) × Nat) : Prop := Gv P (.func 27) (A_heapHeapviewportlaw23itemdrain1q2 a0 a1 a2 a3 a4 a5 a6 a7 a8 a9) (H_heapHeapviewportlaw23itemdrain1q2 a0 a1 a2 a3 a4 a5 a6 a7 a8 a9) (V_heapHeapviewportlaw23itemdrain1q2 a0 a1 a2 a3 a4 a5 a6 a7 a8 a9 r) (R_heapHeapviewportlaw23itemdrain1q2 a0 a1 a2 a3 a4 a5 a6 a7 a8 a9 r)
def m_heapHeapviewportlaw23itemdrain1q2 (n : Nat) (a0 : Bool) (a1 : List (Int × Int × Int)) (a2 : Nat) (a3 : Int) (a4 : List (Int × Int)) (a5 : Nat) (a6 : Nat) (a7 : Int) (a8 : List (Int × Int × Int)) (a9 : Int) : Option (Int × List (Int × Int × Int) × Nat) :=
  (m_heapHeapviewportlaw23itemdrain1q2_1 n a0 a1 a2 a3 a4 a5 a6 a9 (a7, a8, ((a8).length))).bind fun t => match t with
  | (c1_0, c1_1, c1_2) =>
    some (c1_0, c1_1, c1_2)
set_option maxRecDepth 100000 in
theorem p_heapHeapviewportlaw23itemdrain1q2_0 (n : Nat) (a0 : Bool) (a1 : List (Int × Int × Int)) (a2 : Nat) (a3 : Int) (a4 : List (Int × Int)) (a5 : Nat) (a6 : Nat) (a7 : Int) (a8 : List (Int × Int × Int)) (a9 : Int) (c1_0 : Int) (c1_1 : List (Int × Int × Int)) (c1_2 : Nat) (hc1 : m_heapHeapviewportlaw23itemdrain1q2_1 n a0 a1 a2 a3 a4 a5 a6 a9 (a7, a8, ((a8).length)) = some (c1_0, c1_1, c1_2)) : G_heapHeapviewportlaw23itemdrain1q2 a0 a1 a2 a3 a4 a5 a6 a7 a8 a9 (c1_0, c1_1, c1_2) :=
  runF_ok hm (A := aT []) (L := lT [(1, ⟨⟨[0, 1], [(0, 0, false), (1, 1, false), (2, 2, false), (3, 3, false), (4, 4, false), (5, 5, false), (6, 6, false), (7, 7, true), (8, 8, false), (9, 9, false), (10, 10, true), (11, 11, false), (12, 12, false), (13, 13, false), (14, 14, false), (15, 15, true)], 16, 0⟩, (X_heapHeapviewportlaw23itemdrain1q2_1 a0 a1 a2 a3 a4 a5 a6 a9 (c1_0, c1_1, c1_2)).1, (X_heapHeapviewportlaw23itemdrain1q2_1 a0 a1 a2 a3 a4 a5 a6 a9 (c1_0, c1_1, c1_2)).2⟩)]) (wk := ⟨[], [(0, 0, false), (1, 1, false), (2, 2, false), (3, 3, false), (4, 4, false), (5, 5, false), (6, 6, false), (7, 7, true), (8, 8, false), (9, 9, false), (10, 10, true), (11, 11, false), (12, 12, false), (13, 13, false), (14, 14, false), (15, 15, true)], 16, 0⟩)
    (ps := [CG P none (fnN P 27) 16 (codeOf P 27 [false]) (S_heapHeapviewportlaw23itemdrain1q2_1 a0 a1 a2 a3 a4 a5 a6 a9 (a7, a8, ((a8).length))) (X_heapHeapviewportlaw23itemdrain1q2_1 a0 a1 a2 a3 a4 a5 a6 a9 (c1_0, c1_1, c1_2)),
    FlatB (.cells (layT (rows rw_iii a1)) 55),
    FlatB (.cells (layT (rows rw_ii a4)) 27),
    FlatB (.cells (layT (rows rw_iii a8)) 55),
    FlatB (.cells (layT (rows rw_iii a1)) 55),
    FlatB (.cells (layT (rows rw_ii a4)) 27),
    FlatB (.cells (layT (rows rw_iii c1_1)) 55)]) (by kernel_rfl) ⟨(m_heapHeapviewportlaw23itemdrain1q2_1_ok n a0 a1 a2 a3 a4 a5 a6 a9 (a7, a8, ((a8).length)) (c1_0, c1_1, c1_2) hc1), (rows_flat rwf_iii _ _), (rows_flat rwf_ii _ _), (rows_flat rwf_iii _ _), (rows_flat rwf_iii _ _), (rows_flat rwf_ii _ _), (rows_flat rwf_iii _ _), trivial⟩
theorem m_heapHeapviewportlaw23itemdrain1q2_ok (n : Nat) (a0 : Bool) (a1 : List (Int × Int × Int)) (a2 : Nat) (a3 : Int) (a4 : List (Int × Int)) (a5 : Nat) (a6 : Nat) (a7 : Int) (a8 : List (Int × Int × Int)) (a9 : Int) (r : Int × List (Int × Int × Int) × Nat) (h : m_heapHeapviewportlaw23itemdrain1q2 n a0 a1 a2 a3 a4 a5 a6 a7 a8 a9 = some r) : G_heapHeapviewportlaw23itemdrain1q2 a0 a1 a2 a3 a4 a5 a6 a7 a8 a9 r := by
  unfold m_heapHeapviewportlaw23itemdrain1q2 at h
  obtain ⟨⟨c1_0, c1_1, c1_2⟩, hc1, h⟩ := Option.bind_eq_some_iff.1 h
  dsimp only at h
  obtain rfl := Option.some.inj h; exact p_heapHeapviewportlaw23itemdrain1q2_0 n a0 a1 a2 a3 a4 a5 a6 a7 a8 a9 c1_0 c1_1 c1_2 hc1

noncomputable def A_heapHeapviewportlaw23itemdrainq3 (a0 : Int) : List Value := [(Value.pointer (some ⟨0, 0, none⟩))]
noncomputable def H_heapHeapviewportlaw23itemdrainq3 (a0 : Int) : AH := ⟨sB [(0, (some (.cells (layT [(Value.pointer (some ⟨0, 0, none⟩)), (Value.func (.func 8) #[] #[]), (Value.slice (some ⟨1, 0, none⟩) 0 0), (Value.int .i64 a0)]) 51))), (1, (some (.cells (layT []) 55)))], 2, 2⟩
noncomputable def V_heapHeapviewportlaw23itemdrainq3 (a0 : Int) (r : Unit) : Value := match r with
  | _ => (Value.func (.func 27) #[] #[(Value.pointer (some ⟨2, 0, none⟩))])
noncomputable def R_heapHeapviewportlaw23itemdrainq3 (a0 : Int) (r : Unit) : AH := match r with
  | _ => ⟨sB [(0, (some (.cells (layT [(Value.pointer (some ⟨0, 0, none⟩)), (Value.func (.func 8) #[] #[]), (Value.slice (some ⟨1, 0, none⟩) 0 0), (Value.int .i64 a0)]) 51))), (1, (some (.cells (layT []) 55))), (2, (some (.cells (layT [(Value.pointer (some ⟨0, 0, none⟩))]) 24)))], 3, 2⟩
noncomputable abbrev G_heapHeapviewportlaw23itemdrainq3 (a0 : Int) (r : Unit) : Prop := Gv P (.func 25) (A_heapHeapviewportlaw23itemdrainq3 a0) (H_heapHeapviewportlaw23itemdrainq3 a0) (V_heapHeapviewportlaw23itemdrainq3 a0 r) (R_heapHeapviewportlaw23itemdrainq3 a0 r)
def m_heapHeapviewportlaw23itemdrainq3 (n : Nat) (a0 : Int) : Option (Unit) :=
  some ()
set_option maxRecDepth 100000 in
theorem p_heapHeapviewportlaw23itemdrainq3_0 (n : Nat) (a0 : Int) : G_heapHeapviewportlaw23itemdrainq3 a0 () :=
  runF_ok hm (A := aT []) (L := lT []) (wk := ⟨[2], [(0, 0, false), (1, 1, false), (2, 2, false)], 3, 2⟩)
    (ps := []) (by kernel_rfl) trivial
theorem m_heapHeapviewportlaw23itemdrainq3_ok (n : Nat) (a0 : Int) (r : Unit) (h : m_heapHeapviewportlaw23itemdrainq3 n a0 = some r) : G_heapHeapviewportlaw23itemdrainq3 a0 r := by
  unfold m_heapHeapviewportlaw23itemdrainq3 at h
  obtain rfl := Option.some.inj h; exact p_heapHeapviewportlaw23itemdrainq3_0 n a0

noncomputable def A_heapHeapviewportlaw23itemvalidq5 (a0 : Int) : List Value := [(Value.pointer (some ⟨0, 0, none⟩))]
noncomputable def H_heapHeapviewportlaw23itemvalidq5 (a0 : Int) : AH := ⟨sB [(0, (some (.cells (layT [(Value.pointer (some ⟨0, 0, none⟩)), (Value.func (.func 8) #[] #[]), (Value.slice (some ⟨1, 0, none⟩) 0 0), (Value.int .i64 a0)]) 51))), (1, (some (.cells (layT []) 55)))], 2, 2⟩
noncomputable def V_heapHeapviewportlaw23itemvalidq5 (a0 : Int) (r : Unit) : Value := match r with
  | _ => (Value.bool true)
noncomputable def R_heapHeapviewportlaw23itemvalidq5 (a0 : Int) (r : Unit) : AH := match r with
  | _ => ⟨sB [], 2, 2⟩
noncomputable abbrev G_heapHeapviewportlaw23itemvalidq5 (a0 : Int) (r : Unit) : Prop := Gv P (.func 20) (A_heapHeapviewportlaw23itemvalidq5 a0) (H_heapHeapviewportlaw23itemvalidq5 a0) (V_heapHeapviewportlaw23itemvalidq5 a0 r) (R_heapHeapviewportlaw23itemvalidq5 a0 r)
def m_heapHeapviewportlaw23itemvalidq5 (n : Nat) (a0 : Int) : Option (Unit) :=
  some ()
set_option maxRecDepth 100000 in
theorem p_heapHeapviewportlaw23itemvalidq5_0 (n : Nat) (a0 : Int) : G_heapHeapviewportlaw23itemvalidq5 a0 () :=
  runF_ok hm (A := aT []) (L := lT []) (wk := ⟨[2], [], 2, 2⟩)
    (ps := []) (by kernel_rfl) trivial
theorem m_heapHeapviewportlaw23itemvalidq5_ok (n : Nat) (a0 : Int) (r : Unit) (h : m_heapHeapviewportlaw23itemvalidq5 n a0 = some r) : G_heapHeapviewportlaw23itemvalidq5 a0 r := by
  unfold m_heapHeapviewportlaw23itemvalidq5 at h
  obtain rfl := Option.some.inj h; exact p_heapHeapviewportlaw23itemvalidq5_0 n a0

noncomputable def A_heapHeapviewportlaw23itemLenq4 (a0 : Int) : List Value := [(Value.pointer (some ⟨0, 0, none⟩))]
noncomputable def H_heapHeapviewportlaw23itemLenq4 (a0 : Int) : AH := ⟨sB [(0, (some (.cells (layT [(Value.pointer (some ⟨0, 0, none⟩)), (Value.func (.func 8) #[] #[]), (Value.slice (some ⟨1, 0, none⟩) 0 0), (Value.int .i64 a0)]) 51))), (1, (some (.cells (layT []) 55)))], 2, 2⟩
noncomputable def V_heapHeapviewportlaw23itemLenq4 (a0 : Int) (r : Unit) : Value := match r with
  | _ => (Value.int .i64 (0 : Int))
noncomputable def R_heapHeapviewportlaw23itemLenq4 (a0 : Int) (r : Unit) : AH := match r with
  | _ => ⟨sB [], 2, 2⟩
noncomputable abbrev G_heapHeapviewportlaw23itemLenq4 (a0 : Int) (r : Unit) : Prop := Gv P (.func 17) (A_heapHeapviewportlaw23itemLenq4 a0) (H_heapHeapviewportlaw23itemLenq4 a0) (V_heapHeapviewportlaw23itemLenq4 a0 r) (R_heapHeapviewportlaw23itemLenq4 a0 r)
def m_heapHeapviewportlaw23itemLenq4 (n : Nat) (a0 : Int) : Option (Unit) :=
  (m_heapHeapviewportlaw23itemvalidq5 n a0).bind fun _ =>
  some ()
set_option maxRecDepth 100000 in
theorem p_heapHeapviewportlaw23itemLenq4_0 (n : Nat) (a0 : Int) (hc1 : m_heapHeapviewportlaw23itemvalidq5 n a0 = some ()) : G_heapHeapviewportlaw23itemLenq4 a0 () :=
  runF_ok hm (A := aT [(5, .call ⟨2, [(0, 0, false), (1, 1, false)], (V_heapHeapviewportlaw23itemvalidq5 a0 ()), (R_heapHeapviewportlaw23itemvalidq5 a0 ()), []⟩)]) (L := lT []) (wk := ⟨[2], [], 2, 2⟩)
    (ps := [G_heapHeapviewportlaw23itemvalidq5 a0 ()]) (by kernel_rfl) ⟨(m_heapHeapviewportlaw23itemvalidq5_ok n a0 () hc1), trivial⟩
theorem m_heapHeapviewportlaw23itemLenq4_ok (n : Nat) (a0 : Int) (r : Unit) (h : m_heapHeapviewportlaw23itemLenq4 n a0 = some r) : G_heapHeapviewportlaw23itemLenq4 a0 r := by
  unfold m_heapHeapviewportlaw23itemLenq4 at h
  obtain ⟨_, hc1, h⟩ := Option.bind_eq_some_iff.1 h
  obtain rfl := Option.some.inj h; exact p_heapHeapviewportlaw23itemLenq4_0 n a0 hc1

noncomputable def S_heapHeapviewportlaw23itemdrain1q3_1 (x1_0 : Bool) (x1_1 : List (Int × Int × Int)) (x1_2 : Nat) (x1_3 : Int) (x1_4 : List (Int × Int)) (x1_5 : Nat) (x1_6 : Nat) (x1_7 : Int) (x1_8 : Int) (st : Unit) : XSt := match st with
  | _ => (sT 17 [(0, (Value.func (.yield 0) #[] #[])), (1, (Value.pointer (some ⟨13, 0, none⟩)))], [], ⟨sB [(0, (some (rblk P 23 [false, true, true, true, true, true] .ready none [(2, (Value.pointer (some ⟨2, 0, none⟩))), (22, (Value.func (.func 27) #[] #[(Value.pointer (some ⟨13, 0, none⟩))]))] 1))), (1, (some (.marks true))), (2, (some (.cells (layT [(Value.func (.yield 3) #[] #[])]) 57))), (3, (some (rblk P 3 [false, true, false, true, true, true, true, true, true, true, true] .ready none [(2, (Value.pointer (some ⟨5, 0, none⟩))), (3, (Value.pointer (some ⟨6, 0, none⟩))), (4, (Value.pointer (some ⟨8, 0, none⟩))), (15, (Value.pointer (some ⟨11, 0, none⟩))), (108, (Value.func (.func 23) #[] #[(Value.pointer (some ⟨12, 0, none⟩))]))] 4))), (4, (some (.marks true))), (5, (some (.cells (layT [(Value.bool x1_0)]) 4))), (6, (some (.cells (layT [(Value.pointer (some ⟨6, 0, none⟩)), (Value.func (.func 8) #[] #[]), (Value.slice (some ⟨7, 0, none⟩) x1_2 (Nat.add big 3)), (Value.int .i64 x1_3)]) 51))), (7, (some (.cells (layT (rows rw_iii x1_1)) 55))), (8, (some (.cells (layT [(Value.pointer (some ⟨9, 0, none⟩))]) 29))), (9, (some (.cells (layT [(Value.slice (some ⟨10, (x1_5 * 2), none⟩) x1_6 (Nat.add big 2))]) 32))), (10, (some (.cells (layT (rows rw_ii x1_4)) 27))), (11, (some (.cells (layT [(Value.int .i64 x1_7)]) 3))), (12, (some (.cells (layT [(Value.pointer (some ⟨6, 0, none⟩))]) 24))), (13, (some (.cells (layT [(Value.pointer (some ⟨14, 0, none⟩))]) 24))), (14, (some (.cells (layT [(Value.pointer (some ⟨14, 0, none⟩)), (Value.func (.func 8) #[] #[]), (Value.slice (some ⟨15, 0, none⟩) 0 0), (Value.int .i64 x1_8)]) 51))), (15, (some (.cells (layT []) 55)))], 16, 16⟩)
noncomputable def X_heapHeapviewportlaw23itemdrain1q3_1 (x1_0 : Bool) (x1_1 : List (Int × Int × Int)) (x1_2 : Nat) (x1_3 : Int) (x1_4 : List (Int × Int)) (x1_5 : Nat) (x1_6 : Nat) (x1_7 : Int) (x1_8 : Int) (r : Unit) : Ex × XSt := match r with
  | _ => (.exit 0, (sT 17 [], [], ⟨sB [(0, (some (rblk P 23 [false, true, true, true, true, true] .ready none [(2, (Value.pointer (some ⟨2, 0, none⟩))), (22, (Value.func (.func 27) #[] #[(Value.pointer (some ⟨13, 0, none⟩))]))] 1))), (1, (some (.marks true))), (2, (some (.cells (layT [(Value.func (.yield 3) #[] #[])]) 57))), (3, (some (rblk P 3 [false, true, false, true, true, true, true, true, true, true, true] .ready none [(2, (Value.pointer (some ⟨5, 0, none⟩))), (3, (Value.pointer (some ⟨6, 0, none⟩))), (4, (Value.pointer (some ⟨8, 0, none⟩))), (15, (Value.pointer (some ⟨11, 0, none⟩))), (108, (Value.func (.func 23) #[] #[(Value.pointer (some ⟨12, 0, none⟩))]))] 4))), (4, (some (.marks true))), (5, (some (.cells (layT [(Value.bool x1_0)]) 4))), (6, (some (.cells (layT [(Value.pointer (some ⟨6, 0, none⟩)), (Value.func (.func 8) #[] #[]), (Value.slice (some ⟨7, 0, none⟩) x1_2 (Nat.add big 3)), (Value.int .i64 x1_3)]) 51))), (7, (some (.cells (layT (rows rw_iii x1_1)) 55))), (8, (some (.cells (layT [(Value.pointer (some ⟨9, 0, none⟩))]) 29))), (9, (some (.cells (layT [(Value.slice (some ⟨10, (x1_5 * 2), none⟩) x1_6 (Nat.add big 2))]) 32))), (10, (some (.cells (layT (rows rw_ii x1_4)) 27))), (11, (some (.cells (layT [(Value.int .i64 x1_7)]) 3))), (12, (some (.cells (layT [(Value.pointer (some ⟨6, 0, none⟩))]) 24))), (13, (some (.cells (layT [(Value.pointer (some ⟨14, 0, none⟩))]) 24))), (14, (some (.cells (layT [(Value.pointer (some ⟨14, 0, none⟩)), (Value.func (.func 8) #[] #[]), (Value.slice (some ⟨15, 0, none⟩) 0 0), (Value.int .i64 x1_8)]) 51))), (15, (some (.cells (layT []) 55)))], 16, 16⟩))
def B_heapHeapviewportlaw23itemdrain1q3_1 (n : Nat) (x1_0 : Bool) (x1_1 : List (Int × Int × Int)) (x1_2 : Nat) (x1_3 : Int) (x1_4 : List (Int × Int)) (x1_5 : Nat) (x1_6 : Nat) (x1_7 : Int) (x1_8 : Int) (st : Unit) : Option ((Unit) ⊕ (Unit)) := match st with
  | _ =>
    (m_heapHeapviewportlaw23itemLenq4 n x1_8).bind fun _ =>
    some (.inr ())
def m_heapHeapviewportlaw23itemdrain1q3_1 (n : Nat) (x1_0 : Bool) (x1_1 : List (Int × Int × Int)) (x1_2 : Nat) (x1_3 : Int) (x1_4 : List (Int × Int)) (x1_5 : Nat) (x1_6 : Nat) (x1_7 : Int) (x1_8 : Int) (st : Unit) : Option (Unit) := iterM (B_heapHeapviewportlaw23itemdrain1q3_1 n x1_0 x1_1 x1_2 x1_3 x1_4 x1_5 x1_6 x1_7 x1_8) n st
set_option maxRecDepth 100000 in
theorem q_heapHeapviewportlaw23itemdrain1q3_1_0 (n : Nat) {rnd : Option Nat} (x1_0 : Bool) (x1_1 : List (Int × Int × Int)) (x1_2 : Nat) (x1_3 : Int) (x1_4 : List (Int × Int)) (x1_5 : Nat) (x1_6 : Nat) (x1_7 : Int) (x1_8 : Int) (hy1_1 : m_heapHeapviewportlaw23itemLenq4 n x1_8 = some ()) : CG P rnd (fnN P 27) 16 (codeOf P 27 [false, false]) (S_heapHeapviewportlaw23itemdrain1q3_1 x1_0 x1_1 x1_2 x1_3 x1_4 x1_5 x1_6 x1_7 x1_8 ()) (X_heapHeapviewportlaw23itemdrain1q3_1 x1_0 x1_1 x1_2 x1_3 x1_4 x1_5 x1_6 x1_7 x1_8 ()) :=
  runC_ok hm (A := aT [(3, .call ⟨2, [(0, 14, false), (1, 15, false)], (V_heapHeapviewportlaw23itemLenq4 x1_8 ()), (R_heapHeapviewportlaw23itemLenq4 x1_8 ()), []⟩)]) (L := lT []) (wk := ⟨[], [(0, 0, false), (1, 1, false), (2, 2, false), (3, 3, false), (4, 4, false), (5, 5, false), (6, 6, false), (7, 7, true), (8, 8, false), (9, 9, false), (10, 10, true), (11, 11, false), (12, 12, false), (13, 13, false), (14, 14, false), (15, 15, false)], 16, 16⟩)
    (ps := [G_heapHeapviewportlaw23itemLenq4 x1_8 (),
    FlatB (.cells (layT (rows rw_iii x1_1)) 55),
    FlatB (.cells (layT (rows rw_ii x1_4)) 27)]) (by kernel_rfl) ⟨(m_heapHeapviewportlaw23itemLenq4_ok n x1_8 () hy1_1), (rows_flat rwf_iii _ _), (rows_flat rwf_ii _ _), trivial⟩
theorem m_heapHeapviewportlaw23itemdrain1q3_1_ok (n : Nat) {rnd : Option Nat} (x1_0 : Bool) (x1_1 : List (Int × Int × Int)) (x1_2 : Nat) (x1_3 : Int) (x1_4 : List (Int × Int)) (x1_5 : Nat) (x1_6 : Nat) (x1_7 : Int) (x1_8 : Int) (st : Unit) (r : Unit) (h : m_heapHeapviewportlaw23itemdrain1q3_1 n x1_0 x1_1 x1_2 x1_3 x1_4 x1_5 x1_6 x1_7 x1_8 st = some r) : CG P rnd (fnN P 27) 16 (codeOf P 27 [false]) (S_heapHeapviewportlaw23itemdrain1q3_1 x1_0 x1_1 x1_2 x1_3 x1_4 x1_5 x1_6 x1_7 x1_8 st) (X_heapHeapviewportlaw23itemdrain1q3_1 x1_0 x1_1 x1_2 x1_3 x1_4 x1_5 x1_6 x1_7 x1_8 r) :=
  CG.iter (b := codeOf P 27 [false, false]) (by kernel_rfl) (body := B_heapHeapviewportlaw23itemdrain1q3_1 n x1_0 x1_1 x1_2 x1_3 x1_4 x1_5 x1_6 x1_7 x1_8) (S := S_heapHeapviewportlaw23itemdrain1q3_1 x1_0 x1_1 x1_2 x1_3 x1_4 x1_5 x1_6 x1_7 x1_8) (X := X_heapHeapviewportlaw23itemdrain1q3_1 x1_0 x1_1 x1_2 x1_3 x1_4 x1_5 x1_6 x1_7 x1_8)
    (fun s s' h => by
    unfold B_heapHeapviewportlaw23itemdrain1q3_1 at h
    dsimp only at h
    obtain ⟨_, hy1_1, h⟩ := Option.bind_eq_some_iff.1 h
    cases h)
    (fun s r h => by
    unfold B_heapHeapviewportlaw23itemdrain1q3_1 at h
    dsimp only at h
    obtain ⟨_, hy1_1, h⟩ := Option.bind_eq_some_iff.1 h
    obtain rfl := Sum.inr.inj (Option.some.inj h); exact q_heapHeapviewportlaw23itemdrain1q3_1_0 n x1_0 x1_1 x1_2 x1_3 x1_4 x1_5 x1_6 x1_7 x1_8 hy1_1)
    (fun r => by intro hx; cases hx) h
noncomputable def A_heapHeapviewportlaw23itemdrain1q3 (a0 : Bool) (a1 : List (Int × Int × Int)) (a2 : Nat) (a3 : Int) (a4 : List (Int × Int)) (a5 : Nat) (a6 : Nat) (a7 : Int) (a8 : Int) : List Value := [(Value.func (.yield 0) #[] #[]), (Value.pointer (some ⟨13, 0, none⟩))]
noncomputable def H_heapHeapviewportlaw23itemdrain1q3 (a0 : Bool) (a1 : List (Int × Int × Int)) (a2 : Nat) (a3 : Int) (a4 : List (Int × Int)) (a5 : Nat) (a6 : Nat) (a7 : Int) (a8 : Int) : AH := ⟨sB [(0, (some (rblk P 23 [false, true, true, true, true, true] .ready none [(2, (Value.pointer (some ⟨2, 0, none⟩))), (22, (Value.func (.func 27) #[] #[(Value.pointer (some ⟨13, 0, none⟩))]))] 1))), (1, (some (.marks true))), (2, (some (.cells (layT [(Value.func (.yield 3) #[] #[])]) 57))), (3, (some (rblk P 3 [false, true, false, true, true, true, true, true, true, true, true] .ready none [(2, (Value.pointer (some ⟨5, 0, none⟩))), (3, (Value.pointer (some ⟨6, 0, none⟩))), (4, (Value.pointer (some ⟨8, 0, none⟩))), (15, (Value.pointer (some ⟨11, 0, none⟩))), (108, (Value.func (.func 23) #[] #[(Value.pointer (some ⟨12, 0, none⟩))]))] 4))), (4, (some (.marks true))), (5, (some (.cells (layT [(Value.bool a0)]) 4))), (6, (some (.cells (layT [(Value.pointer (some ⟨6, 0, none⟩)), (Value.func (.func 8) #[] #[]), (Value.slice (some ⟨7, 0, none⟩) a2 (Nat.add big 3)), (Value.int .i64 a3)]) 51))), (7, (some (.cells (layT (rows rw_iii a1)) 55))), (8, (some (.cells (layT [(Value.pointer (some ⟨9, 0, none⟩))]) 29))), (9, (some (.cells (layT [(Value.slice (some ⟨10, (a5 * 2), none⟩) a6 (Nat.add big 2))]) 32))), (10, (some (.cells (layT (rows rw_ii a4)) 27))), (11, (some (.cells (layT [(Value.int .i64 a7)]) 3))), (12, (some (.cells (layT [(Value.pointer (some ⟨6, 0, none⟩))]) 24))), (13, (some (.cells (layT [(Value.pointer (some ⟨14, 0, none⟩))]) 24))), (14, (some (.cells (layT [(Value.pointer (some ⟨14, 0, none⟩)), (Value.func (.func 8) #[] #[]), (Value.slice (some ⟨15, 0, none⟩) 0 0), (Value.int .i64 a8)]) 51))), (15, (some (.cells (layT []) 55)))], 16, 16⟩
noncomputable def V_heapHeapviewportlaw23itemdrain1q3 (a0 : Bool) (a1 : List (Int × Int × Int)) (a2 : Nat) (a3 : Int) (a4 : List (Int × Int)) (a5 : Nat) (a6 : Nat) (a7 : Int) (a8 : Int) (r : Unit) : Value := match r with
  | _ => (Value.tuple #[])
noncomputable def R_heapHeapviewportlaw23itemdrain1q3 (a0 : Bool) (a1 : List (Int × Int × Int)) (a2 : Nat) (a3 : Int) (a4 : List (Int × Int)) (a5 : Nat) (a6 : Nat) (a7 : Int) (a8 : Int) (r : Unit) : AH := match r with
  | _ => ⟨sB [], 16, 16⟩
noncomputable abbrev G_heapHeapviewportlaw23itemdrain1q3 (a0 : Bool) (a1 : List (Int × Int × Int)) (a2 : Nat) (a3 : Int) (a4 : List (Int × Int)) (a5 : Nat) (a6 : Nat) (a7 : Int) (a8 : Int) (r : Unit) : Prop := Gv P (.func 27) (A_heapHeapviewportlaw23itemdrain1q3 a0 a1 a2 a3 a4 a5 a6 a7 a8) (H_heapHeapviewportlaw23itemdrain1q3 a0 a1 a2 a3 a4 a5 a6 a7 a8) (V_heapHeapviewportlaw23itemdrain1q3 a0 a1 a2 a3 a4 a5 a6 a7 a8 r) (R_heapHeapviewportlaw23itemdrain1q3 a0 a1 a2 a3 a4 a5 a6 a7 a8 r)
def m_heapHeapviewportlaw23itemdrain1q3 (n : Nat) (a0 : Bool) (a1 : List (Int × Int × Int)) (a2 : Nat) (a3 : Int) (a4 : List (Int × Int)) (a5 : Nat) (a6 : Nat) (a7 : Int) (a8 : Int) : Option (Unit) :=
  (m_heapHeapviewportlaw23itemdrain1q3_1 n a0 a1 a2 a3 a4 a5 a6 a7 a8 ()).bind fun _ =>
  some ()
set_option maxRecDepth 100000 in
theorem p_heapHeapviewportlaw23itemdrain1q3_0 (n : Nat) (a0 : Bool) (a1 : List (Int × Int × Int)) (a2 : Nat) (a3 : Int) (a4 : List (Int × Int)) (a5 : Nat) (a6 : Nat) (a7 : Int) (a8 : Int) (hc1 : m_heapHeapviewportlaw23itemdrain1q3_1 n a0 a1 a2 a3 a4 a5 a6 a7 a8 () = some ()) : G_heapHeapviewportlaw23itemdrain1q3 a0 a1 a2 a3 a4 a5 a6 a7 a8 () :=
  runF_ok hm (A := aT []) (L := lT [(1, ⟨⟨[0, 1], [(0, 0, false), (1, 1, false), (2, 2, false), (3, 3, false), (4, 4, false), (5, 5, false), (6, 6, false), (7, 7, true), (8, 8, false), (9, 9, false), (10, 10, true), (11, 11, false), (12, 12, false), (13, 13, false), (14, 14, false), (15, 15, false)], 16, 16⟩, (X_heapHeapviewportlaw23itemdrain1q3_1 a0 a1 a2 a3 a4 a5 a6 a7 a8 ()).1, (X_heapHeapviewportlaw23itemdrain1q3_1 a0 a1 a2 a3 a4 a5 a6 a7 a8 ()).2⟩)]) (wk := ⟨[], [], 16, 16⟩)
    (ps := [CG P none (fnN P 27) 16 (codeOf P 27 [false]) (S_heapHeapviewportlaw23itemdrain1q3_1 a0 a1 a2 a3 a4 a5 a6 a7 a8 ()) (X_heapHeapviewportlaw23itemdrain1q3_1 a0 a1 a2 a3 a4 a5 a6 a7 a8 ()),
    FlatB (.cells (layT (rows rw_iii a1)) 55),
    FlatB (.cells (layT (rows rw_ii a4)) 27)]) (by kernel_rfl) ⟨(m_heapHeapviewportlaw23itemdrain1q3_1_ok n a0 a1 a2 a3 a4 a5 a6 a7 a8 () () hc1), (rows_flat rwf_iii _ _), (rows_flat rwf_ii _ _), trivial⟩
theorem m_heapHeapviewportlaw23itemdrain1q3_ok (n : Nat) (a0 : Bool) (a1 : List (Int × Int × Int)) (a2 : Nat) (a3 : Int) (a4 : List (Int × Int)) (a5 : Nat) (a6 : Nat) (a7 : Int) (a8 : Int) (r : Unit) (h : m_heapHeapviewportlaw23itemdrain1q3 n a0 a1 a2 a3 a4 a5 a6 a7 a8 = some r) : G_heapHeapviewportlaw23itemdrain1q3 a0 a1 a2 a3 a4 a5 a6 a7 a8 r := by
  unfold m_heapHeapviewportlaw23itemdrain1q3 at h
  obtain ⟨_, hc1, h⟩ := Option.bind_eq_some_iff.1 h
  obtain rfl := Option.some.inj h; exact p_heapHeapviewportlaw23itemdrain1q3_0 n a0 a1 a2 a3 a4 a5 a6 a7 a8 hc1

noncomputable def A_heapHeapviewportlaw23itemAll1q2 (a0 : Bool) (a1 : List (Int × Int × Int)) (a2 : Nat) (a3 : Int) (a4 : List (Int × Int)) (a5 : Nat) (a6 : Nat) (a7 : Int) : List Value := [(Value.func (.yield 0) #[] #[]), (Value.pointer (some ⟨9, 0, none⟩))]
noncomputable def H_heapHeapviewportlaw23itemAll1q2 (a0 : Bool) (a1 : List (Int × Int × Int)) (a2 : Nat) (a3 : Int) (a4 : List (Int × Int)) (a5 : Nat) (a6 : Nat) (a7 : Int) : AH := ⟨sB [(0, (some (rblk P 3 [false, true, false, true, true, true, true, true, true, true, true] .ready none [(2, (Value.pointer (some ⟨2, 0, none⟩))), (3, (Value.pointer (some ⟨3, 0, none⟩))), (4, (Value.pointer (some ⟨5, 0, none⟩))), (15, (Value.pointer (some ⟨8, 0, none⟩))), (108, (Value.func (.func 23) #[] #[(Value.pointer (some ⟨9, 0, none⟩))]))] 1))), (1, (some (.marks true))), (2, (some (.cells (layT [(Value.bool a0)]) 4))), (3, (some (.cells (layT [(Value.pointer (some ⟨3, 0, none⟩)), (Value.func (.func 8) #[] #[]), (Value.slice (some ⟨4, 0, none⟩) a2 (Nat.add big 3)), (Value.int .i64 a3)]) 51))), (4, (some (.cells (layT (rows rw_iii a1)) 55))), (5, (some (.cells (layT [(Value.pointer (some ⟨6, 0, none⟩))]) 29))), (6, (some (.cells (layT [(Value.slice (some ⟨7, (a5 * 2), none⟩) a6 (Nat.add big 2))]) 32))), (7, (some (.cells (layT (rows rw_ii a4)) 27))), (8, (some (.cells (layT [(Value.int .i64 a7)]) 3))), (9, (some (.cells (layT [(Value.pointer (some ⟨3, 0, none⟩))]) 24)))], 10, 10⟩
noncomputable def V_heapHeapviewportlaw23itemAll1q2 (a0 : Bool) (a1 : List (Int × Int × Int)) (a2 : Nat) (a3 : Int) (a4 : List (Int × Int)) (a5 : Nat) (a6 : Nat) (a7 : Int) (r : Int) : Value := match r with
  | o0 => (Value.tuple #[])
noncomputable def R_heapHeapviewportlaw23itemAll1q2 (a0 : Bool) (a1 : List (Int × Int × Int)) (a2 : Nat) (a3 : Int) (a4 : List (Int × Int)) (a5 : Nat) (a6 : Nat) (a7 : Int) (r : Int) : AH := match r with
  | o0 => ⟨sB [(0, (some (rblk P 3 [false, true, false, true, true, true, true, true, true, true, true] .ready none [(2, (Value.pointer (some ⟨2, 0, none⟩))), (3, (Value.pointer (some ⟨3, 0, none⟩))), (4, (Value.pointer (some ⟨5, 0, none⟩))), (15, (Value.pointer (some ⟨8, 0, none⟩))), (108, (Value.func (.func 23) #[] #[(Value.pointer (some ⟨9, 0, none⟩))]))] 1))), (1, (some (.marks true))), (2, (some (.cells (layT [(Value.bool a0)]) 4))), (3, (some (.cells (layT [(Value.pointer (some ⟨3, 0, none⟩)), (Value.func (.func 8) #[] #[]), (Value.slice (some ⟨4, 0, none⟩) a2 (Nat.add big 3)), (Value.int .i64 a3)]) 51))), (4, (some (.cells (layT (rows rw_iii a1)) 55))), (5, (some (.cells (layT [(Value.pointer (some ⟨6, 0, none⟩))]) 29))), (6, (some (.cells (layT [(Value.slice (some ⟨7, (a5 * 2), none⟩) a6 (Nat.add big 2))]) 32))), (7, (some (.cells (layT (rows rw_ii a4)) 27))), (8, (some (.cells (layT [(Value.int .i64 o0)]) 3))), (9, (some (.cells (layT [(Value.pointer (some ⟨3, 0, none⟩))]) 24))), (10, (some (.marks false)))], 11, 0⟩
noncomputable abbrev G_heapHeapviewportlaw23itemAll1q2 (a0 : Bool) (a1 : List (Int × Int × Int)) (a2 : Nat) (a3 : Int) (a4 : List (Int × Int)) (a5 : Nat) (a6 : Nat) (a7 : Int) (r : Int) : Prop := Gv P (.func 23) (A_heapHeapviewportlaw23itemAll1q2 a0 a1 a2 a3 a4 a5 a6 a7) (H_heapHeapviewportlaw23itemAll1q2 a0 a1 a2 a3 a4 a5 a6 a7) (V_heapHeapviewportlaw23itemAll1q2 a0 a1 a2 a3 a4 a5 a6 a7 r) (R_heapHeapviewportlaw23itemAll1q2 a0 a1 a2 a3 a4 a5 a6 a7 r)
def m_heapHeapviewportlaw23itemAll1q2 (n : Nat) (a0 : Bool) (a1 : List (Int × Int × Int)) (a2 : Nat) (a3 : Int) (a4 : List (Int × Int)) (a5 : Nat) (a6 : Nat) (a7 : Int) : Option (Int) :=
  (m_heapHeapviewportlaw23itemvalidq4 n a1 a2 a3).bind fun _ =>
  (m_heapNewviewportref23Itemq1 n).bind fun _ =>
  match m_slicesCloneviewportref23Itemq2 n a1 a2 with
  | none => none
  | some (.inl c3_) =>
    (m_heapHeapviewportlaw23itemdrainq2 n c3_ 0).bind fun _ =>
    (m_heapHeapviewportlaw23itemdrain1q2 n a0 a1 a2 a3 a4 a5 a6 a7 c3_ 0).bind fun t => match t with
    | (c5_0, c5_1, c5_2) =>
      some c5_0
  | some (.inr _) =>
    (m_heapHeapviewportlaw23itemdrainq3 n 0).bind fun _ =>
    (m_heapHeapviewportlaw23itemdrain1q3 n a0 a1 a2 a3 a4 a5 a6 a7 0).bind fun _ =>
    some a7
set_option maxRecDepth 100000 in
theorem p_heapHeapviewportlaw23itemAll1q2_0 (n : Nat) (a0 : Bool) (a1 : List (Int × Int × Int)) (a2 : Nat) (a3 : Int) (a4 : List (Int × Int)) (a5 : Nat) (a6 : Nat) (a7 : Int) (hc1 : m_heapHeapviewportlaw23itemvalidq4 n a1 a2 a3 = some ()) (hc2 : m_heapNewviewportref23Itemq1 n = some ()) (c3_ : List (Int × Int × Int)) (hc3 : m_slicesCloneviewportref23Itemq2 n a1 a2 = some (.inl c3_)) (hc4 : m_heapHeapviewportlaw23itemdrainq2 n c3_ 0 = some ()) (c5_0 : Int) (c5_1 : List (Int × Int × Int)) (c5_2 : Nat) (hc5 : m_heapHeapviewportlaw23itemdrain1q2 n a0 a1 a2 a3 a4 a5 a6 a7 c3_ 0 = some (c5_0, c5_1, c5_2)) : G_heapHeapviewportlaw23itemAll1q2 a0 a1 a2 a3 a4 a5 a6 a7 c5_0 :=
  runF_ok hm (A := aT [(5, .call ⟨2, [(0, 3, false), (1, 4, true)], (V_heapHeapviewportlaw23itemvalidq4 a1 a2 a3 ()), (R_heapHeapviewportlaw23itemvalidq4 a1 a2 a3 ()), []⟩), (13, .call ⟨0, [], (V_heapNewviewportref23Itemq1  ()), (R_heapNewviewportref23Itemq1  ()), [(11, 0, false)]⟩), (21, .call ⟨1, [(0, 4, true)], (V_slicesCloneviewportref23Itemq2 a1 a2 (.inl c3_)), (R_slicesCloneviewportref23Itemq2 a1 a2 (.inl c3_)), [(12, 1, true)]⟩), (27, .call ⟨2, [(0, 11, false), (1, 12, true)], (V_heapHeapviewportlaw23itemdrainq2 c3_ 0 ()), (R_heapHeapviewportlaw23itemdrainq2 c3_ 0 ()), [(11, 0, false), (12, 1, true), (13, 2, false)]⟩), (29, .rng ⟨16, [(0, 15, false), (1, 14, false), (2, 10, false), (3, 0, false), (4, 1, false), (5, 2, false), (6, 3, false), (7, 4, true), (8, 5, false), (9, 6, false), (10, 7, true), (11, 8, false), (12, 9, false), (13, 13, false), (14, 11, false), (15, 12, true)], (V_heapHeapviewportlaw23itemdrain1q2 a0 a1 a2 a3 a4 a5 a6 a7 c3_ 0 (c5_0, c5_1, c5_2)), (R_heapHeapviewportlaw23itemdrain1q2 a0 a1 a2 a3 a4 a5 a6 a7 c3_ 0 (c5_0, c5_1, c5_2)), [(15, 0, false), (14, 1, false), (10, 2, false), (0, 3, false), (1, 4, false), (2, 5, false), (3, 6, false), (4, 7, true), (5, 8, false), (6, 9, false), (7, 10, true), (8, 11, false), (9, 12, false), (13, 13, false), (11, 14, false), (12, 15, true)]⟩ [2, 22])]) (L := lT []) (wk := ⟨[], [(0, 0, false), (1, 1, false), (2, 2, false), (3, 3, false), (4, 4, true), (5, 5, false), (6, 6, false), (7, 7, true), (8, 8, false), (9, 9, false), (10, 14, false)], 11, 0⟩)
    (ps := [G_heapHeapviewportlaw23itemvalidq4 a1 a2 a3 (),
    FlatB (.cells (layT (rows rw_iii a1)) 55),
    G_heapNewviewportref23Itemq1  (),
    G_slicesCloneviewportref23Itemq2 a1 a2 (.inl c3_),
    FlatB (.cells (layT (rows rw_iii a1)) 55),
    FlatB (.cells (layT (rows rw_iii c3_)) 55),
    G_heapHeapviewportlaw23itemdrainq2 c3_ 0 (),
    FlatB (.cells (layT (rows rw_iii c3_)) 55),
    FlatB (.cells (layT (rows rw_iii c3_)) 55),
    G_heapHeapviewportlaw23itemdrain1q2 a0 a1 a2 a3 a4 a5 a6 a7 c3_ 0 (c5_0, c5_1, c5_2),
    FlatB (.cells (layT (rows rw_iii a1)) 55),
    FlatB (.cells (layT (rows rw_ii a4)) 27),
    FlatB (.cells (layT (rows rw_iii c3_)) 55),
    FlatB (.cells (layT (rows rw_iii a1)) 55),
    FlatB (.cells (layT (rows rw_ii a4)) 27),
    FlatB (.cells (layT (rows rw_iii c5_1)) 55),
    FlatB (.cells (layT (rows rw_iii a1)) 55),
    FlatB (.cells (layT (rows rw_ii a4)) 27)]) (by kernel_rfl) ⟨(m_heapHeapviewportlaw23itemvalidq4_ok n a1 a2 a3 () hc1), (rows_flat rwf_iii _ _), (m_heapNewviewportref23Itemq1_ok n () hc2), (m_slicesCloneviewportref23Itemq2_ok n a1 a2 (.inl c3_) hc3), (rows_flat rwf_iii _ _), (rows_flat rwf_iii _ _), (m_heapHeapviewportlaw23itemdrainq2_ok n c3_ 0 () hc4), (rows_flat rwf_iii _ _), (rows_flat rwf_iii _ _), (m_heapHeapviewportlaw23itemdrain1q2_ok n a0 a1 a2 a3 a4 a5 a6 a7 c3_ 0 (c5_0, c5_1, c5_2) hc5), (rows_flat rwf_iii _ _), (rows_flat rwf_ii _ _), (rows_flat rwf_iii _ _), (rows_flat rwf_iii _ _), (rows_flat rwf_ii _ _), (rows_flat rwf_iii _ _), (rows_flat rwf_iii _ _), (rows_flat rwf_ii _ _), trivial⟩
set_option maxRecDepth 100000 in
theorem p_heapHeapviewportlaw23itemAll1q2_1 (n : Nat) (a0 : Bool) (a1 : List (Int × Int × Int)) (a2 : Nat) (a3 : Int) (a4 : List (Int × Int)) (a5 : Nat) (a6 : Nat) (a7 : Int) (hc1 : m_heapHeapviewportlaw23itemvalidq4 n a1 a2 a3 = some ()) (hc2 : m_heapNewviewportref23Itemq1 n = some ()) (hc3 : m_slicesCloneviewportref23Itemq2 n a1 a2 = some (.inr ())) (hc4 : m_heapHeapviewportlaw23itemdrainq3 n 0 = some ()) (hc5 : m_heapHeapviewportlaw23itemdrain1q3 n a0 a1 a2 a3 a4 a5 a6 a7 0 = some ()) : G_heapHeapviewportlaw23itemAll1q2 a0 a1 a2 a3 a4 a5 a6 a7 a7 :=
  runF_ok hm (A := aT [(5, .call ⟨2, [(0, 3, false), (1, 4, true)], (V_heapHeapviewportlaw23itemvalidq4 a1 a2 a3 ()), (R_heapHeapviewportlaw23itemvalidq4 a1 a2 a3 ()), []⟩), (13, .call ⟨0, [], (V_heapNewviewportref23Itemq1  ()), (R_heapNewviewportref23Itemq1  ()), [(11, 0, false)]⟩), (21, .call ⟨1, [(0, 4, true)], (V_slicesCloneviewportref23Itemq2 a1 a2 (.inr ())), (R_slicesCloneviewportref23Itemq2 a1 a2 (.inr ())), [(12, 1, false)]⟩), (27, .call ⟨2, [(0, 11, false), (1, 12, false)], (V_heapHeapviewportlaw23itemdrainq3 0 ()), (R_heapHeapviewportlaw23itemdrainq3 0 ()), [(11, 0, false), (12, 1, false), (13, 2, false)]⟩), (29, .rng ⟨16, [(0, 15, false), (1, 14, false), (2, 10, false), (3, 0, false), (4, 1, false), (5, 2, false), (6, 3, false), (7, 4, true), (8, 5, false), (9, 6, false), (10, 7, true), (11, 8, false), (12, 9, false), (13, 13, false), (14, 11, false), (15, 12, false)], (V_heapHeapviewportlaw23itemdrain1q3 a0 a1 a2 a3 a4 a5 a6 a7 0 ()), (R_heapHeapviewportlaw23itemdrain1q3 a0 a1 a2 a3 a4 a5 a6 a7 0 ()), []⟩ [2, 22])]) (L := lT []) (wk := ⟨[], [(0, 0, false), (1, 1, false), (2, 2, false), (3, 3, false), (4, 4, true), (5, 5, false), (6, 6, false), (7, 7, true), (8, 8, false), (9, 9, false), (10, 14, false)], 11, 0⟩)
    (ps := [G_heapHeapviewportlaw23itemvalidq4 a1 a2 a3 (),
    FlatB (.cells (layT (rows rw_iii a1)) 55),
    G_heapNewviewportref23Itemq1  (),
    G_slicesCloneviewportref23Itemq2 a1 a2 (.inr ()),
    FlatB (.cells (layT (rows rw_iii a1)) 55),
    G_heapHeapviewportlaw23itemdrainq3 0 (),
    G_heapHeapviewportlaw23itemdrain1q3 a0 a1 a2 a3 a4 a5 a6 a7 0 (),
    FlatB (.cells (layT (rows rw_iii a1)) 55),
    FlatB (.cells (layT (rows rw_ii a4)) 27),
    FlatB (.cells (layT (rows rw_iii a1)) 55),
    FlatB (.cells (layT (rows rw_ii a4)) 27)]) (by kernel_rfl) ⟨(m_heapHeapviewportlaw23itemvalidq4_ok n a1 a2 a3 () hc1), (rows_flat rwf_iii _ _), (m_heapNewviewportref23Itemq1_ok n () hc2), (m_slicesCloneviewportref23Itemq2_ok n a1 a2 (.inr ()) hc3), (rows_flat rwf_iii _ _), (m_heapHeapviewportlaw23itemdrainq3_ok n 0 () hc4), (m_heapHeapviewportlaw23itemdrain1q3_ok n a0 a1 a2 a3 a4 a5 a6 a7 0 () hc5), (rows_flat rwf_iii _ _), (rows_flat rwf_ii _ _), (rows_flat rwf_iii _ _), (rows_flat rwf_ii _ _), trivial⟩
theorem m_heapHeapviewportlaw23itemAll1q2_ok (n : Nat) (a0 : Bool) (a1 : List (Int × Int × Int)) (a2 : Nat) (a3 : Int) (a4 : List (Int × Int)) (a5 : Nat) (a6 : Nat) (a7 : Int) (r : Int) (h : m_heapHeapviewportlaw23itemAll1q2 n a0 a1 a2 a3 a4 a5 a6 a7 = some r) : G_heapHeapviewportlaw23itemAll1q2 a0 a1 a2 a3 a4 a5 a6 a7 r := by
  unfold m_heapHeapviewportlaw23itemAll1q2 at h
  obtain ⟨_, hc1, h⟩ := Option.bind_eq_some_iff.1 h
  obtain ⟨_, hc2, h⟩ := Option.bind_eq_some_iff.1 h
  rcases hc3 : m_slicesCloneviewportref23Itemq2 n a1 a2 with _ | (c3_ | ⟨⟩)
  · rw [hc3] at h; cases h
  · rw [hc3] at h
    dsimp only at h
    obtain ⟨_, hc4, h⟩ := Option.bind_eq_some_iff.1 h
    obtain ⟨⟨c5_0, c5_1, c5_2⟩, hc5, h⟩ := Option.bind_eq_some_iff.1 h
    dsimp only at h
    obtain rfl := Option.some.inj h; exact p_heapHeapviewportlaw23itemAll1q2_0 n a0 a1 a2 a3 a4 a5 a6 a7 hc1 hc2 c3_ hc3 hc4 c5_0 c5_1 c5_2 hc5
  · rw [hc3] at h
    dsimp only at h
    obtain ⟨_, hc4, h⟩ := Option.bind_eq_some_iff.1 h
    obtain ⟨_, hc5, h⟩ := Option.bind_eq_some_iff.1 h
    obtain rfl := Option.some.inj h; exact p_heapHeapviewportlaw23itemAll1q2_1 n a0 a1 a2 a3 a4 a5 a6 a7 hc1 hc2 hc3 hc4 hc5

noncomputable def S_viewportlaw23HeapScript_1 (st : List (Int × Int × Int) × Nat × Int × List (Int × Int) × Nat × Nat × Int) : XSt := match st with
  | (x1_0, x1_1, x1_2, x1_3, x1_4, x1_5, x1_6) => (sT 143 [(0, (Value.slice (some ⟨0, 0, some 1⟩) (Args.A).length Args.cA)), (2, (Value.pointer (some ⟨0, 0, none⟩))), (3, (Value.pointer (some ⟨1, 0, none⟩))), (4, (Value.pointer (some ⟨3, 0, none⟩))), (5, (Value.int .i64 x1_6))], [], ⟨sB [(0, (some (.cells (layT [(Value.bool false)]) 4))), (1, (some (.cells (layT [(Value.pointer (some ⟨1, 0, none⟩)), (Value.func (.func 8) #[] #[]), (slQ x1_0 2 x1_1 3), (Value.int .i64 x1_2)]) 51))), (2, (nblkR rw_iii x1_0 55)), (3, (some (.cells (layT [(Value.pointer (some ⟨4, 0, none⟩))]) 29))), (4, (some (.cells (layT [(slP x1_3 5 x1_4 2 (x1_5 * 2))]) 32))), (5, (nblkR rw_ii x1_3 27))], 6, 0⟩)
noncomputable def X_viewportlaw23HeapScript_1 (r : List (Int × Int × Int) × Nat × Int × List (Int × Int) × Nat × Nat) : Ex × XSt := match r with
  | (z1_0, z1_1, z1_2, z1_3, z1_4, z1_5) => (.exit 0, (sT 143 [(2, (Value.pointer (some ⟨0, 0, none⟩))), (3, (Value.pointer (some ⟨1, 0, none⟩))), (4, (Value.pointer (some ⟨3, 0, none⟩)))], [], ⟨sB [(0, (some (.cells (layT [(Value.bool false)]) 4))), (1, (some (.cells (layT [(Value.pointer (some ⟨1, 0, none⟩)), (Value.func (.func 8) #[] #[]), (slQ z1_0 2 z1_1 3), (Value.int .i64 z1_2)]) 51))), (2, (nblkR rw_iii z1_0 55)), (3, (some (.cells (layT [(Value.pointer (some ⟨4, 0, none⟩))]) 29))), (4, (some (.cells (layT [(slP z1_3 5 z1_4 2 (z1_5 * 2))]) 32))), (5, (nblkR rw_ii z1_3 27))], 6, 0⟩))
def B_viewportlaw23HeapScript_1 (n : Nat) (st : List (Int × Int × Int) × Nat × Int × List (Int × Int) × Nat × Nat × Int) : Option ((List (Int × Int × Int) × Nat × Int × List (Int × Int) × Nat × Nat × Int) ⊕ (List (Int × Int × Int) × Nat × Int × List (Int × Int) × Nat × Nat)) := match st with
  | (x1_0, x1_1, x1_2, x1_3, x1_4, x1_5, x1_6) =>
    match x1_0 with
    | [] =>
      match x1_3 with
      | [] =>
        if x1_6 < (((Args.A).length : Nat) : Int) then
          if 0 ≤ x1_6 ∧ x1_6 < (((Args.A).length : Nat) : Int) then
            (m_viewportkitPickq1 n (((Args.A).getD (x1_6).toNat (0, 0)).1) 4).bind fun y1_3_ =>
            if y1_3_ = (0 : Int) then
              (m_viewportlaw23oneq1 n (((Args.A).getD (x1_6).toNat (0, 0)).2) x1_6).bind fun _ =>
              (m_heapHeapviewportlaw23itemPutq1 n x1_2 (((Args.A).getD (x1_6).toNat (0, 0)).2) x1_6).bind fun y1_6_ =>
              match y1_6_ with
              | [] =>
                none
              | y1_6_a :: y1_6_t =>
                (m_viewportlaw23oneq1 n (((Args.A).getD (x1_6).toNat (0, 0)).2) x1_6).bind fun _ =>
                (m_viewportref23HeapPutq1 n (((Args.A).getD (x1_6).toNat (0, 0)).2) x1_6).bind fun _ =>
                (m_heapHeapviewportlaw23itemLenq1 n (y1_6_a :: y1_6_t) (w64 (x1_2 + (1 : Int)))).bind fun _ =>
                some (.inl ((y1_6_a :: y1_6_t), 1, (w64 (x1_2 + (1 : Int))), [((((Args.A).getD (x1_6).toNat (0, 0)).2), x1_6)], 1, 0, (w64 (x1_6 + (1 : Int)))))
            else
              if y1_3_ = (1 : Int) then
                (m_viewportlaw23oneq1 n (((Args.A).getD (x1_6).toNat (0, 0)).2) x1_6).bind fun _ =>
                (m_heapHeapviewportlaw23itemPutq1 n x1_2 (((Args.A).getD (x1_6).toNat (0, 0)).2) x1_6).bind fun y1_7_ =>
                match y1_7_ with
                | [] =>
                  none
                | y1_7_a :: y1_7_t =>
                  (m_viewportlaw23oneq1 n (((Args.A).getD (x1_6).toNat (0, 0)).2) x1_6).bind fun _ =>
                  (m_viewportref23HeapPutq1 n (((Args.A).getD (x1_6).toNat (0, 0)).2) x1_6).bind fun _ =>
                  (m_heapHeapviewportlaw23itemLenq1 n (y1_7_a :: y1_7_t) (w64 (x1_2 + (1 : Int)))).bind fun _ =>
                  some (.inl ((y1_7_a :: y1_7_t), 1, (w64 (x1_2 + (1 : Int))), [((((Args.A).getD (x1_6).toNat (0, 0)).2), x1_6)], 1, 0, (w64 (x1_6 + (1 : Int)))))
              else
                if y1_3_ = (2 : Int) then
                  (m_heapHeapviewportlaw23itemTakeq1 n x1_2).bind fun _ =>
                  (m_viewportref23HeapTakeq1 n).bind fun _ =>
                  if (!(true && (true && true))) = true then
                    none
                  else
                    (m_heapHeapviewportlaw23itemLenq2 n x1_2).bind fun _ =>
                    some (.inl (([] : List (Int × Int × Int)), 0, x1_2, ([] : List (Int × Int)), 0, 0, (w64 (x1_6 + (1 : Int)))))
                else
                  (m_heapHeapviewportlaw23itemLeastq1 n x1_2).bind fun _ =>
                  (m_viewportref23HeapLeastq1 n).bind fun _ =>
                  if (!(true && (true && true))) = true then
                    none
                  else
                    (m_heapHeapviewportlaw23itemLenq2 n x1_2).bind fun _ =>
                    some (.inl (([] : List (Int × Int × Int)), 0, x1_2, ([] : List (Int × Int)), 0, 0, (w64 (x1_6 + (1 : Int)))))
          else none
        else
          some (.inr (([] : List (Int × Int × Int)), 0, x1_2, ([] : List (Int × Int)), 0, 0))
      | x1_3a :: x1_3t =>
        none
    | x1_0a :: x1_0t =>
      match x1_3 with
      | [] =>
        none
      | x1_3a :: x1_3t =>
        if x1_6 < (((Args.A).length : Nat) : Int) then
          if 0 ≤ x1_6 ∧ x1_6 < (((Args.A).length : Nat) : Int) then
            (m_viewportkitPickq1 n (((Args.A).getD (x1_6).toNat (0, 0)).1) 4).bind fun y1_3_ =>
            if y1_3_ = (0 : Int) then
              (m_viewportlaw23oneq1 n (((Args.A).getD (x1_6).toNat (0, 0)).2) x1_6).bind fun _ =>
              (m_heapHeapviewportlaw23itemPutq3 n (x1_0a :: x1_0t) x1_1 x1_2 (((Args.A).getD (x1_6).toNat (0, 0)).2) x1_6).bind fun t => match t with
              | (y1_6_0, y1_6_1) =>
                match y1_6_0 with
                | [] =>
                  none
                | y1_6_0a :: y1_6_0t =>
                  (m_viewportlaw23oneq1 n (((Args.A).getD (x1_6).toNat (0, 0)).2) x1_6).bind fun _ =>
                  (m_viewportref23HeapPutq3 n (x1_3a :: x1_3t) x1_5 x1_4 (((Args.A).getD (x1_6).toNat (0, 0)).2) x1_6).bind fun y1_8_ =>
                  match y1_8_ with
                  | [] =>
                    none
                  | y1_8_a :: y1_8_t =>
                    (m_heapHeapviewportlaw23itemLenq3 n (y1_6_0a :: y1_6_0t) y1_6_1 (w64 (x1_2 + (1 : Int)))).bind fun _ =>
                    if ((y1_6_1 : Nat) : Int) = ((((y1_8_a :: y1_8_t)).length : Nat) : Int) then
                      some (.inl ((y1_6_0a :: y1_6_0t), y1_6_1, (w64 (x1_2 + (1 : Int))), (y1_8_a :: y1_8_t), (((y1_8_a :: y1_8_t)).length), 0, (w64 (x1_6 + (1 : Int)))))
                    else
                      none
            else
              if y1_3_ = (1 : Int) then
                (m_viewportlaw23oneq1 n (((Args.A).getD (x1_6).toNat (0, 0)).2) x1_6).bind fun _ =>
                (m_heapHeapviewportlaw23itemPutq3 n (x1_0a :: x1_0t) x1_1 x1_2 (((Args.A).getD (x1_6).toNat (0, 0)).2) x1_6).bind fun t => match t with
                | (y1_7_0, y1_7_1) =>
                  match y1_7_0 with
                  | [] =>
                    none
                  | y1_7_0a :: y1_7_0t =>
                    (m_viewportlaw23oneq1 n (((Args.A).getD (x1_6).toNat (0, 0)).2) x1_6).bind fun _ =>
                    (m_viewportref23HeapPutq3 n (x1_3a :: x1_3t) x1_5 x1_4 (((Args.A).getD (x1_6).toNat (0, 0)).2) x1_6).bind fun y1_9_ =>
                    match y1_9_ with
                    | [] =>
                      none
                    | y1_9_a :: y1_9_t =>
                      (m_heapHeapviewportlaw23itemLenq3 n (y1_7_0a :: y1_7_0t) y1_7_1 (w64 (x1_2 + (1 : Int)))).bind fun _ =>
                      if ((y1_7_1 : Nat) : Int) = ((((y1_9_a :: y1_9_t)).length : Nat) : Int) then
                        some (.inl ((y1_7_0a :: y1_7_0t), y1_7_1, (w64 (x1_2 + (1 : Int))), (y1_9_a :: y1_9_t), (((y1_9_a :: y1_9_t)).length), 0, (w64 (x1_6 + (1 : Int)))))
                      else
                        none
              else
                if y1_3_ = (2 : Int) then
                  (m_heapHeapviewportlaw23itemTakeq3 n (x1_0a :: x1_0t) x1_1 x1_2).bind fun t => match t with
                  | (y1_7_0, y1_7_1, y1_7_2, y1_7_3, y1_7_4) =>
                    match y1_7_0 with
                    | [] =>
                      none
                    | y1_7_0a :: y1_7_0t =>
                      (m_viewportref23HeapTakeq3 n (x1_3a :: x1_3t) x1_5 x1_4).bind fun t => match t with
                      | (y1_8_0, y1_8_1, y1_8_2, y1_8_3, y1_8_4) =>
                        if (!((y1_7_2 == y1_8_2) && ((y1_7_3 == y1_8_3) && true))) = true then
                          none
                        else
                          if y1_7_4 = true then
                            if y1_8_4 = true then
                              (m_heapHeapviewportlaw23itemLenq3 n (y1_7_0a :: y1_7_0t) y1_7_1 x1_2).bind fun _ =>
                              if ((y1_7_1 : Nat) : Int) = ((y1_8_1 : Nat) : Int) then
                                some (.inl ((y1_7_0a :: y1_7_0t), y1_7_1, x1_2, (x1_3a :: x1_3t), y1_8_1, y1_8_0, (w64 (x1_6 + (1 : Int)))))
                              else
                                none
                            else
                              none
                          else
                            if y1_8_4 = true then
                              none
                            else
                              (m_heapHeapviewportlaw23itemLenq3 n (y1_7_0a :: y1_7_0t) y1_7_1 x1_2).bind fun _ =>
                              if ((y1_7_1 : Nat) : Int) = ((y1_8_1 : Nat) : Int) then
                                some (.inl ((y1_7_0a :: y1_7_0t), y1_7_1, x1_2, (x1_3a :: x1_3t), y1_8_1, y1_8_0, (w64 (x1_6 + (1 : Int)))))
                              else
                                none
                else
                  (m_heapHeapviewportlaw23itemLeastq3 n (x1_0a :: x1_0t) x1_1 x1_2).bind fun t => match t with
                  | (y1_7_0, y1_7_1, y1_7_2) =>
                    (m_viewportref23HeapLeastq3 n (x1_3a :: x1_3t) x1_5 x1_4).bind fun t => match t with
                    | (y1_8_0, y1_8_1, y1_8_2) =>
                      if (!((y1_7_0 == y1_8_0) && ((y1_7_1 == y1_8_1) && true))) = true then
                        none
                      else
                        if y1_7_2 = true then
                          if y1_8_2 = true then
                            (m_heapHeapviewportlaw23itemLenq3 n (x1_0a :: x1_0t) x1_1 x1_2).bind fun _ =>
                            if ((x1_1 : Nat) : Int) = ((x1_4 : Nat) : Int) then
                              some (.inl ((x1_0a :: x1_0t), x1_1, x1_2, (x1_3a :: x1_3t), x1_4, x1_5, (w64 (x1_6 + (1 : Int)))))
                            else
                              none
                          else
                            none
                        else
                          if y1_8_2 = true then
                            none
                          else
                            (m_heapHeapviewportlaw23itemLenq3 n (x1_0a :: x1_0t) x1_1 x1_2).bind fun _ =>
                            if ((x1_1 : Nat) : Int) = ((x1_4 : Nat) : Int) then
                              some (.inl ((x1_0a :: x1_0t), x1_1, x1_2, (x1_3a :: x1_3t), x1_4, x1_5, (w64 (x1_6 + (1 : Int)))))
                            else
                              none
          else none
        else
          some (.inr ((x1_0a :: x1_0t), x1_1, x1_2, (x1_3a :: x1_3t), x1_4, x1_5))
def m_viewportlaw23HeapScript_1 (n : Nat) (st : List (Int × Int × Int) × Nat × Int × List (Int × Int) × Nat × Nat × Int) : Option (List (Int × Int × Int) × Nat × Int × List (Int × Int) × Nat × Nat) := iterM (B_viewportlaw23HeapScript_1 n) n st
set_option maxRecDepth 100000 in
theorem q_viewportlaw23HeapScript_1_0 (n : Nat) {rnd : Option Nat} (x1_1 : Nat) (x1_2 : Int) (x1_4 : Nat) (x1_5 : Nat) (x1_6 : Int) (hy1_1 : x1_6 < (((Args.A).length : Nat) : Int)) (hy1_2 : 0 ≤ x1_6 ∧ x1_6 < (((Args.A).length : Nat) : Int)) (y1_3_ : Int) (hy1_3 : m_viewportkitPickq1 n (((Args.A).getD (x1_6).toNat (0, 0)).1) 4 = some y1_3_) (hy1_4 : y1_3_ = (0 : Int)) (hy1_5 : m_viewportlaw23oneq1 n (((Args.A).getD (x1_6).toNat (0, 0)).2) x1_6 = some ()) (y1_6_a : Int × Int × Int) (y1_6_t : List (Int × Int × Int)) (hy1_6 : m_heapHeapviewportlaw23itemPutq1 n x1_2 (((Args.A).getD (x1_6).toNat (0, 0)).2) x1_6 = some (y1_6_a :: y1_6_t)) (hy1_7 : m_viewportlaw23oneq1 n (((Args.A).getD (x1_6).toNat (0, 0)).2) x1_6 = some ()) (hy1_8 : m_viewportref23HeapPutq1 n (((Args.A).getD (x1_6).toNat (0, 0)).2) x1_6 = some ()) (hy1_9 : m_heapHeapviewportlaw23itemLenq1 n (y1_6_a :: y1_6_t) (w64 (x1_2 + (1 : Int))) = some ()) : CG P rnd (fnN P 3) 0 (codeOf P 3 [false, false, true, false, true, true, true, true]) (S_viewportlaw23HeapScript_1 (([] : List (Int × Int × Int)), x1_1, x1_2, ([] : List (Int × Int)), x1_4, x1_5, x1_6)) (.normal, S_viewportlaw23HeapScript_1 ((y1_6_a :: y1_6_t), 1, (w64 (x1_2 + (1 : Int))), [((((Args.A).getD (x1_6).toNat (0, 0)).2), x1_6)], 1, 0, (w64 (x1_6 + (1 : Int))))) :=
  runC_ok hm (A := aT [(5, .val (.bool true)), (13, .pur (Value.pointer (some ⟨0, ((x1_6).toNat * 2), some 1⟩))), (14, .pur (Value.pointer (some ⟨0, (Nat.add ((x1_6).toNat * 2) 0), some 1⟩))), (15, .ld (Value.int .i64 (((Args.A).getD (x1_6).toNat (0, 0)).1))), (16, .call ⟨0, [], (V_viewportkitPickq1 (((Args.A).getD (x1_6).toNat (0, 0)).1) 4 y1_3_), (R_viewportkitPickq1 (((Args.A).getD (x1_6).toNat (0, 0)).1) 4 y1_3_), []⟩), (20, .val (.bool true)), (28, .pur (Value.pointer (some ⟨0, ((x1_6).toNat * 2), some 1⟩))), (29, .pur (Value.pointer (some ⟨0, (Nat.add ((x1_6).toNat * 2) 1), some 1⟩))), (30, .ld (Value.int .i64 (((Args.A).getD (x1_6).toNat (0, 0)).2))), (32, .call ⟨0, [], (V_viewportlaw23oneq1 (((Args.A).getD (x1_6).toNat (0, 0)).2) x1_6 ()), (R_viewportlaw23oneq1 (((Args.A).getD (x1_6).toNat (0, 0)).2) x1_6 ()), [(6, 0, false)]⟩), (33, .call ⟨1, [(0, 1, false)], (V_heapHeapviewportlaw23itemPutq1 x1_2 (((Args.A).getD (x1_6).toNat (0, 0)).2) x1_6 (y1_6_a :: y1_6_t)), (R_heapHeapviewportlaw23itemPutq1 x1_2 (((Args.A).getD (x1_6).toNat (0, 0)).2) x1_6 (y1_6_a :: y1_6_t)), [(1, 0, false), (7, 1, true)]⟩), (37, .pur (Value.pointer (some ⟨0, ((x1_6).toNat * 2), some 1⟩))), (38, .pur (Value.pointer (some ⟨0, (Nat.add ((x1_6).toNat * 2) 1), some 1⟩))), (39, .ld (Value.int .i64 (((Args.A).getD (x1_6).toNat (0, 0)).2))), (41, .call ⟨0, [], (V_viewportlaw23oneq1 (((Args.A).getD (x1_6).toNat (0, 0)).2) x1_6 ()), (R_viewportlaw23oneq1 (((Args.A).getD (x1_6).toNat (0, 0)).2) x1_6 ()), [(8, 0, false)]⟩), (42, .call ⟨1, [(0, 4, false)], (V_viewportref23HeapPutq1 (((Args.A).getD (x1_6).toNat (0, 0)).2) x1_6 ()), (R_viewportref23HeapPutq1 (((Args.A).getD (x1_6).toNat (0, 0)).2) x1_6 ()), [(4, 0, false), (9, 1, false)]⟩), (45, .call ⟨2, [(0, 1, false), (1, 7, true)], (V_heapHeapviewportlaw23itemLenq1 (y1_6_a :: y1_6_t) (w64 (x1_2 + (1 : Int))) ()), (R_heapHeapviewportlaw23itemLenq1 (y1_6_a :: y1_6_t) (w64 (x1_2 + (1 : Int))) ()), []⟩)]) (L := lT []) (wk := ⟨[0, 2, 3, 4, 5], [(0, 0, false), (1, 1, false), (2, 7, true), (3, 3, false), (4, 4, false), (5, 9, false)], 6, 0⟩)
    (ps := [(Value.bool (decide (x1_6 < (((Args.A).length : Nat) : Int)))) = (Value.bool true),
    opIndexAddr P 22 (Value.slice (some ⟨0, 0, some 1⟩) (Args.A).length Args.cA) (Value.int .i64 x1_6) Ax.h0 = some ((Value.pointer (some ⟨0, ((x1_6).toNat * 2), some 1⟩)), Ax.h0),
    opFieldAddr P 35 (Value.pointer (some ⟨0, ((x1_6).toNat * 2), some 1⟩)) 0 Ax.h0 = some ((Value.pointer (some ⟨0, (Nat.add ((x1_6).toNat * 2) 0), some 1⟩)), Ax.h0),
    loadG P 3 (Value.pointer (some ⟨0, (Nat.add ((x1_6).toNat * 2) 0), some 1⟩)) Ax.h0 = some ((Value.int .i64 (((Args.A).getD (x1_6).toNat (0, 0)).1)), Ax.h0),
    G_viewportkitPickq1 (((Args.A).getD (x1_6).toNat (0, 0)).1) 4 y1_3_,
    (Value.bool (y1_3_ == (0 : Int))) = (Value.bool true),
    opIndexAddr P 22 (Value.slice (some ⟨0, 0, some 1⟩) (Args.A).length Args.cA) (Value.int .i64 x1_6) Ax.h0 = some ((Value.pointer (some ⟨0, ((x1_6).toNat * 2), some 1⟩)), Ax.h0),
    opFieldAddr P 35 (Value.pointer (some ⟨0, ((x1_6).toNat * 2), some 1⟩)) 1 Ax.h0 = some ((Value.pointer (some ⟨0, (Nat.add ((x1_6).toNat * 2) 1), some 1⟩)), Ax.h0),
    loadG P 3 (Value.pointer (some ⟨0, (Nat.add ((x1_6).toNat * 2) 1), some 1⟩)) Ax.h0 = some ((Value.int .i64 (((Args.A).getD (x1_6).toNat (0, 0)).2)), Ax.h0),
    G_viewportlaw23oneq1 (((Args.A).getD (x1_6).toNat (0, 0)).2) x1_6 (),
    G_heapHeapviewportlaw23itemPutq1 x1_2 (((Args.A).getD (x1_6).toNat (0, 0)).2) x1_6 (y1_6_a :: y1_6_t),
    FlatB (.cells (layT (rows rw_iii (y1_6_a :: y1_6_t))) 55),
    opIndexAddr P 22 (Value.slice (some ⟨0, 0, some 1⟩) (Args.A).length Args.cA) (Value.int .i64 x1_6) Ax.h0 = some ((Value.pointer (some ⟨0, ((x1_6).toNat * 2), some 1⟩)), Ax.h0),
    opFieldAddr P 35 (Value.pointer (some ⟨0, ((x1_6).toNat * 2), some 1⟩)) 1 Ax.h0 = some ((Value.pointer (some ⟨0, (Nat.add ((x1_6).toNat * 2) 1), some 1⟩)), Ax.h0),
    loadG P 3 (Value.pointer (some ⟨0, (Nat.add ((x1_6).toNat * 2) 1), some 1⟩)) Ax.h0 = some ((Value.int .i64 (((Args.A).getD (x1_6).toNat (0, 0)).2)), Ax.h0),
    G_viewportlaw23oneq1 (((Args.A).getD (x1_6).toNat (0, 0)).2) x1_6 (),
    G_viewportref23HeapPutq1 (((Args.A).getD (x1_6).toNat (0, 0)).2) x1_6 (),
    G_heapHeapviewportlaw23itemLenq1 (y1_6_a :: y1_6_t) (w64 (x1_2 + (1 : Int))) (),
    FlatB (.cells (layT (rows rw_iii (y1_6_a :: y1_6_t))) 55),
    FlatB (.cells (layT (rows rw_iii (y1_6_a :: y1_6_t))) 55)]) (by kernel_rfl) ⟨(vbT hy1_1), (ixW (e := 35) (by kernel_rfl) (by kernel_rfl) (hy1_2).1 (hy1_2).2), (by kernel_rfl), (ldWS rwf_ii (0, 0) (i := (x1_6).toNat) (q := 0) (L := Args.A) (Nat.add ((x1_6).toNat * 2) 0) rfl rfl (by kernel_rfl) (toNatLt hy1_2) (by decide) rfl), (m_viewportkitPickq1_ok n (((Args.A).getD (x1_6).toNat (0, 0)).1) 4 y1_3_ hy1_3), (veT hy1_4), (ixW (e := 35) (by kernel_rfl) (by kernel_rfl) (hy1_2).1 (hy1_2).2), (by kernel_rfl), (ldWS rwf_ii (0, 0) (i := (x1_6).toNat) (q := 1) (L := Args.A) (Nat.add ((x1_6).toNat * 2) 1) rfl rfl (by kernel_rfl) (toNatLt hy1_2) (by decide) rfl), (m_viewportlaw23oneq1_ok n (((Args.A).getD (x1_6).toNat (0, 0)).2) x1_6 () hy1_5), (m_heapHeapviewportlaw23itemPutq1_ok n x1_2 (((Args.A).getD (x1_6).toNat (0, 0)).2) x1_6 (y1_6_a :: y1_6_t) hy1_6), (rows_flat rwf_iii _ _), (ixW (e := 35) (by kernel_rfl) (by kernel_rfl) (hy1_2).1 (hy1_2).2), (by kernel_rfl), (ldWS rwf_ii (0, 0) (i := (x1_6).toNat) (q := 1) (L := Args.A) (Nat.add ((x1_6).toNat * 2) 1) rfl rfl (by kernel_rfl) (toNatLt hy1_2) (by decide) rfl), (m_viewportlaw23oneq1_ok n (((Args.A).getD (x1_6).toNat (0, 0)).2) x1_6 () hy1_7), (m_viewportref23HeapPutq1_ok n (((Args.A).getD (x1_6).toNat (0, 0)).2) x1_6 () hy1_8), (m_heapHeapviewportlaw23itemLenq1_ok n (y1_6_a :: y1_6_t) (w64 (x1_2 + (1 : Int))) () hy1_9), (rows_flat rwf_iii _ _), (rows_flat rwf_iii _ _), trivial⟩
set_option maxRecDepth 100000 in
theorem q_viewportlaw23HeapScript_1_1 (n : Nat) {rnd : Option Nat} (x1_1 : Nat) (x1_2 : Int) (x1_4 : Nat) (x1_5 : Nat) (x1_6 : Int) (hy1_1 : x1_6 < (((Args.A).length : Nat) : Int)) (hy1_2 : 0 ≤ x1_6 ∧ x1_6 < (((Args.A).length : Nat) : Int)) (y1_3_ : Int) (hy1_3 : m_viewportkitPickq1 n (((Args.A).getD (x1_6).toNat (0, 0)).1) 4 = some y1_3_) (hy1_4 : ¬ (y1_3_ = (0 : Int))) (hy1_5 : y1_3_ = (1 : Int)) (hy1_6 : m_viewportlaw23oneq1 n (((Args.A).getD (x1_6).toNat (0, 0)).2) x1_6 = some ()) (y1_7_a : Int × Int × Int) (y1_7_t : List (Int × Int × Int)) (hy1_7 : m_heapHeapviewportlaw23itemPutq1 n x1_2 (((Args.A).getD (x1_6).toNat (0, 0)).2) x1_6 = some (y1_7_a :: y1_7_t)) (hy1_8 : m_viewportlaw23oneq1 n (((Args.A).getD (x1_6).toNat (0, 0)).2) x1_6 = some ()) (hy1_9 : m_viewportref23HeapPutq1 n (((Args.A).getD (x1_6).toNat (0, 0)).2) x1_6 = some ()) (hy1_10 : m_heapHeapviewportlaw23itemLenq1 n (y1_7_a :: y1_7_t) (w64 (x1_2 + (1 : Int))) = some ()) : CG P rnd (fnN P 3) 0 (codeOf P 3 [false, false, true, false, true, true, true, true]) (S_viewportlaw23HeapScript_1 (([] : List (Int × Int × Int)), x1_1, x1_2, ([] : List (Int × Int)), x1_4, x1_5, x1_6)) (.normal, S_viewportlaw23HeapScript_1 ((y1_7_a :: y1_7_t), 1, (w64 (x1_2 + (1 : Int))), [((((Args.A).getD (x1_6).toNat (0, 0)).2), x1_6)], 1, 0, (w64 (x1_6 + (1 : Int))))) :=
  runC_ok hm (A := aT [(5, .val (.bool true)), (13, .pur (Value.pointer (some ⟨0, ((x1_6).toNat * 2), some 1⟩))), (14, .pur (Value.pointer (some ⟨0, (Nat.add ((x1_6).toNat * 2) 0), some 1⟩))), (15, .ld (Value.int .i64 (((Args.A).getD (x1_6).toNat (0, 0)).1))), (16, .call ⟨0, [], (V_viewportkitPickq1 (((Args.A).getD (x1_6).toNat (0, 0)).1) 4 y1_3_), (R_viewportkitPickq1 (((Args.A).getD (x1_6).toNat (0, 0)).1) 4 y1_3_), []⟩), (20, .val (.bool false)), (23, .val (.bool true)), (30, .pur (Value.pointer (some ⟨0, ((x1_6).toNat * 2), some 1⟩))), (31, .pur (Value.pointer (some ⟨0, (Nat.add ((x1_6).toNat * 2) 1), some 1⟩))), (32, .ld (Value.int .i64 (((Args.A).getD (x1_6).toNat (0, 0)).2))), (34, .call ⟨0, [], (V_viewportlaw23oneq1 (((Args.A).getD (x1_6).toNat (0, 0)).2) x1_6 ()), (R_viewportlaw23oneq1 (((Args.A).getD (x1_6).toNat (0, 0)).2) x1_6 ()), [(6, 0, false)]⟩), (35, .call ⟨1, [(0, 1, false)], (V_heapHeapviewportlaw23itemPutq1 x1_2 (((Args.A).getD (x1_6).toNat (0, 0)).2) x1_6 (y1_7_a :: y1_7_t)), (R_heapHeapviewportlaw23itemPutq1 x1_2 (((Args.A).getD (x1_6).toNat (0, 0)).2) x1_6 (y1_7_a :: y1_7_t)), [(1, 0, false), (7, 1, true)]⟩), (39, .pur (Value.pointer (some ⟨0, ((x1_6).toNat * 2), some 1⟩))), (40, .pur (Value.pointer (some ⟨0, (Nat.add ((x1_6).toNat * 2) 1), some 1⟩))), (41, .ld (Value.int .i64 (((Args.A).getD (x1_6).toNat (0, 0)).2))), (43, .call ⟨0, [], (V_viewportlaw23oneq1 (((Args.A).getD (x1_6).toNat (0, 0)).2) x1_6 ()), (R_viewportlaw23oneq1 (((Args.A).getD (x1_6).toNat (0, 0)).2) x1_6 ()), [(8, 0, false)]⟩), (44, .call ⟨1, [(0, 4, false)], (V_viewportref23HeapPutq1 (((Args.A).getD (x1_6).toNat (0, 0)).2) x1_6 ()), (R_viewportref23HeapPutq1 (((Args.A).getD (x1_6).toNat (0, 0)).2) x1_6 ()), [(4, 0, false), (9, 1, false)]⟩), (47, .call ⟨2, [(0, 1, false), (1, 7, true)], (V_heapHeapviewportlaw23itemLenq1 (y1_7_a :: y1_7_t) (w64 (x1_2 + (1 : Int))) ()), (R_heapHeapviewportlaw23itemLenq1 (y1_7_a :: y1_7_t) (w64 (x1_2 + (1 : Int))) ()), []⟩)]) (L := lT []) (wk := ⟨[0, 2, 3, 4, 5], [(0, 0, false), (1, 1, false), (2, 7, true), (3, 3, false), (4, 4, false), (5, 9, false)], 6, 0⟩)
    (ps := [(Value.bool (decide (x1_6 < (((Args.A).length : Nat) : Int)))) = (Value.bool true),
    opIndexAddr P 22 (Value.slice (some ⟨0, 0, some 1⟩) (Args.A).length Args.cA) (Value.int .i64 x1_6) Ax.h0 = some ((Value.pointer (some ⟨0, ((x1_6).toNat * 2), some 1⟩)), Ax.h0),
    opFieldAddr P 35 (Value.pointer (some ⟨0, ((x1_6).toNat * 2), some 1⟩)) 0 Ax.h0 = some ((Value.pointer (some ⟨0, (Nat.add ((x1_6).toNat * 2) 0), some 1⟩)), Ax.h0),
    loadG P 3 (Value.pointer (some ⟨0, (Nat.add ((x1_6).toNat * 2) 0), some 1⟩)) Ax.h0 = some ((Value.int .i64 (((Args.A).getD (x1_6).toNat (0, 0)).1)), Ax.h0),
    G_viewportkitPickq1 (((Args.A).getD (x1_6).toNat (0, 0)).1) 4 y1_3_,
    (Value.bool (y1_3_ == (0 : Int))) = (Value.bool false),
    (Value.bool (y1_3_ == (1 : Int))) = (Value.bool true),
    opIndexAddr P 22 (Value.slice (some ⟨0, 0, some 1⟩) (Args.A).length Args.cA) (Value.int .i64 x1_6) Ax.h0 = some ((Value.pointer (some ⟨0, ((x1_6).toNat * 2), some 1⟩)), Ax.h0),
    opFieldAddr P 35 (Value.pointer (some ⟨0, ((x1_6).toNat * 2), some 1⟩)) 1 Ax.h0 = some ((Value.pointer (some ⟨0, (Nat.add ((x1_6).toNat * 2) 1), some 1⟩)), Ax.h0),
    loadG P 3 (Value.pointer (some ⟨0, (Nat.add ((x1_6).toNat * 2) 1), some 1⟩)) Ax.h0 = some ((Value.int .i64 (((Args.A).getD (x1_6).toNat (0, 0)).2)), Ax.h0),
    G_viewportlaw23oneq1 (((Args.A).getD (x1_6).toNat (0, 0)).2) x1_6 (),
    G_heapHeapviewportlaw23itemPutq1 x1_2 (((Args.A).getD (x1_6).toNat (0, 0)).2) x1_6 (y1_7_a :: y1_7_t),
    FlatB (.cells (layT (rows rw_iii (y1_7_a :: y1_7_t))) 55),
    opIndexAddr P 22 (Value.slice (some ⟨0, 0, some 1⟩) (Args.A).length Args.cA) (Value.int .i64 x1_6) Ax.h0 = some ((Value.pointer (some ⟨0, ((x1_6).toNat * 2), some 1⟩)), Ax.h0),
    opFieldAddr P 35 (Value.pointer (some ⟨0, ((x1_6).toNat * 2), some 1⟩)) 1 Ax.h0 = some ((Value.pointer (some ⟨0, (Nat.add ((x1_6).toNat * 2) 1), some 1⟩)), Ax.h0),
    loadG P 3 (Value.pointer (some ⟨0, (Nat.add ((x1_6).toNat * 2) 1), some 1⟩)) Ax.h0 = some ((Value.int .i64 (((Args.A).getD (x1_6).toNat (0, 0)).2)), Ax.h0),
    G_viewportlaw23oneq1 (((Args.A).getD (x1_6).toNat (0, 0)).2) x1_6 (),
    G_viewportref23HeapPutq1 (((Args.A).getD (x1_6).toNat (0, 0)).2) x1_6 (),
    G_heapHeapviewportlaw23itemLenq1 (y1_7_a :: y1_7_t) (w64 (x1_2 + (1 : Int))) (),
    FlatB (.cells (layT (rows rw_iii (y1_7_a :: y1_7_t))) 55),
    FlatB (.cells (layT (rows rw_iii (y1_7_a :: y1_7_t))) 55)]) (by kernel_rfl) ⟨(vbT hy1_1), (ixW (e := 35) (by kernel_rfl) (by kernel_rfl) (hy1_2).1 (hy1_2).2), (by kernel_rfl), (ldWS rwf_ii (0, 0) (i := (x1_6).toNat) (q := 0) (L := Args.A) (Nat.add ((x1_6).toNat * 2) 0) rfl rfl (by kernel_rfl) (toNatLt hy1_2) (by decide) rfl), (m_viewportkitPickq1_ok n (((Args.A).getD (x1_6).toNat (0, 0)).1) 4 y1_3_ hy1_3), (veF hy1_4), (veT hy1_5), (ixW (e := 35) (by kernel_rfl) (by kernel_rfl) (hy1_2).1 (hy1_2).2), (by kernel_rfl), (ldWS rwf_ii (0, 0) (i := (x1_6).toNat) (q := 1) (L := Args.A) (Nat.add ((x1_6).toNat * 2) 1) rfl rfl (by kernel_rfl) (toNatLt hy1_2) (by decide) rfl), (m_viewportlaw23oneq1_ok n (((Args.A).getD (x1_6).toNat (0, 0)).2) x1_6 () hy1_6), (m_heapHeapviewportlaw23itemPutq1_ok n x1_2 (((Args.A).getD (x1_6).toNat (0, 0)).2) x1_6 (y1_7_a :: y1_7_t) hy1_7), (rows_flat rwf_iii _ _), (ixW (e := 35) (by kernel_rfl) (by kernel_rfl) (hy1_2).1 (hy1_2).2), (by kernel_rfl), (ldWS rwf_ii (0, 0) (i := (x1_6).toNat) (q := 1) (L := Args.A) (Nat.add ((x1_6).toNat * 2) 1) rfl rfl (by kernel_rfl) (toNatLt hy1_2) (by decide) rfl), (m_viewportlaw23oneq1_ok n (((Args.A).getD (x1_6).toNat (0, 0)).2) x1_6 () hy1_8), (m_viewportref23HeapPutq1_ok n (((Args.A).getD (x1_6).toNat (0, 0)).2) x1_6 () hy1_9), (m_heapHeapviewportlaw23itemLenq1_ok n (y1_7_a :: y1_7_t) (w64 (x1_2 + (1 : Int))) () hy1_10), (rows_flat rwf_iii _ _), (rows_flat rwf_iii _ _), trivial⟩
set_option maxRecDepth 100000 in
theorem q_viewportlaw23HeapScript_1_2 (n : Nat) {rnd : Option Nat} (x1_1 : Nat) (x1_2 : Int) (x1_4 : Nat) (x1_5 : Nat) (x1_6 : Int) (hy1_1 : x1_6 < (((Args.A).length : Nat) : Int)) (hy1_2 : 0 ≤ x1_6 ∧ x1_6 < (((Args.A).length : Nat) : Int)) (y1_3_ : Int) (hy1_3 : m_viewportkitPickq1 n (((Args.A).getD (x1_6).toNat (0, 0)).1) 4 = some y1_3_) (hy1_4 : ¬ (y1_3_ = (0 : Int))) (hy1_5 : ¬ (y1_3_ = (1 : Int))) (hy1_6 : y1_3_ = (2 : Int)) (hy1_7 : m_heapHeapviewportlaw23itemTakeq1 n x1_2 = some ()) (hy1_8 : m_viewportref23HeapTakeq1 n = some ()) (hy1_9 : ¬ ((!(true && (true && true))) = true)) (hy1_10 : m_heapHeapviewportlaw23itemLenq2 n x1_2 = some ()) : CG P rnd (fnN P 3) 0 (codeOf P 3 [false, false, true, false, true, true, true, true]) (S_viewportlaw23HeapScript_1 (([] : List (Int × Int × Int)), x1_1, x1_2, ([] : List (Int × Int)), x1_4, x1_5, x1_6)) (.normal, S_viewportlaw23HeapScript_1 (([] : List (Int × Int × Int)), 0, x1_2, ([] : List (Int × Int)), 0, 0, (w64 (x1_6 + (1 : Int))))) :=
  runC_ok hm (A := aT [(5, .val (.bool true)), (13, .pur (Value.pointer (some ⟨0, ((x1_6).toNat * 2), some 1⟩))), (14, .pur (Value.pointer (some ⟨0, (Nat.add ((x1_6).toNat * 2) 0), some 1⟩))), (15, .ld (Value.int .i64 (((Args.A).getD (x1_6).toNat (0, 0)).1))), (16, .call ⟨0, [], (V_viewportkitPickq1 (((Args.A).getD (x1_6).toNat (0, 0)).1) 4 y1_3_), (R_viewportkitPickq1 (((Args.A).getD (x1_6).toNat (0, 0)).1) 4 y1_3_), []⟩), (20, .val (.bool false)), (23, .val (.bool false)), (27, .val (.bool true)), (32, .call ⟨1, [(0, 1, false)], (V_heapHeapviewportlaw23itemTakeq1 x1_2 ()), (R_heapHeapviewportlaw23itemTakeq1 x1_2 ()), [(6, 1, false)]⟩), (41, .call ⟨1, [(0, 4, false)], (V_viewportref23HeapTakeq1  ()), (R_viewportref23HeapTakeq1  ()), [(8, 1, false)]⟩), (52, .val (.bool false)), (60, .call ⟨1, [(0, 1, false)], (V_heapHeapviewportlaw23itemLenq2 x1_2 ()), (R_heapHeapviewportlaw23itemLenq2 x1_2 ()), []⟩)]) (L := lT []) (wk := ⟨[0, 2, 3, 4, 5], [(0, 0, false), (1, 1, false), (3, 3, false), (4, 4, false)], 6, 0⟩)
    (ps := [(Value.bool (decide (x1_6 < (((Args.A).length : Nat) : Int)))) = (Value.bool true),
    opIndexAddr P 22 (Value.slice (some ⟨0, 0, some 1⟩) (Args.A).length Args.cA) (Value.int .i64 x1_6) Ax.h0 = some ((Value.pointer (some ⟨0, ((x1_6).toNat * 2), some 1⟩)), Ax.h0),
    opFieldAddr P 35 (Value.pointer (some ⟨0, ((x1_6).toNat * 2), some 1⟩)) 0 Ax.h0 = some ((Value.pointer (some ⟨0, (Nat.add ((x1_6).toNat * 2) 0), some 1⟩)), Ax.h0),
    loadG P 3 (Value.pointer (some ⟨0, (Nat.add ((x1_6).toNat * 2) 0), some 1⟩)) Ax.h0 = some ((Value.int .i64 (((Args.A).getD (x1_6).toNat (0, 0)).1)), Ax.h0),
    G_viewportkitPickq1 (((Args.A).getD (x1_6).toNat (0, 0)).1) 4 y1_3_,
    (Value.bool (y1_3_ == (0 : Int))) = (Value.bool false),
    (Value.bool (y1_3_ == (1 : Int))) = (Value.bool false),
    (Value.bool (y1_3_ == (2 : Int))) = (Value.bool true),
    G_heapHeapviewportlaw23itemTakeq1 x1_2 (),
    G_viewportref23HeapTakeq1  (),
    (Value.bool (!(true && (true && true)))) = (Value.bool false),
    G_heapHeapviewportlaw23itemLenq2 x1_2 ()]) (by kernel_rfl) ⟨(vbT hy1_1), (ixW (e := 35) (by kernel_rfl) (by kernel_rfl) (hy1_2).1 (hy1_2).2), (by kernel_rfl), (ldWS rwf_ii (0, 0) (i := (x1_6).toNat) (q := 0) (L := Args.A) (Nat.add ((x1_6).toNat * 2) 0) rfl rfl (by kernel_rfl) (toNatLt hy1_2) (by decide) rfl), (m_viewportkitPickq1_ok n (((Args.A).getD (x1_6).toNat (0, 0)).1) 4 y1_3_ hy1_3), (veF hy1_4), (veF hy1_5), (veT hy1_6), (m_heapHeapviewportlaw23itemTakeq1_ok n x1_2 () hy1_7), (m_viewportref23HeapTakeq1_ok n () hy1_8), (vB (Bool.eq_false_iff.2 hy1_9)), (m_heapHeapviewportlaw23itemLenq2_ok n x1_2 () hy1_10), trivial⟩
set_option maxRecDepth 100000 in
theorem q_viewportlaw23HeapScript_1_3 (n : Nat) {rnd : Option Nat} (x1_1 : Nat) (x1_2 : Int) (x1_4 : Nat) (x1_5 : Nat) (x1_6 : Int) (hy1_1 : x1_6 < (((Args.A).length : Nat) : Int)) (hy1_2 : 0 ≤ x1_6 ∧ x1_6 < (((Args.A).length : Nat) : Int)) (y1_3_ : Int) (hy1_3 : m_viewportkitPickq1 n (((Args.A).getD (x1_6).toNat (0, 0)).1) 4 = some y1_3_) (hy1_4 : ¬ (y1_3_ = (0 : Int))) (hy1_5 : ¬ (y1_3_ = (1 : Int))) (hy1_6 : ¬ (y1_3_ = (2 : Int))) (hy1_7 : m_heapHeapviewportlaw23itemLeastq1 n x1_2 = some ()) (hy1_8 : m_viewportref23HeapLeastq1 n = some ()) (hy1_9 : ¬ ((!(true && (true && true))) = true)) (hy1_10 : m_heapHeapviewportlaw23itemLenq2 n x1_2 = some ()) : CG P rnd (fnN P 3) 0 (codeOf P 3 [false, false, true, false, true, true, true, true]) (S_viewportlaw23HeapScript_1 (([] : List (Int × Int × Int)), x1_1, x1_2, ([] : List (Int × Int)), x1_4, x1_5, x1_6)) (.normal, S_viewportlaw23HeapScript_1 (([] : List (Int × Int × Int)), 0, x1_2, ([] : List (Int × Int)), 0, 0, (w64 (x1_6 + (1 : Int))))) :=
  runC_ok hm (A := aT [(5, .val (.bool true)), (13, .pur (Value.pointer (some ⟨0, ((x1_6).toNat * 2), some 1⟩))), (14, .pur (Value.pointer (some ⟨0, (Nat.add ((x1_6).toNat * 2) 0), some 1⟩))), (15, .ld (Value.int .i64 (((Args.A).getD (x1_6).toNat (0, 0)).1))), (16, .call ⟨0, [], (V_viewportkitPickq1 (((Args.A).getD (x1_6).toNat (0, 0)).1) 4 y1_3_), (R_viewportkitPickq1 (((Args.A).getD (x1_6).toNat (0, 0)).1) 4 y1_3_), []⟩), (20, .val (.bool false)), (23, .val (.bool false)), (27, .val (.bool false)), (32, .call ⟨1, [(0, 1, false)], (V_heapHeapviewportlaw23itemLeastq1 x1_2 ()), (R_heapHeapviewportlaw23itemLeastq1 x1_2 ()), [(6, 1, false)]⟩), (41, .call ⟨1, [(0, 4, false)], (V_viewportref23HeapLeastq1  ()), (R_viewportref23HeapLeastq1  ()), [(8, 1, false)]⟩), (52, .val (.bool false)), (60, .call ⟨1, [(0, 1, false)], (V_heapHeapviewportlaw23itemLenq2 x1_2 ()), (R_heapHeapviewportlaw23itemLenq2 x1_2 ()), []⟩)]) (L := lT []) (wk := ⟨[0, 2, 3, 4, 5], [(0, 0, false), (1, 1, false), (3, 3, false), (4, 4, false)], 6, 0⟩)
    (ps := [(Value.bool (decide (x1_6 < (((Args.A).length : Nat) : Int)))) = (Value.bool true),
    opIndexAddr P 22 (Value.slice (some ⟨0, 0, some 1⟩) (Args.A).length Args.cA) (Value.int .i64 x1_6) Ax.h0 = some ((Value.pointer (some ⟨0, ((x1_6).toNat * 2), some 1⟩)), Ax.h0),
    opFieldAddr P 35 (Value.pointer (some ⟨0, ((x1_6).toNat * 2), some 1⟩)) 0 Ax.h0 = some ((Value.pointer (some ⟨0, (Nat.add ((x1_6).toNat * 2) 0), some 1⟩)), Ax.h0),
    loadG P 3 (Value.pointer (some ⟨0, (Nat.add ((x1_6).toNat * 2) 0), some 1⟩)) Ax.h0 = some ((Value.int .i64 (((Args.A).getD (x1_6).toNat (0, 0)).1)), Ax.h0),
    G_viewportkitPickq1 (((Args.A).getD (x1_6).toNat (0, 0)).1) 4 y1_3_,
    (Value.bool (y1_3_ == (0 : Int))) = (Value.bool false),
    (Value.bool (y1_3_ == (1 : Int))) = (Value.bool false),
    (Value.bool (y1_3_ == (2 : Int))) = (Value.bool false),
    G_heapHeapviewportlaw23itemLeastq1 x1_2 (),
    G_viewportref23HeapLeastq1  (),
    (Value.bool (!(true && (true && true)))) = (Value.bool false),
    G_heapHeapviewportlaw23itemLenq2 x1_2 ()]) (by kernel_rfl) ⟨(vbT hy1_1), (ixW (e := 35) (by kernel_rfl) (by kernel_rfl) (hy1_2).1 (hy1_2).2), (by kernel_rfl), (ldWS rwf_ii (0, 0) (i := (x1_6).toNat) (q := 0) (L := Args.A) (Nat.add ((x1_6).toNat * 2) 0) rfl rfl (by kernel_rfl) (toNatLt hy1_2) (by decide) rfl), (m_viewportkitPickq1_ok n (((Args.A).getD (x1_6).toNat (0, 0)).1) 4 y1_3_ hy1_3), (veF hy1_4), (veF hy1_5), (veF hy1_6), (m_heapHeapviewportlaw23itemLeastq1_ok n x1_2 () hy1_7), (m_viewportref23HeapLeastq1_ok n () hy1_8), (vB (Bool.eq_false_iff.2 hy1_9)), (m_heapHeapviewportlaw23itemLenq2_ok n x1_2 () hy1_10), trivial⟩
set_option maxRecDepth 100000 in
theorem q_viewportlaw23HeapScript_1_4 (n : Nat) {rnd : Option Nat} (x1_1 : Nat) (x1_2 : Int) (x1_4 : Nat) (x1_5 : Nat) (x1_6 : Int) (hy1_1 : ¬ (x1_6 < (((Args.A).length : Nat) : Int))) : CG P rnd (fnN P 3) 0 (codeOf P 3 [false, false, true, false, true, true, true, true]) (S_viewportlaw23HeapScript_1 (([] : List (Int × Int × Int)), x1_1, x1_2, ([] : List (Int × Int)), x1_4, x1_5, x1_6)) (X_viewportlaw23HeapScript_1 (([] : List (Int × Int × Int)), 0, x1_2, ([] : List (Int × Int)), 0, 0)) :=
  runC_ok hm (A := aT [(5, .val (.bool false))]) (L := lT []) (wk := ⟨[2, 3, 4], [(0, 0, false), (1, 1, false), (3, 3, false), (4, 4, false)], 6, 0⟩)
    (ps := [(Value.bool (decide (x1_6 < (((Args.A).length : Nat) : Int)))) = (Value.bool false)]) (by kernel_rfl) ⟨(vbF hy1_1), trivial⟩
set_option maxRecDepth 100000 in
theorem q_viewportlaw23HeapScript_1_5 (n : Nat) {rnd : Option Nat} (x1_0a : Int × Int × Int) (x1_0t : List (Int × Int × Int)) (x1_1 : Nat) (x1_2 : Int) (x1_3a : Int × Int) (x1_3t : List (Int × Int)) (x1_4 : Nat) (x1_5 : Nat) (x1_6 : Int) (hy1_1 : x1_6 < (((Args.A).length : Nat) : Int)) (hy1_2 : 0 ≤ x1_6 ∧ x1_6 < (((Args.A).length : Nat) : Int)) (y1_3_ : Int) (hy1_3 : m_viewportkitPickq1 n (((Args.A).getD (x1_6).toNat (0, 0)).1) 4 = some y1_3_) (hy1_4 : y1_3_ = (0 : Int)) (hy1_5 : m_viewportlaw23oneq1 n (((Args.A).getD (x1_6).toNat (0, 0)).2) x1_6 = some ()) (y1_6_0a : Int × Int × Int) (y1_6_0t : List (Int × Int × Int)) (y1_6_1 : Nat) (hy1_6 : m_heapHeapviewportlaw23itemPutq3 n (x1_0a :: x1_0t) x1_1 x1_2 (((Args.A).getD (x1_6).toNat (0, 0)).2) x1_6 = some ((y1_6_0a :: y1_6_0t), y1_6_1)) (hy1_7 : m_viewportlaw23oneq1 n (((Args.A).getD (x1_6).toNat (0, 0)).2) x1_6 = some ()) (y1_8_a : Int × Int) (y1_8_t : List (Int × Int)) (hy1_8 : m_viewportref23HeapPutq3 n (x1_3a :: x1_3t) x1_5 x1_4 (((Args.A).getD (x1_6).toNat (0, 0)).2) x1_6 = some (y1_8_a :: y1_8_t)) (hy1_9 : m_heapHeapviewportlaw23itemLenq3 n (y1_6_0a :: y1_6_0t) y1_6_1 (w64 (x1_2 + (1 : Int))) = some ()) (hy1_10 : ((y1_6_1 : Nat) : Int) = ((((y1_8_a :: y1_8_t)).length : Nat) : Int)) : CG P rnd (fnN P 3) 0 (codeOf P 3 [false, false, true, false, true, true, true, true]) (S_viewportlaw23HeapScript_1 ((x1_0a :: x1_0t), x1_1, x1_2, (x1_3a :: x1_3t), x1_4, x1_5, x1_6)) (.normal, S_viewportlaw23HeapScript_1 ((y1_6_0a :: y1_6_0t), y1_6_1, (w64 (x1_2 + (1 : Int))), (y1_8_a :: y1_8_t), (((y1_8_a :: y1_8_t)).length), 0, (w64 (x1_6 + (1 : Int))))) :=
  runC_ok hm (A := aT [(5, .val (.bool true)), (13, .pur (Value.pointer (some ⟨0, ((x1_6).toNat * 2), some 1⟩))), (14, .pur (Value.pointer (some ⟨0, (Nat.add ((x1_6).toNat * 2) 0), some 1⟩))), (15, .ld (Value.int .i64 (((Args.A).getD (x1_6).toNat (0, 0)).1))), (16, .call ⟨0, [], (V_viewportkitPickq1 (((Args.A).getD (x1_6).toNat (0, 0)).1) 4 y1_3_), (R_viewportkitPickq1 (((Args.A).getD (x1_6).toNat (0, 0)).1) 4 y1_3_), []⟩), (20, .val (.bool true)), (28, .pur (Value.pointer (some ⟨0, ((x1_6).toNat * 2), some 1⟩))), (29, .pur (Value.pointer (some ⟨0, (Nat.add ((x1_6).toNat * 2) 1), some 1⟩))), (30, .ld (Value.int .i64 (((Args.A).getD (x1_6).toNat (0, 0)).2))), (32, .call ⟨0, [], (V_viewportlaw23oneq1 (((Args.A).getD (x1_6).toNat (0, 0)).2) x1_6 ()), (R_viewportlaw23oneq1 (((Args.A).getD (x1_6).toNat (0, 0)).2) x1_6 ()), [(6, 0, false)]⟩), (33, .call ⟨2, [(0, 1, false), (1, 2, true)], (V_heapHeapviewportlaw23itemPutq3 (x1_0a :: x1_0t) x1_1 x1_2 (((Args.A).getD (x1_6).toNat (0, 0)).2) x1_6 ((y1_6_0a :: y1_6_0t), y1_6_1)), (R_heapHeapviewportlaw23itemPutq3 (x1_0a :: x1_0t) x1_1 x1_2 (((Args.A).getD (x1_6).toNat (0, 0)).2) x1_6 ((y1_6_0a :: y1_6_0t), y1_6_1)), [(1, 0, false), (7, 2, true)]⟩), (37, .pur (Value.pointer (some ⟨0, ((x1_6).toNat * 2), some 1⟩))), (38, .pur (Value.pointer (some ⟨0, (Nat.add ((x1_6).toNat * 2) 1), some 1⟩))), (39, .ld (Value.int .i64 (((Args.A).getD (x1_6).toNat (0, 0)).2))), (41, .call ⟨0, [], (V_viewportlaw23oneq1 (((Args.A).getD (x1_6).toNat (0, 0)).2) x1_6 ()), (R_viewportlaw23oneq1 (((Args.A).getD (x1_6).toNat (0, 0)).2) x1_6 ()), [(8, 0, false)]⟩), (42, .call ⟨2, [(0, 4, false), (1, 5, true)], (V_viewportref23HeapPutq3 (x1_3a :: x1_3t) x1_5 x1_4 (((Args.A).getD (x1_6).toNat (0, 0)).2) x1_6 (y1_8_a :: y1_8_t)), (R_viewportref23HeapPutq3 (x1_3a :: x1_3t) x1_5 x1_4 (((Args.A).getD (x1_6).toNat (0, 0)).2) x1_6 (y1_8_a :: y1_8_t)), [(4, 0, false), (5, 1, true), (9, 2, true)]⟩), (45, .call ⟨2, [(0, 1, false), (1, 7, true)], (V_heapHeapviewportlaw23itemLenq3 (y1_6_0a :: y1_6_0t) y1_6_1 (w64 (x1_2 + (1 : Int))) ()), (R_heapHeapviewportlaw23itemLenq3 (y1_6_0a :: y1_6_0t) y1_6_1 (w64 (x1_2 + (1 : Int))) ()), []⟩), (51, .val (.bool false))]) (L := lT []) (wk := ⟨[0, 2, 3, 4, 5], [(0, 0, false), (1, 1, false), (2, 7, true), (3, 3, false), (4, 4, false), (5, 9, true)], 6, 0⟩)
    (ps := [(Value.bool (decide (x1_6 < (((Args.A).length : Nat) : Int)))) = (Value.bool true),
    opIndexAddr P 22 (Value.slice (some ⟨0, 0, some 1⟩) (Args.A).length Args.cA) (Value.int .i64 x1_6) Ax.h0 = some ((Value.pointer (some ⟨0, ((x1_6).toNat * 2), some 1⟩)), Ax.h0),
    opFieldAddr P 35 (Value.pointer (some ⟨0, ((x1_6).toNat * 2), some 1⟩)) 0 Ax.h0 = some ((Value.pointer (some ⟨0, (Nat.add ((x1_6).toNat * 2) 0), some 1⟩)), Ax.h0),
    loadG P 3 (Value.pointer (some ⟨0, (Nat.add ((x1_6).toNat * 2) 0), some 1⟩)) Ax.h0 = some ((Value.int .i64 (((Args.A).getD (x1_6).toNat (0, 0)).1)), Ax.h0),
    G_viewportkitPickq1 (((Args.A).getD (x1_6).toNat (0, 0)).1) 4 y1_3_,
    (Value.bool (y1_3_ == (0 : Int))) = (Value.bool true),
    opIndexAddr P 22 (Value.slice (some ⟨0, 0, some 1⟩) (Args.A).length Args.cA) (Value.int .i64 x1_6) Ax.h0 = some ((Value.pointer (some ⟨0, ((x1_6).toNat * 2), some 1⟩)), Ax.h0),
    opFieldAddr P 35 (Value.pointer (some ⟨0, ((x1_6).toNat * 2), some 1⟩)) 1 Ax.h0 = some ((Value.pointer (some ⟨0, (Nat.add ((x1_6).toNat * 2) 1), some 1⟩)), Ax.h0),
    loadG P 3 (Value.pointer (some ⟨0, (Nat.add ((x1_6).toNat * 2) 1), some 1⟩)) Ax.h0 = some ((Value.int .i64 (((Args.A).getD (x1_6).toNat (0, 0)).2)), Ax.h0),
    G_viewportlaw23oneq1 (((Args.A).getD (x1_6).toNat (0, 0)).2) x1_6 (),
    G_heapHeapviewportlaw23itemPutq3 (x1_0a :: x1_0t) x1_1 x1_2 (((Args.A).getD (x1_6).toNat (0, 0)).2) x1_6 ((y1_6_0a :: y1_6_0t), y1_6_1),
    FlatB (.cells (layT (rows rw_iii (x1_0a :: x1_0t))) 55),
    FlatB (.cells (layT (rows rw_iii (y1_6_0a :: y1_6_0t))) 55),
    opIndexAddr P 22 (Value.slice (some ⟨0, 0, some 1⟩) (Args.A).length Args.cA) (Value.int .i64 x1_6) Ax.h0 = some ((Value.pointer (some ⟨0, ((x1_6).toNat * 2), some 1⟩)), Ax.h0),
    opFieldAddr P 35 (Value.pointer (some ⟨0, ((x1_6).toNat * 2), some 1⟩)) 1 Ax.h0 = some ((Value.pointer (some ⟨0, (Nat.add ((x1_6).toNat * 2) 1), some 1⟩)), Ax.h0),
    loadG P 3 (Value.pointer (some ⟨0, (Nat.add ((x1_6).toNat * 2) 1), some 1⟩)) Ax.h0 = some ((Value.int .i64 (((Args.A).getD (x1_6).toNat (0, 0)).2)), Ax.h0),
    G_viewportlaw23oneq1 (((Args.A).getD (x1_6).toNat (0, 0)).2) x1_6 (),
    G_viewportref23HeapPutq3 (x1_3a :: x1_3t) x1_5 x1_4 (((Args.A).getD (x1_6).toNat (0, 0)).2) x1_6 (y1_8_a :: y1_8_t),
    FlatB (.cells (layT (rows rw_ii (x1_3a :: x1_3t))) 27),
    FlatB (.cells (layT (rows rw_ii (x1_3a :: x1_3t))) 27),
    FlatB (.cells (layT (rows rw_ii (y1_8_a :: y1_8_t))) 27),
    G_heapHeapviewportlaw23itemLenq3 (y1_6_0a :: y1_6_0t) y1_6_1 (w64 (x1_2 + (1 : Int))) (),
    FlatB (.cells (layT (rows rw_iii (y1_6_0a :: y1_6_0t))) 55),
    (Value.bool (((y1_6_1 : Nat) : Int) != ((((y1_8_a :: y1_8_t)).length : Nat) : Int))) = (Value.bool false),
    FlatB (.cells (layT (rows rw_iii (y1_6_0a :: y1_6_0t))) 55),
    FlatB (.cells (layT (rows rw_ii (y1_8_a :: y1_8_t))) 27)]) (by kernel_rfl) ⟨(vbT hy1_1), (ixW (e := 35) (by kernel_rfl) (by kernel_rfl) (hy1_2).1 (hy1_2).2), (by kernel_rfl), (ldWS rwf_ii (0, 0) (i := (x1_6).toNat) (q := 0) (L := Args.A) (Nat.add ((x1_6).toNat * 2) 0) rfl rfl (by kernel_rfl) (toNatLt hy1_2) (by decide) rfl), (m_viewportkitPickq1_ok n (((Args.A).getD (x1_6).toNat (0, 0)).1) 4 y1_3_ hy1_3), (veT hy1_4), (ixW (e := 35) (by kernel_rfl) (by kernel_rfl) (hy1_2).1 (hy1_2).2), (by kernel_rfl), (ldWS rwf_ii (0, 0) (i := (x1_6).toNat) (q := 1) (L := Args.A) (Nat.add ((x1_6).toNat * 2) 1) rfl rfl (by kernel_rfl) (toNatLt hy1_2) (by decide) rfl), (m_viewportlaw23oneq1_ok n (((Args.A).getD (x1_6).toNat (0, 0)).2) x1_6 () hy1_5), (m_heapHeapviewportlaw23itemPutq3_ok n (x1_0a :: x1_0t) x1_1 x1_2 (((Args.A).getD (x1_6).toNat (0, 0)).2) x1_6 ((y1_6_0a :: y1_6_0t), y1_6_1) hy1_6), (rows_flat rwf_iii _ _), (rows_flat rwf_iii _ _), (ixW (e := 35) (by kernel_rfl) (by kernel_rfl) (hy1_2).1 (hy1_2).2), (by kernel_rfl), (ldWS rwf_ii (0, 0) (i := (x1_6).toNat) (q := 1) (L := Args.A) (Nat.add ((x1_6).toNat * 2) 1) rfl rfl (by kernel_rfl) (toNatLt hy1_2) (by decide) rfl), (m_viewportlaw23oneq1_ok n (((Args.A).getD (x1_6).toNat (0, 0)).2) x1_6 () hy1_7), (m_viewportref23HeapPutq3_ok n (x1_3a :: x1_3t) x1_5 x1_4 (((Args.A).getD (x1_6).toNat (0, 0)).2) x1_6 (y1_8_a :: y1_8_t) hy1_8), (rows_flat rwf_ii _ _), (rows_flat rwf_ii _ _), (rows_flat rwf_ii _ _), (m_heapHeapviewportlaw23itemLenq3_ok n (y1_6_0a :: y1_6_0t) y1_6_1 (w64 (x1_2 + (1 : Int))) () hy1_9), (rows_flat rwf_iii _ _), (vnF hy1_10), (rows_flat rwf_iii _ _), (rows_flat rwf_ii _ _), trivial⟩
set_option maxRecDepth 100000 in
theorem q_viewportlaw23HeapScript_1_6 (n : Nat) {rnd : Option Nat} (x1_0a : Int × Int × Int) (x1_0t : List (Int × Int × Int)) (x1_1 : Nat) (x1_2 : Int) (x1_3a : Int × Int) (x1_3t : List (Int × Int)) (x1_4 : Nat) (x1_5 : Nat) (x1_6 : Int) (hy1_1 : x1_6 < (((Args.A).length : Nat) : Int)) (hy1_2 : 0 ≤ x1_6 ∧ x1_6 < (((Args.A).length : Nat) : Int)) (y1_3_ : Int) (hy1_3 : m_viewportkitPickq1 n (((Args.A).getD (x1_6).toNat (0, 0)).1) 4 = some y1_3_) (hy1_4 : ¬ (y1_3_ = (0 : Int))) (hy1_5 : y1_3_ = (1 : Int)) (hy1_6 : m_viewportlaw23oneq1 n (((Args.A).getD (x1_6).toNat (0, 0)).2) x1_6 = some ()) (y1_7_0a : Int × Int × Int) (y1_7_0t : List (Int × Int × Int)) (y1_7_1 : Nat) (hy1_7 : m_heapHeapviewportlaw23itemPutq3 n (x1_0a :: x1_0t) x1_1 x1_2 (((Args.A).getD (x1_6).toNat (0, 0)).2) x1_6 = some ((y1_7_0a :: y1_7_0t), y1_7_1)) (hy1_8 : m_viewportlaw23oneq1 n (((Args.A).getD (x1_6).toNat (0, 0)).2) x1_6 = some ()) (y1_9_a : Int × Int) (y1_9_t : List (Int × Int)) (hy1_9 : m_viewportref23HeapPutq3 n (x1_3a :: x1_3t) x1_5 x1_4 (((Args.A).getD (x1_6).toNat (0, 0)).2) x1_6 = some (y1_9_a :: y1_9_t)) (hy1_10 : m_heapHeapviewportlaw23itemLenq3 n (y1_7_0a :: y1_7_0t) y1_7_1 (w64 (x1_2 + (1 : Int))) = some ()) (hy1_11 : ((y1_7_1 : Nat) : Int) = ((((y1_9_a :: y1_9_t)).length : Nat) : Int)) : CG P rnd (fnN P 3) 0 (codeOf P 3 [false, false, true, false, true, true, true, true]) (S_viewportlaw23HeapScript_1 ((x1_0a :: x1_0t), x1_1, x1_2, (x1_3a :: x1_3t), x1_4, x1_5, x1_6)) (.normal, S_viewportlaw23HeapScript_1 ((y1_7_0a :: y1_7_0t), y1_7_1, (w64 (x1_2 + (1 : Int))), (y1_9_a :: y1_9_t), (((y1_9_a :: y1_9_t)).length), 0, (w64 (x1_6 + (1 : Int))))) :=
  runC_ok hm (A := aT [(5, .val (.bool true)), (13, .pur (Value.pointer (some ⟨0, ((x1_6).toNat * 2), some 1⟩))), (14, .pur (Value.pointer (some ⟨0, (Nat.add ((x1_6).toNat * 2) 0), some 1⟩))), (15, .ld (Value.int .i64 (((Args.A).getD (x1_6).toNat (0, 0)).1))), (16, .call ⟨0, [], (V_viewportkitPickq1 (((Args.A).getD (x1_6).toNat (0, 0)).1) 4 y1_3_), (R_viewportkitPickq1 (((Args.A).getD (x1_6).toNat (0, 0)).1) 4 y1_3_), []⟩), (20, .val (.bool false)), (23, .val (.bool true)), (30, .pur (Value.pointer (some ⟨0, ((x1_6).toNat * 2), some 1⟩))), (31, .pur (Value.pointer (some ⟨0, (Nat.add ((x1_6).toNat * 2) 1), some 1⟩))), (32, .ld (Value.int .i64 (((Args.A).getD (x1_6).toNat (0, 0)).2))), (34, .call ⟨0, [], (V_viewportlaw23oneq1 (((Args.A).getD (x1_6).toNat (0, 0)).2) x1_6 ()), (R_viewportlaw23oneq1 (((Args.A).getD (x1_6).toNat (0, 0)).2) x1_6 ()), [(6, 0, false)]⟩), (35, .call ⟨2, [(0, 1, false), (1, 2, true)], (V_heapHeapviewportlaw23itemPutq3 (x1_0a :: x1_0t) x1_1 x1_2 (((Args.A).getD (x1_6).toNat (0, 0)).2) x1_6 ((y1_7_0a :: y1_7_0t), y1_7_1)), (R_heapHeapviewportlaw23itemPutq3 (x1_0a :: x1_0t) x1_1 x1_2 (((Args.A).getD (x1_6).toNat (0, 0)).2) x1_6 ((y1_7_0a :: y1_7_0t), y1_7_1)), [(1, 0, false), (7, 2, true)]⟩), (39, .pur (Value.pointer (some ⟨0, ((x1_6).toNat * 2), some 1⟩))), (40, .pur (Value.pointer (some ⟨0, (Nat.add ((x1_6).toNat * 2) 1), some 1⟩))), (41, .ld (Value.int .i64 (((Args.A).getD (x1_6).toNat (0, 0)).2))), (43, .call ⟨0, [], (V_viewportlaw23oneq1 (((Args.A).getD (x1_6).toNat (0, 0)).2) x1_6 ()), (R_viewportlaw23oneq1 (((Args.A).getD (x1_6).toNat (0, 0)).2) x1_6 ()), [(8, 0, false)]⟩), (44, .call ⟨2, [(0, 4, false), (1, 5, true)], (V_viewportref23HeapPutq3 (x1_3a :: x1_3t) x1_5 x1_4 (((Args.A).getD (x1_6).toNat (0, 0)).2) x1_6 (y1_9_a :: y1_9_t)), (R_viewportref23HeapPutq3 (x1_3a :: x1_3t) x1_5 x1_4 (((Args.A).getD (x1_6).toNat (0, 0)).2) x1_6 (y1_9_a :: y1_9_t)), [(4, 0, false), (5, 1, true), (9, 2, true)]⟩), (47, .call ⟨2, [(0, 1, false), (1, 7, true)], (V_heapHeapviewportlaw23itemLenq3 (y1_7_0a :: y1_7_0t) y1_7_1 (w64 (x1_2 + (1 : Int))) ()), (R_heapHeapviewportlaw23itemLenq3 (y1_7_0a :: y1_7_0t) y1_7_1 (w64 (x1_2 + (1 : Int))) ()), []⟩), (53, .val (.bool false))]) (L := lT []) (wk := ⟨[0, 2, 3, 4, 5], [(0, 0, false), (1, 1, false), (2, 7, true), (3, 3, false), (4, 4, false), (5, 9, true)], 6, 0⟩)
    (ps := [(Value.bool (decide (x1_6 < (((Args.A).length : Nat) : Int)))) = (Value.bool true),
    opIndexAddr P 22 (Value.slice (some ⟨0, 0, some 1⟩) (Args.A).length Args.cA) (Value.int .i64 x1_6) Ax.h0 = some ((Value.pointer (some ⟨0, ((x1_6).toNat * 2), some 1⟩)), Ax.h0),
    opFieldAddr P 35 (Value.pointer (some ⟨0, ((x1_6).toNat * 2), some 1⟩)) 0 Ax.h0 = some ((Value.pointer (some ⟨0, (Nat.add ((x1_6).toNat * 2) 0), some 1⟩)), Ax.h0),
    loadG P 3 (Value.pointer (some ⟨0, (Nat.add ((x1_6).toNat * 2) 0), some 1⟩)) Ax.h0 = some ((Value.int .i64 (((Args.A).getD (x1_6).toNat (0, 0)).1)), Ax.h0),
    G_viewportkitPickq1 (((Args.A).getD (x1_6).toNat (0, 0)).1) 4 y1_3_,
    (Value.bool (y1_3_ == (0 : Int))) = (Value.bool false),
    (Value.bool (y1_3_ == (1 : Int))) = (Value.bool true),
    opIndexAddr P 22 (Value.slice (some ⟨0, 0, some 1⟩) (Args.A).length Args.cA) (Value.int .i64 x1_6) Ax.h0 = some ((Value.pointer (some ⟨0, ((x1_6).toNat * 2), some 1⟩)), Ax.h0),
    opFieldAddr P 35 (Value.pointer (some ⟨0, ((x1_6).toNat * 2), some 1⟩)) 1 Ax.h0 = some ((Value.pointer (some ⟨0, (Nat.add ((x1_6).toNat * 2) 1), some 1⟩)), Ax.h0),
    loadG P 3 (Value.pointer (some ⟨0, (Nat.add ((x1_6).toNat * 2) 1), some 1⟩)) Ax.h0 = some ((Value.int .i64 (((Args.A).getD (x1_6).toNat (0, 0)).2)), Ax.h0),
    G_viewportlaw23oneq1 (((Args.A).getD (x1_6).toNat (0, 0)).2) x1_6 (),
    G_heapHeapviewportlaw23itemPutq3 (x1_0a :: x1_0t) x1_1 x1_2 (((Args.A).getD (x1_6).toNat (0, 0)).2) x1_6 ((y1_7_0a :: y1_7_0t), y1_7_1),
    FlatB (.cells (layT (rows rw_iii (x1_0a :: x1_0t))) 55),
    FlatB (.cells (layT (rows rw_iii (y1_7_0a :: y1_7_0t))) 55),
    opIndexAddr P 22 (Value.slice (some ⟨0, 0, some 1⟩) (Args.A).length Args.cA) (Value.int .i64 x1_6) Ax.h0 = some ((Value.pointer (some ⟨0, ((x1_6).toNat * 2), some 1⟩)), Ax.h0),
    opFieldAddr P 35 (Value.pointer (some ⟨0, ((x1_6).toNat * 2), some 1⟩)) 1 Ax.h0 = some ((Value.pointer (some ⟨0, (Nat.add ((x1_6).toNat * 2) 1), some 1⟩)), Ax.h0),
    loadG P 3 (Value.pointer (some ⟨0, (Nat.add ((x1_6).toNat * 2) 1), some 1⟩)) Ax.h0 = some ((Value.int .i64 (((Args.A).getD (x1_6).toNat (0, 0)).2)), Ax.h0),
    G_viewportlaw23oneq1 (((Args.A).getD (x1_6).toNat (0, 0)).2) x1_6 (),
    G_viewportref23HeapPutq3 (x1_3a :: x1_3t) x1_5 x1_4 (((Args.A).getD (x1_6).toNat (0, 0)).2) x1_6 (y1_9_a :: y1_9_t),
    FlatB (.cells (layT (rows rw_ii (x1_3a :: x1_3t))) 27),
    FlatB (.cells (layT (rows rw_ii (x1_3a :: x1_3t))) 27),
    FlatB (.cells (layT (rows rw_ii (y1_9_a :: y1_9_t))) 27),
    G_heapHeapviewportlaw23itemLenq3 (y1_7_0a :: y1_7_0t) y1_7_1 (w64 (x1_2 + (1 : Int))) (),
    FlatB (.cells (layT (rows rw_iii (y1_7_0a :: y1_7_0t))) 55),
    (Value.bool (((y1_7_1 : Nat) : Int) != ((((y1_9_a :: y1_9_t)).length : Nat) : Int))) = (Value.bool false),
    FlatB (.cells (layT (rows rw_iii (y1_7_0a :: y1_7_0t))) 55),
    FlatB (.cells (layT (rows rw_ii (y1_9_a :: y1_9_t))) 27)]) (by kernel_rfl) ⟨(vbT hy1_1), (ixW (e := 35) (by kernel_rfl) (by kernel_rfl) (hy1_2).1 (hy1_2).2), (by kernel_rfl), (ldWS rwf_ii (0, 0) (i := (x1_6).toNat) (q := 0) (L := Args.A) (Nat.add ((x1_6).toNat * 2) 0) rfl rfl (by kernel_rfl) (toNatLt hy1_2) (by decide) rfl), (m_viewportkitPickq1_ok n (((Args.A).getD (x1_6).toNat (0, 0)).1) 4 y1_3_ hy1_3), (veF hy1_4), (veT hy1_5), (ixW (e := 35) (by kernel_rfl) (by kernel_rfl) (hy1_2).1 (hy1_2).2), (by kernel_rfl), (ldWS rwf_ii (0, 0) (i := (x1_6).toNat) (q := 1) (L := Args.A) (Nat.add ((x1_6).toNat * 2) 1) rfl rfl (by kernel_rfl) (toNatLt hy1_2) (by decide) rfl), (m_viewportlaw23oneq1_ok n (((Args.A).getD (x1_6).toNat (0, 0)).2) x1_6 () hy1_6), (m_heapHeapviewportlaw23itemPutq3_ok n (x1_0a :: x1_0t) x1_1 x1_2 (((Args.A).getD (x1_6).toNat (0, 0)).2) x1_6 ((y1_7_0a :: y1_7_0t), y1_7_1) hy1_7), (rows_flat rwf_iii _ _), (rows_flat rwf_iii _ _), (ixW (e := 35) (by kernel_rfl) (by kernel_rfl) (hy1_2).1 (hy1_2).2), (by kernel_rfl), (ldWS rwf_ii (0, 0) (i := (x1_6).toNat) (q := 1) (L := Args.A) (Nat.add ((x1_6).toNat * 2) 1) rfl rfl (by kernel_rfl) (toNatLt hy1_2) (by decide) rfl), (m_viewportlaw23oneq1_ok n (((Args.A).getD (x1_6).toNat (0, 0)).2) x1_6 () hy1_8), (m_viewportref23HeapPutq3_ok n (x1_3a :: x1_3t) x1_5 x1_4 (((Args.A).getD (x1_6).toNat (0, 0)).2) x1_6 (y1_9_a :: y1_9_t) hy1_9), (rows_flat rwf_ii _ _), (rows_flat rwf_ii _ _), (rows_flat rwf_ii _ _), (m_heapHeapviewportlaw23itemLenq3_ok n (y1_7_0a :: y1_7_0t) y1_7_1 (w64 (x1_2 + (1 : Int))) () hy1_10), (rows_flat rwf_iii _ _), (vnF hy1_11), (rows_flat rwf_iii _ _), (rows_flat rwf_ii _ _), trivial⟩
set_option maxRecDepth 100000 in
theorem q_viewportlaw23HeapScript_1_7 (n : Nat) {rnd : Option Nat} (x1_0a : Int × Int × Int) (x1_0t : List (Int × Int × Int)) (x1_1 : Nat) (x1_2 : Int) (x1_3a : Int × Int) (x1_3t : List (Int × Int)) (x1_4 : Nat) (x1_5 : Nat) (x1_6 : Int) (hy1_1 : x1_6 < (((Args.A).length : Nat) : Int)) (hy1_2 : 0 ≤ x1_6 ∧ x1_6 < (((Args.A).length : Nat) : Int)) (y1_3_ : Int) (hy1_3 : m_viewportkitPickq1 n (((Args.A).getD (x1_6).toNat (0, 0)).1) 4 = some y1_3_) (hy1_4 : ¬ (y1_3_ = (0 : Int))) (hy1_5 : ¬ (y1_3_ = (1 : Int))) (hy1_6 : y1_3_ = (2 : Int)) (y1_7_0a : Int × Int × Int) (y1_7_0t : List (Int × Int × Int)) (y1_7_1 : Nat) (y1_7_2 : Int) (y1_7_3 : Int) (y1_7_4 : Bool) (hy1_7 : m_heapHeapviewportlaw23itemTakeq3 n (x1_0a :: x1_0t) x1_1 x1_2 = some ((y1_7_0a :: y1_7_0t), y1_7_1, y1_7_2, y1_7_3, y1_7_4)) (y1_8_0 : Nat) (y1_8_1 : Nat) (y1_8_2 : Int) (y1_8_3 : Int) (y1_8_4 : Bool) (hy1_8 : m_viewportref23HeapTakeq3 n (x1_3a :: x1_3t) x1_5 x1_4 = some (y1_8_0, y1_8_1, y1_8_2, y1_8_3, y1_8_4)) (hy1_9 : ¬ ((!((y1_7_2 == y1_8_2) && ((y1_7_3 == y1_8_3) && true))) = true)) (hy1_10 : y1_7_4 = true) (hy1_11 : y1_8_4 = true) (hy1_12 : m_heapHeapviewportlaw23itemLenq3 n (y1_7_0a :: y1_7_0t) y1_7_1 x1_2 = some ()) (hy1_13 : ((y1_7_1 : Nat) : Int) = ((y1_8_1 : Nat) : Int)) : CG P rnd (fnN P 3) 0 (codeOf P 3 [false, false, true, false, true, true, true, true]) (S_viewportlaw23HeapScript_1 ((x1_0a :: x1_0t), x1_1, x1_2, (x1_3a :: x1_3t), x1_4, x1_5, x1_6)) (.normal, S_viewportlaw23HeapScript_1 ((y1_7_0a :: y1_7_0t), y1_7_1, x1_2, (x1_3a :: x1_3t), y1_8_1, y1_8_0, (w64 (x1_6 + (1 : Int))))) :=
  runC_ok hm (A := aT [(5, .val (.bool true)), (13, .pur (Value.pointer (some ⟨0, ((x1_6).toNat * 2), some 1⟩))), (14, .pur (Value.pointer (some ⟨0, (Nat.add ((x1_6).toNat * 2) 0), some 1⟩))), (15, .ld (Value.int .i64 (((Args.A).getD (x1_6).toNat (0, 0)).1))), (16, .call ⟨0, [], (V_viewportkitPickq1 (((Args.A).getD (x1_6).toNat (0, 0)).1) 4 y1_3_), (R_viewportkitPickq1 (((Args.A).getD (x1_6).toNat (0, 0)).1) 4 y1_3_), []⟩), (20, .val (.bool false)), (23, .val (.bool false)), (27, .val (.bool true)), (32, .call ⟨2, [(0, 1, false), (1, 2, true)], (V_heapHeapviewportlaw23itemTakeq3 (x1_0a :: x1_0t) x1_1 x1_2 ((y1_7_0a :: y1_7_0t), y1_7_1, y1_7_2, y1_7_3, y1_7_4)), (R_heapHeapviewportlaw23itemTakeq3 (x1_0a :: x1_0t) x1_1 x1_2 ((y1_7_0a :: y1_7_0t), y1_7_1, y1_7_2, y1_7_3, y1_7_4)), [(1, 0, false), (2, 1, true), (6, 2, false)]⟩), (41, .call ⟨2, [(0, 4, false), (1, 5, true)], (V_viewportref23HeapTakeq3 (x1_3a :: x1_3t) x1_5 x1_4 (y1_8_0, y1_8_1, y1_8_2, y1_8_3, y1_8_4)), (R_viewportref23HeapTakeq3 (x1_3a :: x1_3t) x1_5 x1_4 (y1_8_0, y1_8_1, y1_8_2, y1_8_3, y1_8_4)), [(4, 0, false), (5, 1, true), (8, 2, false)]⟩), (52, .val (.bool false)), (55, .val (.bool false)), (60, .call ⟨2, [(0, 1, false), (1, 2, true)], (V_heapHeapviewportlaw23itemLenq3 (y1_7_0a :: y1_7_0t) y1_7_1 x1_2 ()), (R_heapHeapviewportlaw23itemLenq3 (y1_7_0a :: y1_7_0t) y1_7_1 x1_2 ()), []⟩), (66, .val (.bool false))]) (L := lT []) (wk := ⟨[0, 2, 3, 4, 5], [(0, 0, false), (1, 1, false), (2, 2, true), (3, 3, false), (4, 4, false), (5, 5, true)], 6, 0⟩)
    (ps := [(Value.bool (decide (x1_6 < (((Args.A).length : Nat) : Int)))) = (Value.bool true),
    opIndexAddr P 22 (Value.slice (some ⟨0, 0, some 1⟩) (Args.A).length Args.cA) (Value.int .i64 x1_6) Ax.h0 = some ((Value.pointer (some ⟨0, ((x1_6).toNat * 2), some 1⟩)), Ax.h0),
    opFieldAddr P 35 (Value.pointer (some ⟨0, ((x1_6).toNat * 2), some 1⟩)) 0 Ax.h0 = some ((Value.pointer (some ⟨0, (Nat.add ((x1_6).toNat * 2) 0), some 1⟩)), Ax.h0),
    loadG P 3 (Value.pointer (some ⟨0, (Nat.add ((x1_6).toNat * 2) 0), some 1⟩)) Ax.h0 = some ((Value.int .i64 (((Args.A).getD (x1_6).toNat (0, 0)).1)), Ax.h0),
    G_viewportkitPickq1 (((Args.A).getD (x1_6).toNat (0, 0)).1) 4 y1_3_,
    (Value.bool (y1_3_ == (0 : Int))) = (Value.bool false),
    (Value.bool (y1_3_ == (1 : Int))) = (Value.bool false),
    (Value.bool (y1_3_ == (2 : Int))) = (Value.bool true),
    G_heapHeapviewportlaw23itemTakeq3 (x1_0a :: x1_0t) x1_1 x1_2 ((y1_7_0a :: y1_7_0t), y1_7_1, y1_7_2, y1_7_3, y1_7_4),
    FlatB (.cells (layT (rows rw_iii (x1_0a :: x1_0t))) 55),
    FlatB (.cells (layT (rows rw_iii (y1_7_0a :: y1_7_0t))) 55),
    G_viewportref23HeapTakeq3 (x1_3a :: x1_3t) x1_5 x1_4 (y1_8_0, y1_8_1, y1_8_2, y1_8_3, y1_8_4),
    FlatB (.cells (layT (rows rw_ii (x1_3a :: x1_3t))) 27),
    FlatB (.cells (layT (rows rw_ii (x1_3a :: x1_3t))) 27),
    (Value.bool (!((y1_7_2 == y1_8_2) && ((y1_7_3 == y1_8_3) && true)))) = (Value.bool false),
    (Value.bool (!(y1_7_4 == y1_8_4))) = (Value.bool false),
    G_heapHeapviewportlaw23itemLenq3 (y1_7_0a :: y1_7_0t) y1_7_1 x1_2 (),
    FlatB (.cells (layT (rows rw_iii (y1_7_0a :: y1_7_0t))) 55),
    (Value.bool (((y1_7_1 : Nat) : Int) != ((y1_8_1 : Nat) : Int))) = (Value.bool false),
    FlatB (.cells (layT (rows rw_iii (y1_7_0a :: y1_7_0t))) 55),
    FlatB (.cells (layT (rows rw_ii (x1_3a :: x1_3t))) 27)]) (by kernel_rfl) ⟨(vbT hy1_1), (ixW (e := 35) (by kernel_rfl) (by kernel_rfl) (hy1_2).1 (hy1_2).2), (by kernel_rfl), (ldWS rwf_ii (0, 0) (i := (x1_6).toNat) (q := 0) (L := Args.A) (Nat.add ((x1_6).toNat * 2) 0) rfl rfl (by kernel_rfl) (toNatLt hy1_2) (by decide) rfl), (m_viewportkitPickq1_ok n (((Args.A).getD (x1_6).toNat (0, 0)).1) 4 y1_3_ hy1_3), (veF hy1_4), (veF hy1_5), (veT hy1_6), (m_heapHeapviewportlaw23itemTakeq3_ok n (x1_0a :: x1_0t) x1_1 x1_2 ((y1_7_0a :: y1_7_0t), y1_7_1, y1_7_2, y1_7_3, y1_7_4) hy1_7), (rows_flat rwf_iii _ _), (rows_flat rwf_iii _ _), (m_viewportref23HeapTakeq3_ok n (x1_3a :: x1_3t) x1_5 x1_4 (y1_8_0, y1_8_1, y1_8_2, y1_8_3, y1_8_4) hy1_8), (rows_flat rwf_ii _ _), (rows_flat rwf_ii _ _), (vB (Bool.eq_false_iff.2 hy1_9)), (vNeB hy1_10 hy1_11), (m_heapHeapviewportlaw23itemLenq3_ok n (y1_7_0a :: y1_7_0t) y1_7_1 x1_2 () hy1_12), (rows_flat rwf_iii _ _), (vnF hy1_13), (rows_flat rwf_iii _ _), (rows_flat rwf_ii _ _), trivial⟩
set_option maxRecDepth 100000 in
theorem q_viewportlaw23HeapScript_1_8 (n : Nat) {rnd : Option Nat} (x1_0a : Int × Int × Int) (x1_0t : List (Int × Int × Int)) (x1_1 : Nat) (x1_2 : Int) (x1_3a : Int × Int) (x1_3t : List (Int × Int)) (x1_4 : Nat) (x1_5 : Nat) (x1_6 : Int) (hy1_1 : x1_6 < (((Args.A).length : Nat) : Int)) (hy1_2 : 0 ≤ x1_6 ∧ x1_6 < (((Args.A).length : Nat) : Int)) (y1_3_ : Int) (hy1_3 : m_viewportkitPickq1 n (((Args.A).getD (x1_6).toNat (0, 0)).1) 4 = some y1_3_) (hy1_4 : ¬ (y1_3_ = (0 : Int))) (hy1_5 : ¬ (y1_3_ = (1 : Int))) (hy1_6 : y1_3_ = (2 : Int)) (y1_7_0a : Int × Int × Int) (y1_7_0t : List (Int × Int × Int)) (y1_7_1 : Nat) (y1_7_2 : Int) (y1_7_3 : Int) (y1_7_4 : Bool) (hy1_7 : m_heapHeapviewportlaw23itemTakeq3 n (x1_0a :: x1_0t) x1_1 x1_2 = some ((y1_7_0a :: y1_7_0t), y1_7_1, y1_7_2, y1_7_3, y1_7_4)) (y1_8_0 : Nat) (y1_8_1 : Nat) (y1_8_2 : Int) (y1_8_3 : Int) (y1_8_4 : Bool) (hy1_8 : m_viewportref23HeapTakeq3 n (x1_3a :: x1_3t) x1_5 x1_4 = some (y1_8_0, y1_8_1, y1_8_2, y1_8_3, y1_8_4)) (hy1_9 : ¬ ((!((y1_7_2 == y1_8_2) && ((y1_7_3 == y1_8_3) && true))) = true)) (hy1_10 : ¬ (y1_7_4 = true)) (hy1_11 : ¬ (y1_8_4 = true)) (hy1_12 : m_heapHeapviewportlaw23itemLenq3 n (y1_7_0a :: y1_7_0t) y1_7_1 x1_2 = some ()) (hy1_13 : ((y1_7_1 : Nat) : Int) = ((y1_8_1 : Nat) : Int)) : CG P rnd (fnN P 3) 0 (codeOf P 3 [false, false, true, false, true, true, true, true]) (S_viewportlaw23HeapScript_1 ((x1_0a :: x1_0t), x1_1, x1_2, (x1_3a :: x1_3t), x1_4, x1_5, x1_6)) (.normal, S_viewportlaw23HeapScript_1 ((y1_7_0a :: y1_7_0t), y1_7_1, x1_2, (x1_3a :: x1_3t), y1_8_1, y1_8_0, (w64 (x1_6 + (1 : Int))))) :=
  runC_ok hm (A := aT [(5, .val (.bool true)), (13, .pur (Value.pointer (some ⟨0, ((x1_6).toNat * 2), some 1⟩))), (14, .pur (Value.pointer (some ⟨0, (Nat.add ((x1_6).toNat * 2) 0), some 1⟩))), (15, .ld (Value.int .i64 (((Args.A).getD (x1_6).toNat (0, 0)).1))), (16, .call ⟨0, [], (V_viewportkitPickq1 (((Args.A).getD (x1_6).toNat (0, 0)).1) 4 y1_3_), (R_viewportkitPickq1 (((Args.A).getD (x1_6).toNat (0, 0)).1) 4 y1_3_), []⟩), (20, .val (.bool false)), (23, .val (.bool false)), (27, .val (.bool true)), (32, .call ⟨2, [(0, 1, false), (1, 2, true)], (V_heapHeapviewportlaw23itemTakeq3 (x1_0a :: x1_0t) x1_1 x1_2 ((y1_7_0a :: y1_7_0t), y1_7_1, y1_7_2, y1_7_3, y1_7_4)), (R_heapHeapviewportlaw23itemTakeq3 (x1_0a :: x1_0t) x1_1 x1_2 ((y1_7_0a :: y1_7_0t), y1_7_1, y1_7_2, y1_7_3, y1_7_4)), [(1, 0, false), (2, 1, true), (6, 2, false)]⟩), (41, .call ⟨2, [(0, 4, false), (1, 5, true)], (V_viewportref23HeapTakeq3 (x1_3a :: x1_3t) x1_5 x1_4 (y1_8_0, y1_8_1, y1_8_2, y1_8_3, y1_8_4)), (R_viewportref23HeapTakeq3 (x1_3a :: x1_3t) x1_5 x1_4 (y1_8_0, y1_8_1, y1_8_2, y1_8_3, y1_8_4)), [(4, 0, false), (5, 1, true), (8, 2, false)]⟩), (52, .val (.bool false)), (55, .val (.bool false)), (60, .call ⟨2, [(0, 1, false), (1, 2, true)], (V_heapHeapviewportlaw23itemLenq3 (y1_7_0a :: y1_7_0t) y1_7_1 x1_2 ()), (R_heapHeapviewportlaw23itemLenq3 (y1_7_0a :: y1_7_0t) y1_7_1 x1_2 ()), []⟩), (66, .val (.bool false))]) (L := lT []) (wk := ⟨[0, 2, 3, 4, 5], [(0, 0, false), (1, 1, false), (2, 2, true), (3, 3, false), (4, 4, false), (5, 5, true)], 6, 0⟩)
    (ps := [(Value.bool (decide (x1_6 < (((Args.A).length : Nat) : Int)))) = (Value.bool true),
    opIndexAddr P 22 (Value.slice (some ⟨0, 0, some 1⟩) (Args.A).length Args.cA) (Value.int .i64 x1_6) Ax.h0 = some ((Value.pointer (some ⟨0, ((x1_6).toNat * 2), some 1⟩)), Ax.h0),
    opFieldAddr P 35 (Value.pointer (some ⟨0, ((x1_6).toNat * 2), some 1⟩)) 0 Ax.h0 = some ((Value.pointer (some ⟨0, (Nat.add ((x1_6).toNat * 2) 0), some 1⟩)), Ax.h0),
    loadG P 3 (Value.pointer (some ⟨0, (Nat.add ((x1_6).toNat * 2) 0), some 1⟩)) Ax.h0 = some ((Value.int .i64 (((Args.A).getD (x1_6).toNat (0, 0)).1)), Ax.h0),
    G_viewportkitPickq1 (((Args.A).getD (x1_6).toNat (0, 0)).1) 4 y1_3_,
    (Value.bool (y1_3_ == (0 : Int))) = (Value.bool false),
    (Value.bool (y1_3_ == (1 : Int))) = (Value.bool false),
    (Value.bool (y1_3_ == (2 : Int))) = (Value.bool true),
    G_heapHeapviewportlaw23itemTakeq3 (x1_0a :: x1_0t) x1_1 x1_2 ((y1_7_0a :: y1_7_0t), y1_7_1, y1_7_2, y1_7_3, y1_7_4),
    FlatB (.cells (layT (rows rw_iii (x1_0a :: x1_0t))) 55),
    FlatB (.cells (layT (rows rw_iii (y1_7_0a :: y1_7_0t))) 55),
    G_viewportref23HeapTakeq3 (x1_3a :: x1_3t) x1_5 x1_4 (y1_8_0, y1_8_1, y1_8_2, y1_8_3, y1_8_4),
    FlatB (.cells (layT (rows rw_ii (x1_3a :: x1_3t))) 27),
    FlatB (.cells (layT (rows rw_ii (x1_3a :: x1_3t))) 27),
    (Value.bool (!((y1_7_2 == y1_8_2) && ((y1_7_3 == y1_8_3) && true)))) = (Value.bool false),
    (Value.bool (!(y1_7_4 == y1_8_4))) = (Value.bool false),
    G_heapHeapviewportlaw23itemLenq3 (y1_7_0a :: y1_7_0t) y1_7_1 x1_2 (),
    FlatB (.cells (layT (rows rw_iii (y1_7_0a :: y1_7_0t))) 55),
    (Value.bool (((y1_7_1 : Nat) : Int) != ((y1_8_1 : Nat) : Int))) = (Value.bool false),
    FlatB (.cells (layT (rows rw_iii (y1_7_0a :: y1_7_0t))) 55),
    FlatB (.cells (layT (rows rw_ii (x1_3a :: x1_3t))) 27)]) (by kernel_rfl) ⟨(vbT hy1_1), (ixW (e := 35) (by kernel_rfl) (by kernel_rfl) (hy1_2).1 (hy1_2).2), (by kernel_rfl), (ldWS rwf_ii (0, 0) (i := (x1_6).toNat) (q := 0) (L := Args.A) (Nat.add ((x1_6).toNat * 2) 0) rfl rfl (by kernel_rfl) (toNatLt hy1_2) (by decide) rfl), (m_viewportkitPickq1_ok n (((Args.A).getD (x1_6).toNat (0, 0)).1) 4 y1_3_ hy1_3), (veF hy1_4), (veF hy1_5), (veT hy1_6), (m_heapHeapviewportlaw23itemTakeq3_ok n (x1_0a :: x1_0t) x1_1 x1_2 ((y1_7_0a :: y1_7_0t), y1_7_1, y1_7_2, y1_7_3, y1_7_4) hy1_7), (rows_flat rwf_iii _ _), (rows_flat rwf_iii _ _), (m_viewportref23HeapTakeq3_ok n (x1_3a :: x1_3t) x1_5 x1_4 (y1_8_0, y1_8_1, y1_8_2, y1_8_3, y1_8_4) hy1_8), (rows_flat rwf_ii _ _), (rows_flat rwf_ii _ _), (vB (Bool.eq_false_iff.2 hy1_9)), (vNeB (Bool.eq_false_iff.2 hy1_10) (Bool.eq_false_iff.2 hy1_11)), (m_heapHeapviewportlaw23itemLenq3_ok n (y1_7_0a :: y1_7_0t) y1_7_1 x1_2 () hy1_12), (rows_flat rwf_iii _ _), (vnF hy1_13), (rows_flat rwf_iii _ _), (rows_flat rwf_ii _ _), trivial⟩
set_option maxRecDepth 100000 in
theorem q_viewportlaw23HeapScript_1_9 (n : Nat) {rnd : Option Nat} (x1_0a : Int × Int × Int) (x1_0t : List (Int × Int × Int)) (x1_1 : Nat) (x1_2 : Int) (x1_3a : Int × Int) (x1_3t : List (Int × Int)) (x1_4 : Nat) (x1_5 : Nat) (x1_6 : Int) (hy1_1 : x1_6 < (((Args.A).length : Nat) : Int)) (hy1_2 : 0 ≤ x1_6 ∧ x1_6 < (((Args.A).length : Nat) : Int)) (y1_3_ : Int) (hy1_3 : m_viewportkitPickq1 n (((Args.A).getD (x1_6).toNat (0, 0)).1) 4 = some y1_3_) (hy1_4 : ¬ (y1_3_ = (0 : Int))) (hy1_5 : ¬ (y1_3_ = (1 : Int))) (hy1_6 : ¬ (y1_3_ = (2 : Int))) (y1_7_0 : Int) (y1_7_1 : Int) (y1_7_2 : Bool) (hy1_7 : m_heapHeapviewportlaw23itemLeastq3 n (x1_0a :: x1_0t) x1_1 x1_2 = some (y1_7_0, y1_7_1, y1_7_2)) (y1_8_0 : Int) (y1_8_1 : Int) (y1_8_2 : Bool) (hy1_8 : m_viewportref23HeapLeastq3 n (x1_3a :: x1_3t) x1_5 x1_4 = some (y1_8_0, y1_8_1, y1_8_2)) (hy1_9 : ¬ ((!((y1_7_0 == y1_8_0) && ((y1_7_1 == y1_8_1) && true))) = true)) (hy1_10 : y1_7_2 = true) (hy1_11 : y1_8_2 = true) (hy1_12 : m_heapHeapviewportlaw23itemLenq3 n (x1_0a :: x1_0t) x1_1 x1_2 = some ()) (hy1_13 : ((x1_1 : Nat) : Int) = ((x1_4 : Nat) : Int)) : CG P rnd (fnN P 3) 0 (codeOf P 3 [false, false, true, false, true, true, true, true]) (S_viewportlaw23HeapScript_1 ((x1_0a :: x1_0t), x1_1, x1_2, (x1_3a :: x1_3t), x1_4, x1_5, x1_6)) (.normal, S_viewportlaw23HeapScript_1 ((x1_0a :: x1_0t), x1_1, x1_2, (x1_3a :: x1_3t), x1_4, x1_5, (w64 (x1_6 + (1 : Int))))) :=
  runC_ok hm (A := aT [(5, .val (.bool true)), (13, .pur (Value.pointer (some ⟨0, ((x1_6).toNat * 2), some 1⟩))), (14, .pur (Value.pointer (some ⟨0, (Nat.add ((x1_6).toNat * 2) 0), some 1⟩))), (15, .ld (Value.int .i64 (((Args.A).getD (x1_6).toNat (0, 0)).1))), (16, .call ⟨0, [], (V_viewportkitPickq1 (((Args.A).getD (x1_6).toNat (0, 0)).1) 4 y1_3_), (R_viewportkitPickq1 (((Args.A).getD (x1_6).toNat (0, 0)).1) 4 y1_3_), []⟩), (20, .val (.bool false)), (23, .val (.bool false)), (27, .val (.bool false)), (32, .call ⟨2, [(0, 1, false), (1, 2, true)], (V_heapHeapviewportlaw23itemLeastq3 (x1_0a :: x1_0t) x1_1 x1_2 (y1_7_0, y1_7_1, y1_7_2)), (R_heapHeapviewportlaw23itemLeastq3 (x1_0a :: x1_0t) x1_1 x1_2 (y1_7_0, y1_7_1, y1_7_2)), [(6, 2, false)]⟩), (41, .call ⟨2, [(0, 4, false), (1, 5, true)], (V_viewportref23HeapLeastq3 (x1_3a :: x1_3t) x1_5 x1_4 (y1_8_0, y1_8_1, y1_8_2)), (R_viewportref23HeapLeastq3 (x1_3a :: x1_3t) x1_5 x1_4 (y1_8_0, y1_8_1, y1_8_2)), [(8, 2, false)]⟩), (52, .val (.bool false)), (55, .val (.bool false)), (60, .call ⟨2, [(0, 1, false), (1, 2, true)], (V_heapHeapviewportlaw23itemLenq3 (x1_0a :: x1_0t) x1_1 x1_2 ()), (R_heapHeapviewportlaw23itemLenq3 (x1_0a :: x1_0t) x1_1 x1_2 ()), []⟩), (66, .val (.bool false))]) (L := lT []) (wk := ⟨[0, 2, 3, 4, 5], [(0, 0, false), (1, 1, false), (2, 2, true), (3, 3, false), (4, 4, false), (5, 5, true)], 6, 0⟩)
    (ps := [(Value.bool (decide (x1_6 < (((Args.A).length : Nat) : Int)))) = (Value.bool true),
    opIndexAddr P 22 (Value.slice (some ⟨0, 0, some 1⟩) (Args.A).length Args.cA) (Value.int .i64 x1_6) Ax.h0 = some ((Value.pointer (some ⟨0, ((x1_6).toNat * 2), some 1⟩)), Ax.h0),
    opFieldAddr P 35 (Value.pointer (some ⟨0, ((x1_6).toNat * 2), some 1⟩)) 0 Ax.h0 = some ((Value.pointer (some ⟨0, (Nat.add ((x1_6).toNat * 2) 0), some 1⟩)), Ax.h0),
    loadG P 3 (Value.pointer (some ⟨0, (Nat.add ((x1_6).toNat * 2) 0), some 1⟩)) Ax.h0 = some ((Value.int .i64 (((Args.A).getD (x1_6).toNat (0, 0)).1)), Ax.h0),
    G_viewportkitPickq1 (((Args.A).getD (x1_6).toNat (0, 0)).1) 4 y1_3_,
    (Value.bool (y1_3_ == (0 : Int))) = (Value.bool false),
    (Value.bool (y1_3_ == (1 : Int))) = (Value.bool false),
    (Value.bool (y1_3_ == (2 : Int))) = (Value.bool false),
    G_heapHeapviewportlaw23itemLeastq3 (x1_0a :: x1_0t) x1_1 x1_2 (y1_7_0, y1_7_1, y1_7_2),
    FlatB (.cells (layT (rows rw_iii (x1_0a :: x1_0t))) 55),
    G_viewportref23HeapLeastq3 (x1_3a :: x1_3t) x1_5 x1_4 (y1_8_0, y1_8_1, y1_8_2),
    FlatB (.cells (layT (rows rw_ii (x1_3a :: x1_3t))) 27),
    (Value.bool (!((y1_7_0 == y1_8_0) && ((y1_7_1 == y1_8_1) && true)))) = (Value.bool false),
    (Value.bool (!(y1_7_2 == y1_8_2))) = (Value.bool false),
    G_heapHeapviewportlaw23itemLenq3 (x1_0a :: x1_0t) x1_1 x1_2 (),
    FlatB (.cells (layT (rows rw_iii (x1_0a :: x1_0t))) 55),
    (Value.bool (((x1_1 : Nat) : Int) != ((x1_4 : Nat) : Int))) = (Value.bool false),
    FlatB (.cells (layT (rows rw_iii (x1_0a :: x1_0t))) 55),
    FlatB (.cells (layT (rows rw_ii (x1_3a :: x1_3t))) 27)]) (by kernel_rfl) ⟨(vbT hy1_1), (ixW (e := 35) (by kernel_rfl) (by kernel_rfl) (hy1_2).1 (hy1_2).2), (by kernel_rfl), (ldWS rwf_ii (0, 0) (i := (x1_6).toNat) (q := 0) (L := Args.A) (Nat.add ((x1_6).toNat * 2) 0) rfl rfl (by kernel_rfl) (toNatLt hy1_2) (by decide) rfl), (m_viewportkitPickq1_ok n (((Args.A).getD (x1_6).toNat (0, 0)).1) 4 y1_3_ hy1_3), (veF hy1_4), (veF hy1_5), (veF hy1_6), (m_heapHeapviewportlaw23itemLeastq3_ok n (x1_0a :: x1_0t) x1_1 x1_2 (y1_7_0, y1_7_1, y1_7_2) hy1_7), (rows_flat rwf_iii _ _), (m_viewportref23HeapLeastq3_ok n (x1_3a :: x1_3t) x1_5 x1_4 (y1_8_0, y1_8_1, y1_8_2) hy1_8), (rows_flat rwf_ii _ _), (vB (Bool.eq_false_iff.2 hy1_9)), (vNeB hy1_10 hy1_11), (m_heapHeapviewportlaw23itemLenq3_ok n (x1_0a :: x1_0t) x1_1 x1_2 () hy1_12), (rows_flat rwf_iii _ _), (vnF hy1_13), (rows_flat rwf_iii _ _), (rows_flat rwf_ii _ _), trivial⟩
set_option maxRecDepth 100000 in
theorem q_viewportlaw23HeapScript_1_10 (n : Nat) {rnd : Option Nat} (x1_0a : Int × Int × Int) (x1_0t : List (Int × Int × Int)) (x1_1 : Nat) (x1_2 : Int) (x1_3a : Int × Int) (x1_3t : List (Int × Int)) (x1_4 : Nat) (x1_5 : Nat) (x1_6 : Int) (hy1_1 : x1_6 < (((Args.A).length : Nat) : Int)) (hy1_2 : 0 ≤ x1_6 ∧ x1_6 < (((Args.A).length : Nat) : Int)) (y1_3_ : Int) (hy1_3 : m_viewportkitPickq1 n (((Args.A).getD (x1_6).toNat (0, 0)).1) 4 = some y1_3_) (hy1_4 : ¬ (y1_3_ = (0 : Int))) (hy1_5 : ¬ (y1_3_ = (1 : Int))) (hy1_6 : ¬ (y1_3_ = (2 : Int))) (y1_7_0 : Int) (y1_7_1 : Int) (y1_7_2 : Bool) (hy1_7 : m_heapHeapviewportlaw23itemLeastq3 n (x1_0a :: x1_0t) x1_1 x1_2 = some (y1_7_0, y1_7_1, y1_7_2)) (y1_8_0 : Int) (y1_8_1 : Int) (y1_8_2 : Bool) (hy1_8 : m_viewportref23HeapLeastq3 n (x1_3a :: x1_3t) x1_5 x1_4 = some (y1_8_0, y1_8_1, y1_8_2)) (hy1_9 : ¬ ((!((y1_7_0 == y1_8_0) && ((y1_7_1 == y1_8_1) && true))) = true)) (hy1_10 : ¬ (y1_7_2 = true)) (hy1_11 : ¬ (y1_8_2 = true)) (hy1_12 : m_heapHeapviewportlaw23itemLenq3 n (x1_0a :: x1_0t) x1_1 x1_2 = some ()) (hy1_13 : ((x1_1 : Nat) : Int) = ((x1_4 : Nat) : Int)) : CG P rnd (fnN P 3) 0 (codeOf P 3 [false, false, true, false, true, true, true, true]) (S_viewportlaw23HeapScript_1 ((x1_0a :: x1_0t), x1_1, x1_2, (x1_3a :: x1_3t), x1_4, x1_5, x1_6)) (.normal, S_viewportlaw23HeapScript_1 ((x1_0a :: x1_0t), x1_1, x1_2, (x1_3a :: x1_3t), x1_4, x1_5, (w64 (x1_6 + (1 : Int))))) :=
  runC_ok hm (A := aT [(5, .val (.bool true)), (13, .pur (Value.pointer (some ⟨0, ((x1_6).toNat * 2), some 1⟩))), (14, .pur (Value.pointer (some ⟨0, (Nat.add ((x1_6).toNat * 2) 0), some 1⟩))), (15, .ld (Value.int .i64 (((Args.A).getD (x1_6).toNat (0, 0)).1))), (16, .call ⟨0, [], (V_viewportkitPickq1 (((Args.A).getD (x1_6).toNat (0, 0)).1) 4 y1_3_), (R_viewportkitPickq1 (((Args.A).getD (x1_6).toNat (0, 0)).1) 4 y1_3_), []⟩), (20, .val (.bool false)), (23, .val (.bool false)), (27, .val (.bool false)), (32, .call ⟨2, [(0, 1, false), (1, 2, true)], (V_heapHeapviewportlaw23itemLeastq3 (x1_0a :: x1_0t) x1_1 x1_2 (y1_7_0, y1_7_1, y1_7_2)), (R_heapHeapviewportlaw23itemLeastq3 (x1_0a :: x1_0t) x1_1 x1_2 (y1_7_0, y1_7_1, y1_7_2)), [(6, 2, false)]⟩), (41, .call ⟨2, [(0, 4, false), (1, 5, true)], (V_viewportref23HeapLeastq3 (x1_3a :: x1_3t) x1_5 x1_4 (y1_8_0, y1_8_1, y1_8_2)), (R_viewportref23HeapLeastq3 (x1_3a :: x1_3t) x1_5 x1_4 (y1_8_0, y1_8_1, y1_8_2)), [(8, 2, false)]⟩), (52, .val (.bool false)), (55, .val (.bool false)), (60, .call ⟨2, [(0, 1, false), (1, 2, true)], (V_heapHeapviewportlaw23itemLenq3 (x1_0a :: x1_0t) x1_1 x1_2 ()), (R_heapHeapviewportlaw23itemLenq3 (x1_0a :: x1_0t) x1_1 x1_2 ()), []⟩), (66, .val (.bool false))]) (L := lT []) (wk := ⟨[0, 2, 3, 4, 5], [(0, 0, false), (1, 1, false), (2, 2, true), (3, 3, false), (4, 4, false), (5, 5, true)], 6, 0⟩)
    (ps := [(Value.bool (decide (x1_6 < (((Args.A).length : Nat) : Int)))) = (Value.bool true),
    opIndexAddr P 22 (Value.slice (some ⟨0, 0, some 1⟩) (Args.A).length Args.cA) (Value.int .i64 x1_6) Ax.h0 = some ((Value.pointer (some ⟨0, ((x1_6).toNat * 2), some 1⟩)), Ax.h0),
    opFieldAddr P 35 (Value.pointer (some ⟨0, ((x1_6).toNat * 2), some 1⟩)) 0 Ax.h0 = some ((Value.pointer (some ⟨0, (Nat.add ((x1_6).toNat * 2) 0), some 1⟩)), Ax.h0),
    loadG P 3 (Value.pointer (some ⟨0, (Nat.add ((x1_6).toNat * 2) 0), some 1⟩)) Ax.h0 = some ((Value.int .i64 (((Args.A).getD (x1_6).toNat (0, 0)).1)), Ax.h0),
    G_viewportkitPickq1 (((Args.A).getD (x1_6).toNat (0, 0)).1) 4 y1_3_,
    (Value.bool (y1_3_ == (0 : Int))) = (Value.bool false),
    (Value.bool (y1_3_ == (1 : Int))) = (Value.bool false),
    (Value.bool (y1_3_ == (2 : Int))) = (Value.bool false),
    G_heapHeapviewportlaw23itemLeastq3 (x1_0a :: x1_0t) x1_1 x1_2 (y1_7_0, y1_7_1, y1_7_2),
    FlatB (.cells (layT (rows rw_iii (x1_0a :: x1_0t))) 55),
    G_viewportref23HeapLeastq3 (x1_3a :: x1_3t) x1_5 x1_4 (y1_8_0, y1_8_1, y1_8_2),
    FlatB (.cells (layT (rows rw_ii (x1_3a :: x1_3t))) 27),
    (Value.bool (!((y1_7_0 == y1_8_0) && ((y1_7_1 == y1_8_1) && true)))) = (Value.bool false),
    (Value.bool (!(y1_7_2 == y1_8_2))) = (Value.bool false),
    G_heapHeapviewportlaw23itemLenq3 (x1_0a :: x1_0t) x1_1 x1_2 (),
    FlatB (.cells (layT (rows rw_iii (x1_0a :: x1_0t))) 55),
    (Value.bool (((x1_1 : Nat) : Int) != ((x1_4 : Nat) : Int))) = (Value.bool false),
    FlatB (.cells (layT (rows rw_iii (x1_0a :: x1_0t))) 55),
    FlatB (.cells (layT (rows rw_ii (x1_3a :: x1_3t))) 27)]) (by kernel_rfl) ⟨(vbT hy1_1), (ixW (e := 35) (by kernel_rfl) (by kernel_rfl) (hy1_2).1 (hy1_2).2), (by kernel_rfl), (ldWS rwf_ii (0, 0) (i := (x1_6).toNat) (q := 0) (L := Args.A) (Nat.add ((x1_6).toNat * 2) 0) rfl rfl (by kernel_rfl) (toNatLt hy1_2) (by decide) rfl), (m_viewportkitPickq1_ok n (((Args.A).getD (x1_6).toNat (0, 0)).1) 4 y1_3_ hy1_3), (veF hy1_4), (veF hy1_5), (veF hy1_6), (m_heapHeapviewportlaw23itemLeastq3_ok n (x1_0a :: x1_0t) x1_1 x1_2 (y1_7_0, y1_7_1, y1_7_2) hy1_7), (rows_flat rwf_iii _ _), (m_viewportref23HeapLeastq3_ok n (x1_3a :: x1_3t) x1_5 x1_4 (y1_8_0, y1_8_1, y1_8_2) hy1_8), (rows_flat rwf_ii _ _), (vB (Bool.eq_false_iff.2 hy1_9)), (vNeB (Bool.eq_false_iff.2 hy1_10) (Bool.eq_false_iff.2 hy1_11)), (m_heapHeapviewportlaw23itemLenq3_ok n (x1_0a :: x1_0t) x1_1 x1_2 () hy1_12), (rows_flat rwf_iii _ _), (vnF hy1_13), (rows_flat rwf_iii _ _), (rows_flat rwf_ii _ _), trivial⟩
set_option maxRecDepth 100000 in
theorem q_viewportlaw23HeapScript_1_11 (n : Nat) {rnd : Option Nat} (x1_0a : Int × Int × Int) (x1_0t : List (Int × Int × Int)) (x1_1 : Nat) (x1_2 : Int) (x1_3a : Int × Int) (x1_3t : List (Int × Int)) (x1_4 : Nat) (x1_5 : Nat) (x1_6 : Int) (hy1_1 : ¬ (x1_6 < (((Args.A).length : Nat) : Int))) : CG P rnd (fnN P 3) 0 (codeOf P 3 [false, false, true, false, true, true, true, true]) (S_viewportlaw23HeapScript_1 ((x1_0a :: x1_0t), x1_1, x1_2, (x1_3a :: x1_3t), x1_4, x1_5, x1_6)) (X_viewportlaw23HeapScript_1 ((x1_0a :: x1_0t), x1_1, x1_2, (x1_3a :: x1_3t), x1_4, x1_5)) :=
  runC_ok hm (A := aT [(5, .val (.bool false))]) (L := lT []) (wk := ⟨[2, 3, 4], [(0, 0, false), (1, 1, false), (2, 2, true), (3, 3, false), (4, 4, false), (5, 5, true)], 6, 0⟩)
    (ps := [(Value.bool (decide (x1_6 < (((Args.A).length : Nat) : Int)))) = (Value.bool false),
    FlatB (.cells (layT (rows rw_iii (x1_0a :: x1_0t))) 55),
    FlatB (.cells (layT (rows rw_ii (x1_3a :: x1_3t))) 27)]) (by kernel_rfl) ⟨(vbF hy1_1), (rows_flat rwf_iii _ _), (rows_flat rwf_ii _ _), trivial⟩
theorem m_viewportlaw23HeapScript_1_ok (n : Nat) {rnd : Option Nat} (st : List (Int × Int × Int) × Nat × Int × List (Int × Int) × Nat × Nat × Int) (r : List (Int × Int × Int) × Nat × Int × List (Int × Int) × Nat × Nat) (h : m_viewportlaw23HeapScript_1 n st = some r) : CG P rnd (fnN P 3) 0 (codeOf P 3 [false, true, false, true, true, true, true]) (S_viewportlaw23HeapScript_1 st) (X_viewportlaw23HeapScript_1 r) :=
  CG.iter (b := codeOf P 3 [false, false, true, false, true, true, true, true]) (by kernel_rfl) (body := B_viewportlaw23HeapScript_1 n) (S := S_viewportlaw23HeapScript_1) (X := X_viewportlaw23HeapScript_1)
    (fun s s' h => by
    obtain ⟨x1_0, x1_1, x1_2, x1_3, x1_4, x1_5, x1_6⟩ := s
    unfold B_viewportlaw23HeapScript_1 at h
    dsimp only at h
    cases x1_0 with
    | nil =>
      dsimp only at h
      cases x1_3 with
      | nil =>
        dsimp only at h
        by_cases hy1_1 : x1_6 < (((Args.A).length : Nat) : Int)
        · rw [if_pos hy1_1] at h
          by_cases hy1_2 : 0 ≤ x1_6 ∧ x1_6 < (((Args.A).length : Nat) : Int)
          · rw [if_pos hy1_2] at h
            obtain ⟨y1_3_, hy1_3, h⟩ := Option.bind_eq_some_iff.1 h
            by_cases hy1_4 : y1_3_ = (0 : Int)
            · rw [if_pos hy1_4] at h
              obtain ⟨_, hy1_5, h⟩ := Option.bind_eq_some_iff.1 h
              obtain ⟨y1_6_, hy1_6, h⟩ := Option.bind_eq_some_iff.1 h
              cases y1_6_ with
              | nil =>
                dsimp only at h
                cases h
              | cons y1_6_a y1_6_t =>
                dsimp only at h
                obtain ⟨_, hy1_7, h⟩ := Option.bind_eq_some_iff.1 h
                obtain ⟨_, hy1_8, h⟩ := Option.bind_eq_some_iff.1 h
                obtain ⟨_, hy1_9, h⟩ := Option.bind_eq_some_iff.1 h
                obtain rfl := Sum.inl.inj (Option.some.inj h); exact q_viewportlaw23HeapScript_1_0 n x1_1 x1_2 x1_4 x1_5 x1_6 hy1_1 hy1_2 y1_3_ hy1_3 hy1_4 hy1_5 y1_6_a y1_6_t hy1_6 hy1_7 hy1_8 hy1_9
            · rw [if_neg hy1_4] at h
              by_cases hy1_5 : y1_3_ = (1 : Int)
              · rw [if_pos hy1_5] at h
                obtain ⟨_, hy1_6, h⟩ := Option.bind_eq_some_iff.1 h
                obtain ⟨y1_7_, hy1_7, h⟩ := Option.bind_eq_some_iff.1 h
                cases y1_7_ with
                | nil =>
                  dsimp only at h
                  cases h
                | cons y1_7_a y1_7_t =>
                  dsimp only at h
                  obtain ⟨_, hy1_8, h⟩ := Option.bind_eq_some_iff.1 h
                  obtain ⟨_, hy1_9, h⟩ := Option.bind_eq_some_iff.1 h
                  obtain ⟨_, hy1_10, h⟩ := Option.bind_eq_some_iff.1 h
                  obtain rfl := Sum.inl.inj (Option.some.inj h); exact q_viewportlaw23HeapScript_1_1 n x1_1 x1_2 x1_4 x1_5 x1_6 hy1_1 hy1_2 y1_3_ hy1_3 hy1_4 hy1_5 hy1_6 y1_7_a y1_7_t hy1_7 hy1_8 hy1_9 hy1_10
              · rw [if_neg hy1_5] at h
                by_cases hy1_6 : y1_3_ = (2 : Int)
                · rw [if_pos hy1_6] at h
                  obtain ⟨_, hy1_7, h⟩ := Option.bind_eq_some_iff.1 h
                  obtain ⟨_, hy1_8, h⟩ := Option.bind_eq_some_iff.1 h
                  by_cases hy1_9 : (!(true && (true && true))) = true
                  · rw [if_pos hy1_9] at h
                    cases h
                  · rw [if_neg hy1_9] at h
                    obtain ⟨_, hy1_10, h⟩ := Option.bind_eq_some_iff.1 h
                    obtain rfl := Sum.inl.inj (Option.some.inj h); exact q_viewportlaw23HeapScript_1_2 n x1_1 x1_2 x1_4 x1_5 x1_6 hy1_1 hy1_2 y1_3_ hy1_3 hy1_4 hy1_5 hy1_6 hy1_7 hy1_8 hy1_9 hy1_10
                · rw [if_neg hy1_6] at h
                  obtain ⟨_, hy1_7, h⟩ := Option.bind_eq_some_iff.1 h
                  obtain ⟨_, hy1_8, h⟩ := Option.bind_eq_some_iff.1 h
                  by_cases hy1_9 : (!(true && (true && true))) = true
                  · rw [if_pos hy1_9] at h
                    cases h
                  · rw [if_neg hy1_9] at h
                    obtain ⟨_, hy1_10, h⟩ := Option.bind_eq_some_iff.1 h
                    obtain rfl := Sum.inl.inj (Option.some.inj h); exact q_viewportlaw23HeapScript_1_3 n x1_1 x1_2 x1_4 x1_5 x1_6 hy1_1 hy1_2 y1_3_ hy1_3 hy1_4 hy1_5 hy1_6 hy1_7 hy1_8 hy1_9 hy1_10
          · rw [if_neg hy1_2] at h; cases h
        · rw [if_neg hy1_1] at h
          cases h
      | cons x1_3a x1_3t =>
        dsimp only at h
        cases h
    | cons x1_0a x1_0t =>
      dsimp only at h
      cases x1_3 with
      | nil =>
        dsimp only at h
        cases h
      | cons x1_3a x1_3t =>
        dsimp only at h
        by_cases hy1_1 : x1_6 < (((Args.A).length : Nat) : Int)
        · rw [if_pos hy1_1] at h
          by_cases hy1_2 : 0 ≤ x1_6 ∧ x1_6 < (((Args.A).length : Nat) : Int)
          · rw [if_pos hy1_2] at h
            obtain ⟨y1_3_, hy1_3, h⟩ := Option.bind_eq_some_iff.1 h
            by_cases hy1_4 : y1_3_ = (0 : Int)
            · rw [if_pos hy1_4] at h
              obtain ⟨_, hy1_5, h⟩ := Option.bind_eq_some_iff.1 h
              obtain ⟨⟨y1_6_0, y1_6_1⟩, hy1_6, h⟩ := Option.bind_eq_some_iff.1 h
              dsimp only at h
              cases y1_6_0 with
              | nil =>
                dsimp only at h
                cases h
              | cons y1_6_0a y1_6_0t =>
                dsimp only at h
                obtain ⟨_, hy1_7, h⟩ := Option.bind_eq_some_iff.1 h
                obtain ⟨y1_8_, hy1_8, h⟩ := Option.bind_eq_some_iff.1 h
                cases y1_8_ with
                | nil =>
                  dsimp only at h
                  cases h
                | cons y1_8_a y1_8_t =>
                  dsimp only at h
                  obtain ⟨_, hy1_9, h⟩ := Option.bind_eq_some_iff.1 h
                  by_cases hy1_10 : ((y1_6_1 : Nat) : Int) = ((((y1_8_a :: y1_8_t)).length : Nat) : Int)
                  · rw [if_pos hy1_10] at h
                    obtain rfl := Sum.inl.inj (Option.some.inj h); exact q_viewportlaw23HeapScript_1_5 n x1_0a x1_0t x1_1 x1_2 x1_3a x1_3t x1_4 x1_5 x1_6 hy1_1 hy1_2 y1_3_ hy1_3 hy1_4 hy1_5 y1_6_0a y1_6_0t y1_6_1 hy1_6 hy1_7 y1_8_a y1_8_t hy1_8 hy1_9 hy1_10
                  · rw [if_neg hy1_10] at h
                    cases h
            · rw [if_neg hy1_4] at h
              by_cases hy1_5 : y1_3_ = (1 : Int)
              · rw [if_pos hy1_5] at h
                obtain ⟨_, hy1_6, h⟩ := Option.bind_eq_some_iff.1 h
                obtain ⟨⟨y1_7_0, y1_7_1⟩, hy1_7, h⟩ := Option.bind_eq_some_iff.1 h
                dsimp only at h
                cases y1_7_0 with
                | nil =>
                  dsimp only at h
                  cases h
                | cons y1_7_0a y1_7_0t =>
                  dsimp only at h
                  obtain ⟨_, hy1_8, h⟩ := Option.bind_eq_some_iff.1 h
                  obtain ⟨y1_9_, hy1_9, h⟩ := Option.bind_eq_some_iff.1 h
                  cases y1_9_ with
                  | nil =>
                    dsimp only at h
                    cases h
                  | cons y1_9_a y1_9_t =>
                    dsimp only at h
                    obtain ⟨_, hy1_10, h⟩ := Option.bind_eq_some_iff.1 h
                    by_cases hy1_11 : ((y1_7_1 : Nat) : Int) = ((((y1_9_a :: y1_9_t)).length : Nat) : Int)
                    · rw [if_pos hy1_11] at h
                      obtain rfl := Sum.inl.inj (Option.some.inj h); exact q_viewportlaw23HeapScript_1_6 n x1_0a x1_0t x1_1 x1_2 x1_3a x1_3t x1_4 x1_5 x1_6 hy1_1 hy1_2 y1_3_ hy1_3 hy1_4 hy1_5 hy1_6 y1_7_0a y1_7_0t y1_7_1 hy1_7 hy1_8 y1_9_a y1_9_t hy1_9 hy1_10 hy1_11
                    · rw [if_neg hy1_11] at h
                      cases h
              · rw [if_neg hy1_5] at h
                by_cases hy1_6 : y1_3_ = (2 : Int)
                · rw [if_pos hy1_6] at h
                  obtain ⟨⟨y1_7_0, y1_7_1, y1_7_2, y1_7_3, y1_7_4⟩, hy1_7, h⟩ := Option.bind_eq_some_iff.1 h
                  dsimp only at h
                  cases y1_7_0 with
                  | nil =>
                    dsimp only at h
                    cases h
                  | cons y1_7_0a y1_7_0t =>
                    dsimp only at h
                    obtain ⟨⟨y1_8_0, y1_8_1, y1_8_2, y1_8_3, y1_8_4⟩, hy1_8, h⟩ := Option.bind_eq_some_iff.1 h
                    dsimp only at h
                    by_cases hy1_9 : (!((y1_7_2 == y1_8_2) && ((y1_7_3 == y1_8_3) && true))) = true
                    · rw [if_pos hy1_9] at h
                      cases h
                    · rw [if_neg hy1_9] at h
                      by_cases hy1_10 : y1_7_4 = true
                      · rw [if_pos hy1_10] at h
                        by_cases hy1_11 : y1_8_4 = true
                        · rw [if_pos hy1_11] at h
                          obtain ⟨_, hy1_12, h⟩ := Option.bind_eq_some_iff.1 h
                          by_cases hy1_13 : ((y1_7_1 : Nat) : Int) = ((y1_8_1 : Nat) : Int)
                          · rw [if_pos hy1_13] at h
                            obtain rfl := Sum.inl.inj (Option.some.inj h); exact q_viewportlaw23HeapScript_1_7 n x1_0a x1_0t x1_1 x1_2 x1_3a x1_3t x1_4 x1_5 x1_6 hy1_1 hy1_2 y1_3_ hy1_3 hy1_4 hy1_5 hy1_6 y1_7_0a y1_7_0t y1_7_1 y1_7_2 y1_7_3 y1_7_4 hy1_7 y1_8_0 y1_8_1 y1_8_2 y1_8_3 y1_8_4 hy1_8 hy1_9 hy1_10 hy1_11 hy1_12 hy1_13
                          · rw [if_neg hy1_13] at h
                            cases h
                        · rw [if_neg hy1_11] at h
                          cases h
                      · rw [if_neg hy1_10] at h
                        by_cases hy1_11 : y1_8_4 = true
                        · rw [if_pos hy1_11] at h
                          cases h
                        · rw [if_neg hy1_11] at h
                          obtain ⟨_, hy1_12, h⟩ := Option.bind_eq_some_iff.1 h
                          by_cases hy1_13 : ((y1_7_1 : Nat) : Int) = ((y1_8_1 : Nat) : Int)
                          · rw [if_pos hy1_13] at h
                            obtain rfl := Sum.inl.inj (Option.some.inj h); exact q_viewportlaw23HeapScript_1_8 n x1_0a x1_0t x1_1 x1_2 x1_3a x1_3t x1_4 x1_5 x1_6 hy1_1 hy1_2 y1_3_ hy1_3 hy1_4 hy1_5 hy1_6 y1_7_0a y1_7_0t y1_7_1 y1_7_2 y1_7_3 y1_7_4 hy1_7 y1_8_0 y1_8_1 y1_8_2 y1_8_3 y1_8_4 hy1_8 hy1_9 hy1_10 hy1_11 hy1_12 hy1_13
                          · rw [if_neg hy1_13] at h
                            cases h
                · rw [if_neg hy1_6] at h
                  obtain ⟨⟨y1_7_0, y1_7_1, y1_7_2⟩, hy1_7, h⟩ := Option.bind_eq_some_iff.1 h
                  dsimp only at h
                  obtain ⟨⟨y1_8_0, y1_8_1, y1_8_2⟩, hy1_8, h⟩ := Option.bind_eq_some_iff.1 h
                  dsimp only at h
                  by_cases hy1_9 : (!((y1_7_0 == y1_8_0) && ((y1_7_1 == y1_8_1) && true))) = true
                  · rw [if_pos hy1_9] at h
                    cases h
                  · rw [if_neg hy1_9] at h
                    by_cases hy1_10 : y1_7_2 = true
                    · rw [if_pos hy1_10] at h
                      by_cases hy1_11 : y1_8_2 = true
                      · rw [if_pos hy1_11] at h
                        obtain ⟨_, hy1_12, h⟩ := Option.bind_eq_some_iff.1 h
                        by_cases hy1_13 : ((x1_1 : Nat) : Int) = ((x1_4 : Nat) : Int)
                        · rw [if_pos hy1_13] at h
                          obtain rfl := Sum.inl.inj (Option.some.inj h); exact q_viewportlaw23HeapScript_1_9 n x1_0a x1_0t x1_1 x1_2 x1_3a x1_3t x1_4 x1_5 x1_6 hy1_1 hy1_2 y1_3_ hy1_3 hy1_4 hy1_5 hy1_6 y1_7_0 y1_7_1 y1_7_2 hy1_7 y1_8_0 y1_8_1 y1_8_2 hy1_8 hy1_9 hy1_10 hy1_11 hy1_12 hy1_13
                        · rw [if_neg hy1_13] at h
                          cases h
                      · rw [if_neg hy1_11] at h
                        cases h
                    · rw [if_neg hy1_10] at h
                      by_cases hy1_11 : y1_8_2 = true
                      · rw [if_pos hy1_11] at h
                        cases h
                      · rw [if_neg hy1_11] at h
                        obtain ⟨_, hy1_12, h⟩ := Option.bind_eq_some_iff.1 h
                        by_cases hy1_13 : ((x1_1 : Nat) : Int) = ((x1_4 : Nat) : Int)
                        · rw [if_pos hy1_13] at h
                          obtain rfl := Sum.inl.inj (Option.some.inj h); exact q_viewportlaw23HeapScript_1_10 n x1_0a x1_0t x1_1 x1_2 x1_3a x1_3t x1_4 x1_5 x1_6 hy1_1 hy1_2 y1_3_ hy1_3 hy1_4 hy1_5 hy1_6 y1_7_0 y1_7_1 y1_7_2 hy1_7 y1_8_0 y1_8_1 y1_8_2 hy1_8 hy1_9 hy1_10 hy1_11 hy1_12 hy1_13
                        · rw [if_neg hy1_13] at h
                          cases h
          · rw [if_neg hy1_2] at h; cases h
        · rw [if_neg hy1_1] at h
          cases h)
    (fun s r h => by
    obtain ⟨x1_0, x1_1, x1_2, x1_3, x1_4, x1_5, x1_6⟩ := s
    unfold B_viewportlaw23HeapScript_1 at h
    dsimp only at h
    cases x1_0 with
    | nil =>
      dsimp only at h
      cases x1_3 with
      | nil =>
        dsimp only at h
        by_cases hy1_1 : x1_6 < (((Args.A).length : Nat) : Int)
        · rw [if_pos hy1_1] at h
          by_cases hy1_2 : 0 ≤ x1_6 ∧ x1_6 < (((Args.A).length : Nat) : Int)
          · rw [if_pos hy1_2] at h
            obtain ⟨y1_3_, hy1_3, h⟩ := Option.bind_eq_some_iff.1 h
            by_cases hy1_4 : y1_3_ = (0 : Int)
            · rw [if_pos hy1_4] at h
              obtain ⟨_, hy1_5, h⟩ := Option.bind_eq_some_iff.1 h
              obtain ⟨y1_6_, hy1_6, h⟩ := Option.bind_eq_some_iff.1 h
              cases y1_6_ with
              | nil =>
                dsimp only at h
                cases h
              | cons y1_6_a y1_6_t =>
                dsimp only at h
                obtain ⟨_, hy1_7, h⟩ := Option.bind_eq_some_iff.1 h
                obtain ⟨_, hy1_8, h⟩ := Option.bind_eq_some_iff.1 h
                obtain ⟨_, hy1_9, h⟩ := Option.bind_eq_some_iff.1 h
                cases h
            · rw [if_neg hy1_4] at h
              by_cases hy1_5 : y1_3_ = (1 : Int)
              · rw [if_pos hy1_5] at h
                obtain ⟨_, hy1_6, h⟩ := Option.bind_eq_some_iff.1 h
                obtain ⟨y1_7_, hy1_7, h⟩ := Option.bind_eq_some_iff.1 h
                cases y1_7_ with
                | nil =>
                  dsimp only at h
                  cases h
                | cons y1_7_a y1_7_t =>
                  dsimp only at h
                  obtain ⟨_, hy1_8, h⟩ := Option.bind_eq_some_iff.1 h
                  obtain ⟨_, hy1_9, h⟩ := Option.bind_eq_some_iff.1 h
                  obtain ⟨_, hy1_10, h⟩ := Option.bind_eq_some_iff.1 h
                  cases h
              · rw [if_neg hy1_5] at h
                by_cases hy1_6 : y1_3_ = (2 : Int)
                · rw [if_pos hy1_6] at h
                  obtain ⟨_, hy1_7, h⟩ := Option.bind_eq_some_iff.1 h
                  obtain ⟨_, hy1_8, h⟩ := Option.bind_eq_some_iff.1 h
                  by_cases hy1_9 : (!(true && (true && true))) = true
                  · rw [if_pos hy1_9] at h
                    cases h
                  · rw [if_neg hy1_9] at h
                    obtain ⟨_, hy1_10, h⟩ := Option.bind_eq_some_iff.1 h
                    cases h
                · rw [if_neg hy1_6] at h
                  obtain ⟨_, hy1_7, h⟩ := Option.bind_eq_some_iff.1 h
                  obtain ⟨_, hy1_8, h⟩ := Option.bind_eq_some_iff.1 h
                  by_cases hy1_9 : (!(true && (true && true))) = true
                  · rw [if_pos hy1_9] at h
                    cases h
                  · rw [if_neg hy1_9] at h
                    obtain ⟨_, hy1_10, h⟩ := Option.bind_eq_some_iff.1 h
                    cases h
          · rw [if_neg hy1_2] at h; cases h
        · rw [if_neg hy1_1] at h
          obtain rfl := Sum.inr.inj (Option.some.inj h); exact q_viewportlaw23HeapScript_1_4 n x1_1 x1_2 x1_4 x1_5 x1_6 hy1_1
      | cons x1_3a x1_3t =>
        dsimp only at h
        cases h
    | cons x1_0a x1_0t =>
      dsimp only at h
      cases x1_3 with
      | nil =>
        dsimp only at h
        cases h
      | cons x1_3a x1_3t =>
        dsimp only at h
        by_cases hy1_1 : x1_6 < (((Args.A).length : Nat) : Int)
        · rw [if_pos hy1_1] at h
          by_cases hy1_2 : 0 ≤ x1_6 ∧ x1_6 < (((Args.A).length : Nat) : Int)
          · rw [if_pos hy1_2] at h
            obtain ⟨y1_3_, hy1_3, h⟩ := Option.bind_eq_some_iff.1 h
            by_cases hy1_4 : y1_3_ = (0 : Int)
            · rw [if_pos hy1_4] at h
              obtain ⟨_, hy1_5, h⟩ := Option.bind_eq_some_iff.1 h
              obtain ⟨⟨y1_6_0, y1_6_1⟩, hy1_6, h⟩ := Option.bind_eq_some_iff.1 h
              dsimp only at h
              cases y1_6_0 with
              | nil =>
                dsimp only at h
                cases h
              | cons y1_6_0a y1_6_0t =>
                dsimp only at h
                obtain ⟨_, hy1_7, h⟩ := Option.bind_eq_some_iff.1 h
                obtain ⟨y1_8_, hy1_8, h⟩ := Option.bind_eq_some_iff.1 h
                cases y1_8_ with
                | nil =>
                  dsimp only at h
                  cases h
                | cons y1_8_a y1_8_t =>
                  dsimp only at h
                  obtain ⟨_, hy1_9, h⟩ := Option.bind_eq_some_iff.1 h
                  by_cases hy1_10 : ((y1_6_1 : Nat) : Int) = ((((y1_8_a :: y1_8_t)).length : Nat) : Int)
                  · rw [if_pos hy1_10] at h
                    cases h
                  · rw [if_neg hy1_10] at h
                    cases h
            · rw [if_neg hy1_4] at h
              by_cases hy1_5 : y1_3_ = (1 : Int)
              · rw [if_pos hy1_5] at h
                obtain ⟨_, hy1_6, h⟩ := Option.bind_eq_some_iff.1 h
                obtain ⟨⟨y1_7_0, y1_7_1⟩, hy1_7, h⟩ := Option.bind_eq_some_iff.1 h
                dsimp only at h
                cases y1_7_0 with
                | nil =>
                  dsimp only at h
                  cases h
                | cons y1_7_0a y1_7_0t =>
                  dsimp only at h
                  obtain ⟨_, hy1_8, h⟩ := Option.bind_eq_some_iff.1 h
                  obtain ⟨y1_9_, hy1_9, h⟩ := Option.bind_eq_some_iff.1 h
                  cases y1_9_ with
                  | nil =>
                    dsimp only at h
                    cases h
                  | cons y1_9_a y1_9_t =>
                    dsimp only at h
                    obtain ⟨_, hy1_10, h⟩ := Option.bind_eq_some_iff.1 h
                    by_cases hy1_11 : ((y1_7_1 : Nat) : Int) = ((((y1_9_a :: y1_9_t)).length : Nat) : Int)
                    · rw [if_pos hy1_11] at h
                      cases h
                    · rw [if_neg hy1_11] at h
                      cases h
              · rw [if_neg hy1_5] at h
                by_cases hy1_6 : y1_3_ = (2 : Int)
                · rw [if_pos hy1_6] at h
                  obtain ⟨⟨y1_7_0, y1_7_1, y1_7_2, y1_7_3, y1_7_4⟩, hy1_7, h⟩ := Option.bind_eq_some_iff.1 h
                  dsimp only at h
                  cases y1_7_0 with
                  | nil =>
                    dsimp only at h
                    cases h
                  | cons y1_7_0a y1_7_0t =>
                    dsimp only at h
                    obtain ⟨⟨y1_8_0, y1_8_1, y1_8_2, y1_8_3, y1_8_4⟩, hy1_8, h⟩ := Option.bind_eq_some_iff.1 h
                    dsimp only at h
                    by_cases hy1_9 : (!((y1_7_2 == y1_8_2) && ((y1_7_3 == y1_8_3) && true))) = true
                    · rw [if_pos hy1_9] at h
                      cases h
                    · rw [if_neg hy1_9] at h
                      by_cases hy1_10 : y1_7_4 = true
                      · rw [if_pos hy1_10] at h
                        by_cases hy1_11 : y1_8_4 = true
                        · rw [if_pos hy1_11] at h
                          obtain ⟨_, hy1_12, h⟩ := Option.bind_eq_some_iff.1 h
                          by_cases hy1_13 : ((y1_7_1 : Nat) : Int) = ((y1_8_1 : Nat) : Int)
                          · rw [if_pos hy1_13] at h
                            cases h
                          · rw [if_neg hy1_13] at h
                            cases h
                        · rw [if_neg hy1_11] at h
                          cases h
                      · rw [if_neg hy1_10] at h
                        by_cases hy1_11 : y1_8_4 = true
                        · rw [if_pos hy1_11] at h
                          cases h
                        · rw [if_neg hy1_11] at h
                          obtain ⟨_, hy1_12, h⟩ := Option.bind_eq_some_iff.1 h
                          by_cases hy1_13 : ((y1_7_1 : Nat) : Int) = ((y1_8_1 : Nat) : Int)
                          · rw [if_pos hy1_13] at h
                            cases h
                          · rw [if_neg hy1_13] at h
                            cases h
                · rw [if_neg hy1_6] at h
                  obtain ⟨⟨y1_7_0, y1_7_1, y1_7_2⟩, hy1_7, h⟩ := Option.bind_eq_some_iff.1 h
                  dsimp only at h
                  obtain ⟨⟨y1_8_0, y1_8_1, y1_8_2⟩, hy1_8, h⟩ := Option.bind_eq_some_iff.1 h
                  dsimp only at h
                  by_cases hy1_9 : (!((y1_7_0 == y1_8_0) && ((y1_7_1 == y1_8_1) && true))) = true
                  · rw [if_pos hy1_9] at h
                    cases h
                  · rw [if_neg hy1_9] at h
                    by_cases hy1_10 : y1_7_2 = true
                    · rw [if_pos hy1_10] at h
                      by_cases hy1_11 : y1_8_2 = true
                      · rw [if_pos hy1_11] at h
                        obtain ⟨_, hy1_12, h⟩ := Option.bind_eq_some_iff.1 h
                        by_cases hy1_13 : ((x1_1 : Nat) : Int) = ((x1_4 : Nat) : Int)
                        · rw [if_pos hy1_13] at h
                          cases h
                        · rw [if_neg hy1_13] at h
                          cases h
                      · rw [if_neg hy1_11] at h
                        cases h
                    · rw [if_neg hy1_10] at h
                      by_cases hy1_11 : y1_8_2 = true
                      · rw [if_pos hy1_11] at h
                        cases h
                      · rw [if_neg hy1_11] at h
                        obtain ⟨_, hy1_12, h⟩ := Option.bind_eq_some_iff.1 h
                        by_cases hy1_13 : ((x1_1 : Nat) : Int) = ((x1_4 : Nat) : Int)
                        · rw [if_pos hy1_13] at h
                          cases h
                        · rw [if_neg hy1_13] at h
                          cases h
          · rw [if_neg hy1_2] at h; cases h
        · rw [if_neg hy1_1] at h
          obtain rfl := Sum.inr.inj (Option.some.inj h); exact q_viewportlaw23HeapScript_1_11 n x1_0a x1_0t x1_1 x1_2 x1_3a x1_3t x1_4 x1_5 x1_6 hy1_1)
    (fun r => by intro hx; cases hx) h
noncomputable def A_viewportlaw23HeapScript : List Value := [(Value.slice (some ⟨0, 0, some 1⟩) (Args.A).length Args.cA)]
noncomputable def H_viewportlaw23HeapScript : AH := ⟨sB [], 0, 0⟩
noncomputable def V_viewportlaw23HeapScript (r : (Unit) ⊕ (Unit)) : Value := match r with
  | .inl _ => (Value.bool true)
  | .inr _ => (Value.bool true)
noncomputable def R_viewportlaw23HeapScript (r : (Unit) ⊕ (Unit)) : AH := match r with
  | .inl _ => ⟨sB [(0, (some (.cells (layT [(Value.bool true)]) 4)))], 1, 0⟩
  | .inr _ => ⟨sB [(0, (some (.marks false))), (1, (some (.cells (layT [(Value.bool true)]) 4)))], 2, 0⟩
noncomputable abbrev G_viewportlaw23HeapScript  (r : (Unit) ⊕ (Unit)) : Prop := Gv P (.func 3) (A_viewportlaw23HeapScript ) (H_viewportlaw23HeapScript ) (V_viewportlaw23HeapScript  r) (R_viewportlaw23HeapScript  r)
def m_viewportlaw23HeapScript (n : Nat) : Option ((Unit) ⊕ (Unit)) :=
  (m_viewportlaw23lives n).bind fun _ =>
  if (((Args.A).length : Nat) : Int) > (200 : Int) then
    some (.inl ())
  else
    (m_heapNewviewportref23Itemq1 n).bind fun _ =>
    (m_viewportlaw23HeapScript_1 n (([] : List (Int × Int × Int)), 0, 0, ([] : List (Int × Int)), 0, 0, 0)).bind fun t => match t with
    | (c4_0, c4_1, c4_2, c4_3, c4_4, c4_5) =>
      match c4_0 with
      | [] =>
        match c4_3 with
        | [] =>
          (m_heapHeapviewportlaw23itemAllq1 n c4_2).bind fun _ =>
          (m_heapHeapviewportlaw23itemAll1q1 n false c4_2 0).bind fun _ =>
          (m_heapHeapviewportlaw23itemLenq2 n c4_2).bind fun _ =>
          some (.inr ())
        | c4_3a :: c4_3t =>
          none
      | c4_0a :: c4_0t =>
        match c4_3 with
        | [] =>
          none
        | c4_3a :: c4_3t =>
          (m_heapHeapviewportlaw23itemAllq2 n (c4_0a :: c4_0t) c4_1 c4_2).bind fun _ =>
          (m_heapHeapviewportlaw23itemAll1q2 n false (c4_0a :: c4_0t) c4_1 c4_2 (c4_3a :: c4_3t) c4_5 c4_4 0).bind fun c6_ =>
          if c6_ = ((c4_4 : Nat) : Int) then
            (m_heapHeapviewportlaw23itemLenq3 n (c4_0a :: c4_0t) c4_1 c4_2).bind fun _ =>
            if ((c4_1 : Nat) : Int) = c6_ then
              some (.inr ())
            else
              none
          else
            none
set_option maxRecDepth 100000 in
theorem p_viewportlaw23HeapScript_0 (n : Nat) (hc1 : m_viewportlaw23lives n = some ()) (hc2 : (((Args.A).length : Nat) : Int) > (200 : Int)) : G_viewportlaw23HeapScript  (.inl ()) :=
  runF_ok hm (A := aT [(4, .call ⟨0, [], (Value.bool true), Ax.h0, []⟩), (11, .val (.bool true))]) (L := lT []) (wk := ⟨[2], [(0, 0, false)], 1, 0⟩)
    (ps := [Gv P (.func 6) [] Ax.h0 (Value.bool true) Ax.h0,
    (Value.bool (decide ((((Args.A).length : Nat) : Int) > (200 : Int)))) = (Value.bool true)]) (by kernel_rfl) ⟨(m_viewportlaw23lives_ok n () hc1), (vbT hc2), trivial⟩
set_option maxRecDepth 100000 in
theorem p_viewportlaw23HeapScript_1 (n : Nat) (hc1 : m_viewportlaw23lives n = some ()) (hc2 : ¬ ((((Args.A).length : Nat) : Int) > (200 : Int))) (hc3 : m_heapNewviewportref23Itemq1 n = some ()) (c4_1 : Nat) (c4_2 : Int) (c4_4 : Nat) (c4_5 : Nat) (hc4 : m_viewportlaw23HeapScript_1 n (([] : List (Int × Int × Int)), 0, 0, ([] : List (Int × Int)), 0, 0, 0) = some ([], c4_1, c4_2, [], c4_4, c4_5)) (hc5 : m_heapHeapviewportlaw23itemAllq1 n c4_2 = some ()) (hc6 : m_heapHeapviewportlaw23itemAll1q1 n false c4_2 0 = some ()) (hc7 : m_heapHeapviewportlaw23itemLenq2 n c4_2 = some ()) : G_viewportlaw23HeapScript  (.inr ()) :=
  runF_ok hm (A := aT [(4, .call ⟨0, [], (Value.bool true), Ax.h0, []⟩), (11, .val (.bool false)), (14, .call ⟨0, [], (V_heapNewviewportref23Itemq1  ()), (R_heapNewviewportref23Itemq1  ()), [(1, 0, false)]⟩), (27, .call ⟨1, [(0, 1, false)], (V_heapHeapviewportlaw23itemAllq1 c4_2 ()), (R_heapHeapviewportlaw23itemAllq1 c4_2 ()), [(1, 0, false), (6, 1, false)]⟩), (41, .rng ⟨8, [(0, 9, false), (1, 8, false), (2, 0, false), (3, 1, false), (4, 3, false), (5, 4, false), (6, 7, false), (7, 6, false)], (V_heapHeapviewportlaw23itemAll1q1 false c4_2 0 ()), (R_heapHeapviewportlaw23itemAll1q1 false c4_2 0 ()), []⟩ [2, 3, 4, 15, 108]), (52, .call ⟨1, [(0, 1, false)], (V_heapHeapviewportlaw23itemLenq2 c4_2 ()), (R_heapHeapviewportlaw23itemLenq2 c4_2 ()), []⟩)]) (L := lT [(24, ⟨⟨[0, 2, 3, 4, 5], [(0, 0, false), (1, 1, false), (3, 3, false), (4, 2, false)], 6, 0⟩, (X_viewportlaw23HeapScript_1 (([] : List (Int × Int × Int)), c4_1, c4_2, ([] : List (Int × Int)), c4_4, c4_5)).1, (X_viewportlaw23HeapScript_1 (([] : List (Int × Int × Int)), c4_1, c4_2, ([] : List (Int × Int)), c4_4, c4_5)).2⟩)]) (wk := ⟨[2], [(0, 8, false), (1, 0, false)], 2, 0⟩)
    (ps := [Gv P (.func 6) [] Ax.h0 (Value.bool true) Ax.h0,
    (Value.bool (decide ((((Args.A).length : Nat) : Int) > (200 : Int)))) = (Value.bool false),
    G_heapNewviewportref23Itemq1  (),
    CG P none (fnN P 3) 0 (codeOf P 3 [false, true, false, true, true, true, true]) (S_viewportlaw23HeapScript_1 (([] : List (Int × Int × Int)), 0, 0, ([] : List (Int × Int)), 0, 0, 0)) (X_viewportlaw23HeapScript_1 (([] : List (Int × Int × Int)), c4_1, c4_2, ([] : List (Int × Int)), c4_4, c4_5)),
    G_heapHeapviewportlaw23itemAllq1 c4_2 (),
    G_heapHeapviewportlaw23itemAll1q1 false c4_2 0 (),
    G_heapHeapviewportlaw23itemLenq2 c4_2 ()]) (by kernel_rfl) ⟨(m_viewportlaw23lives_ok n () hc1), (vbF hc2), (m_heapNewviewportref23Itemq1_ok n () hc3), (m_viewportlaw23HeapScript_1_ok n (([] : List (Int × Int × Int)), 0, 0, ([] : List (Int × Int)), 0, 0, 0) (([] : List (Int × Int × Int)), c4_1, c4_2, ([] : List (Int × Int)), c4_4, c4_5) hc4), (m_heapHeapviewportlaw23itemAllq1_ok n c4_2 () hc5), (m_heapHeapviewportlaw23itemAll1q1_ok n false c4_2 0 () hc6), (m_heapHeapviewportlaw23itemLenq2_ok n c4_2 () hc7), trivial⟩
set_option maxRecDepth 100000 in
theorem p_viewportlaw23HeapScript_2 (n : Nat) (hc1 : m_viewportlaw23lives n = some ()) (hc2 : ¬ ((((Args.A).length : Nat) : Int) > (200 : Int))) (hc3 : m_heapNewviewportref23Itemq1 n = some ()) (c4_0a : Int × Int × Int) (c4_0t : List (Int × Int × Int)) (c4_1 : Nat) (c4_2 : Int) (c4_3a : Int × Int) (c4_3t : List (Int × Int)) (c4_4 : Nat) (c4_5 : Nat) (hc4 : m_viewportlaw23HeapScript_1 n (([] : List (Int × Int × Int)), 0, 0, ([] : List (Int × Int)), 0, 0, 0) = some ((c4_0a :: c4_0t), c4_1, c4_2, (c4_3a :: c4_3t), c4_4, c4_5)) (hc5 : m_heapHeapviewportlaw23itemAllq2 n (c4_0a :: c4_0t) c4_1 c4_2 = some ()) (c6_ : Int) (hc6 : m_heapHeapviewportlaw23itemAll1q2 n false (c4_0a :: c4_0t) c4_1 c4_2 (c4_3a :: c4_3t) c4_5 c4_4 0 = some c6_) (hc7 : c6_ = ((c4_4 : Nat) : Int)) (hc8 : m_heapHeapviewportlaw23itemLenq3 n (c4_0a :: c4_0t) c4_1 c4_2 = some ()) (hc9 : ((c4_1 : Nat) : Int) = c6_) : G_viewportlaw23HeapScript  (.inr ()) :=
  runF_ok hm (A := aT [(4, .call ⟨0, [], (Value.bool true), Ax.h0, []⟩), (11, .val (.bool false)), (14, .call ⟨0, [], (V_heapNewviewportref23Itemq1  ()), (R_heapNewviewportref23Itemq1  ()), [(1, 0, false)]⟩), (27, .call ⟨2, [(0, 1, false), (1, 2, true)], (V_heapHeapviewportlaw23itemAllq2 (c4_0a :: c4_0t) c4_1 c4_2 ()), (R_heapHeapviewportlaw23itemAllq2 (c4_0a :: c4_0t) c4_1 c4_2 ()), [(1, 0, false), (2, 1, true), (6, 2, false)]⟩), (41, .rng ⟨10, [(0, 9, false), (1, 8, false), (2, 0, false), (3, 1, false), (4, 2, true), (5, 3, false), (6, 4, false), (7, 5, true), (8, 7, false), (9, 6, false)], (V_heapHeapviewportlaw23itemAll1q2 false (c4_0a :: c4_0t) c4_1 c4_2 (c4_3a :: c4_3t) c4_5 c4_4 0 c6_), (R_heapHeapviewportlaw23itemAll1q2 false (c4_0a :: c4_0t) c4_1 c4_2 (c4_3a :: c4_3t) c4_5 c4_4 0 c6_), [(9, 0, false), (8, 1, false), (0, 2, false), (1, 3, false), (2, 4, true), (3, 5, false), (4, 6, false), (5, 7, true), (7, 8, false), (6, 9, false)]⟩ [2, 3, 4, 15, 108]), (49, .val (.bool true)), (52, .call ⟨2, [(0, 1, false), (1, 2, true)], (V_heapHeapviewportlaw23itemLenq3 (c4_0a :: c4_0t) c4_1 c4_2 ()), (R_heapHeapviewportlaw23itemLenq3 (c4_0a :: c4_0t) c4_1 c4_2 ()), []⟩), (54, .val (.bool true))]) (L := lT [(24, ⟨⟨[0, 2, 3, 4, 5], [(0, 0, false), (1, 1, false), (3, 3, false), (4, 2, false)], 6, 0⟩, (X_viewportlaw23HeapScript_1 ((c4_0a :: c4_0t), c4_1, c4_2, (c4_3a :: c4_3t), c4_4, c4_5)).1, (X_viewportlaw23HeapScript_1 ((c4_0a :: c4_0t), c4_1, c4_2, (c4_3a :: c4_3t), c4_4, c4_5)).2⟩)]) (wk := ⟨[2], [(0, 8, false), (1, 0, false)], 2, 0⟩)
    (ps := [Gv P (.func 6) [] Ax.h0 (Value.bool true) Ax.h0,
    (Value.bool (decide ((((Args.A).length : Nat) : Int) > (200 : Int)))) = (Value.bool false),
    G_heapNewviewportref23Itemq1  (),
    CG P none (fnN P 3) 0 (codeOf P 3 [false, true, false, true, true, true, true]) (S_viewportlaw23HeapScript_1 (([] : List (Int × Int × Int)), 0, 0, ([] : List (Int × Int)), 0, 0, 0)) (X_viewportlaw23HeapScript_1 ((c4_0a :: c4_0t), c4_1, c4_2, (c4_3a :: c4_3t), c4_4, c4_5)),
    G_heapHeapviewportlaw23itemAllq2 (c4_0a :: c4_0t) c4_1 c4_2 (),
    FlatB (.cells (layT (rows rw_iii (c4_0a :: c4_0t))) 55),
    FlatB (.cells (layT (rows rw_iii (c4_0a :: c4_0t))) 55),
    G_heapHeapviewportlaw23itemAll1q2 false (c4_0a :: c4_0t) c4_1 c4_2 (c4_3a :: c4_3t) c4_5 c4_4 0 c6_,
    FlatB (.cells (layT (rows rw_iii (c4_0a :: c4_0t))) 55),
    FlatB (.cells (layT (rows rw_ii (c4_3a :: c4_3t))) 27),
    FlatB (.cells (layT (rows rw_iii (c4_0a :: c4_0t))) 55),
    FlatB (.cells (layT (rows rw_ii (c4_3a :: c4_3t))) 27),
    (Value.bool (c6_ == ((c4_4 : Nat) : Int))) = (Value.bool true),
    G_heapHeapviewportlaw23itemLenq3 (c4_0a :: c4_0t) c4_1 c4_2 (),
    FlatB (.cells (layT (rows rw_iii (c4_0a :: c4_0t))) 55),
    (Value.bool (((c4_1 : Nat) : Int) == c6_)) = (Value.bool true)]) (by kernel_rfl) ⟨(m_viewportlaw23lives_ok n () hc1), (vbF hc2), (m_heapNewviewportref23Itemq1_ok n () hc3), (m_viewportlaw23HeapScript_1_ok n (([] : List (Int × Int × Int)), 0, 0, ([] : List (Int × Int)), 0, 0, 0) ((c4_0a :: c4_0t), c4_1, c4_2, (c4_3a :: c4_3t), c4_4, c4_5) hc4), (m_heapHeapviewportlaw23itemAllq2_ok n (c4_0a :: c4_0t) c4_1 c4_2 () hc5), (rows_flat rwf_iii _ _), (rows_flat rwf_iii _ _), (m_heapHeapviewportlaw23itemAll1q2_ok n false (c4_0a :: c4_0t) c4_1 c4_2 (c4_3a :: c4_3t) c4_5 c4_4 0 c6_ hc6), (rows_flat rwf_iii _ _), (rows_flat rwf_ii _ _), (rows_flat rwf_iii _ _), (rows_flat rwf_ii _ _), (veT hc7), (m_heapHeapviewportlaw23itemLenq3_ok n (c4_0a :: c4_0t) c4_1 c4_2 () hc8), (rows_flat rwf_iii _ _), (veT hc9), trivial⟩
theorem m_viewportlaw23HeapScript_ok (n : Nat) (r : (Unit) ⊕ (Unit)) (h : m_viewportlaw23HeapScript n = some r) : G_viewportlaw23HeapScript  r := by
  unfold m_viewportlaw23HeapScript at h
  obtain ⟨_, hc1, h⟩ := Option.bind_eq_some_iff.1 h
  by_cases hc2 : (((Args.A).length : Nat) : Int) > (200 : Int)
  · rw [if_pos hc2] at h
    obtain rfl := Option.some.inj h; exact p_viewportlaw23HeapScript_0 n hc1 hc2
  · rw [if_neg hc2] at h
    obtain ⟨_, hc3, h⟩ := Option.bind_eq_some_iff.1 h
    obtain ⟨⟨c4_0, c4_1, c4_2, c4_3, c4_4, c4_5⟩, hc4, h⟩ := Option.bind_eq_some_iff.1 h
    dsimp only at h
    cases c4_0 with
    | nil =>
      dsimp only at h
      cases c4_3 with
      | nil =>
        dsimp only at h
        obtain ⟨_, hc5, h⟩ := Option.bind_eq_some_iff.1 h
        obtain ⟨_, hc6, h⟩ := Option.bind_eq_some_iff.1 h
        obtain ⟨_, hc7, h⟩ := Option.bind_eq_some_iff.1 h
        obtain rfl := Option.some.inj h; exact p_viewportlaw23HeapScript_1 n hc1 hc2 hc3 c4_1 c4_2 c4_4 c4_5 hc4 hc5 hc6 hc7
      | cons c4_3a c4_3t =>
        dsimp only at h
        cases h
    | cons c4_0a c4_0t =>
      dsimp only at h
      cases c4_3 with
      | nil =>
        dsimp only at h
        cases h
      | cons c4_3a c4_3t =>
        dsimp only at h
        obtain ⟨_, hc5, h⟩ := Option.bind_eq_some_iff.1 h
        obtain ⟨c6_, hc6, h⟩ := Option.bind_eq_some_iff.1 h
        by_cases hc7 : c6_ = ((c4_4 : Nat) : Int)
        · rw [if_pos hc7] at h
          obtain ⟨_, hc8, h⟩ := Option.bind_eq_some_iff.1 h
          by_cases hc9 : ((c4_1 : Nat) : Int) = c6_
          · rw [if_pos hc9] at h
            obtain rfl := Option.some.inj h; exact p_viewportlaw23HeapScript_2 n hc1 hc2 hc3 c4_0a c4_0t c4_1 c4_2 c4_3a c4_3t c4_4 c4_5 hc4 hc5 c6_ hc6 hc7 hc8 hc9
          · rw [if_neg hc9] at h
            cases h
        · rw [if_neg hc7] at h
          cases h

end Go.Proofs.Ytnfndhblfpaphaa.hsw
