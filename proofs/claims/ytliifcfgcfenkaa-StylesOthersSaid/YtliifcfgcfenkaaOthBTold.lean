/-
  What functions do, told by pure functions. No condition.
-/
import Derived.Test.YtliifcfgcfenkaaOthATold
set_option linter.unusedSimpArgs false
set_option linter.unusedVariables false
set_option linter.unusedSectionVars false
set_option linter.unnecessarySimpa false
namespace Go.Proofs.Ytliifcfgcfenkaa.styow
open Go Go.Proofs.Ytliifcfgcfenkaa Ax
variable [Args]
noncomputable def S_slicesValuesapiStyle1q3_1 (x1_5 : Int) (x1_6 : List Int) (x1_7 : Int) (x1_8 : Int) (x1_9 : Int) (x1_10 : Bool) (x1_11 : Int) (st : Int × List (NL) × Int × Int × Bool × Int) : XSt := match st with
  | (x1_0, x1_1, x1_2, x1_3, x1_4, x1_12) => (sT 16 [(0, (Value.func (.yield 0) #[] #[])), (5, (Value.slice (some ⟨0, 0, some 1⟩) (Args.S).length Args.cS)), (6, (Value.int .i64 x1_11)), (7, (Value.int .i64 x1_12))], [], ⟨sB [(0, (some (rblk P 14 [false, true, false, true] .ready none [(4, (Value.pointer (some ⟨2, 0, none⟩))), (5, (Value.pointer (some ⟨3, 0, none⟩))), (6, (Value.pointer (some ⟨7, 0, none⟩))), (8, (Value.func (.func 18) #[] #[(Value.pointer (some ⟨8, 0, none⟩))]))] 1))), (1, (some (.marks true))), (2, (some (.cells (layT [(Value.int .i64 x1_0), (nlQ x1_1), (Value.int .i64 x1_2), (Value.int .i64 x1_3), (Value.bool x1_4)]) 38))), (3, (some (.cells (layT [(Value.func (.func 16) #[] #[(Value.pointer (some ⟨4, 0, none⟩)), (Value.pointer (some ⟨5, 0, none⟩))])]) 43))), (4, (some (.cells (layT [(Value.int .i64 x1_5)]) 3))), (5, (some (.cells (layT [(Value.slice (some ⟨6, 0, none⟩) (x1_6).length (Nat.add big 1))]) 23))), (6, (some (.cells (layT (iv x1_6)) 3))), (7, (some (.cells (layT [(Value.int .i64 x1_7), (Value.slice none 0 0), (Value.int .i64 x1_8), (Value.int .i64 x1_9), (Value.bool x1_10)]) 38))), (8, (some (.cells (layT [(Value.slice (some ⟨0, 0, some 1⟩) (Args.S).length Args.cS)]) 22)))], 9, 0⟩)
noncomputable def X_slicesValuesapiStyle1q3_1 (x1_5 : Int) (x1_6 : List Int) (x1_7 : Int) (x1_8 : Int) (x1_9 : Int) (x1_10 : Bool) (x1_11 : Int) (r : Int × List (NL) × Int × Int × Bool) : Ex × XSt := match r with
  | (z1_0, z1_1, z1_2, z1_3, z1_4) => (.exit 0, (sT 16 [], [], ⟨sB [(0, (some (rblk P 14 [false, true, false, true] .ready none [(4, (Value.pointer (some ⟨2, 0, none⟩))), (5, (Value.pointer (some ⟨3, 0, none⟩))), (6, (Value.pointer (some ⟨7, 0, none⟩))), (8, (Value.func (.func 18) #[] #[(Value.pointer (some ⟨8, 0, none⟩))]))] 1))), (1, (some (.marks true))), (2, (some (.cells (layT [(Value.int .i64 z1_0), (nlQ z1_1), (Value.int .i64 z1_2), (Value.int .i64 z1_3), (Value.bool z1_4)]) 38))), (3, (some (.cells (layT [(Value.func (.func 16) #[] #[(Value.pointer (some ⟨4, 0, none⟩)), (Value.pointer (some ⟨5, 0, none⟩))])]) 43))), (4, (some (.cells (layT [(Value.int .i64 x1_5)]) 3))), (5, (some (.cells (layT [(Value.slice (some ⟨6, 0, none⟩) (x1_6).length (Nat.add big 1))]) 23))), (6, (some (.cells (layT (iv x1_6)) 3))), (7, (some (.cells (layT [(Value.int .i64 x1_7), (Value.slice none 0 0), (Value.int .i64 x1_8), (Value.int .i64 x1_9), (Value.bool x1_10)]) 38))), (8, (some (.cells (layT [(Value.slice (some ⟨0, 0, some 1⟩) (Args.S).length Args.cS)]) 22)))], 9, 0⟩))
def B_slicesValuesapiStyle1q3_1 (n : Nat) (x1_5 : Int) (x1_6 : List Int) (x1_7 : Int) (x1_8 : Int) (x1_9 : Int) (x1_10 : Bool) (x1_11 : Int) (st : Int × List (NL) × Int × Int × Bool × Int) : Option ((Int × List (NL) × Int × Int × Bool × Int) ⊕ (Int × List (NL) × Int × Int × Bool)) := match st with
  | (x1_0, x1_1, x1_2, x1_3, x1_4, x1_12) =>
    match x1_1 with
    | [] =>
      if x1_12 < x1_11 then
        if 0 ≤ x1_12 ∧ x1_12 < (((Args.S).length : Nat) : Int) then
          (m_foldOverstyleschoice_1010y5 n x1_0 x1_2 x1_3 x1_4 x1_5 x1_6 x1_7 x1_8 x1_9 x1_10 (((Args.S).getD (x1_12).toNat (0, nl0, 0, 0)).1) (((Args.S).getD (x1_12).toNat (0, nl0, 0, 0)).2.1) (((Args.S).getD (x1_12).toNat (0, nl0, 0, 0)).2.2.1) (((Args.S).getD (x1_12).toNat (0, nl0, 0, 0)).2.2.2)).bind fun t => match t with
          | (y1_3_0, y1_3_1, y1_3_2, y1_3_3, y1_3_4) =>
            match y1_3_1 with
            | [] =>
              some (.inl (y1_3_0, ([] : List (NL)), y1_3_2, y1_3_3, y1_3_4, (w64 (x1_12 + (1 : Int)))))
            | y1_3_1a :: y1_3_1t =>
              some (.inl (y1_3_0, [y1_3_1a], y1_3_2, y1_3_3, y1_3_4, (w64 (x1_12 + (1 : Int)))))
        else none
      else
        some (.inr (x1_0, ([] : List (NL)), x1_2, x1_3, x1_4))
    | x1_1a :: x1_1t =>
      if x1_12 < x1_11 then
        if 0 ≤ x1_12 ∧ x1_12 < (((Args.S).length : Nat) : Int) then
          (m_foldOverstyleschoice_1010y6 n x1_0 x1_1a x1_2 x1_3 x1_4 x1_5 x1_6 x1_7 x1_8 x1_9 x1_10 (((Args.S).getD (x1_12).toNat (0, nl0, 0, 0)).1) (((Args.S).getD (x1_12).toNat (0, nl0, 0, 0)).2.1) (((Args.S).getD (x1_12).toNat (0, nl0, 0, 0)).2.2.1) (((Args.S).getD (x1_12).toNat (0, nl0, 0, 0)).2.2.2)).bind fun t => match t with
          | (y1_3_0, y1_3_1, y1_3_2, y1_3_3, y1_3_4) =>
            some (.inl (y1_3_0, [y1_3_1], y1_3_2, y1_3_3, y1_3_4, (w64 (x1_12 + (1 : Int)))))
        else none
      else
        some (.inr (x1_0, [x1_1a], x1_2, x1_3, x1_4))
def m_slicesValuesapiStyle1q3_1 (n : Nat) (x1_5 : Int) (x1_6 : List Int) (x1_7 : Int) (x1_8 : Int) (x1_9 : Int) (x1_10 : Bool) (x1_11 : Int) (st : Int × List (NL) × Int × Int × Bool × Int) : Option (Int × List (NL) × Int × Int × Bool) := iterM (B_slicesValuesapiStyle1q3_1 n x1_5 x1_6 x1_7 x1_8 x1_9 x1_10 x1_11) n st
set_option maxRecDepth 100000 in
theorem q_slicesValuesapiStyle1q3_1_0 (n : Nat) {rnd : Option Nat} (x1_0 : Int) (x1_2 : Int) (x1_3 : Int) (x1_4 : Bool) (x1_5 : Int) (x1_6 : List Int) (x1_7 : Int) (x1_8 : Int) (x1_9 : Int) (x1_10 : Bool) (x1_11 : Int) (x1_12 : Int) (hy1_1 : x1_12 < x1_11) (hy1_2 : 0 ≤ x1_12 ∧ x1_12 < (((Args.S).length : Nat) : Int)) (y1_3_0 : Int) (y1_3_2 : Int) (y1_3_3 : Int) (y1_3_4 : Bool) (hy1_3 : m_foldOverstyleschoice_1010y5 n x1_0 x1_2 x1_3 x1_4 x1_5 x1_6 x1_7 x1_8 x1_9 x1_10 (((Args.S).getD (x1_12).toNat (0, nl0, 0, 0)).1) (((Args.S).getD (x1_12).toNat (0, nl0, 0, 0)).2.1) (((Args.S).getD (x1_12).toNat (0, nl0, 0, 0)).2.2.1) (((Args.S).getD (x1_12).toNat (0, nl0, 0, 0)).2.2.2) = some (y1_3_0, [], y1_3_2, y1_3_3, y1_3_4)) : CG P rnd (fnN P 18) 9 (codeOf P 18 [false, false, true]) (S_slicesValuesapiStyle1q3_1 x1_5 x1_6 x1_7 x1_8 x1_9 x1_10 x1_11 (x1_0, ([] : List (NL)), x1_2, x1_3, x1_4, x1_12)) (.normal, S_slicesValuesapiStyle1q3_1 x1_5 x1_6 x1_7 x1_8 x1_9 x1_10 x1_11 (y1_3_0, ([] : List (NL)), y1_3_2, y1_3_3, y1_3_4, (w64 (x1_12 + (1 : Int))))) :=
  runC_ok hm (A := aT [(1, .val (.bool true)), (7, .pur (Value.pointer (some ⟨0, ((x1_12).toNat * 4), some 1⟩))), (8, .ld (Value.agg #[(Value.int .i64 (((Args.S).getD (x1_12).toNat (0, nl0, 0, 0)).1)), (nlV (((Args.S).getD (x1_12).toNat (0, nl0, 0, 0)).2.1)), (Value.int .i64 (((Args.S).getD (x1_12).toNat (0, nl0, 0, 0)).2.2.1)), (Value.int .i64 (((Args.S).getD (x1_12).toNat (0, nl0, 0, 0)).2.2.2))])), (14, .call ⟨9, [(0, 0, false), (1, 1, false), (2, 2, false), (3, 3, false), (4, 4, false), (5, 5, false), (6, 6, true), (7, 7, false), (8, 8, false)], (V_foldOverstyleschoice_1010y5 x1_0 x1_2 x1_3 x1_4 x1_5 x1_6 x1_7 x1_8 x1_9 x1_10 (((Args.S).getD (x1_12).toNat (0, nl0, 0, 0)).1) (((Args.S).getD (x1_12).toNat (0, nl0, 0, 0)).2.1) (((Args.S).getD (x1_12).toNat (0, nl0, 0, 0)).2.2.1) (((Args.S).getD (x1_12).toNat (0, nl0, 0, 0)).2.2.2) (y1_3_0, ([] : List (NL)), y1_3_2, y1_3_3, y1_3_4)), (R_foldOverstyleschoice_1010y5 x1_0 x1_2 x1_3 x1_4 x1_5 x1_6 x1_7 x1_8 x1_9 x1_10 (((Args.S).getD (x1_12).toNat (0, nl0, 0, 0)).1) (((Args.S).getD (x1_12).toNat (0, nl0, 0, 0)).2.1) (((Args.S).getD (x1_12).toNat (0, nl0, 0, 0)).2.2.1) (((Args.S).getD (x1_12).toNat (0, nl0, 0, 0)).2.2.2) (y1_3_0, ([] : List (NL)), y1_3_2, y1_3_3, y1_3_4)), [(0, 0, false), (1, 1, false), (2, 2, false), (3, 3, false), (4, 4, false), (5, 5, false), (6, 6, true), (7, 7, false), (8, 8, false)]⟩)]) (L := lT []) (wk := ⟨[0, 5, 6, 7], [(0, 0, false), (1, 1, false), (2, 2, false), (3, 3, false), (4, 4, false), (5, 5, false), (6, 6, true), (7, 7, false), (8, 8, false)], 9, 0⟩)
    (ps := [(Value.bool (decide (x1_12 < x1_11))) = (Value.bool true),
    opIndexAddr P 22 (Value.slice (some ⟨0, 0, some 1⟩) (Args.S).length Args.cS) (Value.int .i64 x1_12) Ax.h0 = some ((Value.pointer (some ⟨0, ((x1_12).toNat * 4), some 1⟩)), Ax.h0),
    loadG P 27 (Value.pointer (some ⟨0, ((x1_12).toNat * 4), some 1⟩)) Ax.h0 = some ((Value.agg #[(Value.int .i64 (((Args.S).getD (x1_12).toNat (0, nl0, 0, 0)).1)), (nlV (((Args.S).getD (x1_12).toNat (0, nl0, 0, 0)).2.1)), (Value.int .i64 (((Args.S).getD (x1_12).toNat (0, nl0, 0, 0)).2.2.1)), (Value.int .i64 (((Args.S).getD (x1_12).toNat (0, nl0, 0, 0)).2.2.2))]), Ax.h0),
    Gv P (.yield 0) (A_foldOverstyleschoice_1010y5 x1_0 x1_2 x1_3 x1_4 x1_5 x1_6 x1_7 x1_8 x1_9 x1_10 (((Args.S).getD (x1_12).toNat (0, nl0, 0, 0)).1) (((Args.S).getD (x1_12).toNat (0, nl0, 0, 0)).2.1) (((Args.S).getD (x1_12).toNat (0, nl0, 0, 0)).2.2.1) (((Args.S).getD (x1_12).toNat (0, nl0, 0, 0)).2.2.2)) (H_foldOverstyleschoice_1010y5 x1_0 x1_2 x1_3 x1_4 x1_5 x1_6 x1_7 x1_8 x1_9 x1_10 (((Args.S).getD (x1_12).toNat (0, nl0, 0, 0)).1) (((Args.S).getD (x1_12).toNat (0, nl0, 0, 0)).2.1) (((Args.S).getD (x1_12).toNat (0, nl0, 0, 0)).2.2.1) (((Args.S).getD (x1_12).toNat (0, nl0, 0, 0)).2.2.2)) (V_foldOverstyleschoice_1010y5 x1_0 x1_2 x1_3 x1_4 x1_5 x1_6 x1_7 x1_8 x1_9 x1_10 (((Args.S).getD (x1_12).toNat (0, nl0, 0, 0)).1) (((Args.S).getD (x1_12).toNat (0, nl0, 0, 0)).2.1) (((Args.S).getD (x1_12).toNat (0, nl0, 0, 0)).2.2.1) (((Args.S).getD (x1_12).toNat (0, nl0, 0, 0)).2.2.2) (y1_3_0, ([] : List (NL)), y1_3_2, y1_3_3, y1_3_4)) (R_foldOverstyleschoice_1010y5 x1_0 x1_2 x1_3 x1_4 x1_5 x1_6 x1_7 x1_8 x1_9 x1_10 (((Args.S).getD (x1_12).toNat (0, nl0, 0, 0)).1) (((Args.S).getD (x1_12).toNat (0, nl0, 0, 0)).2.1) (((Args.S).getD (x1_12).toNat (0, nl0, 0, 0)).2.2.1) (((Args.S).getD (x1_12).toNat (0, nl0, 0, 0)).2.2.2) (y1_3_0, ([] : List (NL)), y1_3_2, y1_3_3, y1_3_4)),
    FlatB (.cells (layT (iv x1_6)) 3),
    FlatB (.cells (layT (iv x1_6)) 3),
    FlatB (.cells (layT (iv x1_6)) 3)]) (by kernel_rfl) ⟨(vbT hy1_1), (ixW (e := 27) (by kernel_rfl) (by kernel_rfl) (hy1_2).1 (hy1_2).2), (ldWA rwf_iLii (0, nl0, 0, 0) (i := (x1_12).toNat) (q := 0) (L := Args.S) (n := 4) ((x1_12).toNat * 4) rfl rfl (by kernel_rfl) (by kernel_rfl) (toNatLt hy1_2) (by decide) rfl), (m_foldOverstyleschoice_1010y5_ok n x1_0 x1_2 x1_3 x1_4 x1_5 x1_6 x1_7 x1_8 x1_9 x1_10 (((Args.S).getD (x1_12).toNat (0, nl0, 0, 0)).1) (((Args.S).getD (x1_12).toNat (0, nl0, 0, 0)).2.1) (((Args.S).getD (x1_12).toNat (0, nl0, 0, 0)).2.2.1) (((Args.S).getD (x1_12).toNat (0, nl0, 0, 0)).2.2.2) (y1_3_0, ([] : List (NL)), y1_3_2, y1_3_3, y1_3_4) hy1_3), (iv_flat _ _), (iv_flat _ _), (iv_flat _ _), trivial⟩
set_option maxRecDepth 100000 in
theorem q_slicesValuesapiStyle1q3_1_1 (n : Nat) {rnd : Option Nat} (x1_0 : Int) (x1_2 : Int) (x1_3 : Int) (x1_4 : Bool) (x1_5 : Int) (x1_6 : List Int) (x1_7 : Int) (x1_8 : Int) (x1_9 : Int) (x1_10 : Bool) (x1_11 : Int) (x1_12 : Int) (hy1_1 : x1_12 < x1_11) (hy1_2 : 0 ≤ x1_12 ∧ x1_12 < (((Args.S).length : Nat) : Int)) (y1_3_0 : Int) (y1_3_1a : NL) (y1_3_1t : List (NL)) (y1_3_2 : Int) (y1_3_3 : Int) (y1_3_4 : Bool) (hy1_3 : m_foldOverstyleschoice_1010y5 n x1_0 x1_2 x1_3 x1_4 x1_5 x1_6 x1_7 x1_8 x1_9 x1_10 (((Args.S).getD (x1_12).toNat (0, nl0, 0, 0)).1) (((Args.S).getD (x1_12).toNat (0, nl0, 0, 0)).2.1) (((Args.S).getD (x1_12).toNat (0, nl0, 0, 0)).2.2.1) (((Args.S).getD (x1_12).toNat (0, nl0, 0, 0)).2.2.2) = some (y1_3_0, (y1_3_1a :: y1_3_1t), y1_3_2, y1_3_3, y1_3_4)) : CG P rnd (fnN P 18) 9 (codeOf P 18 [false, false, true]) (S_slicesValuesapiStyle1q3_1 x1_5 x1_6 x1_7 x1_8 x1_9 x1_10 x1_11 (x1_0, ([] : List (NL)), x1_2, x1_3, x1_4, x1_12)) (.normal, S_slicesValuesapiStyle1q3_1 x1_5 x1_6 x1_7 x1_8 x1_9 x1_10 x1_11 (y1_3_0, [y1_3_1a], y1_3_2, y1_3_3, y1_3_4, (w64 (x1_12 + (1 : Int))))) :=
  runC_ok hm (A := aT [(1, .val (.bool true)), (7, .pur (Value.pointer (some ⟨0, ((x1_12).toNat * 4), some 1⟩))), (8, .ld (Value.agg #[(Value.int .i64 (((Args.S).getD (x1_12).toNat (0, nl0, 0, 0)).1)), (nlV (((Args.S).getD (x1_12).toNat (0, nl0, 0, 0)).2.1)), (Value.int .i64 (((Args.S).getD (x1_12).toNat (0, nl0, 0, 0)).2.2.1)), (Value.int .i64 (((Args.S).getD (x1_12).toNat (0, nl0, 0, 0)).2.2.2))])), (14, .call ⟨9, [(0, 0, false), (1, 1, false), (2, 2, false), (3, 3, false), (4, 4, false), (5, 5, false), (6, 6, true), (7, 7, false), (8, 8, false)], (V_foldOverstyleschoice_1010y5 x1_0 x1_2 x1_3 x1_4 x1_5 x1_6 x1_7 x1_8 x1_9 x1_10 (((Args.S).getD (x1_12).toNat (0, nl0, 0, 0)).1) (((Args.S).getD (x1_12).toNat (0, nl0, 0, 0)).2.1) (((Args.S).getD (x1_12).toNat (0, nl0, 0, 0)).2.2.1) (((Args.S).getD (x1_12).toNat (0, nl0, 0, 0)).2.2.2) (y1_3_0, (y1_3_1a :: y1_3_1t), y1_3_2, y1_3_3, y1_3_4)), (R_foldOverstyleschoice_1010y5 x1_0 x1_2 x1_3 x1_4 x1_5 x1_6 x1_7 x1_8 x1_9 x1_10 (((Args.S).getD (x1_12).toNat (0, nl0, 0, 0)).1) (((Args.S).getD (x1_12).toNat (0, nl0, 0, 0)).2.1) (((Args.S).getD (x1_12).toNat (0, nl0, 0, 0)).2.2.1) (((Args.S).getD (x1_12).toNat (0, nl0, 0, 0)).2.2.2) (y1_3_0, (y1_3_1a :: y1_3_1t), y1_3_2, y1_3_3, y1_3_4)), [(0, 0, false), (1, 1, false), (2, 2, false), (3, 3, false), (4, 4, false), (5, 5, false), (6, 6, true), (7, 7, false), (8, 8, false)]⟩)]) (L := lT []) (wk := ⟨[0, 5, 6, 7], [(0, 0, false), (1, 1, false), (2, 2, false), (3, 3, false), (4, 4, false), (5, 5, false), (6, 6, true), (7, 7, false), (8, 8, false)], 9, 0⟩)
    (ps := [(Value.bool (decide (x1_12 < x1_11))) = (Value.bool true),
    opIndexAddr P 22 (Value.slice (some ⟨0, 0, some 1⟩) (Args.S).length Args.cS) (Value.int .i64 x1_12) Ax.h0 = some ((Value.pointer (some ⟨0, ((x1_12).toNat * 4), some 1⟩)), Ax.h0),
    loadG P 27 (Value.pointer (some ⟨0, ((x1_12).toNat * 4), some 1⟩)) Ax.h0 = some ((Value.agg #[(Value.int .i64 (((Args.S).getD (x1_12).toNat (0, nl0, 0, 0)).1)), (nlV (((Args.S).getD (x1_12).toNat (0, nl0, 0, 0)).2.1)), (Value.int .i64 (((Args.S).getD (x1_12).toNat (0, nl0, 0, 0)).2.2.1)), (Value.int .i64 (((Args.S).getD (x1_12).toNat (0, nl0, 0, 0)).2.2.2))]), Ax.h0),
    Gv P (.yield 0) (A_foldOverstyleschoice_1010y5 x1_0 x1_2 x1_3 x1_4 x1_5 x1_6 x1_7 x1_8 x1_9 x1_10 (((Args.S).getD (x1_12).toNat (0, nl0, 0, 0)).1) (((Args.S).getD (x1_12).toNat (0, nl0, 0, 0)).2.1) (((Args.S).getD (x1_12).toNat (0, nl0, 0, 0)).2.2.1) (((Args.S).getD (x1_12).toNat (0, nl0, 0, 0)).2.2.2)) (H_foldOverstyleschoice_1010y5 x1_0 x1_2 x1_3 x1_4 x1_5 x1_6 x1_7 x1_8 x1_9 x1_10 (((Args.S).getD (x1_12).toNat (0, nl0, 0, 0)).1) (((Args.S).getD (x1_12).toNat (0, nl0, 0, 0)).2.1) (((Args.S).getD (x1_12).toNat (0, nl0, 0, 0)).2.2.1) (((Args.S).getD (x1_12).toNat (0, nl0, 0, 0)).2.2.2)) (V_foldOverstyleschoice_1010y5 x1_0 x1_2 x1_3 x1_4 x1_5 x1_6 x1_7 x1_8 x1_9 x1_10 (((Args.S).getD (x1_12).toNat (0, nl0, 0, 0)).1) (((Args.S).getD (x1_12).toNat (0, nl0, 0, 0)).2.1) (((Args.S).getD (x1_12).toNat (0, nl0, 0, 0)).2.2.1) (((Args.S).getD (x1_12).toNat (0, nl0, 0, 0)).2.2.2) (y1_3_0, (y1_3_1a :: y1_3_1t), y1_3_2, y1_3_3, y1_3_4)) (R_foldOverstyleschoice_1010y5 x1_0 x1_2 x1_3 x1_4 x1_5 x1_6 x1_7 x1_8 x1_9 x1_10 (((Args.S).getD (x1_12).toNat (0, nl0, 0, 0)).1) (((Args.S).getD (x1_12).toNat (0, nl0, 0, 0)).2.1) (((Args.S).getD (x1_12).toNat (0, nl0, 0, 0)).2.2.1) (((Args.S).getD (x1_12).toNat (0, nl0, 0, 0)).2.2.2) (y1_3_0, (y1_3_1a :: y1_3_1t), y1_3_2, y1_3_3, y1_3_4)),
    FlatB (.cells (layT (iv x1_6)) 3),
    FlatB (.cells (layT (iv x1_6)) 3),
    FlatB (.cells (layT (iv x1_6)) 3)]) (by kernel_rfl) ⟨(vbT hy1_1), (ixW (e := 27) (by kernel_rfl) (by kernel_rfl) (hy1_2).1 (hy1_2).2), (ldWA rwf_iLii (0, nl0, 0, 0) (i := (x1_12).toNat) (q := 0) (L := Args.S) (n := 4) ((x1_12).toNat * 4) rfl rfl (by kernel_rfl) (by kernel_rfl) (toNatLt hy1_2) (by decide) rfl), (m_foldOverstyleschoice_1010y5_ok n x1_0 x1_2 x1_3 x1_4 x1_5 x1_6 x1_7 x1_8 x1_9 x1_10 (((Args.S).getD (x1_12).toNat (0, nl0, 0, 0)).1) (((Args.S).getD (x1_12).toNat (0, nl0, 0, 0)).2.1) (((Args.S).getD (x1_12).toNat (0, nl0, 0, 0)).2.2.1) (((Args.S).getD (x1_12).toNat (0, nl0, 0, 0)).2.2.2) (y1_3_0, (y1_3_1a :: y1_3_1t), y1_3_2, y1_3_3, y1_3_4) hy1_3), (iv_flat _ _), (iv_flat _ _), (iv_flat _ _), trivial⟩
set_option maxRecDepth 100000 in
theorem q_slicesValuesapiStyle1q3_1_2 (n : Nat) {rnd : Option Nat} (x1_0 : Int) (x1_2 : Int) (x1_3 : Int) (x1_4 : Bool) (x1_5 : Int) (x1_6 : List Int) (x1_7 : Int) (x1_8 : Int) (x1_9 : Int) (x1_10 : Bool) (x1_11 : Int) (x1_12 : Int) (hy1_1 : ¬ (x1_12 < x1_11)) : CG P rnd (fnN P 18) 9 (codeOf P 18 [false, false, true]) (S_slicesValuesapiStyle1q3_1 x1_5 x1_6 x1_7 x1_8 x1_9 x1_10 x1_11 (x1_0, ([] : List (NL)), x1_2, x1_3, x1_4, x1_12)) (X_slicesValuesapiStyle1q3_1 x1_5 x1_6 x1_7 x1_8 x1_9 x1_10 x1_11 (x1_0, ([] : List (NL)), x1_2, x1_3, x1_4)) :=
  runC_ok hm (A := aT [(1, .val (.bool false))]) (L := lT []) (wk := ⟨[], [(0, 0, false), (1, 1, false), (2, 2, false), (3, 3, false), (4, 4, false), (5, 5, false), (6, 6, true), (7, 7, false), (8, 8, false)], 9, 0⟩)
    (ps := [(Value.bool (decide (x1_12 < x1_11))) = (Value.bool false),
    FlatB (.cells (layT (iv x1_6)) 3)]) (by kernel_rfl) ⟨(vbF hy1_1), (iv_flat _ _), trivial⟩
set_option maxRecDepth 100000 in
theorem q_slicesValuesapiStyle1q3_1_3 (n : Nat) {rnd : Option Nat} (x1_0 : Int) (x1_1a : NL) (x1_1t : List (NL)) (x1_2 : Int) (x1_3 : Int) (x1_4 : Bool) (x1_5 : Int) (x1_6 : List Int) (x1_7 : Int) (x1_8 : Int) (x1_9 : Int) (x1_10 : Bool) (x1_11 : Int) (x1_12 : Int) (hy1_1 : x1_12 < x1_11) (hy1_2 : 0 ≤ x1_12 ∧ x1_12 < (((Args.S).length : Nat) : Int)) (y1_3_0 : Int) (y1_3_1 : NL) (y1_3_2 : Int) (y1_3_3 : Int) (y1_3_4 : Bool) (hy1_3 : m_foldOverstyleschoice_1010y6 n x1_0 x1_1a x1_2 x1_3 x1_4 x1_5 x1_6 x1_7 x1_8 x1_9 x1_10 (((Args.S).getD (x1_12).toNat (0, nl0, 0, 0)).1) (((Args.S).getD (x1_12).toNat (0, nl0, 0, 0)).2.1) (((Args.S).getD (x1_12).toNat (0, nl0, 0, 0)).2.2.1) (((Args.S).getD (x1_12).toNat (0, nl0, 0, 0)).2.2.2) = some (y1_3_0, y1_3_1, y1_3_2, y1_3_3, y1_3_4)) : CG P rnd (fnN P 18) 9 (codeOf P 18 [false, false, true]) (S_slicesValuesapiStyle1q3_1 x1_5 x1_6 x1_7 x1_8 x1_9 x1_10 x1_11 (x1_0, (x1_1a :: x1_1t), x1_2, x1_3, x1_4, x1_12)) (.normal, S_slicesValuesapiStyle1q3_1 x1_5 x1_6 x1_7 x1_8 x1_9 x1_10 x1_11 (y1_3_0, [y1_3_1], y1_3_2, y1_3_3, y1_3_4, (w64 (x1_12 + (1 : Int))))) :=
  runC_ok hm (A := aT [(1, .val (.bool true)), (7, .pur (Value.pointer (some ⟨0, ((x1_12).toNat * 4), some 1⟩))), (8, .ld (Value.agg #[(Value.int .i64 (((Args.S).getD (x1_12).toNat (0, nl0, 0, 0)).1)), (nlV (((Args.S).getD (x1_12).toNat (0, nl0, 0, 0)).2.1)), (Value.int .i64 (((Args.S).getD (x1_12).toNat (0, nl0, 0, 0)).2.2.1)), (Value.int .i64 (((Args.S).getD (x1_12).toNat (0, nl0, 0, 0)).2.2.2))])), (14, .call ⟨9, [(0, 0, false), (1, 1, false), (2, 2, false), (3, 3, false), (4, 4, false), (5, 5, false), (6, 6, true), (7, 7, false), (8, 8, false)], (V_foldOverstyleschoice_1010y6 x1_0 x1_1a x1_2 x1_3 x1_4 x1_5 x1_6 x1_7 x1_8 x1_9 x1_10 (((Args.S).getD (x1_12).toNat (0, nl0, 0, 0)).1) (((Args.S).getD (x1_12).toNat (0, nl0, 0, 0)).2.1) (((Args.S).getD (x1_12).toNat (0, nl0, 0, 0)).2.2.1) (((Args.S).getD (x1_12).toNat (0, nl0, 0, 0)).2.2.2) (y1_3_0, y1_3_1, y1_3_2, y1_3_3, y1_3_4)), (R_foldOverstyleschoice_1010y6 x1_0 x1_1a x1_2 x1_3 x1_4 x1_5 x1_6 x1_7 x1_8 x1_9 x1_10 (((Args.S).getD (x1_12).toNat (0, nl0, 0, 0)).1) (((Args.S).getD (x1_12).toNat (0, nl0, 0, 0)).2.1) (((Args.S).getD (x1_12).toNat (0, nl0, 0, 0)).2.2.1) (((Args.S).getD (x1_12).toNat (0, nl0, 0, 0)).2.2.2) (y1_3_0, y1_3_1, y1_3_2, y1_3_3, y1_3_4)), [(0, 0, false), (1, 1, false), (2, 2, false), (3, 3, false), (4, 4, false), (5, 5, false), (6, 6, true), (7, 7, false), (8, 8, false)]⟩)]) (L := lT []) (wk := ⟨[0, 5, 6, 7], [(0, 0, false), (1, 1, false), (2, 2, false), (3, 3, false), (4, 4, false), (5, 5, false), (6, 6, true), (7, 7, false), (8, 8, false)], 9, 0⟩)
    (ps := [(Value.bool (decide (x1_12 < x1_11))) = (Value.bool true),
    opIndexAddr P 22 (Value.slice (some ⟨0, 0, some 1⟩) (Args.S).length Args.cS) (Value.int .i64 x1_12) Ax.h0 = some ((Value.pointer (some ⟨0, ((x1_12).toNat * 4), some 1⟩)), Ax.h0),
    loadG P 27 (Value.pointer (some ⟨0, ((x1_12).toNat * 4), some 1⟩)) Ax.h0 = some ((Value.agg #[(Value.int .i64 (((Args.S).getD (x1_12).toNat (0, nl0, 0, 0)).1)), (nlV (((Args.S).getD (x1_12).toNat (0, nl0, 0, 0)).2.1)), (Value.int .i64 (((Args.S).getD (x1_12).toNat (0, nl0, 0, 0)).2.2.1)), (Value.int .i64 (((Args.S).getD (x1_12).toNat (0, nl0, 0, 0)).2.2.2))]), Ax.h0),
    Gv P (.yield 0) (A_foldOverstyleschoice_1010y6 x1_0 x1_1a x1_2 x1_3 x1_4 x1_5 x1_6 x1_7 x1_8 x1_9 x1_10 (((Args.S).getD (x1_12).toNat (0, nl0, 0, 0)).1) (((Args.S).getD (x1_12).toNat (0, nl0, 0, 0)).2.1) (((Args.S).getD (x1_12).toNat (0, nl0, 0, 0)).2.2.1) (((Args.S).getD (x1_12).toNat (0, nl0, 0, 0)).2.2.2)) (H_foldOverstyleschoice_1010y6 x1_0 x1_1a x1_2 x1_3 x1_4 x1_5 x1_6 x1_7 x1_8 x1_9 x1_10 (((Args.S).getD (x1_12).toNat (0, nl0, 0, 0)).1) (((Args.S).getD (x1_12).toNat (0, nl0, 0, 0)).2.1) (((Args.S).getD (x1_12).toNat (0, nl0, 0, 0)).2.2.1) (((Args.S).getD (x1_12).toNat (0, nl0, 0, 0)).2.2.2)) (V_foldOverstyleschoice_1010y6 x1_0 x1_1a x1_2 x1_3 x1_4 x1_5 x1_6 x1_7 x1_8 x1_9 x1_10 (((Args.S).getD (x1_12).toNat (0, nl0, 0, 0)).1) (((Args.S).getD (x1_12).toNat (0, nl0, 0, 0)).2.1) (((Args.S).getD (x1_12).toNat (0, nl0, 0, 0)).2.2.1) (((Args.S).getD (x1_12).toNat (0, nl0, 0, 0)).2.2.2) (y1_3_0, y1_3_1, y1_3_2, y1_3_3, y1_3_4)) (R_foldOverstyleschoice_1010y6 x1_0 x1_1a x1_2 x1_3 x1_4 x1_5 x1_6 x1_7 x1_8 x1_9 x1_10 (((Args.S).getD (x1_12).toNat (0, nl0, 0, 0)).1) (((Args.S).getD (x1_12).toNat (0, nl0, 0, 0)).2.1) (((Args.S).getD (x1_12).toNat (0, nl0, 0, 0)).2.2.1) (((Args.S).getD (x1_12).toNat (0, nl0, 0, 0)).2.2.2) (y1_3_0, y1_3_1, y1_3_2, y1_3_3, y1_3_4)),
    FlatB (.cells (layT (iv x1_6)) 3),
    FlatB (.cells (layT (iv x1_6)) 3),
    FlatB (.cells (layT (iv x1_6)) 3)]) (by kernel_rfl) ⟨(vbT hy1_1), (ixW (e := 27) (by kernel_rfl) (by kernel_rfl) (hy1_2).1 (hy1_2).2), (ldWA rwf_iLii (0, nl0, 0, 0) (i := (x1_12).toNat) (q := 0) (L := Args.S) (n := 4) ((x1_12).toNat * 4) rfl rfl (by kernel_rfl) (by kernel_rfl) (toNatLt hy1_2) (by decide) rfl), (m_foldOverstyleschoice_1010y6_ok n x1_0 x1_1a x1_2 x1_3 x1_4 x1_5 x1_6 x1_7 x1_8 x1_9 x1_10 (((Args.S).getD (x1_12).toNat (0, nl0, 0, 0)).1) (((Args.S).getD (x1_12).toNat (0, nl0, 0, 0)).2.1) (((Args.S).getD (x1_12).toNat (0, nl0, 0, 0)).2.2.1) (((Args.S).getD (x1_12).toNat (0, nl0, 0, 0)).2.2.2) (y1_3_0, y1_3_1, y1_3_2, y1_3_3, y1_3_4) hy1_3), (iv_flat _ _), (iv_flat _ _), (iv_flat _ _), trivial⟩
set_option maxRecDepth 100000 in
theorem q_slicesValuesapiStyle1q3_1_4 (n : Nat) {rnd : Option Nat} (x1_0 : Int) (x1_1a : NL) (x1_1t : List (NL)) (x1_2 : Int) (x1_3 : Int) (x1_4 : Bool) (x1_5 : Int) (x1_6 : List Int) (x1_7 : Int) (x1_8 : Int) (x1_9 : Int) (x1_10 : Bool) (x1_11 : Int) (x1_12 : Int) (hy1_1 : ¬ (x1_12 < x1_11)) : CG P rnd (fnN P 18) 9 (codeOf P 18 [false, false, true]) (S_slicesValuesapiStyle1q3_1 x1_5 x1_6 x1_7 x1_8 x1_9 x1_10 x1_11 (x1_0, (x1_1a :: x1_1t), x1_2, x1_3, x1_4, x1_12)) (X_slicesValuesapiStyle1q3_1 x1_5 x1_6 x1_7 x1_8 x1_9 x1_10 x1_11 (x1_0, [x1_1a], x1_2, x1_3, x1_4)) :=
  runC_ok hm (A := aT [(1, .val (.bool false))]) (L := lT []) (wk := ⟨[], [(0, 0, false), (1, 1, false), (2, 2, false), (3, 3, false), (4, 4, false), (5, 5, false), (6, 6, true), (7, 7, false), (8, 8, false)], 9, 0⟩)
    (ps := [(Value.bool (decide (x1_12 < x1_11))) = (Value.bool false),
    FlatB (.cells (layT (iv x1_6)) 3)]) (by kernel_rfl) ⟨(vbF hy1_1), (iv_flat _ _), trivial⟩
theorem m_slicesValuesapiStyle1q3_1_ok (n : Nat) {rnd : Option Nat} (x1_5 : Int) (x1_6 : List Int) (x1_7 : Int) (x1_8 : Int) (x1_9 : Int) (x1_10 : Bool) (x1_11 : Int) (st : Int × List (NL) × Int × Int × Bool × Int) (r : Int × List (NL) × Int × Int × Bool) (h : m_slicesValuesapiStyle1q3_1 n x1_5 x1_6 x1_7 x1_8 x1_9 x1_10 x1_11 st = some r) : CG P rnd (fnN P 18) 9 (codeOf P 18 [false, true]) (S_slicesValuesapiStyle1q3_1 x1_5 x1_6 x1_7 x1_8 x1_9 x1_10 x1_11 st) (X_slicesValuesapiStyle1q3_1 x1_5 x1_6 x1_7 x1_8 x1_9 x1_10 x1_11 r) :=
  CG.iter (b := codeOf P 18 [false, false, true]) (by kernel_rfl) (body := B_slicesValuesapiStyle1q3_1 n x1_5 x1_6 x1_7 x1_8 x1_9 x1_10 x1_11) (S := S_slicesValuesapiStyle1q3_1 x1_5 x1_6 x1_7 x1_8 x1_9 x1_10 x1_11) (X := X_slicesValuesapiStyle1q3_1 x1_5 x1_6 x1_7 x1_8 x1_9 x1_10 x1_11)
    (fun s s' h => by
    obtain ⟨x1_0, x1_1, x1_2, x1_3, x1_4, x1_12⟩ := s
    unfold B_slicesValuesapiStyle1q3_1 at h
    dsimp only at h
    cases x1_1 with
    | nil =>
      dsimp only at h
      by_cases hy1_1 : x1_12 < x1_11
      · rw [if_pos hy1_1] at h
        by_cases hy1_2 : 0 ≤ x1_12 ∧ x1_12 < (((Args.S).length : Nat) : Int)
        · rw [if_pos hy1_2] at h
          obtain ⟨⟨y1_3_0, y1_3_1, y1_3_2, y1_3_3, y1_3_4⟩, hy1_3, h⟩ := Option.bind_eq_some_iff.1 h
          dsimp only at h
          cases y1_3_1 with
          | nil =>
            dsimp only at h
            obtain rfl := Sum.inl.inj (Option.some.inj h); exact q_slicesValuesapiStyle1q3_1_0 n x1_0 x1_2 x1_3 x1_4 x1_5 x1_6 x1_7 x1_8 x1_9 x1_10 x1_11 x1_12 hy1_1 hy1_2 y1_3_0 y1_3_2 y1_3_3 y1_3_4 hy1_3
          | cons y1_3_1a y1_3_1t =>
            dsimp only at h
            obtain rfl := Sum.inl.inj (Option.some.inj h); exact q_slicesValuesapiStyle1q3_1_1 n x1_0 x1_2 x1_3 x1_4 x1_5 x1_6 x1_7 x1_8 x1_9 x1_10 x1_11 x1_12 hy1_1 hy1_2 y1_3_0 y1_3_1a y1_3_1t y1_3_2 y1_3_3 y1_3_4 hy1_3
        · rw [if_neg hy1_2] at h; cases h
      · rw [if_neg hy1_1] at h
        cases h
    | cons x1_1a x1_1t =>
      dsimp only at h
      by_cases hy1_1 : x1_12 < x1_11
      · rw [if_pos hy1_1] at h
        by_cases hy1_2 : 0 ≤ x1_12 ∧ x1_12 < (((Args.S).length : Nat) : Int)
        · rw [if_pos hy1_2] at h
          obtain ⟨⟨y1_3_0, y1_3_1, y1_3_2, y1_3_3, y1_3_4⟩, hy1_3, h⟩ := Option.bind_eq_some_iff.1 h
          dsimp only at h
          obtain rfl := Sum.inl.inj (Option.some.inj h); exact q_slicesValuesapiStyle1q3_1_3 n x1_0 x1_1a x1_1t x1_2 x1_3 x1_4 x1_5 x1_6 x1_7 x1_8 x1_9 x1_10 x1_11 x1_12 hy1_1 hy1_2 y1_3_0 y1_3_1 y1_3_2 y1_3_3 y1_3_4 hy1_3
        · rw [if_neg hy1_2] at h; cases h
      · rw [if_neg hy1_1] at h
        cases h)
    (fun s r h => by
    obtain ⟨x1_0, x1_1, x1_2, x1_3, x1_4, x1_12⟩ := s
    unfold B_slicesValuesapiStyle1q3_1 at h
    dsimp only at h
    cases x1_1 with
    | nil =>
      dsimp only at h
      by_cases hy1_1 : x1_12 < x1_11
      · rw [if_pos hy1_1] at h
        by_cases hy1_2 : 0 ≤ x1_12 ∧ x1_12 < (((Args.S).length : Nat) : Int)
        · rw [if_pos hy1_2] at h
          obtain ⟨⟨y1_3_0, y1_3_1, y1_3_2, y1_3_3, y1_3_4⟩, hy1_3, h⟩ := Option.bind_eq_some_iff.1 h
          dsimp only at h
          cases y1_3_1 with
          | nil =>
            dsimp only at h
            cases h
          | cons y1_3_1a y1_3_1t =>
            dsimp only at h
            cases h
        · rw [if_neg hy1_2] at h; cases h
      · rw [if_neg hy1_1] at h
        obtain rfl := Sum.inr.inj (Option.some.inj h); exact q_slicesValuesapiStyle1q3_1_2 n x1_0 x1_2 x1_3 x1_4 x1_5 x1_6 x1_7 x1_8 x1_9 x1_10 x1_11 x1_12 hy1_1
    | cons x1_1a x1_1t =>
      dsimp only at h
      by_cases hy1_1 : x1_12 < x1_11
      · rw [if_pos hy1_1] at h
        by_cases hy1_2 : 0 ≤ x1_12 ∧ x1_12 < (((Args.S).length : Nat) : Int)
        · rw [if_pos hy1_2] at h
          obtain ⟨⟨y1_3_0, y1_3_1, y1_3_2, y1_3_3, y1_3_4⟩, hy1_3, h⟩ := Option.bind_eq_some_iff.1 h
          dsimp only at h
          cases h
        · rw [if_neg hy1_2] at h; cases h
      · rw [if_neg hy1_1] at h
        obtain rfl := Sum.inr.inj (Option.some.inj h); exact q_slicesValuesapiStyle1q3_1_4 n x1_0 x1_1a x1_1t x1_2 x1_3 x1_4 x1_5 x1_6 x1_7 x1_8 x1_9 x1_10 x1_11 x1_12 hy1_1)
    (fun r => by intro hx; cases hx) h
noncomputable def A_slicesValuesapiStyle1q3 (a0 : Int) (a1 : Int) (a2 : Int) (a3 : Bool) (a4 : Int) (a5 : List Int) (a6 : Int) (a7 : Int) (a8 : Int) (a9 : Bool) : List Value := [(Value.func (.yield 0) #[] #[]), (Value.pointer (some ⟨8, 0, none⟩))]
noncomputable def H_slicesValuesapiStyle1q3 (a0 : Int) (a1 : Int) (a2 : Int) (a3 : Bool) (a4 : Int) (a5 : List Int) (a6 : Int) (a7 : Int) (a8 : Int) (a9 : Bool) : AH := ⟨sB [(0, (some (rblk P 14 [false, true, false, true] .ready none [(4, (Value.pointer (some ⟨2, 0, none⟩))), (5, (Value.pointer (some ⟨3, 0, none⟩))), (6, (Value.pointer (some ⟨7, 0, none⟩))), (8, (Value.func (.func 18) #[] #[(Value.pointer (some ⟨8, 0, none⟩))]))] 1))), (1, (some (.marks true))), (2, (some (.cells (layT [(Value.int .i64 a0), (Value.slice none 0 0), (Value.int .i64 a1), (Value.int .i64 a2), (Value.bool a3)]) 38))), (3, (some (.cells (layT [(Value.func (.func 16) #[] #[(Value.pointer (some ⟨4, 0, none⟩)), (Value.pointer (some ⟨5, 0, none⟩))])]) 43))), (4, (some (.cells (layT [(Value.int .i64 a4)]) 3))), (5, (some (.cells (layT [(Value.slice (some ⟨6, 0, none⟩) (a5).length (Nat.add big 1))]) 23))), (6, (some (.cells (layT (iv a5)) 3))), (7, (some (.cells (layT [(Value.int .i64 a6), (Value.slice none 0 0), (Value.int .i64 a7), (Value.int .i64 a8), (Value.bool a9)]) 38))), (8, (some (.cells (layT [(Value.slice (some ⟨0, 0, some 1⟩) (Args.S).length Args.cS)]) 22)))], 9, 9⟩
noncomputable def V_slicesValuesapiStyle1q3 (a0 : Int) (a1 : Int) (a2 : Int) (a3 : Bool) (a4 : Int) (a5 : List Int) (a6 : Int) (a7 : Int) (a8 : Int) (a9 : Bool) (r : Int × List (NL) × Int × Int × Bool) : Value := match r with
  | (o0, o1, o2, o3, o4) => (Value.tuple #[])
noncomputable def R_slicesValuesapiStyle1q3 (a0 : Int) (a1 : Int) (a2 : Int) (a3 : Bool) (a4 : Int) (a5 : List Int) (a6 : Int) (a7 : Int) (a8 : Int) (a9 : Bool) (r : Int × List (NL) × Int × Int × Bool) : AH := match r with
  | (o0, o1, o2, o3, o4) => ⟨sB [(0, (some (rblk P 14 [false, true, false, true] .ready none [(4, (Value.pointer (some ⟨2, 0, none⟩))), (5, (Value.pointer (some ⟨3, 0, none⟩))), (6, (Value.pointer (some ⟨7, 0, none⟩))), (8, (Value.func (.func 18) #[] #[(Value.pointer (some ⟨8, 0, none⟩))]))] 1))), (1, (some (.marks true))), (2, (some (.cells (layT [(Value.int .i64 o0), (nlQ o1), (Value.int .i64 o2), (Value.int .i64 o3), (Value.bool o4)]) 38))), (3, (some (.cells (layT [(Value.func (.func 16) #[] #[(Value.pointer (some ⟨4, 0, none⟩)), (Value.pointer (some ⟨5, 0, none⟩))])]) 43))), (4, (some (.cells (layT [(Value.int .i64 a4)]) 3))), (5, (some (.cells (layT [(Value.slice (some ⟨6, 0, none⟩) (a5).length (Nat.add big 1))]) 23))), (6, (some (.cells (layT (iv a5)) 3))), (7, (some (.cells (layT [(Value.int .i64 a6), (Value.slice none 0 0), (Value.int .i64 a7), (Value.int .i64 a8), (Value.bool a9)]) 38))), (8, (some (.cells (layT [(Value.slice (some ⟨0, 0, some 1⟩) (Args.S).length Args.cS)]) 22)))], 9, 0⟩
noncomputable abbrev G_slicesValuesapiStyle1q3 (a0 : Int) (a1 : Int) (a2 : Int) (a3 : Bool) (a4 : Int) (a5 : List Int) (a6 : Int) (a7 : Int) (a8 : Int) (a9 : Bool) (r : Int × List (NL) × Int × Int × Bool) : Prop := Gv P (.func 18) (A_slicesValuesapiStyle1q3 a0 a1 a2 a3 a4 a5 a6 a7 a8 a9) (H_slicesValuesapiStyle1q3 a0 a1 a2 a3 a4 a5 a6 a7 a8 a9) (V_slicesValuesapiStyle1q3 a0 a1 a2 a3 a4 a5 a6 a7 a8 a9 r) (R_slicesValuesapiStyle1q3 a0 a1 a2 a3 a4 a5 a6 a7 a8 a9 r)
def m_slicesValuesapiStyle1q3 (n : Nat) (a0 : Int) (a1 : Int) (a2 : Int) (a3 : Bool) (a4 : Int) (a5 : List Int) (a6 : Int) (a7 : Int) (a8 : Int) (a9 : Bool) : Option (Int × List (NL) × Int × Int × Bool) :=
  (m_slicesValuesapiStyle1q3_1 n a4 a5 a6 a7 a8 a9 (((Args.S).length : Nat) : Int) (a0, ([] : List (NL)), a1, a2, a3, 0)).bind fun t => match t with
  | (c1_0, c1_1, c1_2, c1_3, c1_4) =>
    match c1_1 with
    | [] =>
      some (c1_0, ([] : List (NL)), c1_2, c1_3, c1_4)
    | c1_1a :: c1_1t =>
      some (c1_0, [c1_1a], c1_2, c1_3, c1_4)
set_option maxRecDepth 100000 in
theorem p_slicesValuesapiStyle1q3_0 (n : Nat) (a0 : Int) (a1 : Int) (a2 : Int) (a3 : Bool) (a4 : Int) (a5 : List Int) (a6 : Int) (a7 : Int) (a8 : Int) (a9 : Bool) (c1_0 : Int) (c1_2 : Int) (c1_3 : Int) (c1_4 : Bool) (hc1 : m_slicesValuesapiStyle1q3_1 n a4 a5 a6 a7 a8 a9 (((Args.S).length : Nat) : Int) (a0, ([] : List (NL)), a1, a2, a3, 0) = some (c1_0, [], c1_2, c1_3, c1_4)) : G_slicesValuesapiStyle1q3 a0 a1 a2 a3 a4 a5 a6 a7 a8 a9 (c1_0, ([] : List (NL)), c1_2, c1_3, c1_4) :=
  runF_ok hm (A := aT []) (L := lT [(5, ⟨⟨[0, 5, 6, 7], [(0, 0, false), (1, 1, false), (2, 2, false), (3, 3, false), (4, 4, false), (5, 5, false), (6, 6, true), (7, 7, false), (8, 8, false)], 9, 0⟩, (X_slicesValuesapiStyle1q3_1 a4 a5 a6 a7 a8 a9 (((Args.S).length : Nat) : Int) (c1_0, ([] : List (NL)), c1_2, c1_3, c1_4)).1, (X_slicesValuesapiStyle1q3_1 a4 a5 a6 a7 a8 a9 (((Args.S).length : Nat) : Int) (c1_0, ([] : List (NL)), c1_2, c1_3, c1_4)).2⟩)]) (wk := ⟨[], [(0, 0, false), (1, 1, false), (2, 2, false), (3, 3, false), (4, 4, false), (5, 5, false), (6, 6, true), (7, 7, false), (8, 8, false)], 9, 0⟩)
    (ps := [CG P none (fnN P 18) 9 (codeOf P 18 [false, true]) (S_slicesValuesapiStyle1q3_1 a4 a5 a6 a7 a8 a9 (((Args.S).length : Nat) : Int) (a0, ([] : List (NL)), a1, a2, a3, 0)) (X_slicesValuesapiStyle1q3_1 a4 a5 a6 a7 a8 a9 (((Args.S).length : Nat) : Int) (c1_0, ([] : List (NL)), c1_2, c1_3, c1_4)),
    FlatB (.cells (layT (iv a5)) 3),
    FlatB (.cells (layT (iv a5)) 3)]) (by kernel_rfl) ⟨(m_slicesValuesapiStyle1q3_1_ok n a4 a5 a6 a7 a8 a9 (((Args.S).length : Nat) : Int) (a0, ([] : List (NL)), a1, a2, a3, 0) (c1_0, ([] : List (NL)), c1_2, c1_3, c1_4) hc1), (iv_flat _ _), (iv_flat _ _), trivial⟩
set_option maxRecDepth 100000 in
theorem p_slicesValuesapiStyle1q3_1 (n : Nat) (a0 : Int) (a1 : Int) (a2 : Int) (a3 : Bool) (a4 : Int) (a5 : List Int) (a6 : Int) (a7 : Int) (a8 : Int) (a9 : Bool) (c1_0 : Int) (c1_1a : NL) (c1_1t : List (NL)) (c1_2 : Int) (c1_3 : Int) (c1_4 : Bool) (hc1 : m_slicesValuesapiStyle1q3_1 n a4 a5 a6 a7 a8 a9 (((Args.S).length : Nat) : Int) (a0, ([] : List (NL)), a1, a2, a3, 0) = some (c1_0, (c1_1a :: c1_1t), c1_2, c1_3, c1_4)) : G_slicesValuesapiStyle1q3 a0 a1 a2 a3 a4 a5 a6 a7 a8 a9 (c1_0, [c1_1a], c1_2, c1_3, c1_4) :=
  runF_ok hm (A := aT []) (L := lT [(5, ⟨⟨[0, 5, 6, 7], [(0, 0, false), (1, 1, false), (2, 2, false), (3, 3, false), (4, 4, false), (5, 5, false), (6, 6, true), (7, 7, false), (8, 8, false)], 9, 0⟩, (X_slicesValuesapiStyle1q3_1 a4 a5 a6 a7 a8 a9 (((Args.S).length : Nat) : Int) (c1_0, (c1_1a :: c1_1t), c1_2, c1_3, c1_4)).1, (X_slicesValuesapiStyle1q3_1 a4 a5 a6 a7 a8 a9 (((Args.S).length : Nat) : Int) (c1_0, (c1_1a :: c1_1t), c1_2, c1_3, c1_4)).2⟩)]) (wk := ⟨[], [(0, 0, false), (1, 1, false), (2, 2, false), (3, 3, false), (4, 4, false), (5, 5, false), (6, 6, true), (7, 7, false), (8, 8, false)], 9, 0⟩)
    (ps := [CG P none (fnN P 18) 9 (codeOf P 18 [false, true]) (S_slicesValuesapiStyle1q3_1 a4 a5 a6 a7 a8 a9 (((Args.S).length : Nat) : Int) (a0, ([] : List (NL)), a1, a2, a3, 0)) (X_slicesValuesapiStyle1q3_1 a4 a5 a6 a7 a8 a9 (((Args.S).length : Nat) : Int) (c1_0, (c1_1a :: c1_1t), c1_2, c1_3, c1_4)),
    FlatB (.cells (layT (iv a5)) 3),
    FlatB (.cells (layT (iv a5)) 3)]) (by kernel_rfl) ⟨(m_slicesValuesapiStyle1q3_1_ok n a4 a5 a6 a7 a8 a9 (((Args.S).length : Nat) : Int) (a0, ([] : List (NL)), a1, a2, a3, 0) (c1_0, (c1_1a :: c1_1t), c1_2, c1_3, c1_4) hc1), (iv_flat _ _), (iv_flat _ _), trivial⟩
theorem m_slicesValuesapiStyle1q3_ok (n : Nat) (a0 : Int) (a1 : Int) (a2 : Int) (a3 : Bool) (a4 : Int) (a5 : List Int) (a6 : Int) (a7 : Int) (a8 : Int) (a9 : Bool) (r : Int × List (NL) × Int × Int × Bool) (h : m_slicesValuesapiStyle1q3 n a0 a1 a2 a3 a4 a5 a6 a7 a8 a9 = some r) : G_slicesValuesapiStyle1q3 a0 a1 a2 a3 a4 a5 a6 a7 a8 a9 r := by
  unfold m_slicesValuesapiStyle1q3 at h
  obtain ⟨⟨c1_0, c1_1, c1_2, c1_3, c1_4⟩, hc1, h⟩ := Option.bind_eq_some_iff.1 h
  dsimp only at h
  cases c1_1 with
  | nil =>
    dsimp only at h
    obtain rfl := Option.some.inj h; exact p_slicesValuesapiStyle1q3_0 n a0 a1 a2 a3 a4 a5 a6 a7 a8 a9 c1_0 c1_2 c1_3 c1_4 hc1
  | cons c1_1a c1_1t =>
    dsimp only at h
    obtain rfl := Option.some.inj h; exact p_slicesValuesapiStyle1q3_1 n a0 a1 a2 a3 a4 a5 a6 a7 a8 a9 c1_0 c1_1a c1_1t c1_2 c1_3 c1_4 hc1

noncomputable def A_foldOverstyleschoiceq3 (a0 : Int) (a1 : Int) (a2 : Int) (a3 : Bool) (a4 : Int) (a5 : List Int) : List Value := [(Value.func (.func 18) #[] #[(Value.pointer (some ⟨0, 0, none⟩))]), (Value.agg #[(Value.int .i64 a0), (Value.slice none 0 0), (Value.int .i64 a1), (Value.int .i64 a2), (Value.bool a3)]), (Value.func (.func 16) #[] #[(Value.pointer (some ⟨1, 0, none⟩)), (Value.pointer (some ⟨2, 0, none⟩))])]
noncomputable def H_foldOverstyleschoiceq3 (a0 : Int) (a1 : Int) (a2 : Int) (a3 : Bool) (a4 : Int) (a5 : List Int) : AH := ⟨sB [(0, (some (.cells (layT [(Value.slice (some ⟨0, 0, some 1⟩) (Args.S).length Args.cS)]) 22))), (1, (some (.cells (layT [(Value.int .i64 a4)]) 3))), (2, (some (.cells (layT [(Value.slice (some ⟨3, 0, none⟩) (a5).length (Nat.add big 1))]) 23))), (3, (some (.cells (layT (iv a5)) 3)))], 4, 4⟩
noncomputable def V_foldOverstyleschoiceq3 (a0 : Int) (a1 : Int) (a2 : Int) (a3 : Bool) (a4 : Int) (a5 : List Int) (r : Int × List (NL) × Int × Int × Bool) : Value := match r with
  | (o0, o1, o2, o3, o4) => (Value.agg #[(Value.int .i64 o0), (nlQ o1), (Value.int .i64 o2), (Value.int .i64 o3), (Value.bool o4)])
noncomputable def R_foldOverstyleschoiceq3 (a0 : Int) (a1 : Int) (a2 : Int) (a3 : Bool) (a4 : Int) (a5 : List Int) (r : Int × List (NL) × Int × Int × Bool) : AH := match r with
  | (o0, o1, o2, o3, o4) => ⟨sB [(0, (some (.cells (layT [(Value.slice (some ⟨0, 0, some 1⟩) (Args.S).length Args.cS)]) 22))), (1, (some (.cells (layT [(Value.int .i64 a4)]) 3))), (2, (some (.cells (layT [(Value.slice (some ⟨3, 0, none⟩) (a5).length (Nat.add big 1))]) 23))), (3, (some (.cells (layT (iv a5)) 3))), (4, (some (.marks false))), (5, (some (.cells (layT [(Value.int .i64 o0), (nlQ o1), (Value.int .i64 o2), (Value.int .i64 o3), (Value.bool o4)]) 38)))], 6, 0⟩
noncomputable abbrev G_foldOverstyleschoiceq3 (a0 : Int) (a1 : Int) (a2 : Int) (a3 : Bool) (a4 : Int) (a5 : List Int) (r : Int × List (NL) × Int × Int × Bool) : Prop := Gv P (.func 14) (A_foldOverstyleschoiceq3 a0 a1 a2 a3 a4 a5) (H_foldOverstyleschoiceq3 a0 a1 a2 a3 a4 a5) (V_foldOverstyleschoiceq3 a0 a1 a2 a3 a4 a5 r) (R_foldOverstyleschoiceq3 a0 a1 a2 a3 a4 a5 r)
def m_foldOverstyleschoiceq3 (n : Nat) (a0 : Int) (a1 : Int) (a2 : Int) (a3 : Bool) (a4 : Int) (a5 : List Int) : Option (Int × List (NL) × Int × Int × Bool) :=
  (m_slicesValuesapiStyle1q3 n a0 a1 a2 a3 a4 a5 0 0 0 false).bind fun t => match t with
  | (c1_0, c1_1, c1_2, c1_3, c1_4) =>
    match c1_1 with
    | [] =>
      some (c1_0, ([] : List (NL)), c1_2, c1_3, c1_4)
    | c1_1a :: c1_1t =>
      some (c1_0, [c1_1a], c1_2, c1_3, c1_4)
set_option maxRecDepth 100000 in
theorem p_foldOverstyleschoiceq3_0 (n : Nat) (a0 : Int) (a1 : Int) (a2 : Int) (a3 : Bool) (a4 : Int) (a5 : List Int) (c1_0 : Int) (c1_2 : Int) (c1_3 : Int) (c1_4 : Bool) (hc1 : m_slicesValuesapiStyle1q3 n a0 a1 a2 a3 a4 a5 0 0 0 false = some (c1_0, [], c1_2, c1_3, c1_4)) : G_foldOverstyleschoiceq3 a0 a1 a2 a3 a4 a5 (c1_0, ([] : List (NL)), c1_2, c1_3, c1_4) :=
  runF_ok hm (A := aT [(8, .rng ⟨9, [(0, 8, false), (1, 7, false), (2, 4, false), (3, 5, false), (4, 1, false), (5, 2, false), (6, 3, true), (7, 6, false), (8, 0, false)], (V_slicesValuesapiStyle1q3 a0 a1 a2 a3 a4 a5 0 0 0 false (c1_0, ([] : List (NL)), c1_2, c1_3, c1_4)), (R_slicesValuesapiStyle1q3 a0 a1 a2 a3 a4 a5 0 0 0 false (c1_0, ([] : List (NL)), c1_2, c1_3, c1_4)), [(8, 0, false), (7, 1, false), (4, 2, false), (5, 3, false), (1, 4, false), (2, 5, false), (3, 6, true), (6, 7, false), (0, 8, false)]⟩ [4, 5, 6, 8])]) (L := lT []) (wk := ⟨[6], [(0, 0, false), (1, 1, false), (2, 2, false), (3, 3, true), (4, 7, false), (5, 6, false)], 6, 0⟩)
    (ps := [G_slicesValuesapiStyle1q3 a0 a1 a2 a3 a4 a5 0 0 0 false (c1_0, ([] : List (NL)), c1_2, c1_3, c1_4),
    FlatB (.cells (layT (iv a5)) 3),
    FlatB (.cells (layT (iv a5)) 3),
    FlatB (.cells (layT (iv a5)) 3)]) (by kernel_rfl) ⟨(m_slicesValuesapiStyle1q3_ok n a0 a1 a2 a3 a4 a5 0 0 0 false (c1_0, ([] : List (NL)), c1_2, c1_3, c1_4) hc1), (iv_flat _ _), (iv_flat _ _), (iv_flat _ _), trivial⟩
set_option maxRecDepth 100000 in
theorem p_foldOverstyleschoiceq3_1 (n : Nat) (a0 : Int) (a1 : Int) (a2 : Int) (a3 : Bool) (a4 : Int) (a5 : List Int) (c1_0 : Int) (c1_1a : NL) (c1_1t : List (NL)) (c1_2 : Int) (c1_3 : Int) (c1_4 : Bool) (hc1 : m_slicesValuesapiStyle1q3 n a0 a1 a2 a3 a4 a5 0 0 0 false = some (c1_0, (c1_1a :: c1_1t), c1_2, c1_3, c1_4)) : G_foldOverstyleschoiceq3 a0 a1 a2 a3 a4 a5 (c1_0, [c1_1a], c1_2, c1_3, c1_4) :=
  runF_ok hm (A := aT [(8, .rng ⟨9, [(0, 8, false), (1, 7, false), (2, 4, false), (3, 5, false), (4, 1, false), (5, 2, false), (6, 3, true), (7, 6, false), (8, 0, false)], (V_slicesValuesapiStyle1q3 a0 a1 a2 a3 a4 a5 0 0 0 false (c1_0, (c1_1a :: c1_1t), c1_2, c1_3, c1_4)), (R_slicesValuesapiStyle1q3 a0 a1 a2 a3 a4 a5 0 0 0 false (c1_0, (c1_1a :: c1_1t), c1_2, c1_3, c1_4)), [(8, 0, false), (7, 1, false), (4, 2, false), (5, 3, false), (1, 4, false), (2, 5, false), (3, 6, true), (6, 7, false), (0, 8, false)]⟩ [4, 5, 6, 8])]) (L := lT []) (wk := ⟨[6], [(0, 0, false), (1, 1, false), (2, 2, false), (3, 3, true), (4, 7, false), (5, 6, false)], 6, 0⟩)
    (ps := [G_slicesValuesapiStyle1q3 a0 a1 a2 a3 a4 a5 0 0 0 false (c1_0, (c1_1a :: c1_1t), c1_2, c1_3, c1_4),
    FlatB (.cells (layT (iv a5)) 3),
    FlatB (.cells (layT (iv a5)) 3),
    FlatB (.cells (layT (iv a5)) 3)]) (by kernel_rfl) ⟨(m_slicesValuesapiStyle1q3_ok n a0 a1 a2 a3 a4 a5 0 0 0 false (c1_0, (c1_1a :: c1_1t), c1_2, c1_3, c1_4) hc1), (iv_flat _ _), (iv_flat _ _), (iv_flat _ _), trivial⟩
theorem m_foldOverstyleschoiceq3_ok (n : Nat) (a0 : Int) (a1 : Int) (a2 : Int) (a3 : Bool) (a4 : Int) (a5 : List Int) (r : Int × List (NL) × Int × Int × Bool) (h : m_foldOverstyleschoiceq3 n a0 a1 a2 a3 a4 a5 = some r) : G_foldOverstyleschoiceq3 a0 a1 a2 a3 a4 a5 r := by
  unfold m_foldOverstyleschoiceq3 at h
  obtain ⟨⟨c1_0, c1_1, c1_2, c1_3, c1_4⟩, hc1, h⟩ := Option.bind_eq_some_iff.1 h
  dsimp only at h
  cases c1_1 with
  | nil =>
    dsimp only at h
    obtain rfl := Option.some.inj h; exact p_foldOverstyleschoiceq3_0 n a0 a1 a2 a3 a4 a5 c1_0 c1_2 c1_3 c1_4 hc1
  | cons c1_1a c1_1t =>
    dsimp only at h
    obtain rfl := Option.some.inj h; exact p_foldOverstyleschoiceq3_1 n a0 a1 a2 a3 a4 a5 c1_0 c1_1a c1_1t c1_2 c1_3 c1_4 hc1

noncomputable def A_stylesStyleq3 (a0 : Int) (a1 : List Int) : List Value := [(Value.slice (some ⟨0, 0, some 1⟩) (Args.S).length Args.cS), (Value.int .i64 a0), (Value.slice (some ⟨0, 0, none⟩) (a1).length (Nat.add big 1))]
noncomputable def H_stylesStyleq3 (a0 : Int) (a1 : List Int) : AH := ⟨sB [(0, (some (.cells (layT (iv a1)) 3)))], 1, 1⟩
noncomputable def V_stylesStyleq3 (a0 : Int) (a1 : List Int) (r : Int) : Value := match r with
  | o0 => (Value.int .i64 o0)
noncomputable def R_stylesStyleq3 (a0 : Int) (a1 : List Int) (r : Int) : AH := match r with
  | o0 => ⟨sB [(0, (some (.cells (layT (iv a1)) 3)))], 1, 0⟩
noncomputable abbrev G_stylesStyleq3 (a0 : Int) (a1 : List Int) (r : Int) : Prop := Gv P (.func 9) (A_stylesStyleq3 a0 a1) (H_stylesStyleq3 a0 a1) (V_stylesStyleq3 a0 a1 r) (R_stylesStyleq3 a0 a1 r)
def m_stylesStyleq3 (n : Nat) (a0 : Int) (a1 : List Int) : Option (Int) :=
  (m_slicesValuesapiStyleq1 n).bind fun _ =>
  (m_foldOverstyleschoiceq3 n 0 0 0 false a0 a1).bind fun t => match t with
  | (c2_0, c2_1, c2_2, c2_3, c2_4) =>
    match c2_1 with
    | [] =>
      some c2_2
    | c2_1a :: c2_1t =>
      some c2_2
set_option maxRecDepth 100000 in
theorem p_stylesStyleq3_0 (n : Nat) (a0 : Int) (a1 : List Int) (hc1 : m_slicesValuesapiStyleq1 n = some ()) (c2_0 : Int) (c2_2 : Int) (c2_3 : Int) (c2_4 : Bool) (hc2 : m_foldOverstyleschoiceq3 n 0 0 0 false a0 a1 = some (c2_0, [], c2_2, c2_3, c2_4)) : G_stylesStyleq3 a0 a1 c2_2 :=
  runF_ok hm (A := aT [(6, .call ⟨0, [], (V_slicesValuesapiStyleq1  ()), (R_slicesValuesapiStyleq1  ()), [(3, 0, false)]⟩), (9, .call ⟨4, [(0, 3, false), (1, 1, false), (2, 2, false), (3, 0, true)], (V_foldOverstyleschoiceq3 0 0 0 false a0 a1 (c2_0, ([] : List (NL)), c2_2, c2_3, c2_4)), (R_foldOverstyleschoiceq3 0 0 0 false a0 a1 (c2_0, ([] : List (NL)), c2_2, c2_3, c2_4)), [(3, 0, false), (1, 1, false), (2, 2, false), (0, 3, true), (5, 5, false)]⟩)]) (L := lT []) (wk := ⟨[6], [(0, 0, true)], 1, 0⟩)
    (ps := [G_slicesValuesapiStyleq1  (),
    G_foldOverstyleschoiceq3 0 0 0 false a0 a1 (c2_0, ([] : List (NL)), c2_2, c2_3, c2_4),
    FlatB (.cells (layT (iv a1)) 3),
    FlatB (.cells (layT (iv a1)) 3),
    FlatB (.cells (layT (iv a1)) 3)]) (by kernel_rfl) ⟨(m_slicesValuesapiStyleq1_ok n () hc1), (m_foldOverstyleschoiceq3_ok n 0 0 0 false a0 a1 (c2_0, ([] : List (NL)), c2_2, c2_3, c2_4) hc2), (iv_flat _ _), (iv_flat _ _), (iv_flat _ _), trivial⟩
set_option maxRecDepth 100000 in
theorem p_stylesStyleq3_1 (n : Nat) (a0 : Int) (a1 : List Int) (hc1 : m_slicesValuesapiStyleq1 n = some ()) (c2_0 : Int) (c2_1a : NL) (c2_1t : List (NL)) (c2_2 : Int) (c2_3 : Int) (c2_4 : Bool) (hc2 : m_foldOverstyleschoiceq3 n 0 0 0 false a0 a1 = some (c2_0, (c2_1a :: c2_1t), c2_2, c2_3, c2_4)) : G_stylesStyleq3 a0 a1 c2_2 :=
  runF_ok hm (A := aT [(6, .call ⟨0, [], (V_slicesValuesapiStyleq1  ()), (R_slicesValuesapiStyleq1  ()), [(3, 0, false)]⟩), (9, .call ⟨4, [(0, 3, false), (1, 1, false), (2, 2, false), (3, 0, true)], (V_foldOverstyleschoiceq3 0 0 0 false a0 a1 (c2_0, (c2_1a :: c2_1t), c2_2, c2_3, c2_4)), (R_foldOverstyleschoiceq3 0 0 0 false a0 a1 (c2_0, (c2_1a :: c2_1t), c2_2, c2_3, c2_4)), [(3, 0, false), (1, 1, false), (2, 2, false), (0, 3, true), (5, 5, false)]⟩)]) (L := lT []) (wk := ⟨[6], [(0, 0, true)], 1, 0⟩)
    (ps := [G_slicesValuesapiStyleq1  (),
    G_foldOverstyleschoiceq3 0 0 0 false a0 a1 (c2_0, (c2_1a :: c2_1t), c2_2, c2_3, c2_4),
    FlatB (.cells (layT (iv a1)) 3),
    FlatB (.cells (layT (iv a1)) 3),
    FlatB (.cells (layT (iv a1)) 3)]) (by kernel_rfl) ⟨(m_slicesValuesapiStyleq1_ok n () hc1), (m_foldOverstyleschoiceq3_ok n 0 0 0 false a0 a1 (c2_0, (c2_1a :: c2_1t), c2_2, c2_3, c2_4) hc2), (iv_flat _ _), (iv_flat _ _), (iv_flat _ _), trivial⟩
theorem m_stylesStyleq3_ok (n : Nat) (a0 : Int) (a1 : List Int) (r : Int) (h : m_stylesStyleq3 n a0 a1 = some r) : G_stylesStyleq3 a0 a1 r := by
  unfold m_stylesStyleq3 at h
  obtain ⟨_, hc1, h⟩ := Option.bind_eq_some_iff.1 h
  obtain ⟨⟨c2_0, c2_1, c2_2, c2_3, c2_4⟩, hc2, h⟩ := Option.bind_eq_some_iff.1 h
  dsimp only at h
  cases c2_1 with
  | nil =>
    dsimp only at h
    obtain rfl := Option.some.inj h; exact p_stylesStyleq3_0 n a0 a1 hc1 c2_0 c2_2 c2_3 c2_4 hc2
  | cons c2_1a c2_1t =>
    dsimp only at h
    obtain rfl := Option.some.inj h; exact p_stylesStyleq3_1 n a0 a1 hc1 c2_0 c2_1a c2_1t c2_2 c2_3 c2_4 hc2

noncomputable def S_slicesEqualintintq3_1 (x1_0 : Nat) (x1_1 : NL) (st : Unit) : XSt := match st with
  | _ => (sT 26 [(0, (Value.slice (some ⟨0, 0, none⟩) 0 x1_0)), (1, (nlV x1_1)), (12, (Value.int .i64 (0 : Int))), (13, (Value.int .i64 (0 : Int)))], [], ⟨sB [(0, (some (.cells (layT []) 3)))], 1, 1⟩)
noncomputable def X_slicesEqualintintq3_1 (x1_0 : Nat) (x1_1 : NL) (r : Unit) : Ex × XSt := match r with
  | _ => (.exit 0, (sT 26 [], [], ⟨sB [(0, (some (.cells (layT []) 3)))], 1, 1⟩))
def B_slicesEqualintintq3_1 (n : Nat) (x1_0 : Nat) (x1_1 : NL) (st : Unit) : Option ((Unit) ⊕ (Unit)) := match st with
  | _ =>
    some (.inr ())
def m_slicesEqualintintq3_1 (n : Nat) (x1_0 : Nat) (x1_1 : NL) (st : Unit) : Option (Unit) := iterM (B_slicesEqualintintq3_1 n x1_0 x1_1) n st
set_option maxRecDepth 100000 in
theorem q_slicesEqualintintq3_1_0 (n : Nat) {rnd : Option Nat} (x1_0 : Nat) (x1_1 : NL) : CG P rnd (fnN P 17) 1 (codeOf P 17 [false, false, true, false, true, true]) (S_slicesEqualintintq3_1 x1_0 x1_1 ()) (X_slicesEqualintintq3_1 x1_0 x1_1 ()) :=
  runC_ok hm (A := aT []) (L := lT []) (wk := ⟨[], [(0, 0, false)], 1, 1⟩)
    (ps := []) (by kernel_rfl) trivial
theorem m_slicesEqualintintq3_1_ok (n : Nat) {rnd : Option Nat} (x1_0 : Nat) (x1_1 : NL) (st : Unit) (r : Unit) (h : m_slicesEqualintintq3_1 n x1_0 x1_1 st = some r) : CG P rnd (fnN P 17) 1 (codeOf P 17 [false, true, false, true, true]) (S_slicesEqualintintq3_1 x1_0 x1_1 st) (X_slicesEqualintintq3_1 x1_0 x1_1 r) :=
  CG.iter (b := codeOf P 17 [false, false, true, false, true, true]) (by kernel_rfl) (body := B_slicesEqualintintq3_1 n x1_0 x1_1) (S := S_slicesEqualintintq3_1 x1_0 x1_1) (X := X_slicesEqualintintq3_1 x1_0 x1_1)
    (fun s s' h => by
    unfold B_slicesEqualintintq3_1 at h
    dsimp only at h
    cases h)
    (fun s r h => by
    unfold B_slicesEqualintintq3_1 at h
    dsimp only at h
    obtain rfl := Sum.inr.inj (Option.some.inj h); exact q_slicesEqualintintq3_1_0 n x1_0 x1_1)
    (fun r => by intro hx; cases hx) h
noncomputable def A_slicesEqualintintq3 (a0 : Nat) (a1 : NL) : List Value := [(Value.slice (some ⟨0, 0, none⟩) 0 a0), (nlV a1)]
noncomputable def H_slicesEqualintintq3 (a0 : Nat) (a1 : NL) : AH := ⟨sB [(0, (some (.cells (layT []) 3)))], 1, 1⟩
noncomputable def V_slicesEqualintintq3 (a0 : Nat) (a1 : NL) (r : Bool) : Value := match r with
  | o0 => (Value.bool o0)
noncomputable def R_slicesEqualintintq3 (a0 : Nat) (a1 : NL) (r : Bool) : AH := match r with
  | o0 => ⟨sB [], 1, 1⟩
noncomputable abbrev G_slicesEqualintintq3 (a0 : Nat) (a1 : NL) (r : Bool) : Prop := Gv P (.func 17) (A_slicesEqualintintq3 a0 a1) (H_slicesEqualintintq3 a0 a1) (V_slicesEqualintintq3 a0 a1 r) (R_slicesEqualintintq3 a0 a1 r)
def m_slicesEqualintintq3 (n : Nat) (a0 : Nat) (a1 : NL) : Option (Bool) :=
  if (0 : Int) = (((a1).l.length : Nat) : Int) then
    (m_slicesEqualintintq3_1 n a0 a1 ()).bind fun _ =>
    some true
  else
    some false
set_option maxRecDepth 100000 in
theorem p_slicesEqualintintq3_0 (n : Nat) (a0 : Nat) (a1 : NL) (hc1 : (0 : Int) = (((a1).l.length : Nat) : Int)) (hc2 : m_slicesEqualintintq3_1 n a0 a1 () = some ()) : G_slicesEqualintintq3 a0 a1 true :=
  runF_ok hm (A := aT [(8, .val (.bool false))]) (L := lT [(16, ⟨⟨[0, 1, 12, 13], [(0, 0, false)], 1, 1⟩, (X_slicesEqualintintq3_1 a0 a1 ()).1, (X_slicesEqualintintq3_1 a0 a1 ()).2⟩)]) (wk := ⟨[4], [], 1, 1⟩)
    (ps := [(Value.bool ((0 : Int) != (((a1).l.length : Nat) : Int))) = (Value.bool false),
    CG P none (fnN P 17) 1 (codeOf P 17 [false, true, false, true, true]) (S_slicesEqualintintq3_1 a0 a1 ()) (X_slicesEqualintintq3_1 a0 a1 ())]) (by kernel_rfl) ⟨(vnF hc1), (m_slicesEqualintintq3_1_ok n a0 a1 () () hc2), trivial⟩
set_option maxRecDepth 100000 in
theorem p_slicesEqualintintq3_1 (n : Nat) (a0 : Nat) (a1 : NL) (hc1 : ¬ ((0 : Int) = (((a1).l.length : Nat) : Int))) : G_slicesEqualintintq3 a0 a1 false :=
  runF_ok hm (A := aT [(8, .val (.bool true))]) (L := lT []) (wk := ⟨[4], [], 1, 1⟩)
    (ps := [(Value.bool ((0 : Int) != (((a1).l.length : Nat) : Int))) = (Value.bool true)]) (by kernel_rfl) ⟨(vnT hc1), trivial⟩
theorem m_slicesEqualintintq3_ok (n : Nat) (a0 : Nat) (a1 : NL) (r : Bool) (h : m_slicesEqualintintq3 n a0 a1 = some r) : G_slicesEqualintintq3 a0 a1 r := by
  unfold m_slicesEqualintintq3 at h
  by_cases hc1 : (0 : Int) = (((a1).l.length : Nat) : Int)
  · rw [if_pos hc1] at h
    obtain ⟨_, hc2, h⟩ := Option.bind_eq_some_iff.1 h
    obtain rfl := Option.some.inj h; exact p_slicesEqualintintq3_0 n a0 a1 hc1 hc2
  · rw [if_neg hc1] at h
    obtain rfl := Option.some.inj h; exact p_slicesEqualintintq3_1 n a0 a1 hc1

noncomputable def A_stylesendsWithintq3 (a0 : NL) : List Value := [(Value.slice (some ⟨0, 0, none⟩) 0 0), (nlV a0)]
noncomputable def H_stylesendsWithintq3 (a0 : NL) : AH := ⟨sB [(0, (some (.cells (layT []) 3)))], 1, 1⟩
noncomputable def V_stylesendsWithintq3 (a0 : NL) (r : Bool) : Value := match r with
  | o0 => (Value.bool o0)
noncomputable def R_stylesendsWithintq3 (a0 : NL) (r : Bool) : AH := match r with
  | o0 => ⟨sB [], 1, 1⟩
noncomputable abbrev G_stylesendsWithintq3 (a0 : NL) (r : Bool) : Prop := Gv P (.func 13) (A_stylesendsWithintq3 a0) (H_stylesendsWithintq3 a0) (V_stylesendsWithintq3 a0 r) (R_stylesendsWithintq3 a0 r)
def m_stylesendsWithintq3 (n : Nat) (a0 : NL) : Option (Bool) :=
  if (((a0).l.length : Nat) : Int) ≤ (0 : Int) then
    if (w64 ((0 : Int) - (((a0).l.length : Nat) : Int))) = 0 then
      (m_slicesEqualintintq3 n 0 a0).bind fun c3_ =>
      some c3_
    else none
  else
    some false
set_option maxRecDepth 100000 in
theorem p_stylesendsWithintq3_0 (n : Nat) (a0 : NL) (hc1 : (((a0).l.length : Nat) : Int) ≤ (0 : Int)) (hc2 : (w64 ((0 : Int) - (((a0).l.length : Nat) : Int))) = 0) (c3_ : Bool) (hc3 : m_slicesEqualintintq3 n 0 a0 = some c3_) : G_stylesendsWithintq3 a0 c3_ :=
  runF_ok hm (A := aT [(7, .val (.bool true)), (15, .pur (Value.slice (some ⟨0, 0, none⟩) 0 0)), (17, .call ⟨1, [(0, 0, false)], (V_slicesEqualintintq3 0 a0 c3_), (R_slicesEqualintintq3 0 a0 c3_), []⟩)]) (L := lT []) (wk := ⟨[4], [], 1, 1⟩)
    (ps := [(Value.bool (decide ((((a0).l.length : Nat) : Int) ≤ (0 : Int)))) = (Value.bool true),
    opSlice P 23 (Value.slice (some ⟨0, 0, none⟩) 0 0) (some (Value.int .i64 (w64 ((0 : Int) - (((a0).l.length : Nat) : Int))))) none none Ax.h0 = some ((Value.slice (some ⟨0, 0, none⟩) 0 0), Ax.h0),
    G_slicesEqualintintq3 0 a0 c3_]) (by kernel_rfl) ⟨(vbT hc1), (sl0Lo (e := 3) (es := 1) (by kernel_rfl) (by kernel_rfl) hc2), (m_slicesEqualintintq3_ok n 0 a0 c3_ hc3), trivial⟩
set_option maxRecDepth 100000 in
theorem p_stylesendsWithintq3_1 (n : Nat) (a0 : NL) (hc1 : ¬ ((((a0).l.length : Nat) : Int) ≤ (0 : Int))) : G_stylesendsWithintq3 a0 false :=
  runF_ok hm (A := aT [(7, .val (.bool false))]) (L := lT []) (wk := ⟨[4], [], 1, 1⟩)
    (ps := [(Value.bool (decide ((((a0).l.length : Nat) : Int) ≤ (0 : Int)))) = (Value.bool false)]) (by kernel_rfl) ⟨(vbF hc1), trivial⟩
theorem m_stylesendsWithintq3_ok (n : Nat) (a0 : NL) (r : Bool) (h : m_stylesendsWithintq3 n a0 = some r) : G_stylesendsWithintq3 a0 r := by
  unfold m_stylesendsWithintq3 at h
  by_cases hc1 : (((a0).l.length : Nat) : Int) ≤ (0 : Int)
  · rw [if_pos hc1] at h
    by_cases hc2 : (w64 ((0 : Int) - (((a0).l.length : Nat) : Int))) = 0
    · rw [if_pos hc2] at h
      obtain ⟨c3_, hc3, h⟩ := Option.bind_eq_some_iff.1 h
      obtain rfl := Option.some.inj h; exact p_stylesendsWithintq3_0 n a0 hc1 hc2 c3_ hc3
    · rw [if_neg hc2] at h; cases h
  · rw [if_neg hc1] at h
    obtain rfl := Option.some.inj h; exact p_stylesendsWithintq3_1 n a0 hc1

noncomputable def A_stylesMatchesq3 (a0 : Int) (a1 : NL) (a2 : Int) (a3 : Int) (a4 : Int) : List Value := [(Value.agg #[(Value.int .i64 a0), (nlV a1), (Value.int .i64 a2), (Value.int .i64 a3)]), (Value.int .i64 a4), (Value.slice (some ⟨0, 0, none⟩) 0 0)]
noncomputable def H_stylesMatchesq3 (a0 : Int) (a1 : NL) (a2 : Int) (a3 : Int) (a4 : Int) : AH := ⟨sB [(0, (some (.cells (layT []) 3)))], 1, 1⟩
noncomputable def V_stylesMatchesq3 (a0 : Int) (a1 : NL) (a2 : Int) (a3 : Int) (a4 : Int) (r : Bool) : Value := match r with
  | o0 => (Value.bool o0)
noncomputable def R_stylesMatchesq3 (a0 : Int) (a1 : NL) (a2 : Int) (a3 : Int) (a4 : Int) (r : Bool) : AH := match r with
  | o0 => ⟨sB [], 1, 1⟩
noncomputable abbrev G_stylesMatchesq3 (a0 : Int) (a1 : NL) (a2 : Int) (a3 : Int) (a4 : Int) (r : Bool) : Prop := Gv P (.func 8) (A_stylesMatchesq3 a0 a1 a2 a3 a4) (H_stylesMatchesq3 a0 a1 a2 a3 a4) (V_stylesMatchesq3 a0 a1 a2 a3 a4 r) (R_stylesMatchesq3 a0 a1 a2 a3 a4 r)
def m_stylesMatchesq3 (n : Nat) (a0 : Int) (a1 : NL) (a2 : Int) (a3 : Int) (a4 : Int) : Option (Bool) :=
  if a0 = a4 then
    (m_stylesendsWithintq3 n a1).bind fun c2_ =>
    some c2_
  else
    some false
set_option maxRecDepth 100000 in
theorem p_stylesMatchesq3_0 (n : Nat) (a0 : Int) (a1 : NL) (a2 : Int) (a3 : Int) (a4 : Int) (hc1 : a0 = a4) (c2_ : Bool) (hc2 : m_stylesendsWithintq3 n a1 = some c2_) : G_stylesMatchesq3 a0 a1 a2 a3 a4 c2_ :=
  runF_ok hm (A := aT [(7, .val (.bool true)), (12, .call ⟨1, [(0, 0, false)], (V_stylesendsWithintq3 a1 c2_), (R_stylesendsWithintq3 a1 c2_), []⟩)]) (L := lT []) (wk := ⟨[6], [], 1, 1⟩)
    (ps := [(Value.bool (a0 == a4)) = (Value.bool true),
    G_stylesendsWithintq3 a1 c2_]) (by kernel_rfl) ⟨(veT hc1), (m_stylesendsWithintq3_ok n a1 c2_ hc2), trivial⟩
set_option maxRecDepth 100000 in
theorem p_stylesMatchesq3_1 (n : Nat) (a0 : Int) (a1 : NL) (a2 : Int) (a3 : Int) (a4 : Int) (hc1 : ¬ (a0 = a4)) : G_stylesMatchesq3 a0 a1 a2 a3 a4 false :=
  runF_ok hm (A := aT [(7, .val (.bool false))]) (L := lT []) (wk := ⟨[6], [], 1, 1⟩)
    (ps := [(Value.bool (a0 == a4)) = (Value.bool false)]) (by kernel_rfl) ⟨(veF hc1), trivial⟩
theorem m_stylesMatchesq3_ok (n : Nat) (a0 : Int) (a1 : NL) (a2 : Int) (a3 : Int) (a4 : Int) (r : Bool) (h : m_stylesMatchesq3 n a0 a1 a2 a3 a4 = some r) : G_stylesMatchesq3 a0 a1 a2 a3 a4 r := by
  unfold m_stylesMatchesq3 at h
  by_cases hc1 : a0 = a4
  · rw [if_pos hc1] at h
    obtain ⟨c2_, hc2, h⟩ := Option.bind_eq_some_iff.1 h
    obtain rfl := Option.some.inj h; exact p_stylesMatchesq3_0 n a0 a1 a2 a3 a4 hc1 c2_ hc2
  · rw [if_neg hc1] at h
    obtain rfl := Option.some.inj h; exact p_stylesMatchesq3_1 n a0 a1 a2 a3 a4 hc1

noncomputable def A_stylesStyle1q5 (a0 : Int) (a1 : Int) (a2 : Int) (a3 : Bool) (a4 : Int) (a5 : NL) (a6 : Int) (a7 : Int) (a8 : Int) : List Value := [(Value.agg #[(Value.int .i64 a0), (Value.slice none 0 0), (Value.int .i64 a1), (Value.int .i64 a2), (Value.bool a3)]), (Value.agg #[(Value.int .i64 a4), (nlV a5), (Value.int .i64 a6), (Value.int .i64 a7)]), (Value.pointer (some ⟨0, 0, none⟩)), (Value.pointer (some ⟨1, 0, none⟩))]
noncomputable def H_stylesStyle1q5 (a0 : Int) (a1 : Int) (a2 : Int) (a3 : Bool) (a4 : Int) (a5 : NL) (a6 : Int) (a7 : Int) (a8 : Int) : AH := ⟨sB [(0, (some (.cells (layT [(Value.int .i64 a8)]) 3))), (1, (some (.cells (layT [(Value.slice (some ⟨2, 0, none⟩) 0 0)]) 23))), (2, (some (.cells (layT []) 3)))], 3, 3⟩
noncomputable def V_stylesStyle1q5 (a0 : Int) (a1 : Int) (a2 : Int) (a3 : Bool) (a4 : Int) (a5 : NL) (a6 : Int) (a7 : Int) (a8 : Int) (r : Int × List (NL) × Int × Int × Bool) : Value := match r with
  | (o0, o1, o2, o3, o4) => (Value.agg #[(Value.int .i64 o0), (nlQ o1), (Value.int .i64 o2), (Value.int .i64 o3), (Value.bool o4)])
noncomputable def R_stylesStyle1q5 (a0 : Int) (a1 : Int) (a2 : Int) (a3 : Bool) (a4 : Int) (a5 : NL) (a6 : Int) (a7 : Int) (a8 : Int) (r : Int × List (NL) × Int × Int × Bool) : AH := match r with
  | (o0, o1, o2, o3, o4) => ⟨sB [(3, (some (.cells (layT [(Value.int .i64 o0), (nlQ o1), (Value.int .i64 o2), (Value.int .i64 o3), (Value.bool o4)]) 38)))], 4, 3⟩
noncomputable abbrev G_stylesStyle1q5 (a0 : Int) (a1 : Int) (a2 : Int) (a3 : Bool) (a4 : Int) (a5 : NL) (a6 : Int) (a7 : Int) (a8 : Int) (r : Int × List (NL) × Int × Int × Bool) : Prop := Gv P (.func 16) (A_stylesStyle1q5 a0 a1 a2 a3 a4 a5 a6 a7 a8) (H_stylesStyle1q5 a0 a1 a2 a3 a4 a5 a6 a7 a8) (V_stylesStyle1q5 a0 a1 a2 a3 a4 a5 a6 a7 a8 r) (R_stylesStyle1q5 a0 a1 a2 a3 a4 a5 a6 a7 a8 r)
def m_stylesStyle1q5 (n : Nat) (a0 : Int) (a1 : Int) (a2 : Int) (a3 : Bool) (a4 : Int) (a5 : NL) (a6 : Int) (a7 : Int) (a8 : Int) : Option (Int × List (NL) × Int × Int × Bool) :=
  (m_stylesMatchesq3 n a4 a5 a6 a7 a8).bind fun c1_ =>
  if c1_ = true then
    if a3 = true then
      if a7 ≤ a2 then
        some (a0, ([] : List (NL)), a1, a2, a3)
      else
        some (a4, [a5], a6, a7, true)
    else
      some (a4, [a5], a6, a7, true)
  else
    some (a0, ([] : List (NL)), a1, a2, a3)
set_option maxRecDepth 100000 in
theorem p_stylesStyle1q5_0 (n : Nat) (a0 : Int) (a1 : Int) (a2 : Int) (a3 : Bool) (a4 : Int) (a5 : NL) (a6 : Int) (a7 : Int) (a8 : Int) (c1_ : Bool) (hc1 : m_stylesMatchesq3 n a4 a5 a6 a7 a8 = some c1_) (hc2 : c1_ = true) (hc3 : a3 = true) (hc4 : a7 ≤ a2) : G_stylesStyle1q5 a0 a1 a2 a3 a4 a5 a6 a7 a8 (a0, ([] : List (NL)), a1, a2, a3) :=
  runF_ok hm (A := aT [(9, .call ⟨1, [(0, 2, false)], (V_stylesMatchesq3 a4 a5 a6 a7 a8 c1_), (R_stylesMatchesq3 a4 a5 a6 a7 a8 c1_), []⟩), (10, .val (.bool false)), (14, .val (.bool true)), (20, .val (.bool true))]) (L := lT []) (wk := ⟨[6], [(3, 5, false)], 4, 3⟩)
    (ps := [G_stylesMatchesq3 a4 a5 a6 a7 a8 c1_,
    (Value.bool (!c1_)) = (Value.bool false),
    (Value.bool a3) = (Value.bool true),
    (Value.bool (decide (a7 ≤ a2))) = (Value.bool true)]) (by kernel_rfl) ⟨(m_stylesMatchesq3_ok n a4 a5 a6 a7 a8 c1_ hc1), (vBn hc2), (vB hc3), (vbT hc4), trivial⟩
set_option maxRecDepth 100000 in
theorem p_stylesStyle1q5_1 (n : Nat) (a0 : Int) (a1 : Int) (a2 : Int) (a3 : Bool) (a4 : Int) (a5 : NL) (a6 : Int) (a7 : Int) (a8 : Int) (c1_ : Bool) (hc1 : m_stylesMatchesq3 n a4 a5 a6 a7 a8 = some c1_) (hc2 : c1_ = true) (hc3 : a3 = true) (hc4 : ¬ (a7 ≤ a2)) : G_stylesStyle1q5 a0 a1 a2 a3 a4 a5 a6 a7 a8 (a4, [a5], a6, a7, true) :=
  runF_ok hm (A := aT [(9, .call ⟨1, [(0, 2, false)], (V_stylesMatchesq3 a4 a5 a6 a7 a8 c1_), (R_stylesMatchesq3 a4 a5 a6 a7 a8 c1_), []⟩), (10, .val (.bool false)), (14, .val (.bool true)), (20, .val (.bool false))]) (L := lT []) (wk := ⟨[6], [(3, 5, false)], 4, 3⟩)
    (ps := [G_stylesMatchesq3 a4 a5 a6 a7 a8 c1_,
    (Value.bool (!c1_)) = (Value.bool false),
    (Value.bool a3) = (Value.bool true),
    (Value.bool (decide (a7 ≤ a2))) = (Value.bool false)]) (by kernel_rfl) ⟨(m_stylesMatchesq3_ok n a4 a5 a6 a7 a8 c1_ hc1), (vBn hc2), (vB hc3), (vbF hc4), trivial⟩
set_option maxRecDepth 100000 in
theorem p_stylesStyle1q5_2 (n : Nat) (a0 : Int) (a1 : Int) (a2 : Int) (a3 : Bool) (a4 : Int) (a5 : NL) (a6 : Int) (a7 : Int) (a8 : Int) (c1_ : Bool) (hc1 : m_stylesMatchesq3 n a4 a5 a6 a7 a8 = some c1_) (hc2 : c1_ = true) (hc3 : ¬ (a3 = true)) : G_stylesStyle1q5 a0 a1 a2 a3 a4 a5 a6 a7 a8 (a4, [a5], a6, a7, true) :=
  runF_ok hm (A := aT [(9, .call ⟨1, [(0, 2, false)], (V_stylesMatchesq3 a4 a5 a6 a7 a8 c1_), (R_stylesMatchesq3 a4 a5 a6 a7 a8 c1_), []⟩), (10, .val (.bool false)), (14, .val (.bool false))]) (L := lT []) (wk := ⟨[6], [(3, 5, false)], 4, 3⟩)
    (ps := [G_stylesMatchesq3 a4 a5 a6 a7 a8 c1_,
    (Value.bool (!c1_)) = (Value.bool false),
    (Value.bool a3) = (Value.bool false)]) (by kernel_rfl) ⟨(m_stylesMatchesq3_ok n a4 a5 a6 a7 a8 c1_ hc1), (vBn hc2), (vB (Bool.eq_false_iff.2 hc3)), trivial⟩
set_option maxRecDepth 100000 in
theorem p_stylesStyle1q5_3 (n : Nat) (a0 : Int) (a1 : Int) (a2 : Int) (a3 : Bool) (a4 : Int) (a5 : NL) (a6 : Int) (a7 : Int) (a8 : Int) (c1_ : Bool) (hc1 : m_stylesMatchesq3 n a4 a5 a6 a7 a8 = some c1_) (hc2 : ¬ (c1_ = true)) : G_stylesStyle1q5 a0 a1 a2 a3 a4 a5 a6 a7 a8 (a0, ([] : List (NL)), a1, a2, a3) :=
  runF_ok hm (A := aT [(9, .call ⟨1, [(0, 2, false)], (V_stylesMatchesq3 a4 a5 a6 a7 a8 c1_), (R_stylesMatchesq3 a4 a5 a6 a7 a8 c1_), []⟩), (10, .val (.bool true))]) (L := lT []) (wk := ⟨[6], [(3, 5, false)], 4, 3⟩)
    (ps := [G_stylesMatchesq3 a4 a5 a6 a7 a8 c1_,
    (Value.bool (!c1_)) = (Value.bool true)]) (by kernel_rfl) ⟨(m_stylesMatchesq3_ok n a4 a5 a6 a7 a8 c1_ hc1), (vBn (Bool.eq_false_iff.2 hc2)), trivial⟩
theorem m_stylesStyle1q5_ok (n : Nat) (a0 : Int) (a1 : Int) (a2 : Int) (a3 : Bool) (a4 : Int) (a5 : NL) (a6 : Int) (a7 : Int) (a8 : Int) (r : Int × List (NL) × Int × Int × Bool) (h : m_stylesStyle1q5 n a0 a1 a2 a3 a4 a5 a6 a7 a8 = some r) : G_stylesStyle1q5 a0 a1 a2 a3 a4 a5 a6 a7 a8 r := by
  unfold m_stylesStyle1q5 at h
  obtain ⟨c1_, hc1, h⟩ := Option.bind_eq_some_iff.1 h
  by_cases hc2 : c1_ = true
  · rw [if_pos hc2] at h
    by_cases hc3 : a3 = true
    · rw [if_pos hc3] at h
      by_cases hc4 : a7 ≤ a2
      · rw [if_pos hc4] at h
        obtain rfl := Option.some.inj h; exact p_stylesStyle1q5_0 n a0 a1 a2 a3 a4 a5 a6 a7 a8 c1_ hc1 hc2 hc3 hc4
      · rw [if_neg hc4] at h
        obtain rfl := Option.some.inj h; exact p_stylesStyle1q5_1 n a0 a1 a2 a3 a4 a5 a6 a7 a8 c1_ hc1 hc2 hc3 hc4
    · rw [if_neg hc3] at h
      obtain rfl := Option.some.inj h; exact p_stylesStyle1q5_2 n a0 a1 a2 a3 a4 a5 a6 a7 a8 c1_ hc1 hc2 hc3
  · rw [if_neg hc2] at h
    obtain rfl := Option.some.inj h; exact p_stylesStyle1q5_3 n a0 a1 a2 a3 a4 a5 a6 a7 a8 c1_ hc1 hc2

noncomputable def A_foldOverstyleschoice_1010y7 (a0 : Int) (a1 : Int) (a2 : Int) (a3 : Bool) (a4 : Int) (a5 : Int) (a6 : Int) (a7 : Int) (a8 : Bool) (a9 : Int) (a10 : NL) (a11 : Int) (a12 : Int) : List Value := [(Value.agg #[(Value.int .i64 a9), (nlV a10), (Value.int .i64 a11), (Value.int .i64 a12)])]
noncomputable def H_foldOverstyleschoice_1010y7 (a0 : Int) (a1 : Int) (a2 : Int) (a3 : Bool) (a4 : Int) (a5 : Int) (a6 : Int) (a7 : Int) (a8 : Bool) (a9 : Int) (a10 : NL) (a11 : Int) (a12 : Int) : AH := ⟨sB [(0, (some (rblk P 14 [false, true, false, true] .ready none [(4, (Value.pointer (some ⟨2, 0, none⟩))), (5, (Value.pointer (some ⟨3, 0, none⟩))), (6, (Value.pointer (some ⟨7, 0, none⟩))), (8, (Value.func (.func 18) #[] #[(Value.pointer (some ⟨8, 0, none⟩))]))] 1))), (1, (some (.marks true))), (2, (some (.cells (layT [(Value.int .i64 a0), (Value.slice none 0 0), (Value.int .i64 a1), (Value.int .i64 a2), (Value.bool a3)]) 38))), (3, (some (.cells (layT [(Value.func (.func 16) #[] #[(Value.pointer (some ⟨4, 0, none⟩)), (Value.pointer (some ⟨5, 0, none⟩))])]) 43))), (4, (some (.cells (layT [(Value.int .i64 a4)]) 3))), (5, (some (.cells (layT [(Value.slice (some ⟨6, 0, none⟩) 0 0)]) 23))), (6, (some (.cells (layT []) 3))), (7, (some (.cells (layT [(Value.int .i64 a5), (Value.slice none 0 0), (Value.int .i64 a6), (Value.int .i64 a7), (Value.bool a8)]) 38))), (8, (some (.cells (layT [(Value.slice (some ⟨0, 0, some 1⟩) (Args.S).length Args.cS)]) 22)))], 9, 9⟩
noncomputable def V_foldOverstyleschoice_1010y7 (a0 : Int) (a1 : Int) (a2 : Int) (a3 : Bool) (a4 : Int) (a5 : Int) (a6 : Int) (a7 : Int) (a8 : Bool) (a9 : Int) (a10 : NL) (a11 : Int) (a12 : Int) (r : Int × List (NL) × Int × Int × Bool) : Value := match r with
  | (o0, o1, o2, o3, o4) => (Value.bool true)
noncomputable def R_foldOverstyleschoice_1010y7 (a0 : Int) (a1 : Int) (a2 : Int) (a3 : Bool) (a4 : Int) (a5 : Int) (a6 : Int) (a7 : Int) (a8 : Bool) (a9 : Int) (a10 : NL) (a11 : Int) (a12 : Int) (r : Int × List (NL) × Int × Int × Bool) : AH := match r with
  | (o0, o1, o2, o3, o4) => ⟨sB [(0, (some (rblk P 14 [false, true, false, true] .ready none [(4, (Value.pointer (some ⟨2, 0, none⟩))), (5, (Value.pointer (some ⟨3, 0, none⟩))), (6, (Value.pointer (some ⟨7, 0, none⟩))), (8, (Value.func (.func 18) #[] #[(Value.pointer (some ⟨8, 0, none⟩))]))] 1))), (1, (some (.marks true))), (2, (some (.cells (layT [(Value.int .i64 o0), (nlQ o1), (Value.int .i64 o2), (Value.int .i64 o3), (Value.bool o4)]) 38))), (3, (some (.cells (layT [(Value.func (.func 16) #[] #[(Value.pointer (some ⟨4, 0, none⟩)), (Value.pointer (some ⟨5, 0, none⟩))])]) 43))), (4, (some (.cells (layT [(Value.int .i64 a4)]) 3))), (5, (some (.cells (layT [(Value.slice (some ⟨6, 0, none⟩) 0 0)]) 23))), (6, (some (.cells (layT []) 3))), (7, (some (.cells (layT [(Value.int .i64 a5), (Value.slice none 0 0), (Value.int .i64 a6), (Value.int .i64 a7), (Value.bool a8)]) 38))), (8, (some (.cells (layT [(Value.slice (some ⟨0, 0, some 1⟩) (Args.S).length Args.cS)]) 22)))], 9, 0⟩
def m_foldOverstyleschoice_1010y7 (n : Nat) (a0 : Int) (a1 : Int) (a2 : Int) (a3 : Bool) (a4 : Int) (a5 : Int) (a6 : Int) (a7 : Int) (a8 : Bool) (a9 : Int) (a10 : NL) (a11 : Int) (a12 : Int) : Option (Int × List (NL) × Int × Int × Bool) :=
  (m_stylesStyle1q5 n a0 a1 a2 a3 a9 a10 a11 a12 a4).bind fun t => match t with
  | (c1_0, c1_1, c1_2, c1_3, c1_4) =>
    match c1_1 with
    | [] =>
      some (c1_0, ([] : List (NL)), c1_2, c1_3, c1_4)
    | c1_1a :: c1_1t =>
      some (c1_0, [c1_1a], c1_2, c1_3, c1_4)
set_option maxRecDepth 100000 in
theorem p_foldOverstyleschoice_1010y7_0 (n : Nat) (a0 : Int) (a1 : Int) (a2 : Int) (a3 : Bool) (a4 : Int) (a5 : Int) (a6 : Int) (a7 : Int) (a8 : Bool) (a9 : Int) (a10 : NL) (a11 : Int) (a12 : Int) (c1_0 : Int) (c1_2 : Int) (c1_3 : Int) (c1_4 : Bool) (hc1 : m_stylesStyle1q5 n a0 a1 a2 a3 a9 a10 a11 a12 a4 = some (c1_0, [], c1_2, c1_3, c1_4)) : Gv P (.yield 0) (A_foldOverstyleschoice_1010y7 a0 a1 a2 a3 a4 a5 a6 a7 a8 a9 a10 a11 a12) (H_foldOverstyleschoice_1010y7 a0 a1 a2 a3 a4 a5 a6 a7 a8 a9 a10 a11 a12) (V_foldOverstyleschoice_1010y7 a0 a1 a2 a3 a4 a5 a6 a7 a8 a9 a10 a11 a12 (c1_0, ([] : List (NL)), c1_2, c1_3, c1_4)) (R_foldOverstyleschoice_1010y7 a0 a1 a2 a3 a4 a5 a6 a7 a8 a9 a10 a11 a12 (c1_0, ([] : List (NL)), c1_2, c1_3, c1_4)) :=
  runY_ok hm (A1 := aT []) (L1 := lT []) (A2 := aT [(4, .call ⟨3, [(0, 4, false), (1, 5, false), (2, 6, false)], (V_stylesStyle1q5 a0 a1 a2 a3 a9 a10 a11 a12 a4 (c1_0, ([] : List (NL)), c1_2, c1_3, c1_4)), (R_stylesStyle1q5 a0 a1 a2 a3 a9 a10 a11 a12 a4 (c1_0, ([] : List (NL)), c1_2, c1_3, c1_4)), [(10, 3, false)]⟩)]) (L2 := lT []) (wk := ⟨[], [(0, 0, false), (1, 1, false), (2, 2, false), (3, 3, false), (4, 4, false), (5, 5, false), (6, 6, false), (7, 7, false), (8, 8, false)], 9, 0⟩)
    (ps := [G_stylesStyle1q5 a0 a1 a2 a3 a9 a10 a11 a12 a4 (c1_0, ([] : List (NL)), c1_2, c1_3, c1_4)]) (by kernel_rfl) ⟨(m_stylesStyle1q5_ok n a0 a1 a2 a3 a9 a10 a11 a12 a4 (c1_0, ([] : List (NL)), c1_2, c1_3, c1_4) hc1), trivial⟩
set_option maxRecDepth 100000 in
theorem p_foldOverstyleschoice_1010y7_1 (n : Nat) (a0 : Int) (a1 : Int) (a2 : Int) (a3 : Bool) (a4 : Int) (a5 : Int) (a6 : Int) (a7 : Int) (a8 : Bool) (a9 : Int) (a10 : NL) (a11 : Int) (a12 : Int) (c1_0 : Int) (c1_1a : NL) (c1_1t : List (NL)) (c1_2 : Int) (c1_3 : Int) (c1_4 : Bool) (hc1 : m_stylesStyle1q5 n a0 a1 a2 a3 a9 a10 a11 a12 a4 = some (c1_0, (c1_1a :: c1_1t), c1_2, c1_3, c1_4)) : Gv P (.yield 0) (A_foldOverstyleschoice_1010y7 a0 a1 a2 a3 a4 a5 a6 a7 a8 a9 a10 a11 a12) (H_foldOverstyleschoice_1010y7 a0 a1 a2 a3 a4 a5 a6 a7 a8 a9 a10 a11 a12) (V_foldOverstyleschoice_1010y7 a0 a1 a2 a3 a4 a5 a6 a7 a8 a9 a10 a11 a12 (c1_0, [c1_1a], c1_2, c1_3, c1_4)) (R_foldOverstyleschoice_1010y7 a0 a1 a2 a3 a4 a5 a6 a7 a8 a9 a10 a11 a12 (c1_0, [c1_1a], c1_2, c1_3, c1_4)) :=
  runY_ok hm (A1 := aT []) (L1 := lT []) (A2 := aT [(4, .call ⟨3, [(0, 4, false), (1, 5, false), (2, 6, false)], (V_stylesStyle1q5 a0 a1 a2 a3 a9 a10 a11 a12 a4 (c1_0, (c1_1a :: c1_1t), c1_2, c1_3, c1_4)), (R_stylesStyle1q5 a0 a1 a2 a3 a9 a10 a11 a12 a4 (c1_0, (c1_1a :: c1_1t), c1_2, c1_3, c1_4)), [(10, 3, false)]⟩)]) (L2 := lT []) (wk := ⟨[], [(0, 0, false), (1, 1, false), (2, 2, false), (3, 3, false), (4, 4, false), (5, 5, false), (6, 6, false), (7, 7, false), (8, 8, false)], 9, 0⟩)
    (ps := [G_stylesStyle1q5 a0 a1 a2 a3 a9 a10 a11 a12 a4 (c1_0, (c1_1a :: c1_1t), c1_2, c1_3, c1_4)]) (by kernel_rfl) ⟨(m_stylesStyle1q5_ok n a0 a1 a2 a3 a9 a10 a11 a12 a4 (c1_0, (c1_1a :: c1_1t), c1_2, c1_3, c1_4) hc1), trivial⟩
theorem m_foldOverstyleschoice_1010y7_ok (n : Nat) (a0 : Int) (a1 : Int) (a2 : Int) (a3 : Bool) (a4 : Int) (a5 : Int) (a6 : Int) (a7 : Int) (a8 : Bool) (a9 : Int) (a10 : NL) (a11 : Int) (a12 : Int) (r : Int × List (NL) × Int × Int × Bool) (h : m_foldOverstyleschoice_1010y7 n a0 a1 a2 a3 a4 a5 a6 a7 a8 a9 a10 a11 a12 = some r) : Gv P (.yield 0) (A_foldOverstyleschoice_1010y7 a0 a1 a2 a3 a4 a5 a6 a7 a8 a9 a10 a11 a12) (H_foldOverstyleschoice_1010y7 a0 a1 a2 a3 a4 a5 a6 a7 a8 a9 a10 a11 a12) (V_foldOverstyleschoice_1010y7 a0 a1 a2 a3 a4 a5 a6 a7 a8 a9 a10 a11 a12 r) (R_foldOverstyleschoice_1010y7 a0 a1 a2 a3 a4 a5 a6 a7 a8 a9 a10 a11 a12 r) := by
  unfold m_foldOverstyleschoice_1010y7 at h
  obtain ⟨⟨c1_0, c1_1, c1_2, c1_3, c1_4⟩, hc1, h⟩ := Option.bind_eq_some_iff.1 h
  dsimp only at h
  cases c1_1 with
  | nil =>
    dsimp only at h
    obtain rfl := Option.some.inj h; exact p_foldOverstyleschoice_1010y7_0 n a0 a1 a2 a3 a4 a5 a6 a7 a8 a9 a10 a11 a12 c1_0 c1_2 c1_3 c1_4 hc1
  | cons c1_1a c1_1t =>
    dsimp only at h
    obtain rfl := Option.some.inj h; exact p_foldOverstyleschoice_1010y7_1 n a0 a1 a2 a3 a4 a5 a6 a7 a8 a9 a10 a11 a12 c1_0 c1_1a c1_1t c1_2 c1_3 c1_4 hc1

noncomputable def A_stylesStyle1q6 (a0 : Int) (a1 : NL) (a2 : Int) (a3 : Int) (a4 : Bool) (a5 : Int) (a6 : NL) (a7 : Int) (a8 : Int) (a9 : Int) : List Value := [(Value.agg #[(Value.int .i64 a0), (nlV a1), (Value.int .i64 a2), (Value.int .i64 a3), (Value.bool a4)]), (Value.agg #[(Value.int .i64 a5), (nlV a6), (Value.int .i64 a7), (Value.int .i64 a8)]), (Value.pointer (some ⟨0, 0, none⟩)), (Value.pointer (some ⟨1, 0, none⟩))]
noncomputable def H_stylesStyle1q6 (a0 : Int) (a1 : NL) (a2 : Int) (a3 : Int) (a4 : Bool) (a5 : Int) (a6 : NL) (a7 : Int) (a8 : Int) (a9 : Int) : AH := ⟨sB [(0, (some (.cells (layT [(Value.int .i64 a9)]) 3))), (1, (some (.cells (layT [(Value.slice (some ⟨2, 0, none⟩) 0 0)]) 23))), (2, (some (.cells (layT []) 3)))], 3, 3⟩
noncomputable def V_stylesStyle1q6 (a0 : Int) (a1 : NL) (a2 : Int) (a3 : Int) (a4 : Bool) (a5 : Int) (a6 : NL) (a7 : Int) (a8 : Int) (a9 : Int) (r : Int × NL × Int × Int × Bool) : Value := match r with
  | (o0, o1, o2, o3, o4) => (Value.agg #[(Value.int .i64 o0), (nlV o1), (Value.int .i64 o2), (Value.int .i64 o3), (Value.bool o4)])
noncomputable def R_stylesStyle1q6 (a0 : Int) (a1 : NL) (a2 : Int) (a3 : Int) (a4 : Bool) (a5 : Int) (a6 : NL) (a7 : Int) (a8 : Int) (a9 : Int) (r : Int × NL × Int × Int × Bool) : AH := match r with
  | (o0, o1, o2, o3, o4) => ⟨sB [(3, (some (.cells (layT [(Value.int .i64 o0), (nlV o1), (Value.int .i64 o2), (Value.int .i64 o3), (Value.bool o4)]) 38)))], 4, 3⟩
noncomputable abbrev G_stylesStyle1q6 (a0 : Int) (a1 : NL) (a2 : Int) (a3 : Int) (a4 : Bool) (a5 : Int) (a6 : NL) (a7 : Int) (a8 : Int) (a9 : Int) (r : Int × NL × Int × Int × Bool) : Prop := Gv P (.func 16) (A_stylesStyle1q6 a0 a1 a2 a3 a4 a5 a6 a7 a8 a9) (H_stylesStyle1q6 a0 a1 a2 a3 a4 a5 a6 a7 a8 a9) (V_stylesStyle1q6 a0 a1 a2 a3 a4 a5 a6 a7 a8 a9 r) (R_stylesStyle1q6 a0 a1 a2 a3 a4 a5 a6 a7 a8 a9 r)
def m_stylesStyle1q6 (n : Nat) (a0 : Int) (a1 : NL) (a2 : Int) (a3 : Int) (a4 : Bool) (a5 : Int) (a6 : NL) (a7 : Int) (a8 : Int) (a9 : Int) : Option (Int × NL × Int × Int × Bool) :=
  (m_stylesMatchesq3 n a5 a6 a7 a8 a9).bind fun c1_ =>
  if c1_ = true then
    if a4 = true then
      if a8 ≤ a3 then
        some (a0, a1, a2, a3, a4)
      else
        some (a5, a6, a7, a8, true)
    else
      some (a5, a6, a7, a8, true)
  else
    some (a0, a1, a2, a3, a4)
set_option maxRecDepth 100000 in
theorem p_stylesStyle1q6_0 (n : Nat) (a0 : Int) (a1 : NL) (a2 : Int) (a3 : Int) (a4 : Bool) (a5 : Int) (a6 : NL) (a7 : Int) (a8 : Int) (a9 : Int) (c1_ : Bool) (hc1 : m_stylesMatchesq3 n a5 a6 a7 a8 a9 = some c1_) (hc2 : c1_ = true) (hc3 : a4 = true) (hc4 : a8 ≤ a3) : G_stylesStyle1q6 a0 a1 a2 a3 a4 a5 a6 a7 a8 a9 (a0, a1, a2, a3, a4) :=
  runF_ok hm (A := aT [(9, .call ⟨1, [(0, 2, false)], (V_stylesMatchesq3 a5 a6 a7 a8 a9 c1_), (R_stylesMatchesq3 a5 a6 a7 a8 a9 c1_), []⟩), (10, .val (.bool false)), (14, .val (.bool true)), (20, .val (.bool true))]) (L := lT []) (wk := ⟨[6], [(3, 5, false)], 4, 3⟩)
    (ps := [G_stylesMatchesq3 a5 a6 a7 a8 a9 c1_,
    (Value.bool (!c1_)) = (Value.bool false),
    (Value.bool a4) = (Value.bool true),
    (Value.bool (decide (a8 ≤ a3))) = (Value.bool true)]) (by kernel_rfl) ⟨(m_stylesMatchesq3_ok n a5 a6 a7 a8 a9 c1_ hc1), (vBn hc2), (vB hc3), (vbT hc4), trivial⟩
set_option maxRecDepth 100000 in
theorem p_stylesStyle1q6_1 (n : Nat) (a0 : Int) (a1 : NL) (a2 : Int) (a3 : Int) (a4 : Bool) (a5 : Int) (a6 : NL) (a7 : Int) (a8 : Int) (a9 : Int) (c1_ : Bool) (hc1 : m_stylesMatchesq3 n a5 a6 a7 a8 a9 = some c1_) (hc2 : c1_ = true) (hc3 : a4 = true) (hc4 : ¬ (a8 ≤ a3)) : G_stylesStyle1q6 a0 a1 a2 a3 a4 a5 a6 a7 a8 a9 (a5, a6, a7, a8, true) :=
  runF_ok hm (A := aT [(9, .call ⟨1, [(0, 2, false)], (V_stylesMatchesq3 a5 a6 a7 a8 a9 c1_), (R_stylesMatchesq3 a5 a6 a7 a8 a9 c1_), []⟩), (10, .val (.bool false)), (14, .val (.bool true)), (20, .val (.bool false))]) (L := lT []) (wk := ⟨[6], [(3, 5, false)], 4, 3⟩)
    (ps := [G_stylesMatchesq3 a5 a6 a7 a8 a9 c1_,
    (Value.bool (!c1_)) = (Value.bool false),
    (Value.bool a4) = (Value.bool true),
    (Value.bool (decide (a8 ≤ a3))) = (Value.bool false)]) (by kernel_rfl) ⟨(m_stylesMatchesq3_ok n a5 a6 a7 a8 a9 c1_ hc1), (vBn hc2), (vB hc3), (vbF hc4), trivial⟩
set_option maxRecDepth 100000 in
theorem p_stylesStyle1q6_2 (n : Nat) (a0 : Int) (a1 : NL) (a2 : Int) (a3 : Int) (a4 : Bool) (a5 : Int) (a6 : NL) (a7 : Int) (a8 : Int) (a9 : Int) (c1_ : Bool) (hc1 : m_stylesMatchesq3 n a5 a6 a7 a8 a9 = some c1_) (hc2 : c1_ = true) (hc3 : ¬ (a4 = true)) : G_stylesStyle1q6 a0 a1 a2 a3 a4 a5 a6 a7 a8 a9 (a5, a6, a7, a8, true) :=
  runF_ok hm (A := aT [(9, .call ⟨1, [(0, 2, false)], (V_stylesMatchesq3 a5 a6 a7 a8 a9 c1_), (R_stylesMatchesq3 a5 a6 a7 a8 a9 c1_), []⟩), (10, .val (.bool false)), (14, .val (.bool false))]) (L := lT []) (wk := ⟨[6], [(3, 5, false)], 4, 3⟩)
    (ps := [G_stylesMatchesq3 a5 a6 a7 a8 a9 c1_,
    (Value.bool (!c1_)) = (Value.bool false),
    (Value.bool a4) = (Value.bool false)]) (by kernel_rfl) ⟨(m_stylesMatchesq3_ok n a5 a6 a7 a8 a9 c1_ hc1), (vBn hc2), (vB (Bool.eq_false_iff.2 hc3)), trivial⟩
set_option maxRecDepth 100000 in
theorem p_stylesStyle1q6_3 (n : Nat) (a0 : Int) (a1 : NL) (a2 : Int) (a3 : Int) (a4 : Bool) (a5 : Int) (a6 : NL) (a7 : Int) (a8 : Int) (a9 : Int) (c1_ : Bool) (hc1 : m_stylesMatchesq3 n a5 a6 a7 a8 a9 = some c1_) (hc2 : ¬ (c1_ = true)) : G_stylesStyle1q6 a0 a1 a2 a3 a4 a5 a6 a7 a8 a9 (a0, a1, a2, a3, a4) :=
  runF_ok hm (A := aT [(9, .call ⟨1, [(0, 2, false)], (V_stylesMatchesq3 a5 a6 a7 a8 a9 c1_), (R_stylesMatchesq3 a5 a6 a7 a8 a9 c1_), []⟩), (10, .val (.bool true))]) (L := lT []) (wk := ⟨[6], [(3, 5, false)], 4, 3⟩)
    (ps := [G_stylesMatchesq3 a5 a6 a7 a8 a9 c1_,
    (Value.bool (!c1_)) = (Value.bool true)]) (by kernel_rfl) ⟨(m_stylesMatchesq3_ok n a5 a6 a7 a8 a9 c1_ hc1), (vBn (Bool.eq_false_iff.2 hc2)), trivial⟩
theorem m_stylesStyle1q6_ok (n : Nat) (a0 : Int) (a1 : NL) (a2 : Int) (a3 : Int) (a4 : Bool) (a5 : Int) (a6 : NL) (a7 : Int) (a8 : Int) (a9 : Int) (r : Int × NL × Int × Int × Bool) (h : m_stylesStyle1q6 n a0 a1 a2 a3 a4 a5 a6 a7 a8 a9 = some r) : G_stylesStyle1q6 a0 a1 a2 a3 a4 a5 a6 a7 a8 a9 r := by
  unfold m_stylesStyle1q6 at h
  obtain ⟨c1_, hc1, h⟩ := Option.bind_eq_some_iff.1 h
  by_cases hc2 : c1_ = true
  · rw [if_pos hc2] at h
    by_cases hc3 : a4 = true
    · rw [if_pos hc3] at h
      by_cases hc4 : a8 ≤ a3
      · rw [if_pos hc4] at h
        obtain rfl := Option.some.inj h; exact p_stylesStyle1q6_0 n a0 a1 a2 a3 a4 a5 a6 a7 a8 a9 c1_ hc1 hc2 hc3 hc4
      · rw [if_neg hc4] at h
        obtain rfl := Option.some.inj h; exact p_stylesStyle1q6_1 n a0 a1 a2 a3 a4 a5 a6 a7 a8 a9 c1_ hc1 hc2 hc3 hc4
    · rw [if_neg hc3] at h
      obtain rfl := Option.some.inj h; exact p_stylesStyle1q6_2 n a0 a1 a2 a3 a4 a5 a6 a7 a8 a9 c1_ hc1 hc2 hc3
  · rw [if_neg hc2] at h
    obtain rfl := Option.some.inj h; exact p_stylesStyle1q6_3 n a0 a1 a2 a3 a4 a5 a6 a7 a8 a9 c1_ hc1 hc2

noncomputable def A_foldOverstyleschoice_1010y8 (a0 : Int) (a1 : NL) (a2 : Int) (a3 : Int) (a4 : Bool) (a5 : Int) (a6 : Int) (a7 : Int) (a8 : Int) (a9 : Bool) (a10 : Int) (a11 : NL) (a12 : Int) (a13 : Int) : List Value := [(Value.agg #[(Value.int .i64 a10), (nlV a11), (Value.int .i64 a12), (Value.int .i64 a13)])]
noncomputable def H_foldOverstyleschoice_1010y8 (a0 : Int) (a1 : NL) (a2 : Int) (a3 : Int) (a4 : Bool) (a5 : Int) (a6 : Int) (a7 : Int) (a8 : Int) (a9 : Bool) (a10 : Int) (a11 : NL) (a12 : Int) (a13 : Int) : AH := ⟨sB [(0, (some (rblk P 14 [false, true, false, true] .ready none [(4, (Value.pointer (some ⟨2, 0, none⟩))), (5, (Value.pointer (some ⟨3, 0, none⟩))), (6, (Value.pointer (some ⟨7, 0, none⟩))), (8, (Value.func (.func 18) #[] #[(Value.pointer (some ⟨8, 0, none⟩))]))] 1))), (1, (some (.marks true))), (2, (some (.cells (layT [(Value.int .i64 a0), (nlV a1), (Value.int .i64 a2), (Value.int .i64 a3), (Value.bool a4)]) 38))), (3, (some (.cells (layT [(Value.func (.func 16) #[] #[(Value.pointer (some ⟨4, 0, none⟩)), (Value.pointer (some ⟨5, 0, none⟩))])]) 43))), (4, (some (.cells (layT [(Value.int .i64 a5)]) 3))), (5, (some (.cells (layT [(Value.slice (some ⟨6, 0, none⟩) 0 0)]) 23))), (6, (some (.cells (layT []) 3))), (7, (some (.cells (layT [(Value.int .i64 a6), (Value.slice none 0 0), (Value.int .i64 a7), (Value.int .i64 a8), (Value.bool a9)]) 38))), (8, (some (.cells (layT [(Value.slice (some ⟨0, 0, some 1⟩) (Args.S).length Args.cS)]) 22)))], 9, 9⟩
noncomputable def V_foldOverstyleschoice_1010y8 (a0 : Int) (a1 : NL) (a2 : Int) (a3 : Int) (a4 : Bool) (a5 : Int) (a6 : Int) (a7 : Int) (a8 : Int) (a9 : Bool) (a10 : Int) (a11 : NL) (a12 : Int) (a13 : Int) (r : Int × NL × Int × Int × Bool) : Value := match r with
  | (o0, o1, o2, o3, o4) => (Value.bool true)
noncomputable def R_foldOverstyleschoice_1010y8 (a0 : Int) (a1 : NL) (a2 : Int) (a3 : Int) (a4 : Bool) (a5 : Int) (a6 : Int) (a7 : Int) (a8 : Int) (a9 : Bool) (a10 : Int) (a11 : NL) (a12 : Int) (a13 : Int) (r : Int × NL × Int × Int × Bool) : AH := match r with
  | (o0, o1, o2, o3, o4) => ⟨sB [(0, (some (rblk P 14 [false, true, false, true] .ready none [(4, (Value.pointer (some ⟨2, 0, none⟩))), (5, (Value.pointer (some ⟨3, 0, none⟩))), (6, (Value.pointer (some ⟨7, 0, none⟩))), (8, (Value.func (.func 18) #[] #[(Value.pointer (some ⟨8, 0, none⟩))]))] 1))), (1, (some (.marks true))), (2, (some (.cells (layT [(Value.int .i64 o0), (nlV o1), (Value.int .i64 o2), (Value.int .i64 o3), (Value.bool o4)]) 38))), (3, (some (.cells (layT [(Value.func (.func 16) #[] #[(Value.pointer (some ⟨4, 0, none⟩)), (Value.pointer (some ⟨5, 0, none⟩))])]) 43))), (4, (some (.cells (layT [(Value.int .i64 a5)]) 3))), (5, (some (.cells (layT [(Value.slice (some ⟨6, 0, none⟩) 0 0)]) 23))), (6, (some (.cells (layT []) 3))), (7, (some (.cells (layT [(Value.int .i64 a6), (Value.slice none 0 0), (Value.int .i64 a7), (Value.int .i64 a8), (Value.bool a9)]) 38))), (8, (some (.cells (layT [(Value.slice (some ⟨0, 0, some 1⟩) (Args.S).length Args.cS)]) 22)))], 9, 0⟩
def m_foldOverstyleschoice_1010y8 (n : Nat) (a0 : Int) (a1 : NL) (a2 : Int) (a3 : Int) (a4 : Bool) (a5 : Int) (a6 : Int) (a7 : Int) (a8 : Int) (a9 : Bool) (a10 : Int) (a11 : NL) (a12 : Int) (a13 : Int) : Option (Int × NL × Int × Int × Bool) :=
  (m_stylesStyle1q6 n a0 a1 a2 a3 a4 a10 a11 a12 a13 a5).bind fun t => match t with
  | (c1_0, c1_1, c1_2, c1_3, c1_4) =>
    some (c1_0, c1_1, c1_2, c1_3, c1_4)
set_option maxRecDepth 100000 in
theorem p_foldOverstyleschoice_1010y8_0 (n : Nat) (a0 : Int) (a1 : NL) (a2 : Int) (a3 : Int) (a4 : Bool) (a5 : Int) (a6 : Int) (a7 : Int) (a8 : Int) (a9 : Bool) (a10 : Int) (a11 : NL) (a12 : Int) (a13 : Int) (c1_0 : Int) (c1_1 : NL) (c1_2 : Int) (c1_3 : Int) (c1_4 : Bool) (hc1 : m_stylesStyle1q6 n a0 a1 a2 a3 a4 a10 a11 a12 a13 a5 = some (c1_0, c1_1, c1_2, c1_3, c1_4)) : Gv P (.yield 0) (A_foldOverstyleschoice_1010y8 a0 a1 a2 a3 a4 a5 a6 a7 a8 a9 a10 a11 a12 a13) (H_foldOverstyleschoice_1010y8 a0 a1 a2 a3 a4 a5 a6 a7 a8 a9 a10 a11 a12 a13) (V_foldOverstyleschoice_1010y8 a0 a1 a2 a3 a4 a5 a6 a7 a8 a9 a10 a11 a12 a13 (c1_0, c1_1, c1_2, c1_3, c1_4)) (R_foldOverstyleschoice_1010y8 a0 a1 a2 a3 a4 a5 a6 a7 a8 a9 a10 a11 a12 a13 (c1_0, c1_1, c1_2, c1_3, c1_4)) :=
  runY_ok hm (A1 := aT []) (L1 := lT []) (A2 := aT [(4, .call ⟨3, [(0, 4, false), (1, 5, false), (2, 6, false)], (V_stylesStyle1q6 a0 a1 a2 a3 a4 a10 a11 a12 a13 a5 (c1_0, c1_1, c1_2, c1_3, c1_4)), (R_stylesStyle1q6 a0 a1 a2 a3 a4 a10 a11 a12 a13 a5 (c1_0, c1_1, c1_2, c1_3, c1_4)), [(10, 3, false)]⟩)]) (L2 := lT []) (wk := ⟨[], [(0, 0, false), (1, 1, false), (2, 2, false), (3, 3, false), (4, 4, false), (5, 5, false), (6, 6, false), (7, 7, false), (8, 8, false)], 9, 0⟩)
    (ps := [G_stylesStyle1q6 a0 a1 a2 a3 a4 a10 a11 a12 a13 a5 (c1_0, c1_1, c1_2, c1_3, c1_4)]) (by kernel_rfl) ⟨(m_stylesStyle1q6_ok n a0 a1 a2 a3 a4 a10 a11 a12 a13 a5 (c1_0, c1_1, c1_2, c1_3, c1_4) hc1), trivial⟩
theorem m_foldOverstyleschoice_1010y8_ok (n : Nat) (a0 : Int) (a1 : NL) (a2 : Int) (a3 : Int) (a4 : Bool) (a5 : Int) (a6 : Int) (a7 : Int) (a8 : Int) (a9 : Bool) (a10 : Int) (a11 : NL) (a12 : Int) (a13 : Int) (r : Int × NL × Int × Int × Bool) (h : m_foldOverstyleschoice_1010y8 n a0 a1 a2 a3 a4 a5 a6 a7 a8 a9 a10 a11 a12 a13 = some r) : Gv P (.yield 0) (A_foldOverstyleschoice_1010y8 a0 a1 a2 a3 a4 a5 a6 a7 a8 a9 a10 a11 a12 a13) (H_foldOverstyleschoice_1010y8 a0 a1 a2 a3 a4 a5 a6 a7 a8 a9 a10 a11 a12 a13) (V_foldOverstyleschoice_1010y8 a0 a1 a2 a3 a4 a5 a6 a7 a8 a9 a10 a11 a12 a13 r) (R_foldOverstyleschoice_1010y8 a0 a1 a2 a3 a4 a5 a6 a7 a8 a9 a10 a11 a12 a13 r) := by
  unfold m_foldOverstyleschoice_1010y8 at h
  obtain ⟨⟨c1_0, c1_1, c1_2, c1_3, c1_4⟩, hc1, h⟩ := Option.bind_eq_some_iff.1 h
  dsimp only at h
  obtain rfl := Option.some.inj h; exact p_foldOverstyleschoice_1010y8_0 n a0 a1 a2 a3 a4 a5 a6 a7 a8 a9 a10 a11 a12 a13 c1_0 c1_1 c1_2 c1_3 c1_4 hc1

noncomputable def S_slicesValuesapiStyle1q4_1 (x1_5 : Int) (x1_6 : Int) (x1_7 : Int) (x1_8 : Int) (x1_9 : Bool) (x1_10 : Int) (st : Int × List (NL) × Int × Int × Bool × Int) : XSt := match st with
  | (x1_0, x1_1, x1_2, x1_3, x1_4, x1_11) => (sT 16 [(0, (Value.func (.yield 0) #[] #[])), (5, (Value.slice (some ⟨0, 0, some 1⟩) (Args.S).length Args.cS)), (6, (Value.int .i64 x1_10)), (7, (Value.int .i64 x1_11))], [], ⟨sB [(0, (some (rblk P 14 [false, true, false, true] .ready none [(4, (Value.pointer (some ⟨2, 0, none⟩))), (5, (Value.pointer (some ⟨3, 0, none⟩))), (6, (Value.pointer (some ⟨7, 0, none⟩))), (8, (Value.func (.func 18) #[] #[(Value.pointer (some ⟨8, 0, none⟩))]))] 1))), (1, (some (.marks true))), (2, (some (.cells (layT [(Value.int .i64 x1_0), (nlQ x1_1), (Value.int .i64 x1_2), (Value.int .i64 x1_3), (Value.bool x1_4)]) 38))), (3, (some (.cells (layT [(Value.func (.func 16) #[] #[(Value.pointer (some ⟨4, 0, none⟩)), (Value.pointer (some ⟨5, 0, none⟩))])]) 43))), (4, (some (.cells (layT [(Value.int .i64 x1_5)]) 3))), (5, (some (.cells (layT [(Value.slice (some ⟨6, 0, none⟩) 0 0)]) 23))), (6, (some (.cells (layT []) 3))), (7, (some (.cells (layT [(Value.int .i64 x1_6), (Value.slice none 0 0), (Value.int .i64 x1_7), (Value.int .i64 x1_8), (Value.bool x1_9)]) 38))), (8, (some (.cells (layT [(Value.slice (some ⟨0, 0, some 1⟩) (Args.S).length Args.cS)]) 22)))], 9, 0⟩)
noncomputable def X_slicesValuesapiStyle1q4_1 (x1_5 : Int) (x1_6 : Int) (x1_7 : Int) (x1_8 : Int) (x1_9 : Bool) (x1_10 : Int) (r : Int × List (NL) × Int × Int × Bool) : Ex × XSt := match r with
  | (z1_0, z1_1, z1_2, z1_3, z1_4) => (.exit 0, (sT 16 [], [], ⟨sB [(0, (some (rblk P 14 [false, true, false, true] .ready none [(4, (Value.pointer (some ⟨2, 0, none⟩))), (5, (Value.pointer (some ⟨3, 0, none⟩))), (6, (Value.pointer (some ⟨7, 0, none⟩))), (8, (Value.func (.func 18) #[] #[(Value.pointer (some ⟨8, 0, none⟩))]))] 1))), (1, (some (.marks true))), (2, (some (.cells (layT [(Value.int .i64 z1_0), (nlQ z1_1), (Value.int .i64 z1_2), (Value.int .i64 z1_3), (Value.bool z1_4)]) 38))), (3, (some (.cells (layT [(Value.func (.func 16) #[] #[(Value.pointer (some ⟨4, 0, none⟩)), (Value.pointer (some ⟨5, 0, none⟩))])]) 43))), (4, (some (.cells (layT [(Value.int .i64 x1_5)]) 3))), (5, (some (.cells (layT [(Value.slice (some ⟨6, 0, none⟩) 0 0)]) 23))), (6, (some (.cells (layT []) 3))), (7, (some (.cells (layT [(Value.int .i64 x1_6), (Value.slice none 0 0), (Value.int .i64 x1_7), (Value.int .i64 x1_8), (Value.bool x1_9)]) 38))), (8, (some (.cells (layT [(Value.slice (some ⟨0, 0, some 1⟩) (Args.S).length Args.cS)]) 22)))], 9, 0⟩))
def B_slicesValuesapiStyle1q4_1 (n : Nat) (x1_5 : Int) (x1_6 : Int) (x1_7 : Int) (x1_8 : Int) (x1_9 : Bool) (x1_10 : Int) (st : Int × List (NL) × Int × Int × Bool × Int) : Option ((Int × List (NL) × Int × Int × Bool × Int) ⊕ (Int × List (NL) × Int × Int × Bool)) := match st with
  | (x1_0, x1_1, x1_2, x1_3, x1_4, x1_11) =>
    match x1_1 with
    | [] =>
      if x1_11 < x1_10 then
        if 0 ≤ x1_11 ∧ x1_11 < (((Args.S).length : Nat) : Int) then
          (m_foldOverstyleschoice_1010y7 n x1_0 x1_2 x1_3 x1_4 x1_5 x1_6 x1_7 x1_8 x1_9 (((Args.S).getD (x1_11).toNat (0, nl0, 0, 0)).1) (((Args.S).getD (x1_11).toNat (0, nl0, 0, 0)).2.1) (((Args.S).getD (x1_11).toNat (0, nl0, 0, 0)).2.2.1) (((Args.S).getD (x1_11).toNat (0, nl0, 0, 0)).2.2.2)).bind fun t => match t with
          | (y1_3_0, y1_3_1, y1_3_2, y1_3_3, y1_3_4) =>
            match y1_3_1 with
            | [] =>
              some (.inl (y1_3_0, ([] : List (NL)), y1_3_2, y1_3_3, y1_3_4, (w64 (x1_11 + (1 : Int)))))
            | y1_3_1a :: y1_3_1t =>
              some (.inl (y1_3_0, [y1_3_1a], y1_3_2, y1_3_3, y1_3_4, (w64 (x1_11 + (1 : Int)))))
        else none
      else
        some (.inr (x1_0, ([] : List (NL)), x1_2, x1_3, x1_4))
    | x1_1a :: x1_1t =>
      if x1_11 < x1_10 then
        if 0 ≤ x1_11 ∧ x1_11 < (((Args.S).length : Nat) : Int) then
          (m_foldOverstyleschoice_1010y8 n x1_0 x1_1a x1_2 x1_3 x1_4 x1_5 x1_6 x1_7 x1_8 x1_9 (((Args.S).getD (x1_11).toNat (0, nl0, 0, 0)).1) (((Args.S).getD (x1_11).toNat (0, nl0, 0, 0)).2.1) (((Args.S).getD (x1_11).toNat (0, nl0, 0, 0)).2.2.1) (((Args.S).getD (x1_11).toNat (0, nl0, 0, 0)).2.2.2)).bind fun t => match t with
          | (y1_3_0, y1_3_1, y1_3_2, y1_3_3, y1_3_4) =>
            some (.inl (y1_3_0, [y1_3_1], y1_3_2, y1_3_3, y1_3_4, (w64 (x1_11 + (1 : Int)))))
        else none
      else
        some (.inr (x1_0, [x1_1a], x1_2, x1_3, x1_4))
def m_slicesValuesapiStyle1q4_1 (n : Nat) (x1_5 : Int) (x1_6 : Int) (x1_7 : Int) (x1_8 : Int) (x1_9 : Bool) (x1_10 : Int) (st : Int × List (NL) × Int × Int × Bool × Int) : Option (Int × List (NL) × Int × Int × Bool) := iterM (B_slicesValuesapiStyle1q4_1 n x1_5 x1_6 x1_7 x1_8 x1_9 x1_10) n st
set_option maxRecDepth 100000 in
theorem q_slicesValuesapiStyle1q4_1_0 (n : Nat) {rnd : Option Nat} (x1_0 : Int) (x1_2 : Int) (x1_3 : Int) (x1_4 : Bool) (x1_5 : Int) (x1_6 : Int) (x1_7 : Int) (x1_8 : Int) (x1_9 : Bool) (x1_10 : Int) (x1_11 : Int) (hy1_1 : x1_11 < x1_10) (hy1_2 : 0 ≤ x1_11 ∧ x1_11 < (((Args.S).length : Nat) : Int)) (y1_3_0 : Int) (y1_3_2 : Int) (y1_3_3 : Int) (y1_3_4 : Bool) (hy1_3 : m_foldOverstyleschoice_1010y7 n x1_0 x1_2 x1_3 x1_4 x1_5 x1_6 x1_7 x1_8 x1_9 (((Args.S).getD (x1_11).toNat (0, nl0, 0, 0)).1) (((Args.S).getD (x1_11).toNat (0, nl0, 0, 0)).2.1) (((Args.S).getD (x1_11).toNat (0, nl0, 0, 0)).2.2.1) (((Args.S).getD (x1_11).toNat (0, nl0, 0, 0)).2.2.2) = some (y1_3_0, [], y1_3_2, y1_3_3, y1_3_4)) : CG P rnd (fnN P 18) 9 (codeOf P 18 [false, false, true]) (S_slicesValuesapiStyle1q4_1 x1_5 x1_6 x1_7 x1_8 x1_9 x1_10 (x1_0, ([] : List (NL)), x1_2, x1_3, x1_4, x1_11)) (.normal, S_slicesValuesapiStyle1q4_1 x1_5 x1_6 x1_7 x1_8 x1_9 x1_10 (y1_3_0, ([] : List (NL)), y1_3_2, y1_3_3, y1_3_4, (w64 (x1_11 + (1 : Int))))) :=
  runC_ok hm (A := aT [(1, .val (.bool true)), (7, .pur (Value.pointer (some ⟨0, ((x1_11).toNat * 4), some 1⟩))), (8, .ld (Value.agg #[(Value.int .i64 (((Args.S).getD (x1_11).toNat (0, nl0, 0, 0)).1)), (nlV (((Args.S).getD (x1_11).toNat (0, nl0, 0, 0)).2.1)), (Value.int .i64 (((Args.S).getD (x1_11).toNat (0, nl0, 0, 0)).2.2.1)), (Value.int .i64 (((Args.S).getD (x1_11).toNat (0, nl0, 0, 0)).2.2.2))])), (14, .call ⟨9, [(0, 0, false), (1, 1, false), (2, 2, false), (3, 3, false), (4, 4, false), (5, 5, false), (6, 6, false), (7, 7, false), (8, 8, false)], (V_foldOverstyleschoice_1010y7 x1_0 x1_2 x1_3 x1_4 x1_5 x1_6 x1_7 x1_8 x1_9 (((Args.S).getD (x1_11).toNat (0, nl0, 0, 0)).1) (((Args.S).getD (x1_11).toNat (0, nl0, 0, 0)).2.1) (((Args.S).getD (x1_11).toNat (0, nl0, 0, 0)).2.2.1) (((Args.S).getD (x1_11).toNat (0, nl0, 0, 0)).2.2.2) (y1_3_0, ([] : List (NL)), y1_3_2, y1_3_3, y1_3_4)), (R_foldOverstyleschoice_1010y7 x1_0 x1_2 x1_3 x1_4 x1_5 x1_6 x1_7 x1_8 x1_9 (((Args.S).getD (x1_11).toNat (0, nl0, 0, 0)).1) (((Args.S).getD (x1_11).toNat (0, nl0, 0, 0)).2.1) (((Args.S).getD (x1_11).toNat (0, nl0, 0, 0)).2.2.1) (((Args.S).getD (x1_11).toNat (0, nl0, 0, 0)).2.2.2) (y1_3_0, ([] : List (NL)), y1_3_2, y1_3_3, y1_3_4)), [(0, 0, false), (1, 1, false), (2, 2, false), (3, 3, false), (4, 4, false), (5, 5, false), (6, 6, false), (7, 7, false), (8, 8, false)]⟩)]) (L := lT []) (wk := ⟨[0, 5, 6, 7], [(0, 0, false), (1, 1, false), (2, 2, false), (3, 3, false), (4, 4, false), (5, 5, false), (6, 6, false), (7, 7, false), (8, 8, false)], 9, 0⟩)
    (ps := [(Value.bool (decide (x1_11 < x1_10))) = (Value.bool true),
    opIndexAddr P 22 (Value.slice (some ⟨0, 0, some 1⟩) (Args.S).length Args.cS) (Value.int .i64 x1_11) Ax.h0 = some ((Value.pointer (some ⟨0, ((x1_11).toNat * 4), some 1⟩)), Ax.h0),
    loadG P 27 (Value.pointer (some ⟨0, ((x1_11).toNat * 4), some 1⟩)) Ax.h0 = some ((Value.agg #[(Value.int .i64 (((Args.S).getD (x1_11).toNat (0, nl0, 0, 0)).1)), (nlV (((Args.S).getD (x1_11).toNat (0, nl0, 0, 0)).2.1)), (Value.int .i64 (((Args.S).getD (x1_11).toNat (0, nl0, 0, 0)).2.2.1)), (Value.int .i64 (((Args.S).getD (x1_11).toNat (0, nl0, 0, 0)).2.2.2))]), Ax.h0),
    Gv P (.yield 0) (A_foldOverstyleschoice_1010y7 x1_0 x1_2 x1_3 x1_4 x1_5 x1_6 x1_7 x1_8 x1_9 (((Args.S).getD (x1_11).toNat (0, nl0, 0, 0)).1) (((Args.S).getD (x1_11).toNat (0, nl0, 0, 0)).2.1) (((Args.S).getD (x1_11).toNat (0, nl0, 0, 0)).2.2.1) (((Args.S).getD (x1_11).toNat (0, nl0, 0, 0)).2.2.2)) (H_foldOverstyleschoice_1010y7 x1_0 x1_2 x1_3 x1_4 x1_5 x1_6 x1_7 x1_8 x1_9 (((Args.S).getD (x1_11).toNat (0, nl0, 0, 0)).1) (((Args.S).getD (x1_11).toNat (0, nl0, 0, 0)).2.1) (((Args.S).getD (x1_11).toNat (0, nl0, 0, 0)).2.2.1) (((Args.S).getD (x1_11).toNat (0, nl0, 0, 0)).2.2.2)) (V_foldOverstyleschoice_1010y7 x1_0 x1_2 x1_3 x1_4 x1_5 x1_6 x1_7 x1_8 x1_9 (((Args.S).getD (x1_11).toNat (0, nl0, 0, 0)).1) (((Args.S).getD (x1_11).toNat (0, nl0, 0, 0)).2.1) (((Args.S).getD (x1_11).toNat (0, nl0, 0, 0)).2.2.1) (((Args.S).getD (x1_11).toNat (0, nl0, 0, 0)).2.2.2) (y1_3_0, ([] : List (NL)), y1_3_2, y1_3_3, y1_3_4)) (R_foldOverstyleschoice_1010y7 x1_0 x1_2 x1_3 x1_4 x1_5 x1_6 x1_7 x1_8 x1_9 (((Args.S).getD (x1_11).toNat (0, nl0, 0, 0)).1) (((Args.S).getD (x1_11).toNat (0, nl0, 0, 0)).2.1) (((Args.S).getD (x1_11).toNat (0, nl0, 0, 0)).2.2.1) (((Args.S).getD (x1_11).toNat (0, nl0, 0, 0)).2.2.2) (y1_3_0, ([] : List (NL)), y1_3_2, y1_3_3, y1_3_4))]) (by kernel_rfl) ⟨(vbT hy1_1), (ixW (e := 27) (by kernel_rfl) (by kernel_rfl) (hy1_2).1 (hy1_2).2), (ldWA rwf_iLii (0, nl0, 0, 0) (i := (x1_11).toNat) (q := 0) (L := Args.S) (n := 4) ((x1_11).toNat * 4) rfl rfl (by kernel_rfl) (by kernel_rfl) (toNatLt hy1_2) (by decide) rfl), (m_foldOverstyleschoice_1010y7_ok n x1_0 x1_2 x1_3 x1_4 x1_5 x1_6 x1_7 x1_8 x1_9 (((Args.S).getD (x1_11).toNat (0, nl0, 0, 0)).1) (((Args.S).getD (x1_11).toNat (0, nl0, 0, 0)).2.1) (((Args.S).getD (x1_11).toNat (0, nl0, 0, 0)).2.2.1) (((Args.S).getD (x1_11).toNat (0, nl0, 0, 0)).2.2.2) (y1_3_0, ([] : List (NL)), y1_3_2, y1_3_3, y1_3_4) hy1_3), trivial⟩
set_option maxRecDepth 100000 in
theorem q_slicesValuesapiStyle1q4_1_1 (n : Nat) {rnd : Option Nat} (x1_0 : Int) (x1_2 : Int) (x1_3 : Int) (x1_4 : Bool) (x1_5 : Int) (x1_6 : Int) (x1_7 : Int) (x1_8 : Int) (x1_9 : Bool) (x1_10 : Int) (x1_11 : Int) (hy1_1 : x1_11 < x1_10) (hy1_2 : 0 ≤ x1_11 ∧ x1_11 < (((Args.S).length : Nat) : Int)) (y1_3_0 : Int) (y1_3_1a : NL) (y1_3_1t : List (NL)) (y1_3_2 : Int) (y1_3_3 : Int) (y1_3_4 : Bool) (hy1_3 : m_foldOverstyleschoice_1010y7 n x1_0 x1_2 x1_3 x1_4 x1_5 x1_6 x1_7 x1_8 x1_9 (((Args.S).getD (x1_11).toNat (0, nl0, 0, 0)).1) (((Args.S).getD (x1_11).toNat (0, nl0, 0, 0)).2.1) (((Args.S).getD (x1_11).toNat (0, nl0, 0, 0)).2.2.1) (((Args.S).getD (x1_11).toNat (0, nl0, 0, 0)).2.2.2) = some (y1_3_0, (y1_3_1a :: y1_3_1t), y1_3_2, y1_3_3, y1_3_4)) : CG P rnd (fnN P 18) 9 (codeOf P 18 [false, false, true]) (S_slicesValuesapiStyle1q4_1 x1_5 x1_6 x1_7 x1_8 x1_9 x1_10 (x1_0, ([] : List (NL)), x1_2, x1_3, x1_4, x1_11)) (.normal, S_slicesValuesapiStyle1q4_1 x1_5 x1_6 x1_7 x1_8 x1_9 x1_10 (y1_3_0, [y1_3_1a], y1_3_2, y1_3_3, y1_3_4, (w64 (x1_11 + (1 : Int))))) :=
  runC_ok hm (A := aT [(1, .val (.bool true)), (7, .pur (Value.pointer (some ⟨0, ((x1_11).toNat * 4), some 1⟩))), (8, .ld (Value.agg #[(Value.int .i64 (((Args.S).getD (x1_11).toNat (0, nl0, 0, 0)).1)), (nlV (((Args.S).getD (x1_11).toNat (0, nl0, 0, 0)).2.1)), (Value.int .i64 (((Args.S).getD (x1_11).toNat (0, nl0, 0, 0)).2.2.1)), (Value.int .i64 (((Args.S).getD (x1_11).toNat (0, nl0, 0, 0)).2.2.2))])), (14, .call ⟨9, [(0, 0, false), (1, 1, false), (2, 2, false), (3, 3, false), (4, 4, false), (5, 5, false), (6, 6, false), (7, 7, false), (8, 8, false)], (V_foldOverstyleschoice_1010y7 x1_0 x1_2 x1_3 x1_4 x1_5 x1_6 x1_7 x1_8 x1_9 (((Args.S).getD (x1_11).toNat (0, nl0, 0, 0)).1) (((Args.S).getD (x1_11).toNat (0, nl0, 0, 0)).2.1) (((Args.S).getD (x1_11).toNat (0, nl0, 0, 0)).2.2.1) (((Args.S).getD (x1_11).toNat (0, nl0, 0, 0)).2.2.2) (y1_3_0, (y1_3_1a :: y1_3_1t), y1_3_2, y1_3_3, y1_3_4)), (R_foldOverstyleschoice_1010y7 x1_0 x1_2 x1_3 x1_4 x1_5 x1_6 x1_7 x1_8 x1_9 (((Args.S).getD (x1_11).toNat (0, nl0, 0, 0)).1) (((Args.S).getD (x1_11).toNat (0, nl0, 0, 0)).2.1) (((Args.S).getD (x1_11).toNat (0, nl0, 0, 0)).2.2.1) (((Args.S).getD (x1_11).toNat (0, nl0, 0, 0)).2.2.2) (y1_3_0, (y1_3_1a :: y1_3_1t), y1_3_2, y1_3_3, y1_3_4)), [(0, 0, false), (1, 1, false), (2, 2, false), (3, 3, false), (4, 4, false), (5, 5, false), (6, 6, false), (7, 7, false), (8, 8, false)]⟩)]) (L := lT []) (wk := ⟨[0, 5, 6, 7], [(0, 0, false), (1, 1, false), (2, 2, false), (3, 3, false), (4, 4, false), (5, 5, false), (6, 6, false), (7, 7, false), (8, 8, false)], 9, 0⟩)
    (ps := [(Value.bool (decide (x1_11 < x1_10))) = (Value.bool true),
    opIndexAddr P 22 (Value.slice (some ⟨0, 0, some 1⟩) (Args.S).length Args.cS) (Value.int .i64 x1_11) Ax.h0 = some ((Value.pointer (some ⟨0, ((x1_11).toNat * 4), some 1⟩)), Ax.h0),
    loadG P 27 (Value.pointer (some ⟨0, ((x1_11).toNat * 4), some 1⟩)) Ax.h0 = some ((Value.agg #[(Value.int .i64 (((Args.S).getD (x1_11).toNat (0, nl0, 0, 0)).1)), (nlV (((Args.S).getD (x1_11).toNat (0, nl0, 0, 0)).2.1)), (Value.int .i64 (((Args.S).getD (x1_11).toNat (0, nl0, 0, 0)).2.2.1)), (Value.int .i64 (((Args.S).getD (x1_11).toNat (0, nl0, 0, 0)).2.2.2))]), Ax.h0),
    Gv P (.yield 0) (A_foldOverstyleschoice_1010y7 x1_0 x1_2 x1_3 x1_4 x1_5 x1_6 x1_7 x1_8 x1_9 (((Args.S).getD (x1_11).toNat (0, nl0, 0, 0)).1) (((Args.S).getD (x1_11).toNat (0, nl0, 0, 0)).2.1) (((Args.S).getD (x1_11).toNat (0, nl0, 0, 0)).2.2.1) (((Args.S).getD (x1_11).toNat (0, nl0, 0, 0)).2.2.2)) (H_foldOverstyleschoice_1010y7 x1_0 x1_2 x1_3 x1_4 x1_5 x1_6 x1_7 x1_8 x1_9 (((Args.S).getD (x1_11).toNat (0, nl0, 0, 0)).1) (((Args.S).getD (x1_11).toNat (0, nl0, 0, 0)).2.1) (((Args.S).getD (x1_11).toNat (0, nl0, 0, 0)).2.2.1) (((Args.S).getD (x1_11).toNat (0, nl0, 0, 0)).2.2.2)) (V_foldOverstyleschoice_1010y7 x1_0 x1_2 x1_3 x1_4 x1_5 x1_6 x1_7 x1_8 x1_9 (((Args.S).getD (x1_11).toNat (0, nl0, 0, 0)).1) (((Args.S).getD (x1_11).toNat (0, nl0, 0, 0)).2.1) (((Args.S).getD (x1_11).toNat (0, nl0, 0, 0)).2.2.1) (((Args.S).getD (x1_11).toNat (0, nl0, 0, 0)).2.2.2) (y1_3_0, (y1_3_1a :: y1_3_1t), y1_3_2, y1_3_3, y1_3_4)) (R_foldOverstyleschoice_1010y7 x1_0 x1_2 x1_3 x1_4 x1_5 x1_6 x1_7 x1_8 x1_9 (((Args.S).getD (x1_11).toNat (0, nl0, 0, 0)).1) (((Args.S).getD (x1_11).toNat (0, nl0, 0, 0)).2.1) (((Args.S).getD (x1_11).toNat (0, nl0, 0, 0)).2.2.1) (((Args.S).getD (x1_11).toNat (0, nl0, 0, 0)).2.2.2) (y1_3_0, (y1_3_1a :: y1_3_1t), y1_3_2, y1_3_3, y1_3_4))]) (by kernel_rfl) ⟨(vbT hy1_1), (ixW (e := 27) (by kernel_rfl) (by kernel_rfl) (hy1_2).1 (hy1_2).2), (ldWA rwf_iLii (0, nl0, 0, 0) (i := (x1_11).toNat) (q := 0) (L := Args.S) (n := 4) ((x1_11).toNat * 4) rfl rfl (by kernel_rfl) (by kernel_rfl) (toNatLt hy1_2) (by decide) rfl), (m_foldOverstyleschoice_1010y7_ok n x1_0 x1_2 x1_3 x1_4 x1_5 x1_6 x1_7 x1_8 x1_9 (((Args.S).getD (x1_11).toNat (0, nl0, 0, 0)).1) (((Args.S).getD (x1_11).toNat (0, nl0, 0, 0)).2.1) (((Args.S).getD (x1_11).toNat (0, nl0, 0, 0)).2.2.1) (((Args.S).getD (x1_11).toNat (0, nl0, 0, 0)).2.2.2) (y1_3_0, (y1_3_1a :: y1_3_1t), y1_3_2, y1_3_3, y1_3_4) hy1_3), trivial⟩
set_option maxRecDepth 100000 in
theorem q_slicesValuesapiStyle1q4_1_2 (n : Nat) {rnd : Option Nat} (x1_0 : Int) (x1_2 : Int) (x1_3 : Int) (x1_4 : Bool) (x1_5 : Int) (x1_6 : Int) (x1_7 : Int) (x1_8 : Int) (x1_9 : Bool) (x1_10 : Int) (x1_11 : Int) (hy1_1 : ¬ (x1_11 < x1_10)) : CG P rnd (fnN P 18) 9 (codeOf P 18 [false, false, true]) (S_slicesValuesapiStyle1q4_1 x1_5 x1_6 x1_7 x1_8 x1_9 x1_10 (x1_0, ([] : List (NL)), x1_2, x1_3, x1_4, x1_11)) (X_slicesValuesapiStyle1q4_1 x1_5 x1_6 x1_7 x1_8 x1_9 x1_10 (x1_0, ([] : List (NL)), x1_2, x1_3, x1_4)) :=
  runC_ok hm (A := aT [(1, .val (.bool false))]) (L := lT []) (wk := ⟨[], [(0, 0, false), (1, 1, false), (2, 2, false), (3, 3, false), (4, 4, false), (5, 5, false), (6, 6, false), (7, 7, false), (8, 8, false)], 9, 0⟩)
    (ps := [(Value.bool (decide (x1_11 < x1_10))) = (Value.bool false)]) (by kernel_rfl) ⟨(vbF hy1_1), trivial⟩
set_option maxRecDepth 100000 in
theorem q_slicesValuesapiStyle1q4_1_3 (n : Nat) {rnd : Option Nat} (x1_0 : Int) (x1_1a : NL) (x1_1t : List (NL)) (x1_2 : Int) (x1_3 : Int) (x1_4 : Bool) (x1_5 : Int) (x1_6 : Int) (x1_7 : Int) (x1_8 : Int) (x1_9 : Bool) (x1_10 : Int) (x1_11 : Int) (hy1_1 : x1_11 < x1_10) (hy1_2 : 0 ≤ x1_11 ∧ x1_11 < (((Args.S).length : Nat) : Int)) (y1_3_0 : Int) (y1_3_1 : NL) (y1_3_2 : Int) (y1_3_3 : Int) (y1_3_4 : Bool) (hy1_3 : m_foldOverstyleschoice_1010y8 n x1_0 x1_1a x1_2 x1_3 x1_4 x1_5 x1_6 x1_7 x1_8 x1_9 (((Args.S).getD (x1_11).toNat (0, nl0, 0, 0)).1) (((Args.S).getD (x1_11).toNat (0, nl0, 0, 0)).2.1) (((Args.S).getD (x1_11).toNat (0, nl0, 0, 0)).2.2.1) (((Args.S).getD (x1_11).toNat (0, nl0, 0, 0)).2.2.2) = some (y1_3_0, y1_3_1, y1_3_2, y1_3_3, y1_3_4)) : CG P rnd (fnN P 18) 9 (codeOf P 18 [false, false, true]) (S_slicesValuesapiStyle1q4_1 x1_5 x1_6 x1_7 x1_8 x1_9 x1_10 (x1_0, (x1_1a :: x1_1t), x1_2, x1_3, x1_4, x1_11)) (.normal, S_slicesValuesapiStyle1q4_1 x1_5 x1_6 x1_7 x1_8 x1_9 x1_10 (y1_3_0, [y1_3_1], y1_3_2, y1_3_3, y1_3_4, (w64 (x1_11 + (1 : Int))))) :=
  runC_ok hm (A := aT [(1, .val (.bool true)), (7, .pur (Value.pointer (some ⟨0, ((x1_11).toNat * 4), some 1⟩))), (8, .ld (Value.agg #[(Value.int .i64 (((Args.S).getD (x1_11).toNat (0, nl0, 0, 0)).1)), (nlV (((Args.S).getD (x1_11).toNat (0, nl0, 0, 0)).2.1)), (Value.int .i64 (((Args.S).getD (x1_11).toNat (0, nl0, 0, 0)).2.2.1)), (Value.int .i64 (((Args.S).getD (x1_11).toNat (0, nl0, 0, 0)).2.2.2))])), (14, .call ⟨9, [(0, 0, false), (1, 1, false), (2, 2, false), (3, 3, false), (4, 4, false), (5, 5, false), (6, 6, false), (7, 7, false), (8, 8, false)], (V_foldOverstyleschoice_1010y8 x1_0 x1_1a x1_2 x1_3 x1_4 x1_5 x1_6 x1_7 x1_8 x1_9 (((Args.S).getD (x1_11).toNat (0, nl0, 0, 0)).1) (((Args.S).getD (x1_11).toNat (0, nl0, 0, 0)).2.1) (((Args.S).getD (x1_11).toNat (0, nl0, 0, 0)).2.2.1) (((Args.S).getD (x1_11).toNat (0, nl0, 0, 0)).2.2.2) (y1_3_0, y1_3_1, y1_3_2, y1_3_3, y1_3_4)), (R_foldOverstyleschoice_1010y8 x1_0 x1_1a x1_2 x1_3 x1_4 x1_5 x1_6 x1_7 x1_8 x1_9 (((Args.S).getD (x1_11).toNat (0, nl0, 0, 0)).1) (((Args.S).getD (x1_11).toNat (0, nl0, 0, 0)).2.1) (((Args.S).getD (x1_11).toNat (0, nl0, 0, 0)).2.2.1) (((Args.S).getD (x1_11).toNat (0, nl0, 0, 0)).2.2.2) (y1_3_0, y1_3_1, y1_3_2, y1_3_3, y1_3_4)), [(0, 0, false), (1, 1, false), (2, 2, false), (3, 3, false), (4, 4, false), (5, 5, false), (6, 6, false), (7, 7, false), (8, 8, false)]⟩)]) (L := lT []) (wk := ⟨[0, 5, 6, 7], [(0, 0, false), (1, 1, false), (2, 2, false), (3, 3, false), (4, 4, false), (5, 5, false), (6, 6, false), (7, 7, false), (8, 8, false)], 9, 0⟩)
    (ps := [(Value.bool (decide (x1_11 < x1_10))) = (Value.bool true),
    opIndexAddr P 22 (Value.slice (some ⟨0, 0, some 1⟩) (Args.S).length Args.cS) (Value.int .i64 x1_11) Ax.h0 = some ((Value.pointer (some ⟨0, ((x1_11).toNat * 4), some 1⟩)), Ax.h0),
    loadG P 27 (Value.pointer (some ⟨0, ((x1_11).toNat * 4), some 1⟩)) Ax.h0 = some ((Value.agg #[(Value.int .i64 (((Args.S).getD (x1_11).toNat (0, nl0, 0, 0)).1)), (nlV (((Args.S).getD (x1_11).toNat (0, nl0, 0, 0)).2.1)), (Value.int .i64 (((Args.S).getD (x1_11).toNat (0, nl0, 0, 0)).2.2.1)), (Value.int .i64 (((Args.S).getD (x1_11).toNat (0, nl0, 0, 0)).2.2.2))]), Ax.h0),
    Gv P (.yield 0) (A_foldOverstyleschoice_1010y8 x1_0 x1_1a x1_2 x1_3 x1_4 x1_5 x1_6 x1_7 x1_8 x1_9 (((Args.S).getD (x1_11).toNat (0, nl0, 0, 0)).1) (((Args.S).getD (x1_11).toNat (0, nl0, 0, 0)).2.1) (((Args.S).getD (x1_11).toNat (0, nl0, 0, 0)).2.2.1) (((Args.S).getD (x1_11).toNat (0, nl0, 0, 0)).2.2.2)) (H_foldOverstyleschoice_1010y8 x1_0 x1_1a x1_2 x1_3 x1_4 x1_5 x1_6 x1_7 x1_8 x1_9 (((Args.S).getD (x1_11).toNat (0, nl0, 0, 0)).1) (((Args.S).getD (x1_11).toNat (0, nl0, 0, 0)).2.1) (((Args.S).getD (x1_11).toNat (0, nl0, 0, 0)).2.2.1) (((Args.S).getD (x1_11).toNat (0, nl0, 0, 0)).2.2.2)) (V_foldOverstyleschoice_1010y8 x1_0 x1_1a x1_2 x1_3 x1_4 x1_5 x1_6 x1_7 x1_8 x1_9 (((Args.S).getD (x1_11).toNat (0, nl0, 0, 0)).1) (((Args.S).getD (x1_11).toNat (0, nl0, 0, 0)).2.1) (((Args.S).getD (x1_11).toNat (0, nl0, 0, 0)).2.2.1) (((Args.S).getD (x1_11).toNat (0, nl0, 0, 0)).2.2.2) (y1_3_0, y1_3_1, y1_3_2, y1_3_3, y1_3_4)) (R_foldOverstyleschoice_1010y8 x1_0 x1_1a x1_2 x1_3 x1_4 x1_5 x1_6 x1_7 x1_8 x1_9 (((Args.S).getD (x1_11).toNat (0, nl0, 0, 0)).1) (((Args.S).getD (x1_11).toNat (0, nl0, 0, 0)).2.1) (((Args.S).getD (x1_11).toNat (0, nl0, 0, 0)).2.2.1) (((Args.S).getD (x1_11).toNat (0, nl0, 0, 0)).2.2.2) (y1_3_0, y1_3_1, y1_3_2, y1_3_3, y1_3_4))]) (by kernel_rfl) ⟨(vbT hy1_1), (ixW (e := 27) (by kernel_rfl) (by kernel_rfl) (hy1_2).1 (hy1_2).2), (ldWA rwf_iLii (0, nl0, 0, 0) (i := (x1_11).toNat) (q := 0) (L := Args.S) (n := 4) ((x1_11).toNat * 4) rfl rfl (by kernel_rfl) (by kernel_rfl) (toNatLt hy1_2) (by decide) rfl), (m_foldOverstyleschoice_1010y8_ok n x1_0 x1_1a x1_2 x1_3 x1_4 x1_5 x1_6 x1_7 x1_8 x1_9 (((Args.S).getD (x1_11).toNat (0, nl0, 0, 0)).1) (((Args.S).getD (x1_11).toNat (0, nl0, 0, 0)).2.1) (((Args.S).getD (x1_11).toNat (0, nl0, 0, 0)).2.2.1) (((Args.S).getD (x1_11).toNat (0, nl0, 0, 0)).2.2.2) (y1_3_0, y1_3_1, y1_3_2, y1_3_3, y1_3_4) hy1_3), trivial⟩
set_option maxRecDepth 100000 in
theorem q_slicesValuesapiStyle1q4_1_4 (n : Nat) {rnd : Option Nat} (x1_0 : Int) (x1_1a : NL) (x1_1t : List (NL)) (x1_2 : Int) (x1_3 : Int) (x1_4 : Bool) (x1_5 : Int) (x1_6 : Int) (x1_7 : Int) (x1_8 : Int) (x1_9 : Bool) (x1_10 : Int) (x1_11 : Int) (hy1_1 : ¬ (x1_11 < x1_10)) : CG P rnd (fnN P 18) 9 (codeOf P 18 [false, false, true]) (S_slicesValuesapiStyle1q4_1 x1_5 x1_6 x1_7 x1_8 x1_9 x1_10 (x1_0, (x1_1a :: x1_1t), x1_2, x1_3, x1_4, x1_11)) (X_slicesValuesapiStyle1q4_1 x1_5 x1_6 x1_7 x1_8 x1_9 x1_10 (x1_0, [x1_1a], x1_2, x1_3, x1_4)) :=
  runC_ok hm (A := aT [(1, .val (.bool false))]) (L := lT []) (wk := ⟨[], [(0, 0, false), (1, 1, false), (2, 2, false), (3, 3, false), (4, 4, false), (5, 5, false), (6, 6, false), (7, 7, false), (8, 8, false)], 9, 0⟩)
    (ps := [(Value.bool (decide (x1_11 < x1_10))) = (Value.bool false)]) (by kernel_rfl) ⟨(vbF hy1_1), trivial⟩
theorem m_slicesValuesapiStyle1q4_1_ok (n : Nat) {rnd : Option Nat} (x1_5 : Int) (x1_6 : Int) (x1_7 : Int) (x1_8 : Int) (x1_9 : Bool) (x1_10 : Int) (st : Int × List (NL) × Int × Int × Bool × Int) (r : Int × List (NL) × Int × Int × Bool) (h : m_slicesValuesapiStyle1q4_1 n x1_5 x1_6 x1_7 x1_8 x1_9 x1_10 st = some r) : CG P rnd (fnN P 18) 9 (codeOf P 18 [false, true]) (S_slicesValuesapiStyle1q4_1 x1_5 x1_6 x1_7 x1_8 x1_9 x1_10 st) (X_slicesValuesapiStyle1q4_1 x1_5 x1_6 x1_7 x1_8 x1_9 x1_10 r) :=
  CG.iter (b := codeOf P 18 [false, false, true]) (by kernel_rfl) (body := B_slicesValuesapiStyle1q4_1 n x1_5 x1_6 x1_7 x1_8 x1_9 x1_10) (S := S_slicesValuesapiStyle1q4_1 x1_5 x1_6 x1_7 x1_8 x1_9 x1_10) (X := X_slicesValuesapiStyle1q4_1 x1_5 x1_6 x1_7 x1_8 x1_9 x1_10)
    (fun s s' h => by
    obtain ⟨x1_0, x1_1, x1_2, x1_3, x1_4, x1_11⟩ := s
    unfold B_slicesValuesapiStyle1q4_1 at h
    dsimp only at h
    cases x1_1 with
    | nil =>
      dsimp only at h
      by_cases hy1_1 : x1_11 < x1_10
      · rw [if_pos hy1_1] at h
        by_cases hy1_2 : 0 ≤ x1_11 ∧ x1_11 < (((Args.S).length : Nat) : Int)
        · rw [if_pos hy1_2] at h
          obtain ⟨⟨y1_3_0, y1_3_1, y1_3_2, y1_3_3, y1_3_4⟩, hy1_3, h⟩ := Option.bind_eq_some_iff.1 h
          dsimp only at h
          cases y1_3_1 with
          | nil =>
            dsimp only at h
            obtain rfl := Sum.inl.inj (Option.some.inj h); exact q_slicesValuesapiStyle1q4_1_0 n x1_0 x1_2 x1_3 x1_4 x1_5 x1_6 x1_7 x1_8 x1_9 x1_10 x1_11 hy1_1 hy1_2 y1_3_0 y1_3_2 y1_3_3 y1_3_4 hy1_3
          | cons y1_3_1a y1_3_1t =>
            dsimp only at h
            obtain rfl := Sum.inl.inj (Option.some.inj h); exact q_slicesValuesapiStyle1q4_1_1 n x1_0 x1_2 x1_3 x1_4 x1_5 x1_6 x1_7 x1_8 x1_9 x1_10 x1_11 hy1_1 hy1_2 y1_3_0 y1_3_1a y1_3_1t y1_3_2 y1_3_3 y1_3_4 hy1_3
        · rw [if_neg hy1_2] at h; cases h
      · rw [if_neg hy1_1] at h
        cases h
    | cons x1_1a x1_1t =>
      dsimp only at h
      by_cases hy1_1 : x1_11 < x1_10
      · rw [if_pos hy1_1] at h
        by_cases hy1_2 : 0 ≤ x1_11 ∧ x1_11 < (((Args.S).length : Nat) : Int)
        · rw [if_pos hy1_2] at h
          obtain ⟨⟨y1_3_0, y1_3_1, y1_3_2, y1_3_3, y1_3_4⟩, hy1_3, h⟩ := Option.bind_eq_some_iff.1 h
          dsimp only at h
          obtain rfl := Sum.inl.inj (Option.some.inj h); exact q_slicesValuesapiStyle1q4_1_3 n x1_0 x1_1a x1_1t x1_2 x1_3 x1_4 x1_5 x1_6 x1_7 x1_8 x1_9 x1_10 x1_11 hy1_1 hy1_2 y1_3_0 y1_3_1 y1_3_2 y1_3_3 y1_3_4 hy1_3
        · rw [if_neg hy1_2] at h; cases h
      · rw [if_neg hy1_1] at h
        cases h)
    (fun s r h => by
    obtain ⟨x1_0, x1_1, x1_2, x1_3, x1_4, x1_11⟩ := s
    unfold B_slicesValuesapiStyle1q4_1 at h
    dsimp only at h
    cases x1_1 with
    | nil =>
      dsimp only at h
      by_cases hy1_1 : x1_11 < x1_10
      · rw [if_pos hy1_1] at h
        by_cases hy1_2 : 0 ≤ x1_11 ∧ x1_11 < (((Args.S).length : Nat) : Int)
        · rw [if_pos hy1_2] at h
          obtain ⟨⟨y1_3_0, y1_3_1, y1_3_2, y1_3_3, y1_3_4⟩, hy1_3, h⟩ := Option.bind_eq_some_iff.1 h
          dsimp only at h
          cases y1_3_1 with
          | nil =>
            dsimp only at h
            cases h
          | cons y1_3_1a y1_3_1t =>
            dsimp only at h
            cases h
        · rw [if_neg hy1_2] at h; cases h
      · rw [if_neg hy1_1] at h
        obtain rfl := Sum.inr.inj (Option.some.inj h); exact q_slicesValuesapiStyle1q4_1_2 n x1_0 x1_2 x1_3 x1_4 x1_5 x1_6 x1_7 x1_8 x1_9 x1_10 x1_11 hy1_1
    | cons x1_1a x1_1t =>
      dsimp only at h
      by_cases hy1_1 : x1_11 < x1_10
      · rw [if_pos hy1_1] at h
        by_cases hy1_2 : 0 ≤ x1_11 ∧ x1_11 < (((Args.S).length : Nat) : Int)
        · rw [if_pos hy1_2] at h
          obtain ⟨⟨y1_3_0, y1_3_1, y1_3_2, y1_3_3, y1_3_4⟩, hy1_3, h⟩ := Option.bind_eq_some_iff.1 h
          dsimp only at h
          cases h
        · rw [if_neg hy1_2] at h; cases h
      · rw [if_neg hy1_1] at h
        obtain rfl := Sum.inr.inj (Option.some.inj h); exact q_slicesValuesapiStyle1q4_1_4 n x1_0 x1_1a x1_1t x1_2 x1_3 x1_4 x1_5 x1_6 x1_7 x1_8 x1_9 x1_10 x1_11 hy1_1)
    (fun r => by intro hx; cases hx) h
noncomputable def A_slicesValuesapiStyle1q4 (a0 : Int) (a1 : Int) (a2 : Int) (a3 : Bool) (a4 : Int) (a5 : Int) (a6 : Int) (a7 : Int) (a8 : Bool) : List Value := [(Value.func (.yield 0) #[] #[]), (Value.pointer (some ⟨8, 0, none⟩))]
noncomputable def H_slicesValuesapiStyle1q4 (a0 : Int) (a1 : Int) (a2 : Int) (a3 : Bool) (a4 : Int) (a5 : Int) (a6 : Int) (a7 : Int) (a8 : Bool) : AH := ⟨sB [(0, (some (rblk P 14 [false, true, false, true] .ready none [(4, (Value.pointer (some ⟨2, 0, none⟩))), (5, (Value.pointer (some ⟨3, 0, none⟩))), (6, (Value.pointer (some ⟨7, 0, none⟩))), (8, (Value.func (.func 18) #[] #[(Value.pointer (some ⟨8, 0, none⟩))]))] 1))), (1, (some (.marks true))), (2, (some (.cells (layT [(Value.int .i64 a0), (Value.slice none 0 0), (Value.int .i64 a1), (Value.int .i64 a2), (Value.bool a3)]) 38))), (3, (some (.cells (layT [(Value.func (.func 16) #[] #[(Value.pointer (some ⟨4, 0, none⟩)), (Value.pointer (some ⟨5, 0, none⟩))])]) 43))), (4, (some (.cells (layT [(Value.int .i64 a4)]) 3))), (5, (some (.cells (layT [(Value.slice (some ⟨6, 0, none⟩) 0 0)]) 23))), (6, (some (.cells (layT []) 3))), (7, (some (.cells (layT [(Value.int .i64 a5), (Value.slice none 0 0), (Value.int .i64 a6), (Value.int .i64 a7), (Value.bool a8)]) 38))), (8, (some (.cells (layT [(Value.slice (some ⟨0, 0, some 1⟩) (Args.S).length Args.cS)]) 22)))], 9, 9⟩
noncomputable def V_slicesValuesapiStyle1q4 (a0 : Int) (a1 : Int) (a2 : Int) (a3 : Bool) (a4 : Int) (a5 : Int) (a6 : Int) (a7 : Int) (a8 : Bool) (r : Int × List (NL) × Int × Int × Bool) : Value := match r with
  | (o0, o1, o2, o3, o4) => (Value.tuple #[])
noncomputable def R_slicesValuesapiStyle1q4 (a0 : Int) (a1 : Int) (a2 : Int) (a3 : Bool) (a4 : Int) (a5 : Int) (a6 : Int) (a7 : Int) (a8 : Bool) (r : Int × List (NL) × Int × Int × Bool) : AH := match r with
  | (o0, o1, o2, o3, o4) => ⟨sB [(0, (some (rblk P 14 [false, true, false, true] .ready none [(4, (Value.pointer (some ⟨2, 0, none⟩))), (5, (Value.pointer (some ⟨3, 0, none⟩))), (6, (Value.pointer (some ⟨7, 0, none⟩))), (8, (Value.func (.func 18) #[] #[(Value.pointer (some ⟨8, 0, none⟩))]))] 1))), (1, (some (.marks true))), (2, (some (.cells (layT [(Value.int .i64 o0), (nlQ o1), (Value.int .i64 o2), (Value.int .i64 o3), (Value.bool o4)]) 38))), (3, (some (.cells (layT [(Value.func (.func 16) #[] #[(Value.pointer (some ⟨4, 0, none⟩)), (Value.pointer (some ⟨5, 0, none⟩))])]) 43))), (4, (some (.cells (layT [(Value.int .i64 a4)]) 3))), (5, (some (.cells (layT [(Value.slice (some ⟨6, 0, none⟩) 0 0)]) 23))), (6, (some (.cells (layT []) 3))), (7, (some (.cells (layT [(Value.int .i64 a5), (Value.slice none 0 0), (Value.int .i64 a6), (Value.int .i64 a7), (Value.bool a8)]) 38))), (8, (some (.cells (layT [(Value.slice (some ⟨0, 0, some 1⟩) (Args.S).length Args.cS)]) 22)))], 9, 0⟩
noncomputable abbrev G_slicesValuesapiStyle1q4 (a0 : Int) (a1 : Int) (a2 : Int) (a3 : Bool) (a4 : Int) (a5 : Int) (a6 : Int) (a7 : Int) (a8 : Bool) (r : Int × List (NL) × Int × Int × Bool) : Prop := Gv P (.func 18) (A_slicesValuesapiStyle1q4 a0 a1 a2 a3 a4 a5 a6 a7 a8) (H_slicesValuesapiStyle1q4 a0 a1 a2 a3 a4 a5 a6 a7 a8) (V_slicesValuesapiStyle1q4 a0 a1 a2 a3 a4 a5 a6 a7 a8 r) (R_slicesValuesapiStyle1q4 a0 a1 a2 a3 a4 a5 a6 a7 a8 r)
def m_slicesValuesapiStyle1q4 (n : Nat) (a0 : Int) (a1 : Int) (a2 : Int) (a3 : Bool) (a4 : Int) (a5 : Int) (a6 : Int) (a7 : Int) (a8 : Bool) : Option (Int × List (NL) × Int × Int × Bool) :=
  (m_slicesValuesapiStyle1q4_1 n a4 a5 a6 a7 a8 (((Args.S).length : Nat) : Int) (a0, ([] : List (NL)), a1, a2, a3, 0)).bind fun t => match t with
  | (c1_0, c1_1, c1_2, c1_3, c1_4) =>
    match c1_1 with
    | [] =>
      some (c1_0, ([] : List (NL)), c1_2, c1_3, c1_4)
    | c1_1a :: c1_1t =>
      some (c1_0, [c1_1a], c1_2, c1_3, c1_4)
set_option maxRecDepth 100000 in
theorem p_slicesValuesapiStyle1q4_0 (n : Nat) (a0 : Int) (a1 : Int) (a2 : Int) (a3 : Bool) (a4 : Int) (a5 : Int) (a6 : Int) (a7 : Int) (a8 : Bool) (c1_0 : Int) (c1_2 : Int) (c1_3 : Int) (c1_4 : Bool) (hc1 : m_slicesValuesapiStyle1q4_1 n a4 a5 a6 a7 a8 (((Args.S).length : Nat) : Int) (a0, ([] : List (NL)), a1, a2, a3, 0) = some (c1_0, [], c1_2, c1_3, c1_4)) : G_slicesValuesapiStyle1q4 a0 a1 a2 a3 a4 a5 a6 a7 a8 (c1_0, ([] : List (NL)), c1_2, c1_3, c1_4) :=
  runF_ok hm (A := aT []) (L := lT [(5, ⟨⟨[0, 5, 6, 7], [(0, 0, false), (1, 1, false), (2, 2, false), (3, 3, false), (4, 4, false), (5, 5, false), (6, 6, false), (7, 7, false), (8, 8, false)], 9, 0⟩, (X_slicesValuesapiStyle1q4_1 a4 a5 a6 a7 a8 (((Args.S).length : Nat) : Int) (c1_0, ([] : List (NL)), c1_2, c1_3, c1_4)).1, (X_slicesValuesapiStyle1q4_1 a4 a5 a6 a7 a8 (((Args.S).length : Nat) : Int) (c1_0, ([] : List (NL)), c1_2, c1_3, c1_4)).2⟩)]) (wk := ⟨[], [(0, 0, false), (1, 1, false), (2, 2, false), (3, 3, false), (4, 4, false), (5, 5, false), (6, 6, false), (7, 7, false), (8, 8, false)], 9, 0⟩)
    (ps := [CG P none (fnN P 18) 9 (codeOf P 18 [false, true]) (S_slicesValuesapiStyle1q4_1 a4 a5 a6 a7 a8 (((Args.S).length : Nat) : Int) (a0, ([] : List (NL)), a1, a2, a3, 0)) (X_slicesValuesapiStyle1q4_1 a4 a5 a6 a7 a8 (((Args.S).length : Nat) : Int) (c1_0, ([] : List (NL)), c1_2, c1_3, c1_4))]) (by kernel_rfl) ⟨(m_slicesValuesapiStyle1q4_1_ok n a4 a5 a6 a7 a8 (((Args.S).length : Nat) : Int) (a0, ([] : List (NL)), a1, a2, a3, 0) (c1_0, ([] : List (NL)), c1_2, c1_3, c1_4) hc1), trivial⟩
set_option maxRecDepth 100000 in
theorem p_slicesValuesapiStyle1q4_1 (n : Nat) (a0 : Int) (a1 : Int) (a2 : Int) (a3 : Bool) (a4 : Int) (a5 : Int) (a6 : Int) (a7 : Int) (a8 : Bool) (c1_0 : Int) (c1_1a : NL) (c1_1t : List (NL)) (c1_2 : Int) (c1_3 : Int) (c1_4 : Bool) (hc1 : m_slicesValuesapiStyle1q4_1 n a4 a5 a6 a7 a8 (((Args.S).length : Nat) : Int) (a0, ([] : List (NL)), a1, a2, a3, 0) = some (c1_0, (c1_1a :: c1_1t), c1_2, c1_3, c1_4)) : G_slicesValuesapiStyle1q4 a0 a1 a2 a3 a4 a5 a6 a7 a8 (c1_0, [c1_1a], c1_2, c1_3, c1_4) :=
  runF_ok hm (A := aT []) (L := lT [(5, ⟨⟨[0, 5, 6, 7], [(0, 0, false), (1, 1, false), (2, 2, false), (3, 3, false), (4, 4, false), (5, 5, false), (6, 6, false), (7, 7, false), (8, 8, false)], 9, 0⟩, (X_slicesValuesapiStyle1q4_1 a4 a5 a6 a7 a8 (((Args.S).length : Nat) : Int) (c1_0, (c1_1a :: c1_1t), c1_2, c1_3, c1_4)).1, (X_slicesValuesapiStyle1q4_1 a4 a5 a6 a7 a8 (((Args.S).length : Nat) : Int) (c1_0, (c1_1a :: c1_1t), c1_2, c1_3, c1_4)).2⟩)]) (wk := ⟨[], [(0, 0, false), (1, 1, false), (2, 2, false), (3, 3, false), (4, 4, false), (5, 5, false), (6, 6, false), (7, 7, false), (8, 8, false)], 9, 0⟩)
    (ps := [CG P none (fnN P 18) 9 (codeOf P 18 [false, true]) (S_slicesValuesapiStyle1q4_1 a4 a5 a6 a7 a8 (((Args.S).length : Nat) : Int) (a0, ([] : List (NL)), a1, a2, a3, 0)) (X_slicesValuesapiStyle1q4_1 a4 a5 a6 a7 a8 (((Args.S).length : Nat) : Int) (c1_0, (c1_1a :: c1_1t), c1_2, c1_3, c1_4))]) (by kernel_rfl) ⟨(m_slicesValuesapiStyle1q4_1_ok n a4 a5 a6 a7 a8 (((Args.S).length : Nat) : Int) (a0, ([] : List (NL)), a1, a2, a3, 0) (c1_0, (c1_1a :: c1_1t), c1_2, c1_3, c1_4) hc1), trivial⟩
theorem m_slicesValuesapiStyle1q4_ok (n : Nat) (a0 : Int) (a1 : Int) (a2 : Int) (a3 : Bool) (a4 : Int) (a5 : Int) (a6 : Int) (a7 : Int) (a8 : Bool) (r : Int × List (NL) × Int × Int × Bool) (h : m_slicesValuesapiStyle1q4 n a0 a1 a2 a3 a4 a5 a6 a7 a8 = some r) : G_slicesValuesapiStyle1q4 a0 a1 a2 a3 a4 a5 a6 a7 a8 r := by
  unfold m_slicesValuesapiStyle1q4 at h
  obtain ⟨⟨c1_0, c1_1, c1_2, c1_3, c1_4⟩, hc1, h⟩ := Option.bind_eq_some_iff.1 h
  dsimp only at h
  cases c1_1 with
  | nil =>
    dsimp only at h
    obtain rfl := Option.some.inj h; exact p_slicesValuesapiStyle1q4_0 n a0 a1 a2 a3 a4 a5 a6 a7 a8 c1_0 c1_2 c1_3 c1_4 hc1
  | cons c1_1a c1_1t =>
    dsimp only at h
    obtain rfl := Option.some.inj h; exact p_slicesValuesapiStyle1q4_1 n a0 a1 a2 a3 a4 a5 a6 a7 a8 c1_0 c1_1a c1_1t c1_2 c1_3 c1_4 hc1

noncomputable def A_foldOverstyleschoiceq4 (a0 : Int) (a1 : Int) (a2 : Int) (a3 : Bool) (a4 : Int) : List Value := [(Value.func (.func 18) #[] #[(Value.pointer (some ⟨0, 0, none⟩))]), (Value.agg #[(Value.int .i64 a0), (Value.slice none 0 0), (Value.int .i64 a1), (Value.int .i64 a2), (Value.bool a3)]), (Value.func (.func 16) #[] #[(Value.pointer (some ⟨1, 0, none⟩)), (Value.pointer (some ⟨2, 0, none⟩))])]
noncomputable def H_foldOverstyleschoiceq4 (a0 : Int) (a1 : Int) (a2 : Int) (a3 : Bool) (a4 : Int) : AH := ⟨sB [(0, (some (.cells (layT [(Value.slice (some ⟨0, 0, some 1⟩) (Args.S).length Args.cS)]) 22))), (1, (some (.cells (layT [(Value.int .i64 a4)]) 3))), (2, (some (.cells (layT [(Value.slice (some ⟨3, 0, none⟩) 0 0)]) 23))), (3, (some (.cells (layT []) 3)))], 4, 4⟩
noncomputable def V_foldOverstyleschoiceq4 (a0 : Int) (a1 : Int) (a2 : Int) (a3 : Bool) (a4 : Int) (r : Int × List (NL) × Int × Int × Bool) : Value := match r with
  | (o0, o1, o2, o3, o4) => (Value.agg #[(Value.int .i64 o0), (nlQ o1), (Value.int .i64 o2), (Value.int .i64 o3), (Value.bool o4)])
noncomputable def R_foldOverstyleschoiceq4 (a0 : Int) (a1 : Int) (a2 : Int) (a3 : Bool) (a4 : Int) (r : Int × List (NL) × Int × Int × Bool) : AH := match r with
  | (o0, o1, o2, o3, o4) => ⟨sB [(0, (some (.cells (layT [(Value.slice (some ⟨0, 0, some 1⟩) (Args.S).length Args.cS)]) 22))), (1, (some (.cells (layT [(Value.int .i64 a4)]) 3))), (2, (some (.cells (layT [(Value.slice (some ⟨3, 0, none⟩) 0 0)]) 23))), (3, (some (.cells (layT []) 3))), (4, (some (.marks false))), (5, (some (.cells (layT [(Value.int .i64 o0), (nlQ o1), (Value.int .i64 o2), (Value.int .i64 o3), (Value.bool o4)]) 38)))], 6, 0⟩
noncomputable abbrev G_foldOverstyleschoiceq4 (a0 : Int) (a1 : Int) (a2 : Int) (a3 : Bool) (a4 : Int) (r : Int × List (NL) × Int × Int × Bool) : Prop := Gv P (.func 14) (A_foldOverstyleschoiceq4 a0 a1 a2 a3 a4) (H_foldOverstyleschoiceq4 a0 a1 a2 a3 a4) (V_foldOverstyleschoiceq4 a0 a1 a2 a3 a4 r) (R_foldOverstyleschoiceq4 a0 a1 a2 a3 a4 r)
def m_foldOverstyleschoiceq4 (n : Nat) (a0 : Int) (a1 : Int) (a2 : Int) (a3 : Bool) (a4 : Int) : Option (Int × List (NL) × Int × Int × Bool) :=
  (m_slicesValuesapiStyle1q4 n a0 a1 a2 a3 a4 0 0 0 false).bind fun t => match t with
  | (c1_0, c1_1, c1_2, c1_3, c1_4) =>
    match c1_1 with
    | [] =>
      some (c1_0, ([] : List (NL)), c1_2, c1_3, c1_4)
    | c1_1a :: c1_1t =>
      some (c1_0, [c1_1a], c1_2, c1_3, c1_4)
set_option maxRecDepth 100000 in
theorem p_foldOverstyleschoiceq4_0 (n : Nat) (a0 : Int) (a1 : Int) (a2 : Int) (a3 : Bool) (a4 : Int) (c1_0 : Int) (c1_2 : Int) (c1_3 : Int) (c1_4 : Bool) (hc1 : m_slicesValuesapiStyle1q4 n a0 a1 a2 a3 a4 0 0 0 false = some (c1_0, [], c1_2, c1_3, c1_4)) : G_foldOverstyleschoiceq4 a0 a1 a2 a3 a4 (c1_0, ([] : List (NL)), c1_2, c1_3, c1_4) :=
  runF_ok hm (A := aT [(8, .rng ⟨9, [(0, 8, false), (1, 7, false), (2, 4, false), (3, 5, false), (4, 1, false), (5, 2, false), (6, 3, false), (7, 6, false), (8, 0, false)], (V_slicesValuesapiStyle1q4 a0 a1 a2 a3 a4 0 0 0 false (c1_0, ([] : List (NL)), c1_2, c1_3, c1_4)), (R_slicesValuesapiStyle1q4 a0 a1 a2 a3 a4 0 0 0 false (c1_0, ([] : List (NL)), c1_2, c1_3, c1_4)), [(8, 0, false), (7, 1, false), (4, 2, false), (5, 3, false), (1, 4, false), (2, 5, false), (3, 6, false), (6, 7, false), (0, 8, false)]⟩ [4, 5, 6, 8])]) (L := lT []) (wk := ⟨[6], [(0, 0, false), (1, 1, false), (2, 2, false), (3, 3, false), (4, 7, false), (5, 6, false)], 6, 0⟩)
    (ps := [G_slicesValuesapiStyle1q4 a0 a1 a2 a3 a4 0 0 0 false (c1_0, ([] : List (NL)), c1_2, c1_3, c1_4)]) (by kernel_rfl) ⟨(m_slicesValuesapiStyle1q4_ok n a0 a1 a2 a3 a4 0 0 0 false (c1_0, ([] : List (NL)), c1_2, c1_3, c1_4) hc1), trivial⟩
set_option maxRecDepth 100000 in
theorem p_foldOverstyleschoiceq4_1 (n : Nat) (a0 : Int) (a1 : Int) (a2 : Int) (a3 : Bool) (a4 : Int) (c1_0 : Int) (c1_1a : NL) (c1_1t : List (NL)) (c1_2 : Int) (c1_3 : Int) (c1_4 : Bool) (hc1 : m_slicesValuesapiStyle1q4 n a0 a1 a2 a3 a4 0 0 0 false = some (c1_0, (c1_1a :: c1_1t), c1_2, c1_3, c1_4)) : G_foldOverstyleschoiceq4 a0 a1 a2 a3 a4 (c1_0, [c1_1a], c1_2, c1_3, c1_4) :=
  runF_ok hm (A := aT [(8, .rng ⟨9, [(0, 8, false), (1, 7, false), (2, 4, false), (3, 5, false), (4, 1, false), (5, 2, false), (6, 3, false), (7, 6, false), (8, 0, false)], (V_slicesValuesapiStyle1q4 a0 a1 a2 a3 a4 0 0 0 false (c1_0, (c1_1a :: c1_1t), c1_2, c1_3, c1_4)), (R_slicesValuesapiStyle1q4 a0 a1 a2 a3 a4 0 0 0 false (c1_0, (c1_1a :: c1_1t), c1_2, c1_3, c1_4)), [(8, 0, false), (7, 1, false), (4, 2, false), (5, 3, false), (1, 4, false), (2, 5, false), (3, 6, false), (6, 7, false), (0, 8, false)]⟩ [4, 5, 6, 8])]) (L := lT []) (wk := ⟨[6], [(0, 0, false), (1, 1, false), (2, 2, false), (3, 3, false), (4, 7, false), (5, 6, false)], 6, 0⟩)
    (ps := [G_slicesValuesapiStyle1q4 a0 a1 a2 a3 a4 0 0 0 false (c1_0, (c1_1a :: c1_1t), c1_2, c1_3, c1_4)]) (by kernel_rfl) ⟨(m_slicesValuesapiStyle1q4_ok n a0 a1 a2 a3 a4 0 0 0 false (c1_0, (c1_1a :: c1_1t), c1_2, c1_3, c1_4) hc1), trivial⟩
theorem m_foldOverstyleschoiceq4_ok (n : Nat) (a0 : Int) (a1 : Int) (a2 : Int) (a3 : Bool) (a4 : Int) (r : Int × List (NL) × Int × Int × Bool) (h : m_foldOverstyleschoiceq4 n a0 a1 a2 a3 a4 = some r) : G_foldOverstyleschoiceq4 a0 a1 a2 a3 a4 r := by
  unfold m_foldOverstyleschoiceq4 at h
  obtain ⟨⟨c1_0, c1_1, c1_2, c1_3, c1_4⟩, hc1, h⟩ := Option.bind_eq_some_iff.1 h
  dsimp only at h
  cases c1_1 with
  | nil =>
    dsimp only at h
    obtain rfl := Option.some.inj h; exact p_foldOverstyleschoiceq4_0 n a0 a1 a2 a3 a4 c1_0 c1_2 c1_3 c1_4 hc1
  | cons c1_1a c1_1t =>
    dsimp only at h
    obtain rfl := Option.some.inj h; exact p_foldOverstyleschoiceq4_1 n a0 a1 a2 a3 a4 c1_0 c1_1a c1_1t c1_2 c1_3 c1_4 hc1

noncomputable def A_stylesStyleq4 (a0 : Int) : List Value := [(Value.slice (some ⟨0, 0, some 1⟩) (Args.S).length Args.cS), (Value.int .i64 a0), (Value.slice (some ⟨0, 0, none⟩) 0 0)]
noncomputable def H_stylesStyleq4 (a0 : Int) : AH := ⟨sB [(0, (some (.cells (layT []) 3)))], 1, 1⟩
noncomputable def V_stylesStyleq4 (a0 : Int) (r : Int) : Value := match r with
  | o0 => (Value.int .i64 o0)
noncomputable def R_stylesStyleq4 (a0 : Int) (r : Int) : AH := match r with
  | o0 => ⟨sB [(0, (some (.cells (layT []) 3)))], 1, 0⟩
noncomputable abbrev G_stylesStyleq4 (a0 : Int) (r : Int) : Prop := Gv P (.func 9) (A_stylesStyleq4 a0) (H_stylesStyleq4 a0) (V_stylesStyleq4 a0 r) (R_stylesStyleq4 a0 r)
def m_stylesStyleq4 (n : Nat) (a0 : Int) : Option (Int) :=
  (m_slicesValuesapiStyleq1 n).bind fun _ =>
  (m_foldOverstyleschoiceq4 n 0 0 0 false a0).bind fun t => match t with
  | (c2_0, c2_1, c2_2, c2_3, c2_4) =>
    match c2_1 with
    | [] =>
      some c2_2
    | c2_1a :: c2_1t =>
      some c2_2
set_option maxRecDepth 100000 in
theorem p_stylesStyleq4_0 (n : Nat) (a0 : Int) (hc1 : m_slicesValuesapiStyleq1 n = some ()) (c2_0 : Int) (c2_2 : Int) (c2_3 : Int) (c2_4 : Bool) (hc2 : m_foldOverstyleschoiceq4 n 0 0 0 false a0 = some (c2_0, [], c2_2, c2_3, c2_4)) : G_stylesStyleq4 a0 c2_2 :=
  runF_ok hm (A := aT [(6, .call ⟨0, [], (V_slicesValuesapiStyleq1  ()), (R_slicesValuesapiStyleq1  ()), [(3, 0, false)]⟩), (9, .call ⟨4, [(0, 3, false), (1, 1, false), (2, 2, false), (3, 0, false)], (V_foldOverstyleschoiceq4 0 0 0 false a0 (c2_0, ([] : List (NL)), c2_2, c2_3, c2_4)), (R_foldOverstyleschoiceq4 0 0 0 false a0 (c2_0, ([] : List (NL)), c2_2, c2_3, c2_4)), [(3, 0, false), (1, 1, false), (2, 2, false), (0, 3, false), (5, 5, false)]⟩)]) (L := lT []) (wk := ⟨[6], [(0, 0, false)], 1, 0⟩)
    (ps := [G_slicesValuesapiStyleq1  (),
    G_foldOverstyleschoiceq4 0 0 0 false a0 (c2_0, ([] : List (NL)), c2_2, c2_3, c2_4)]) (by kernel_rfl) ⟨(m_slicesValuesapiStyleq1_ok n () hc1), (m_foldOverstyleschoiceq4_ok n 0 0 0 false a0 (c2_0, ([] : List (NL)), c2_2, c2_3, c2_4) hc2), trivial⟩
set_option maxRecDepth 100000 in
theorem p_stylesStyleq4_1 (n : Nat) (a0 : Int) (hc1 : m_slicesValuesapiStyleq1 n = some ()) (c2_0 : Int) (c2_1a : NL) (c2_1t : List (NL)) (c2_2 : Int) (c2_3 : Int) (c2_4 : Bool) (hc2 : m_foldOverstyleschoiceq4 n 0 0 0 false a0 = some (c2_0, (c2_1a :: c2_1t), c2_2, c2_3, c2_4)) : G_stylesStyleq4 a0 c2_2 :=
  runF_ok hm (A := aT [(6, .call ⟨0, [], (V_slicesValuesapiStyleq1  ()), (R_slicesValuesapiStyleq1  ()), [(3, 0, false)]⟩), (9, .call ⟨4, [(0, 3, false), (1, 1, false), (2, 2, false), (3, 0, false)], (V_foldOverstyleschoiceq4 0 0 0 false a0 (c2_0, (c2_1a :: c2_1t), c2_2, c2_3, c2_4)), (R_foldOverstyleschoiceq4 0 0 0 false a0 (c2_0, (c2_1a :: c2_1t), c2_2, c2_3, c2_4)), [(3, 0, false), (1, 1, false), (2, 2, false), (0, 3, false), (5, 5, false)]⟩)]) (L := lT []) (wk := ⟨[6], [(0, 0, false)], 1, 0⟩)
    (ps := [G_slicesValuesapiStyleq1  (),
    G_foldOverstyleschoiceq4 0 0 0 false a0 (c2_0, (c2_1a :: c2_1t), c2_2, c2_3, c2_4)]) (by kernel_rfl) ⟨(m_slicesValuesapiStyleq1_ok n () hc1), (m_foldOverstyleschoiceq4_ok n 0 0 0 false a0 (c2_0, (c2_1a :: c2_1t), c2_2, c2_3, c2_4) hc2), trivial⟩
theorem m_stylesStyleq4_ok (n : Nat) (a0 : Int) (r : Int) (h : m_stylesStyleq4 n a0 = some r) : G_stylesStyleq4 a0 r := by
  unfold m_stylesStyleq4 at h
  obtain ⟨_, hc1, h⟩ := Option.bind_eq_some_iff.1 h
  obtain ⟨⟨c2_0, c2_1, c2_2, c2_3, c2_4⟩, hc2, h⟩ := Option.bind_eq_some_iff.1 h
  dsimp only at h
  cases c2_1 with
  | nil =>
    dsimp only at h
    obtain rfl := Option.some.inj h; exact p_stylesStyleq4_0 n a0 hc1 c2_0 c2_2 c2_3 c2_4 hc2
  | cons c2_1a c2_1t =>
    dsimp only at h
    obtain rfl := Option.some.inj h; exact p_stylesStyleq4_1 n a0 hc1 c2_0 c2_1a c2_1t c2_2 c2_3 c2_4 hc2

noncomputable def S_viewportlaw26StylesOthers_1 (x1_0 : Int) (x1_1 : Int) (st : Int) : XSt := match st with
  | x1_2 => (sT 94 [(0, (Value.slice (some ⟨0, 0, some 1⟩) (Args.S).length Args.cS)), (1, (Value.int .i64 x1_0)), (2, (Value.slice (some ⟨1, 0, some 1⟩) (Args.Y).length Args.cY)), (4, (Value.slice (some ⟨2, 0, some 1⟩) (Args.A).length Args.cA)), (11, (Value.int .i64 x1_1)), (12, (Value.int .i64 x1_2))], [], ⟨sB [], 0, 0⟩)
noncomputable def X_viewportlaw26StylesOthers_1 (x1_0 : Int) (x1_1 : Int) (r : (Unit) ⊕ (Unit)) : Ex × XSt := match r with
  | .inl _ => (.ret, (sT 94 [(10, (Value.bool true))], [], ⟨sB [], 0, 0⟩))
  | .inr _ => (.exit 0, (sT 94 [(0, (Value.slice (some ⟨0, 0, some 1⟩) (Args.S).length Args.cS)), (1, (Value.int .i64 x1_0)), (2, (Value.slice (some ⟨1, 0, some 1⟩) (Args.Y).length Args.cY)), (4, (Value.slice (some ⟨2, 0, some 1⟩) (Args.A).length Args.cA)), (11, (Value.int .i64 x1_1))], [], ⟨sB [], 0, 0⟩))
def B_viewportlaw26StylesOthers_1 (n : Nat) (x1_0 : Int) (x1_1 : Int) (st : Int) : Option ((Int) ⊕ ((Unit) ⊕ (Unit))) := match st with
  | x1_2 =>
    if x1_2 < (((Args.S).length : Nat) : Int) then
      if 0 ≤ x1_2 ∧ x1_2 < (((Args.S).length : Nat) : Int) then
        if (0 + (Args.S).length) * 48 ≤ 140737488355328 then
          if 0 < 0 + (Args.S).length then
            if (((([] : List (Int × NL × Int × Int)) ++ Args.S)).length + 1) * 48 ≤ 140737488355328 then
              (m_stylesStyleq2 n ((([] : List (Int × NL × Int × Int)) ++ Args.S) ++ [((((Args.S).getD (x1_2).toNat (0, nl0, 0, 0)).1), (((Args.S).getD (x1_2).toNat (0, nl0, 0, 0)).2.1), (w64 ((((Args.S).getD (x1_2).toNat (0, nl0, 0, 0)).2.2.1) + (1 : Int))), (((Args.S).getD (x1_2).toNat (0, nl0, 0, 0)).2.2.2))]) (Nat.add big 4) x1_0).bind fun y1_6_ =>
              if y1_6_ = x1_1 then
                if ((((((Args.S).getD (x1_2).toNat (0, nl0, 0, 0)).2.1)).l.length : Nat) : Int) > (((Args.Y).length : Nat) : Int) then
                  some (.inr (.inl ()))
                else
                  some (.inl (w64 (x1_2 + (1 : Int))))
              else
                none
            else none
          else none
        else none
      else none
    else
      some (.inr (.inr ()))
def m_viewportlaw26StylesOthers_1 (n : Nat) (x1_0 : Int) (x1_1 : Int) (st : Int) : Option ((Unit) ⊕ (Unit)) := iterM (B_viewportlaw26StylesOthers_1 n x1_0 x1_1) n st
set_option maxRecDepth 100000 in
theorem q_viewportlaw26StylesOthers_1_0 (n : Nat) {rnd : Option Nat} (x1_0 : Int) (x1_1 : Int) (x1_2 : Int) (hy1_1 : x1_2 < (((Args.S).length : Nat) : Int)) (hy1_2 : 0 ≤ x1_2 ∧ x1_2 < (((Args.S).length : Nat) : Int)) (hy1_3 : (0 + (Args.S).length) * 48 ≤ 140737488355328) (hy1_4 : 0 < 0 + (Args.S).length) (hy1_5 : (((([] : List (Int × NL × Int × Int)) ++ Args.S)).length + 1) * 48 ≤ 140737488355328) (y1_6_ : Int) (hy1_6 : m_stylesStyleq2 n ((([] : List (Int × NL × Int × Int)) ++ Args.S) ++ [((((Args.S).getD (x1_2).toNat (0, nl0, 0, 0)).1), (((Args.S).getD (x1_2).toNat (0, nl0, 0, 0)).2.1), (w64 ((((Args.S).getD (x1_2).toNat (0, nl0, 0, 0)).2.2.1) + (1 : Int))), (((Args.S).getD (x1_2).toNat (0, nl0, 0, 0)).2.2.2))]) (Nat.add big 4) x1_0 = some y1_6_) (hy1_7 : y1_6_ = x1_1) (hy1_8 : ((((((Args.S).getD (x1_2).toNat (0, nl0, 0, 0)).2.1)).l.length : Nat) : Int) > (((Args.Y).length : Nat) : Int)) : CG P rnd (fnN P 4) 0 (codeOf P 4 [false, false, true, false, true, true, true, true, true]) (S_viewportlaw26StylesOthers_1 x1_0 x1_1 x1_2) (X_viewportlaw26StylesOthers_1 x1_0 x1_1 (.inl ())) :=
  runC_ok hm (A := aT [(5, .val (.bool true)), (12, .pur (Value.pointer (some ⟨0, ((x1_2).toNat * 4), some 1⟩))), (13, .ld (Value.agg #[(Value.int .i64 (((Args.S).getD (x1_2).toNat (0, nl0, 0, 0)).1)), (nlV (((Args.S).getD (x1_2).toNat (0, nl0, 0, 0)).2.1)), (Value.int .i64 (((Args.S).getD (x1_2).toNat (0, nl0, 0, 0)).2.2.1)), (Value.int .i64 (((Args.S).getD (x1_2).toNat (0, nl0, 0, 0)).2.2.2))])), (26, .app ⟨some ((Args.S).length, (rows rw_iLii Args.S)), ([] : List Value), (rows rw_iLii (([] : List (Int × NL × Int × Int)) ++ Args.S)), ((([] : List (Int × NL × Int × Int)) ++ Args.S)).length, true⟩), (29, .app ⟨none, rows rw_iLii (([] : List (Int × NL × Int × Int)) ++ Args.S), (rows rw_iLii ((([] : List (Int × NL × Int × Int)) ++ Args.S) ++ [((((Args.S).getD (x1_2).toNat (0, nl0, 0, 0)).1), (((Args.S).getD (x1_2).toNat (0, nl0, 0, 0)).2.1), (w64 ((((Args.S).getD (x1_2).toNat (0, nl0, 0, 0)).2.2.1) + (1 : Int))), (((Args.S).getD (x1_2).toNat (0, nl0, 0, 0)).2.2.2))])), (((([] : List (Int × NL × Int × Int)) ++ Args.S) ++ [((((Args.S).getD (x1_2).toNat (0, nl0, 0, 0)).1), (((Args.S).getD (x1_2).toNat (0, nl0, 0, 0)).2.1), (w64 ((((Args.S).getD (x1_2).toNat (0, nl0, 0, 0)).2.2.1) + (1 : Int))), (((Args.S).getD (x1_2).toNat (0, nl0, 0, 0)).2.2.2))])).length, false⟩), (32, .call ⟨1, [(0, 7, true)], (V_stylesStyleq2 ((([] : List (Int × NL × Int × Int)) ++ Args.S) ++ [((((Args.S).getD (x1_2).toNat (0, nl0, 0, 0)).1), (((Args.S).getD (x1_2).toNat (0, nl0, 0, 0)).2.1), (w64 ((((Args.S).getD (x1_2).toNat (0, nl0, 0, 0)).2.2.1) + (1 : Int))), (((Args.S).getD (x1_2).toNat (0, nl0, 0, 0)).2.2.2))]) (Nat.add big 4) x1_0 y1_6_), (R_stylesStyleq2 ((([] : List (Int × NL × Int × Int)) ++ Args.S) ++ [((((Args.S).getD (x1_2).toNat (0, nl0, 0, 0)).1), (((Args.S).getD (x1_2).toNat (0, nl0, 0, 0)).2.1), (w64 ((((Args.S).getD (x1_2).toNat (0, nl0, 0, 0)).2.2.1) + (1 : Int))), (((Args.S).getD (x1_2).toNat (0, nl0, 0, 0)).2.2.2))]) (Nat.add big 4) x1_0 y1_6_), [(7, 0, true)]⟩), (34, .val (.bool false)), (39, .pur (Value.pointer (some ⟨0, ((x1_2).toNat * 4), some 1⟩))), (40, .pur (Value.pointer (some ⟨0, (Nat.add ((x1_2).toNat * 4) 1), some 1⟩))), (41, .ld (nlV (((Args.S).getD (x1_2).toNat (0, nl0, 0, 0)).2.1))), (45, .val (.bool true))]) (L := lT []) (wk := ⟨[10], [], 0, 0⟩)
    (ps := [(Value.bool (decide (x1_2 < (((Args.S).length : Nat) : Int)))) = (Value.bool true),
    opIndexAddr P 22 (Value.slice (some ⟨0, 0, some 1⟩) (Args.S).length Args.cS) (Value.int .i64 x1_2) Ax.h0 = some ((Value.pointer (some ⟨0, ((x1_2).toNat * 4), some 1⟩)), Ax.h0),
    loadG P 27 (Value.pointer (some ⟨0, ((x1_2).toNat * 4), some 1⟩)) Ax.h0 = some ((Value.agg #[(Value.int .i64 (((Args.S).getD (x1_2).toNat (0, nl0, 0, 0)).1)), (nlV (((Args.S).getD (x1_2).toNat (0, nl0, 0, 0)).2.1)), (Value.int .i64 (((Args.S).getD (x1_2).toNat (0, nl0, 0, 0)).2.2.1)), (Value.int .i64 (((Args.S).getD (x1_2).toNat (0, nl0, 0, 0)).2.2.2))]), Ax.h0),
    (Args.S).length = (Args.S).length,
    rdL (rows rw_iLii Args.S) (Nat.mul (Args.S).length 4) 0 = some (rows rw_iLii Args.S),
    0 < (Args.S).length,
    0 < big,
    0 < Nat.add 0 (Args.S).length,
    rdT (layT ([] : List Value)) (Nat.mul 0 4) 0 = some (([] : List Value)),
    fits (Nat.add 0 (Args.S).length) 48 = true,
    ([] : List Value) ++ (rows rw_iLii Args.S) = (rows rw_iLii (([] : List (Int × NL × Int × Int)) ++ Args.S)),
    Nat.add 0 (Args.S).length = ((([] : List (Int × NL × Int × Int)) ++ Args.S)).length,
    0 < 1,
    rdT (layT (rows rw_iLii (([] : List (Int × NL × Int × Int)) ++ Args.S))) (Nat.mul ((([] : List (Int × NL × Int × Int)) ++ Args.S)).length 4) 0 = some (rows rw_iLii (([] : List (Int × NL × Int × Int)) ++ Args.S)),
    fits (Nat.add ((([] : List (Int × NL × Int × Int)) ++ Args.S)).length 1) 48 = true,
    allCells [(Value.int .i64 (((Args.S).getD (x1_2).toNat (0, nl0, 0, 0)).1)), (nlV (((Args.S).getD (x1_2).toNat (0, nl0, 0, 0)).2.1)), (Value.int .i64 (w64 ((((Args.S).getD (x1_2).toNat (0, nl0, 0, 0)).2.2.1) + (1 : Int)))), (Value.int .i64 (((Args.S).getD (x1_2).toNat (0, nl0, 0, 0)).2.2.2))] = true,
    allCells (rows rw_iLii (([] : List (Int × NL × Int × Int)) ++ Args.S)) = true,
    rows rw_iLii (([] : List (Int × NL × Int × Int)) ++ Args.S) ++ [(Value.int .i64 (((Args.S).getD (x1_2).toNat (0, nl0, 0, 0)).1)), (nlV (((Args.S).getD (x1_2).toNat (0, nl0, 0, 0)).2.1)), (Value.int .i64 (w64 ((((Args.S).getD (x1_2).toNat (0, nl0, 0, 0)).2.2.1) + (1 : Int)))), (Value.int .i64 (((Args.S).getD (x1_2).toNat (0, nl0, 0, 0)).2.2.2))] = (rows rw_iLii ((([] : List (Int × NL × Int × Int)) ++ Args.S) ++ [((((Args.S).getD (x1_2).toNat (0, nl0, 0, 0)).1), (((Args.S).getD (x1_2).toNat (0, nl0, 0, 0)).2.1), (w64 ((((Args.S).getD (x1_2).toNat (0, nl0, 0, 0)).2.2.1) + (1 : Int))), (((Args.S).getD (x1_2).toNat (0, nl0, 0, 0)).2.2.2))])),
    Nat.add ((([] : List (Int × NL × Int × Int)) ++ Args.S)).length 1 = (((([] : List (Int × NL × Int × Int)) ++ Args.S) ++ [((((Args.S).getD (x1_2).toNat (0, nl0, 0, 0)).1), (((Args.S).getD (x1_2).toNat (0, nl0, 0, 0)).2.1), (w64 ((((Args.S).getD (x1_2).toNat (0, nl0, 0, 0)).2.2.1) + (1 : Int))), (((Args.S).getD (x1_2).toNat (0, nl0, 0, 0)).2.2.2))])).length,
    G_stylesStyleq2 ((([] : List (Int × NL × Int × Int)) ++ Args.S) ++ [((((Args.S).getD (x1_2).toNat (0, nl0, 0, 0)).1), (((Args.S).getD (x1_2).toNat (0, nl0, 0, 0)).2.1), (w64 ((((Args.S).getD (x1_2).toNat (0, nl0, 0, 0)).2.2.1) + (1 : Int))), (((Args.S).getD (x1_2).toNat (0, nl0, 0, 0)).2.2.2))]) (Nat.add big 4) x1_0 y1_6_,
    FlatB (.cells (layT (rows rw_iLii ((([] : List (Int × NL × Int × Int)) ++ Args.S) ++ [((((Args.S).getD (x1_2).toNat (0, nl0, 0, 0)).1), (((Args.S).getD (x1_2).toNat (0, nl0, 0, 0)).2.1), (w64 ((((Args.S).getD (x1_2).toNat (0, nl0, 0, 0)).2.2.1) + (1 : Int))), (((Args.S).getD (x1_2).toNat (0, nl0, 0, 0)).2.2.2))]))) 27),
    FlatB (.cells (layT (rows rw_iLii ((([] : List (Int × NL × Int × Int)) ++ Args.S) ++ [((((Args.S).getD (x1_2).toNat (0, nl0, 0, 0)).1), (((Args.S).getD (x1_2).toNat (0, nl0, 0, 0)).2.1), (w64 ((((Args.S).getD (x1_2).toNat (0, nl0, 0, 0)).2.2.1) + (1 : Int))), (((Args.S).getD (x1_2).toNat (0, nl0, 0, 0)).2.2.2))]))) 27),
    (Value.bool (y1_6_ != x1_1)) = (Value.bool false),
    opIndexAddr P 22 (Value.slice (some ⟨0, 0, some 1⟩) (Args.S).length Args.cS) (Value.int .i64 x1_2) Ax.h0 = some ((Value.pointer (some ⟨0, ((x1_2).toNat * 4), some 1⟩)), Ax.h0),
    opFieldAddr P 27 (Value.pointer (some ⟨0, ((x1_2).toNat * 4), some 1⟩)) 1 Ax.h0 = some ((Value.pointer (some ⟨0, (Nat.add ((x1_2).toNat * 4) 1), some 1⟩)), Ax.h0),
    loadG P 23 (Value.pointer (some ⟨0, (Nat.add ((x1_2).toNat * 4) 1), some 1⟩)) Ax.h0 = some ((nlV (((Args.S).getD (x1_2).toNat (0, nl0, 0, 0)).2.1)), Ax.h0),
    (Value.bool (decide (((((((Args.S).getD (x1_2).toNat (0, nl0, 0, 0)).2.1)).l.length : Nat) : Int) > (((Args.Y).length : Nat) : Int)))) = (Value.bool true)]) (by kernel_rfl) ⟨(vbT hy1_1), (ixW (e := 27) (by kernel_rfl) (by kernel_rfl) (hy1_2).1 (hy1_2).2), (ldWA rwf_iLii (0, nl0, 0, 0) (i := (x1_2).toNat) (q := 0) (L := Args.S) (n := 4) ((x1_2).toNat * 4) rfl rfl (by kernel_rfl) (by kernel_rfl) (toNatLt hy1_2) (by decide) rfl), (rfl), (rdL_rows rwf_iLii _ _ rfl), ((by have := hy1_2; omega)), ((by decide)), (hy1_4), (rfl), (fits_ok hy1_3 (by have := hy1_3; show (_ : Nat) + _ ≤ _; omega)), (rows_app rw_iLii ([] : List (Int × NL × Int × Int)) Args.S), (by simp <;> omega), ((by decide)), (rows_rd rwf_iLii _ _ rfl), (fits_ok hy1_5 (by have := hy1_5; show (_ : Nat) + _ ≤ _; omega)), (rfl), (rows_cells rwf_iLii _), (rows_app rw_iLii (([] : List (Int × NL × Int × Int)) ++ Args.S) [((((Args.S).getD (x1_2).toNat (0, nl0, 0, 0)).1), (((Args.S).getD (x1_2).toNat (0, nl0, 0, 0)).2.1), (w64 ((((Args.S).getD (x1_2).toNat (0, nl0, 0, 0)).2.2.1) + (1 : Int))), (((Args.S).getD (x1_2).toNat (0, nl0, 0, 0)).2.2.2))]), (by simp), (m_stylesStyleq2_ok n ((([] : List (Int × NL × Int × Int)) ++ Args.S) ++ [((((Args.S).getD (x1_2).toNat (0, nl0, 0, 0)).1), (((Args.S).getD (x1_2).toNat (0, nl0, 0, 0)).2.1), (w64 ((((Args.S).getD (x1_2).toNat (0, nl0, 0, 0)).2.2.1) + (1 : Int))), (((Args.S).getD (x1_2).toNat (0, nl0, 0, 0)).2.2.2))]) (Nat.add big 4) x1_0 y1_6_ hy1_6), (rows_flat rwf_iLii _ _), (rows_flat rwf_iLii _ _), (vnF hy1_7), (ixW (e := 27) (by kernel_rfl) (by kernel_rfl) (hy1_2).1 (hy1_2).2), (by kernel_rfl), (ldWS rwf_iLii (0, nl0, 0, 0) (i := (x1_2).toNat) (q := 1) (L := Args.S) (Nat.add ((x1_2).toNat * 4) 1) rfl rfl (by kernel_rfl) (toNatLt hy1_2) (by decide) rfl), (vbT hy1_8), trivial⟩
set_option maxRecDepth 100000 in
theorem q_viewportlaw26StylesOthers_1_1 (n : Nat) {rnd : Option Nat} (x1_0 : Int) (x1_1 : Int) (x1_2 : Int) (hy1_1 : x1_2 < (((Args.S).length : Nat) : Int)) (hy1_2 : 0 ≤ x1_2 ∧ x1_2 < (((Args.S).length : Nat) : Int)) (hy1_3 : (0 + (Args.S).length) * 48 ≤ 140737488355328) (hy1_4 : 0 < 0 + (Args.S).length) (hy1_5 : (((([] : List (Int × NL × Int × Int)) ++ Args.S)).length + 1) * 48 ≤ 140737488355328) (y1_6_ : Int) (hy1_6 : m_stylesStyleq2 n ((([] : List (Int × NL × Int × Int)) ++ Args.S) ++ [((((Args.S).getD (x1_2).toNat (0, nl0, 0, 0)).1), (((Args.S).getD (x1_2).toNat (0, nl0, 0, 0)).2.1), (w64 ((((Args.S).getD (x1_2).toNat (0, nl0, 0, 0)).2.2.1) + (1 : Int))), (((Args.S).getD (x1_2).toNat (0, nl0, 0, 0)).2.2.2))]) (Nat.add big 4) x1_0 = some y1_6_) (hy1_7 : y1_6_ = x1_1) (hy1_8 : ¬ (((((((Args.S).getD (x1_2).toNat (0, nl0, 0, 0)).2.1)).l.length : Nat) : Int) > (((Args.Y).length : Nat) : Int))) : CG P rnd (fnN P 4) 0 (codeOf P 4 [false, false, true, false, true, true, true, true, true]) (S_viewportlaw26StylesOthers_1 x1_0 x1_1 x1_2) (.normal, S_viewportlaw26StylesOthers_1 x1_0 x1_1 (w64 (x1_2 + (1 : Int)))) :=
  runC_ok hm (A := aT [(5, .val (.bool true)), (12, .pur (Value.pointer (some ⟨0, ((x1_2).toNat * 4), some 1⟩))), (13, .ld (Value.agg #[(Value.int .i64 (((Args.S).getD (x1_2).toNat (0, nl0, 0, 0)).1)), (nlV (((Args.S).getD (x1_2).toNat (0, nl0, 0, 0)).2.1)), (Value.int .i64 (((Args.S).getD (x1_2).toNat (0, nl0, 0, 0)).2.2.1)), (Value.int .i64 (((Args.S).getD (x1_2).toNat (0, nl0, 0, 0)).2.2.2))])), (26, .app ⟨some ((Args.S).length, (rows rw_iLii Args.S)), ([] : List Value), (rows rw_iLii (([] : List (Int × NL × Int × Int)) ++ Args.S)), ((([] : List (Int × NL × Int × Int)) ++ Args.S)).length, true⟩), (29, .app ⟨none, rows rw_iLii (([] : List (Int × NL × Int × Int)) ++ Args.S), (rows rw_iLii ((([] : List (Int × NL × Int × Int)) ++ Args.S) ++ [((((Args.S).getD (x1_2).toNat (0, nl0, 0, 0)).1), (((Args.S).getD (x1_2).toNat (0, nl0, 0, 0)).2.1), (w64 ((((Args.S).getD (x1_2).toNat (0, nl0, 0, 0)).2.2.1) + (1 : Int))), (((Args.S).getD (x1_2).toNat (0, nl0, 0, 0)).2.2.2))])), (((([] : List (Int × NL × Int × Int)) ++ Args.S) ++ [((((Args.S).getD (x1_2).toNat (0, nl0, 0, 0)).1), (((Args.S).getD (x1_2).toNat (0, nl0, 0, 0)).2.1), (w64 ((((Args.S).getD (x1_2).toNat (0, nl0, 0, 0)).2.2.1) + (1 : Int))), (((Args.S).getD (x1_2).toNat (0, nl0, 0, 0)).2.2.2))])).length, false⟩), (32, .call ⟨1, [(0, 7, true)], (V_stylesStyleq2 ((([] : List (Int × NL × Int × Int)) ++ Args.S) ++ [((((Args.S).getD (x1_2).toNat (0, nl0, 0, 0)).1), (((Args.S).getD (x1_2).toNat (0, nl0, 0, 0)).2.1), (w64 ((((Args.S).getD (x1_2).toNat (0, nl0, 0, 0)).2.2.1) + (1 : Int))), (((Args.S).getD (x1_2).toNat (0, nl0, 0, 0)).2.2.2))]) (Nat.add big 4) x1_0 y1_6_), (R_stylesStyleq2 ((([] : List (Int × NL × Int × Int)) ++ Args.S) ++ [((((Args.S).getD (x1_2).toNat (0, nl0, 0, 0)).1), (((Args.S).getD (x1_2).toNat (0, nl0, 0, 0)).2.1), (w64 ((((Args.S).getD (x1_2).toNat (0, nl0, 0, 0)).2.2.1) + (1 : Int))), (((Args.S).getD (x1_2).toNat (0, nl0, 0, 0)).2.2.2))]) (Nat.add big 4) x1_0 y1_6_), [(7, 0, true)]⟩), (34, .val (.bool false)), (39, .pur (Value.pointer (some ⟨0, ((x1_2).toNat * 4), some 1⟩))), (40, .pur (Value.pointer (some ⟨0, (Nat.add ((x1_2).toNat * 4) 1), some 1⟩))), (41, .ld (nlV (((Args.S).getD (x1_2).toNat (0, nl0, 0, 0)).2.1))), (45, .val (.bool false))]) (L := lT []) (wk := ⟨[0, 1, 2, 4, 11, 12], [], 0, 0⟩)
    (ps := [(Value.bool (decide (x1_2 < (((Args.S).length : Nat) : Int)))) = (Value.bool true),
    opIndexAddr P 22 (Value.slice (some ⟨0, 0, some 1⟩) (Args.S).length Args.cS) (Value.int .i64 x1_2) Ax.h0 = some ((Value.pointer (some ⟨0, ((x1_2).toNat * 4), some 1⟩)), Ax.h0),
    loadG P 27 (Value.pointer (some ⟨0, ((x1_2).toNat * 4), some 1⟩)) Ax.h0 = some ((Value.agg #[(Value.int .i64 (((Args.S).getD (x1_2).toNat (0, nl0, 0, 0)).1)), (nlV (((Args.S).getD (x1_2).toNat (0, nl0, 0, 0)).2.1)), (Value.int .i64 (((Args.S).getD (x1_2).toNat (0, nl0, 0, 0)).2.2.1)), (Value.int .i64 (((Args.S).getD (x1_2).toNat (0, nl0, 0, 0)).2.2.2))]), Ax.h0),
    (Args.S).length = (Args.S).length,
    rdL (rows rw_iLii Args.S) (Nat.mul (Args.S).length 4) 0 = some (rows rw_iLii Args.S),
    0 < (Args.S).length,
    0 < big,
    0 < Nat.add 0 (Args.S).length,
    rdT (layT ([] : List Value)) (Nat.mul 0 4) 0 = some (([] : List Value)),
    fits (Nat.add 0 (Args.S).length) 48 = true,
    ([] : List Value) ++ (rows rw_iLii Args.S) = (rows rw_iLii (([] : List (Int × NL × Int × Int)) ++ Args.S)),
    Nat.add 0 (Args.S).length = ((([] : List (Int × NL × Int × Int)) ++ Args.S)).length,
    0 < 1,
    rdT (layT (rows rw_iLii (([] : List (Int × NL × Int × Int)) ++ Args.S))) (Nat.mul ((([] : List (Int × NL × Int × Int)) ++ Args.S)).length 4) 0 = some (rows rw_iLii (([] : List (Int × NL × Int × Int)) ++ Args.S)),
    fits (Nat.add ((([] : List (Int × NL × Int × Int)) ++ Args.S)).length 1) 48 = true,
    allCells [(Value.int .i64 (((Args.S).getD (x1_2).toNat (0, nl0, 0, 0)).1)), (nlV (((Args.S).getD (x1_2).toNat (0, nl0, 0, 0)).2.1)), (Value.int .i64 (w64 ((((Args.S).getD (x1_2).toNat (0, nl0, 0, 0)).2.2.1) + (1 : Int)))), (Value.int .i64 (((Args.S).getD (x1_2).toNat (0, nl0, 0, 0)).2.2.2))] = true,
    allCells (rows rw_iLii (([] : List (Int × NL × Int × Int)) ++ Args.S)) = true,
    rows rw_iLii (([] : List (Int × NL × Int × Int)) ++ Args.S) ++ [(Value.int .i64 (((Args.S).getD (x1_2).toNat (0, nl0, 0, 0)).1)), (nlV (((Args.S).getD (x1_2).toNat (0, nl0, 0, 0)).2.1)), (Value.int .i64 (w64 ((((Args.S).getD (x1_2).toNat (0, nl0, 0, 0)).2.2.1) + (1 : Int)))), (Value.int .i64 (((Args.S).getD (x1_2).toNat (0, nl0, 0, 0)).2.2.2))] = (rows rw_iLii ((([] : List (Int × NL × Int × Int)) ++ Args.S) ++ [((((Args.S).getD (x1_2).toNat (0, nl0, 0, 0)).1), (((Args.S).getD (x1_2).toNat (0, nl0, 0, 0)).2.1), (w64 ((((Args.S).getD (x1_2).toNat (0, nl0, 0, 0)).2.2.1) + (1 : Int))), (((Args.S).getD (x1_2).toNat (0, nl0, 0, 0)).2.2.2))])),
    Nat.add ((([] : List (Int × NL × Int × Int)) ++ Args.S)).length 1 = (((([] : List (Int × NL × Int × Int)) ++ Args.S) ++ [((((Args.S).getD (x1_2).toNat (0, nl0, 0, 0)).1), (((Args.S).getD (x1_2).toNat (0, nl0, 0, 0)).2.1), (w64 ((((Args.S).getD (x1_2).toNat (0, nl0, 0, 0)).2.2.1) + (1 : Int))), (((Args.S).getD (x1_2).toNat (0, nl0, 0, 0)).2.2.2))])).length,
    G_stylesStyleq2 ((([] : List (Int × NL × Int × Int)) ++ Args.S) ++ [((((Args.S).getD (x1_2).toNat (0, nl0, 0, 0)).1), (((Args.S).getD (x1_2).toNat (0, nl0, 0, 0)).2.1), (w64 ((((Args.S).getD (x1_2).toNat (0, nl0, 0, 0)).2.2.1) + (1 : Int))), (((Args.S).getD (x1_2).toNat (0, nl0, 0, 0)).2.2.2))]) (Nat.add big 4) x1_0 y1_6_,
    FlatB (.cells (layT (rows rw_iLii ((([] : List (Int × NL × Int × Int)) ++ Args.S) ++ [((((Args.S).getD (x1_2).toNat (0, nl0, 0, 0)).1), (((Args.S).getD (x1_2).toNat (0, nl0, 0, 0)).2.1), (w64 ((((Args.S).getD (x1_2).toNat (0, nl0, 0, 0)).2.2.1) + (1 : Int))), (((Args.S).getD (x1_2).toNat (0, nl0, 0, 0)).2.2.2))]))) 27),
    FlatB (.cells (layT (rows rw_iLii ((([] : List (Int × NL × Int × Int)) ++ Args.S) ++ [((((Args.S).getD (x1_2).toNat (0, nl0, 0, 0)).1), (((Args.S).getD (x1_2).toNat (0, nl0, 0, 0)).2.1), (w64 ((((Args.S).getD (x1_2).toNat (0, nl0, 0, 0)).2.2.1) + (1 : Int))), (((Args.S).getD (x1_2).toNat (0, nl0, 0, 0)).2.2.2))]))) 27),
    (Value.bool (y1_6_ != x1_1)) = (Value.bool false),
    opIndexAddr P 22 (Value.slice (some ⟨0, 0, some 1⟩) (Args.S).length Args.cS) (Value.int .i64 x1_2) Ax.h0 = some ((Value.pointer (some ⟨0, ((x1_2).toNat * 4), some 1⟩)), Ax.h0),
    opFieldAddr P 27 (Value.pointer (some ⟨0, ((x1_2).toNat * 4), some 1⟩)) 1 Ax.h0 = some ((Value.pointer (some ⟨0, (Nat.add ((x1_2).toNat * 4) 1), some 1⟩)), Ax.h0),
    loadG P 23 (Value.pointer (some ⟨0, (Nat.add ((x1_2).toNat * 4) 1), some 1⟩)) Ax.h0 = some ((nlV (((Args.S).getD (x1_2).toNat (0, nl0, 0, 0)).2.1)), Ax.h0),
    (Value.bool (decide (((((((Args.S).getD (x1_2).toNat (0, nl0, 0, 0)).2.1)).l.length : Nat) : Int) > (((Args.Y).length : Nat) : Int)))) = (Value.bool false)]) (by kernel_rfl) ⟨(vbT hy1_1), (ixW (e := 27) (by kernel_rfl) (by kernel_rfl) (hy1_2).1 (hy1_2).2), (ldWA rwf_iLii (0, nl0, 0, 0) (i := (x1_2).toNat) (q := 0) (L := Args.S) (n := 4) ((x1_2).toNat * 4) rfl rfl (by kernel_rfl) (by kernel_rfl) (toNatLt hy1_2) (by decide) rfl), (rfl), (rdL_rows rwf_iLii _ _ rfl), ((by have := hy1_2; omega)), ((by decide)), (hy1_4), (rfl), (fits_ok hy1_3 (by have := hy1_3; show (_ : Nat) + _ ≤ _; omega)), (rows_app rw_iLii ([] : List (Int × NL × Int × Int)) Args.S), (by simp <;> omega), ((by decide)), (rows_rd rwf_iLii _ _ rfl), (fits_ok hy1_5 (by have := hy1_5; show (_ : Nat) + _ ≤ _; omega)), (rfl), (rows_cells rwf_iLii _), (rows_app rw_iLii (([] : List (Int × NL × Int × Int)) ++ Args.S) [((((Args.S).getD (x1_2).toNat (0, nl0, 0, 0)).1), (((Args.S).getD (x1_2).toNat (0, nl0, 0, 0)).2.1), (w64 ((((Args.S).getD (x1_2).toNat (0, nl0, 0, 0)).2.2.1) + (1 : Int))), (((Args.S).getD (x1_2).toNat (0, nl0, 0, 0)).2.2.2))]), (by simp), (m_stylesStyleq2_ok n ((([] : List (Int × NL × Int × Int)) ++ Args.S) ++ [((((Args.S).getD (x1_2).toNat (0, nl0, 0, 0)).1), (((Args.S).getD (x1_2).toNat (0, nl0, 0, 0)).2.1), (w64 ((((Args.S).getD (x1_2).toNat (0, nl0, 0, 0)).2.2.1) + (1 : Int))), (((Args.S).getD (x1_2).toNat (0, nl0, 0, 0)).2.2.2))]) (Nat.add big 4) x1_0 y1_6_ hy1_6), (rows_flat rwf_iLii _ _), (rows_flat rwf_iLii _ _), (vnF hy1_7), (ixW (e := 27) (by kernel_rfl) (by kernel_rfl) (hy1_2).1 (hy1_2).2), (by kernel_rfl), (ldWS rwf_iLii (0, nl0, 0, 0) (i := (x1_2).toNat) (q := 1) (L := Args.S) (Nat.add ((x1_2).toNat * 4) 1) rfl rfl (by kernel_rfl) (toNatLt hy1_2) (by decide) rfl), (vbF hy1_8), trivial⟩
set_option maxRecDepth 100000 in
theorem q_viewportlaw26StylesOthers_1_2 (n : Nat) {rnd : Option Nat} (x1_0 : Int) (x1_1 : Int) (x1_2 : Int) (hy1_1 : ¬ (x1_2 < (((Args.S).length : Nat) : Int))) : CG P rnd (fnN P 4) 0 (codeOf P 4 [false, false, true, false, true, true, true, true, true]) (S_viewportlaw26StylesOthers_1 x1_0 x1_1 x1_2) (X_viewportlaw26StylesOthers_1 x1_0 x1_1 (.inr ())) :=
  runC_ok hm (A := aT [(5, .val (.bool false))]) (L := lT []) (wk := ⟨[0, 1, 2, 4, 11], [], 0, 0⟩)
    (ps := [(Value.bool (decide (x1_2 < (((Args.S).length : Nat) : Int)))) = (Value.bool false)]) (by kernel_rfl) ⟨(vbF hy1_1), trivial⟩
theorem m_viewportlaw26StylesOthers_1_ok (n : Nat) {rnd : Option Nat} (x1_0 : Int) (x1_1 : Int) (st : Int) (r : (Unit) ⊕ (Unit)) (h : m_viewportlaw26StylesOthers_1 n x1_0 x1_1 st = some r) : CG P rnd (fnN P 4) 0 (codeOf P 4 [false, true, false, true, true, true, true, true]) (S_viewportlaw26StylesOthers_1 x1_0 x1_1 st) (X_viewportlaw26StylesOthers_1 x1_0 x1_1 r) :=
  CG.iter (b := codeOf P 4 [false, false, true, false, true, true, true, true, true]) (by kernel_rfl) (body := B_viewportlaw26StylesOthers_1 n x1_0 x1_1) (S := S_viewportlaw26StylesOthers_1 x1_0 x1_1) (X := X_viewportlaw26StylesOthers_1 x1_0 x1_1)
    (fun x1_2 s' h => by
    unfold B_viewportlaw26StylesOthers_1 at h
    dsimp only at h
    by_cases hy1_1 : x1_2 < (((Args.S).length : Nat) : Int)
    · rw [if_pos hy1_1] at h
      by_cases hy1_2 : 0 ≤ x1_2 ∧ x1_2 < (((Args.S).length : Nat) : Int)
      · rw [if_pos hy1_2] at h
        by_cases hy1_3 : (0 + (Args.S).length) * 48 ≤ 140737488355328
        · rw [if_pos hy1_3] at h
          by_cases hy1_4 : 0 < 0 + (Args.S).length
          · rw [if_pos hy1_4] at h
            by_cases hy1_5 : (((([] : List (Int × NL × Int × Int)) ++ Args.S)).length + 1) * 48 ≤ 140737488355328
            · rw [if_pos hy1_5] at h
              obtain ⟨y1_6_, hy1_6, h⟩ := Option.bind_eq_some_iff.1 h
              by_cases hy1_7 : y1_6_ = x1_1
              · rw [if_pos hy1_7] at h
                by_cases hy1_8 : ((((((Args.S).getD (x1_2).toNat (0, nl0, 0, 0)).2.1)).l.length : Nat) : Int) > (((Args.Y).length : Nat) : Int)
                · rw [if_pos hy1_8] at h
                  cases h
                · rw [if_neg hy1_8] at h
                  obtain rfl := Sum.inl.inj (Option.some.inj h); exact q_viewportlaw26StylesOthers_1_1 n x1_0 x1_1 x1_2 hy1_1 hy1_2 hy1_3 hy1_4 hy1_5 y1_6_ hy1_6 hy1_7 hy1_8
              · rw [if_neg hy1_7] at h
                cases h
            · rw [if_neg hy1_5] at h; cases h
          · rw [if_neg hy1_4] at h; cases h
        · rw [if_neg hy1_3] at h; cases h
      · rw [if_neg hy1_2] at h; cases h
    · rw [if_neg hy1_1] at h
      cases h)
    (fun x1_2 r h => by
    unfold B_viewportlaw26StylesOthers_1 at h
    dsimp only at h
    by_cases hy1_1 : x1_2 < (((Args.S).length : Nat) : Int)
    · rw [if_pos hy1_1] at h
      by_cases hy1_2 : 0 ≤ x1_2 ∧ x1_2 < (((Args.S).length : Nat) : Int)
      · rw [if_pos hy1_2] at h
        by_cases hy1_3 : (0 + (Args.S).length) * 48 ≤ 140737488355328
        · rw [if_pos hy1_3] at h
          by_cases hy1_4 : 0 < 0 + (Args.S).length
          · rw [if_pos hy1_4] at h
            by_cases hy1_5 : (((([] : List (Int × NL × Int × Int)) ++ Args.S)).length + 1) * 48 ≤ 140737488355328
            · rw [if_pos hy1_5] at h
              obtain ⟨y1_6_, hy1_6, h⟩ := Option.bind_eq_some_iff.1 h
              by_cases hy1_7 : y1_6_ = x1_1
              · rw [if_pos hy1_7] at h
                by_cases hy1_8 : ((((((Args.S).getD (x1_2).toNat (0, nl0, 0, 0)).2.1)).l.length : Nat) : Int) > (((Args.Y).length : Nat) : Int)
                · rw [if_pos hy1_8] at h
                  obtain rfl := Sum.inr.inj (Option.some.inj h); exact q_viewportlaw26StylesOthers_1_0 n x1_0 x1_1 x1_2 hy1_1 hy1_2 hy1_3 hy1_4 hy1_5 y1_6_ hy1_6 hy1_7 hy1_8
                · rw [if_neg hy1_8] at h
                  cases h
              · rw [if_neg hy1_7] at h
                cases h
            · rw [if_neg hy1_5] at h; cases h
          · rw [if_neg hy1_4] at h; cases h
        · rw [if_neg hy1_3] at h; cases h
      · rw [if_neg hy1_2] at h; cases h
    · rw [if_neg hy1_1] at h
      obtain rfl := Sum.inr.inj (Option.some.inj h); exact q_viewportlaw26StylesOthers_1_2 n x1_0 x1_1 x1_2 hy1_1)
    (fun r => by intro hx; rcases r with _ | _ <;> cases hx) h
noncomputable def A_viewportlaw26StylesOthers (kind : Int) (oK : Int) (oP : NL) (oS : Int) (oR : Int) : List Value := [(Value.slice (some ⟨0, 0, some 1⟩) (Args.S).length Args.cS), (Value.int .i64 kind), (Value.slice (some ⟨1, 0, some 1⟩) (Args.Y).length Args.cY), (Value.agg #[(Value.int .i64 oK), (nlV oP), (Value.int .i64 oS), (Value.int .i64 oR)]), (Value.slice (some ⟨2, 0, some 1⟩) (Args.A).length Args.cA)]
noncomputable def H_viewportlaw26StylesOthers (kind : Int) (oK : Int) (oP : NL) (oS : Int) (oR : Int) : AH := ⟨sB [], 0, 0⟩
noncomputable def V_viewportlaw26StylesOthers (kind : Int) (oK : Int) (oP : NL) (oS : Int) (oR : Int) (r : Unit) : Value := match r with
  | _ => (Value.bool true)
noncomputable def R_viewportlaw26StylesOthers (kind : Int) (oK : Int) (oP : NL) (oS : Int) (oR : Int) (r : Unit) : AH := match r with
  | _ => ⟨sB [], 0, 0⟩
noncomputable abbrev G_viewportlaw26StylesOthers (kind : Int) (oK : Int) (oP : NL) (oS : Int) (oR : Int) (r : Unit) : Prop := Gv P (.func 4) (A_viewportlaw26StylesOthers kind oK oP oS oR) (H_viewportlaw26StylesOthers kind oK oP oS oR) (V_viewportlaw26StylesOthers kind oK oP oS oR r) (R_viewportlaw26StylesOthers kind oK oP oS oR r)
def m_viewportlaw26StylesOthers (n : Nat) (kind : Int) (oK : Int) (oP : NL) (oS : Int) (oR : Int) : Option (Unit) :=
  (m_viewportlaw26lives n).bind fun _ =>
  (m_viewportlaw26lightq1 n).bind fun c2_ =>
  if c2_ = true then
    if (((Args.A).length : Nat) : Int) > (40 : Int) then
      some ()
    else
      if (((oP).l.length : Nat) : Int) > (20 : Int) then
        some ()
      else
        (m_stylesStyleq1 n kind).bind fun c6_ =>
        if oK = kind then
          match m_viewportlaw26StylesOthers_1 n kind c6_ 0 with
          | none => none
          | some (.inl _) =>
            some ()
          | some (.inr _) =>
            if 0 < (Args.A).length then
              if (0 + (Args.A).length) * 8 ≤ 140737488355328 then
                if 0 < 0 + (Args.A).length then
                  if 0 < (Args.Y).length then
                    if (((([] : List Int) ++ Args.A)).length + (Args.Y).length) * 8 ≤ 140737488355328 then
                      (m_stylesStyleq3 n kind ((([] : List Int) ++ Args.A) ++ Args.Y)).bind fun c14_ =>
                      if c14_ = c6_ then
                        some ()
                      else
                        none
                    else none
                  else
                    if ((([] : List Int) ++ Args.A)).length * 8 ≤ 140737488355328 then
                      (m_stylesStyleq3 n kind (([] : List Int) ++ Args.A)).bind fun c14_ =>
                      if c14_ = c6_ then
                        some ()
                      else
                        none
                    else none
                else none
              else none
            else
              if 0 < (Args.Y).length then
                if (0 + (Args.Y).length) * 8 ≤ 140737488355328 then
                  if 0 < 0 + (Args.Y).length then
                    (m_stylesStyleq3 n kind (([] : List Int) ++ Args.Y)).bind fun c13_ =>
                    if c13_ = c6_ then
                      some ()
                    else
                      none
                  else none
                else none
              else
                (m_stylesStyleq4 n kind).bind fun c11_ =>
                if c11_ = c6_ then
                  some ()
                else
                  none
        else
          if 0 < (Args.S).length then
            if (1 + (Args.S).length) * 48 ≤ 140737488355328 then
              if 1 < 1 + (Args.S).length then
                (m_stylesStyleq2 n ([(oK, oP, oS, oR)] ++ Args.S) (Nat.add big 4) kind).bind fun c11_ =>
                if c11_ = c6_ then
                  match m_viewportlaw26StylesOthers_1 n kind c6_ 0 with
                  | none => none
                  | some (.inl _) =>
                    some ()
                  | some (.inr _) =>
                    if 0 < (Args.A).length then
                      if (0 + (Args.A).length) * 8 ≤ 140737488355328 then
                        if 0 < 0 + (Args.A).length then
                          if 0 < (Args.Y).length then
                            if (((([] : List Int) ++ Args.A)).length + (Args.Y).length) * 8 ≤ 140737488355328 then
                              (m_stylesStyleq3 n kind ((([] : List Int) ++ Args.A) ++ Args.Y)).bind fun c19_ =>
                              if c19_ = c6_ then
                                some ()
                              else
                                none
                            else none
                          else
                            if ((([] : List Int) ++ Args.A)).length * 8 ≤ 140737488355328 then
                              (m_stylesStyleq3 n kind (([] : List Int) ++ Args.A)).bind fun c19_ =>
                              if c19_ = c6_ then
                                some ()
                              else
                                none
                            else none
                        else none
                      else none
                    else
                      if 0 < (Args.Y).length then
                        if (0 + (Args.Y).length) * 8 ≤ 140737488355328 then
                          if 0 < 0 + (Args.Y).length then
                            (m_stylesStyleq3 n kind (([] : List Int) ++ Args.Y)).bind fun c18_ =>
                            if c18_ = c6_ then
                              some ()
                            else
                              none
                          else none
                        else none
                      else
                        (m_stylesStyleq4 n kind).bind fun c16_ =>
                        if c16_ = c6_ then
                          some ()
                        else
                          none
                else
                  none
              else none
            else none
          else
            (m_stylesStyleq2 n [(oK, oP, oS, oR)] 1 kind).bind fun c9_ =>
            if c9_ = c6_ then
              match m_viewportlaw26StylesOthers_1 n kind c6_ 0 with
              | none => none
              | some (.inl _) =>
                some ()
              | some (.inr _) =>
                if 0 < (Args.A).length then
                  if (0 + (Args.A).length) * 8 ≤ 140737488355328 then
                    if 0 < 0 + (Args.A).length then
                      if 0 < (Args.Y).length then
                        if (((([] : List Int) ++ Args.A)).length + (Args.Y).length) * 8 ≤ 140737488355328 then
                          (m_stylesStyleq3 n kind ((([] : List Int) ++ Args.A) ++ Args.Y)).bind fun c17_ =>
                          if c17_ = c6_ then
                            some ()
                          else
                            none
                        else none
                      else
                        if ((([] : List Int) ++ Args.A)).length * 8 ≤ 140737488355328 then
                          (m_stylesStyleq3 n kind (([] : List Int) ++ Args.A)).bind fun c17_ =>
                          if c17_ = c6_ then
                            some ()
                          else
                            none
                        else none
                    else none
                  else none
                else
                  if 0 < (Args.Y).length then
                    if (0 + (Args.Y).length) * 8 ≤ 140737488355328 then
                      if 0 < 0 + (Args.Y).length then
                        (m_stylesStyleq3 n kind (([] : List Int) ++ Args.Y)).bind fun c16_ =>
                        if c16_ = c6_ then
                          some ()
                        else
                          none
                      else none
                    else none
                  else
                    (m_stylesStyleq4 n kind).bind fun c14_ =>
                    if c14_ = c6_ then
                      some ()
                    else
                      none
            else
              none
  else
    some ()
set_option maxRecDepth 100000 in
theorem p_viewportlaw26StylesOthers_0 (n : Nat) (kind : Int) (oK : Int) (oP : NL) (oS : Int) (oR : Int) (hc1 : m_viewportlaw26lives n = some ()) (c2_ : Bool) (hc2 : m_viewportlaw26lightq1 n = some c2_) (hc3 : c2_ = true) (hc4 : (((Args.A).length : Nat) : Int) > (40 : Int)) : G_viewportlaw26StylesOthers kind oK oP oS oR () :=
  runF_ok hm (A := aT [(5, .call ⟨0, [], (Value.bool true), Ax.h0, []⟩), (12, .call ⟨0, [], (V_viewportlaw26lightq1  c2_), (R_viewportlaw26lightq1  c2_), []⟩), (13, .val (.bool false)), (17, .val (.bool true))]) (L := lT []) (wk := ⟨[10], [], 0, 0⟩)
    (ps := [Gv P (.func 5) [] Ax.h0 (Value.bool true) Ax.h0,
    G_viewportlaw26lightq1  c2_,
    (Value.bool (!c2_)) = (Value.bool false),
    (Value.bool (decide ((((Args.A).length : Nat) : Int) > (40 : Int)))) = (Value.bool true)]) (by kernel_rfl) ⟨(m_viewportlaw26lives_ok n () hc1), (m_viewportlaw26lightq1_ok n c2_ hc2), (vBn hc3), (vbT hc4), trivial⟩
set_option maxRecDepth 100000 in
theorem p_viewportlaw26StylesOthers_1 (n : Nat) (kind : Int) (oK : Int) (oP : NL) (oS : Int) (oR : Int) (hc1 : m_viewportlaw26lives n = some ()) (c2_ : Bool) (hc2 : m_viewportlaw26lightq1 n = some c2_) (hc3 : c2_ = true) (hc4 : ¬ ((((Args.A).length : Nat) : Int) > (40 : Int))) (hc5 : (((oP).l.length : Nat) : Int) > (20 : Int)) : G_viewportlaw26StylesOthers kind oK oP oS oR () :=
  runF_ok hm (A := aT [(5, .call ⟨0, [], (Value.bool true), Ax.h0, []⟩), (12, .call ⟨0, [], (V_viewportlaw26lightq1  c2_), (R_viewportlaw26lightq1  c2_), []⟩), (13, .val (.bool false)), (17, .val (.bool false)), (23, .val (.bool true))]) (L := lT []) (wk := ⟨[10], [], 0, 0⟩)
    (ps := [Gv P (.func 5) [] Ax.h0 (Value.bool true) Ax.h0,
    G_viewportlaw26lightq1  c2_,
    (Value.bool (!c2_)) = (Value.bool false),
    (Value.bool (decide ((((Args.A).length : Nat) : Int) > (40 : Int)))) = (Value.bool false),
    (Value.bool (decide ((((oP).l.length : Nat) : Int) > (20 : Int)))) = (Value.bool true)]) (by kernel_rfl) ⟨(m_viewportlaw26lives_ok n () hc1), (m_viewportlaw26lightq1_ok n c2_ hc2), (vBn hc3), (vbF hc4), (vbT hc5), trivial⟩
set_option maxRecDepth 100000 in
theorem p_viewportlaw26StylesOthers_2 (n : Nat) (kind : Int) (oK : Int) (oP : NL) (oS : Int) (oR : Int) (hc1 : m_viewportlaw26lives n = some ()) (c2_ : Bool) (hc2 : m_viewportlaw26lightq1 n = some c2_) (hc3 : c2_ = true) (hc4 : ¬ ((((Args.A).length : Nat) : Int) > (40 : Int))) (hc5 : ¬ ((((oP).l.length : Nat) : Int) > (20 : Int))) (c6_ : Int) (hc6 : m_stylesStyleq1 n kind = some c6_) (hc7 : oK = kind) (hc8 : m_viewportlaw26StylesOthers_1 n kind c6_ 0 = some (.inl ())) : G_viewportlaw26StylesOthers kind oK oP oS oR () :=
  runF_ok hm (A := aT [(5, .call ⟨0, [], (Value.bool true), Ax.h0, []⟩), (12, .call ⟨0, [], (V_viewportlaw26lightq1  c2_), (R_viewportlaw26lightq1  c2_), []⟩), (13, .val (.bool false)), (17, .val (.bool false)), (23, .val (.bool false)), (30, .call ⟨0, [], (V_stylesStyleq1 kind c6_), (R_stylesStyleq1 kind c6_), []⟩), (37, .val (.bool false))]) (L := lT [(54, ⟨⟨[0, 1, 2, 4, 11, 12], [], 0, 0⟩, (X_viewportlaw26StylesOthers_1 kind c6_ (.inl ())).1, (X_viewportlaw26StylesOthers_1 kind c6_ (.inl ())).2⟩)]) (wk := ⟨[10], [], 0, 0⟩)
    (ps := [Gv P (.func 5) [] Ax.h0 (Value.bool true) Ax.h0,
    G_viewportlaw26lightq1  c2_,
    (Value.bool (!c2_)) = (Value.bool false),
    (Value.bool (decide ((((Args.A).length : Nat) : Int) > (40 : Int)))) = (Value.bool false),
    (Value.bool (decide ((((oP).l.length : Nat) : Int) > (20 : Int)))) = (Value.bool false),
    G_stylesStyleq1 kind c6_,
    (Value.bool (oK != kind)) = (Value.bool false),
    CG P none (fnN P 4) 0 (codeOf P 4 [false, true, false, true, true, true, true, true]) (S_viewportlaw26StylesOthers_1 kind c6_ 0) (X_viewportlaw26StylesOthers_1 kind c6_ (.inl ()))]) (by kernel_rfl) ⟨(m_viewportlaw26lives_ok n () hc1), (m_viewportlaw26lightq1_ok n c2_ hc2), (vBn hc3), (vbF hc4), (vbF hc5), (m_stylesStyleq1_ok n kind c6_ hc6), (vnF hc7), (m_viewportlaw26StylesOthers_1_ok n kind c6_ 0 (.inl ()) hc8), trivial⟩
set_option maxRecDepth 100000 in
theorem p_viewportlaw26StylesOthers_3 (n : Nat) (kind : Int) (oK : Int) (oP : NL) (oS : Int) (oR : Int) (hc1 : m_viewportlaw26lives n = some ()) (c2_ : Bool) (hc2 : m_viewportlaw26lightq1 n = some c2_) (hc3 : c2_ = true) (hc4 : ¬ ((((Args.A).length : Nat) : Int) > (40 : Int))) (hc5 : ¬ ((((oP).l.length : Nat) : Int) > (20 : Int))) (c6_ : Int) (hc6 : m_stylesStyleq1 n kind = some c6_) (hc7 : oK = kind) (hc8 : m_viewportlaw26StylesOthers_1 n kind c6_ 0 = some (.inr ())) (hc9 : 0 < (Args.A).length) (hc10 : (0 + (Args.A).length) * 8 ≤ 140737488355328) (hc11 : 0 < 0 + (Args.A).length) (hc12 : 0 < (Args.Y).length) (hc13 : (((([] : List Int) ++ Args.A)).length + (Args.Y).length) * 8 ≤ 140737488355328) (c14_ : Int) (hc14 : m_stylesStyleq3 n kind ((([] : List Int) ++ Args.A) ++ Args.Y) = some c14_) (hc15 : c14_ = c6_) : G_viewportlaw26StylesOthers kind oK oP oS oR () :=
  runF_ok hm (A := aT [(5, .call ⟨0, [], (Value.bool true), Ax.h0, []⟩), (12, .call ⟨0, [], (V_viewportlaw26lightq1  c2_), (R_viewportlaw26lightq1  c2_), []⟩), (13, .val (.bool false)), (17, .val (.bool false)), (23, .val (.bool false)), (30, .call ⟨0, [], (V_stylesStyleq1 kind c6_), (R_stylesStyleq1 kind c6_), []⟩), (37, .val (.bool false)), (60, .app ⟨some ((Args.A).length, (iv Args.A)), ([] : List Value), (iv (([] : List Int) ++ Args.A)), ((([] : List Int) ++ Args.A)).length, true⟩), (62, .app ⟨some ((Args.Y).length, (iv Args.Y)), iv (([] : List Int) ++ Args.A), (iv ((([] : List Int) ++ Args.A) ++ Args.Y)), (((([] : List Int) ++ Args.A) ++ Args.Y)).length, false⟩), (63, .call ⟨1, [(0, 2, true)], (V_stylesStyleq3 kind ((([] : List Int) ++ Args.A) ++ Args.Y) c14_), (R_stylesStyleq3 kind ((([] : List Int) ++ Args.A) ++ Args.Y) c14_), [(2, 0, true)]⟩), (65, .val (.bool true))]) (L := lT [(54, ⟨⟨[0, 1, 2, 4, 11, 12], [], 0, 0⟩, (X_viewportlaw26StylesOthers_1 kind c6_ (.inr ())).1, (X_viewportlaw26StylesOthers_1 kind c6_ (.inr ())).2⟩)]) (wk := ⟨[10], [], 0, 0⟩)
    (ps := [Gv P (.func 5) [] Ax.h0 (Value.bool true) Ax.h0,
    G_viewportlaw26lightq1  c2_,
    (Value.bool (!c2_)) = (Value.bool false),
    (Value.bool (decide ((((Args.A).length : Nat) : Int) > (40 : Int)))) = (Value.bool false),
    (Value.bool (decide ((((oP).l.length : Nat) : Int) > (20 : Int)))) = (Value.bool false),
    G_stylesStyleq1 kind c6_,
    (Value.bool (oK != kind)) = (Value.bool false),
    CG P none (fnN P 4) 0 (codeOf P 4 [false, true, false, true, true, true, true, true]) (S_viewportlaw26StylesOthers_1 kind c6_ 0) (X_viewportlaw26StylesOthers_1 kind c6_ (.inr ())),
    (Args.A).length = (Args.A).length,
    rdL (iv Args.A) (Nat.mul (Args.A).length 1) 0 = some (iv Args.A),
    0 < (Args.A).length,
    0 < big,
    0 < Nat.add 0 (Args.A).length,
    rdT (layT ([] : List Value)) (Nat.mul 0 1) 0 = some (([] : List Value)),
    fits (Nat.add 0 (Args.A).length) 8 = true,
    ([] : List Value) ++ (iv Args.A) = (iv (([] : List Int) ++ Args.A)),
    Nat.add 0 (Args.A).length = ((([] : List Int) ++ Args.A)).length,
    (Args.Y).length = (Args.Y).length,
    rdL (iv Args.Y) (Nat.mul (Args.Y).length 1) 0 = some (iv Args.Y),
    0 < (Args.Y).length,
    rdT (layT (iv (([] : List Int) ++ Args.A))) (Nat.mul ((([] : List Int) ++ Args.A)).length 1) 0 = some (iv (([] : List Int) ++ Args.A)),
    fits (Nat.add ((([] : List Int) ++ Args.A)).length (Args.Y).length) 8 = true,
    allCells (iv Args.Y) = true,
    allCells (iv (([] : List Int) ++ Args.A)) = true,
    iv (([] : List Int) ++ Args.A) ++ (iv Args.Y) = (iv ((([] : List Int) ++ Args.A) ++ Args.Y)),
    Nat.add ((([] : List Int) ++ Args.A)).length (Args.Y).length = (((([] : List Int) ++ Args.A) ++ Args.Y)).length,
    G_stylesStyleq3 kind ((([] : List Int) ++ Args.A) ++ Args.Y) c14_,
    FlatB (.cells (layT (iv ((([] : List Int) ++ Args.A) ++ Args.Y))) 3),
    FlatB (.cells (layT (iv ((([] : List Int) ++ Args.A) ++ Args.Y))) 3),
    (Value.bool (c14_ == c6_)) = (Value.bool true)]) (by kernel_rfl) ⟨(m_viewportlaw26lives_ok n () hc1), (m_viewportlaw26lightq1_ok n c2_ hc2), (vBn hc3), (vbF hc4), (vbF hc5), (m_stylesStyleq1_ok n kind c6_ hc6), (vnF hc7), (m_viewportlaw26StylesOthers_1_ok n kind c6_ 0 (.inr ()) hc8), (rfl), (rdL_iv _ _ rfl), (hc9), ((by decide)), (hc11), (rfl), (fits_ok hc10 (by have := hc10; show (_ : Nat) + _ ≤ _; omega)), (by simp [iv]), (by simp <;> omega), (rfl), (rdL_iv _ _ rfl), (hc12), (iv_rd _), (fits_ok hc13 (by have := hc13; show (_ : Nat) + _ ≤ _; omega)), (iv_cells _), (iv_cells _), (by simp [iv]), (by simp <;> omega), (m_stylesStyleq3_ok n kind ((([] : List Int) ++ Args.A) ++ Args.Y) c14_ hc14), (iv_flat _ _), (iv_flat _ _), (veT hc15), trivial⟩
set_option maxRecDepth 100000 in
theorem p_viewportlaw26StylesOthers_4 (n : Nat) (kind : Int) (oK : Int) (oP : NL) (oS : Int) (oR : Int) (hc1 : m_viewportlaw26lives n = some ()) (c2_ : Bool) (hc2 : m_viewportlaw26lightq1 n = some c2_) (hc3 : c2_ = true) (hc4 : ¬ ((((Args.A).length : Nat) : Int) > (40 : Int))) (hc5 : ¬ ((((oP).l.length : Nat) : Int) > (20 : Int))) (c6_ : Int) (hc6 : m_stylesStyleq1 n kind = some c6_) (hc7 : oK = kind) (hc8 : m_viewportlaw26StylesOthers_1 n kind c6_ 0 = some (.inr ())) (hc9 : 0 < (Args.A).length) (hc10 : (0 + (Args.A).length) * 8 ≤ 140737488355328) (hc11 : 0 < 0 + (Args.A).length) (hc12 : ¬ (0 < (Args.Y).length)) (hc13 : ((([] : List Int) ++ Args.A)).length * 8 ≤ 140737488355328) (c14_ : Int) (hc14 : m_stylesStyleq3 n kind (([] : List Int) ++ Args.A) = some c14_) (hc15 : c14_ = c6_) : G_viewportlaw26StylesOthers kind oK oP oS oR () :=
  runF_ok hm (A := aT [(5, .call ⟨0, [], (Value.bool true), Ax.h0, []⟩), (12, .call ⟨0, [], (V_viewportlaw26lightq1  c2_), (R_viewportlaw26lightq1  c2_), []⟩), (13, .val (.bool false)), (17, .val (.bool false)), (23, .val (.bool false)), (30, .call ⟨0, [], (V_stylesStyleq1 kind c6_), (R_stylesStyleq1 kind c6_), []⟩), (37, .val (.bool false)), (60, .app ⟨some ((Args.A).length, (iv Args.A)), ([] : List Value), (iv (([] : List Int) ++ Args.A)), ((([] : List Int) ++ Args.A)).length, true⟩), (62, .app0), (63, .call ⟨1, [(0, 1, true)], (V_stylesStyleq3 kind (([] : List Int) ++ Args.A) c14_), (R_stylesStyleq3 kind (([] : List Int) ++ Args.A) c14_), [(1, 0, true)]⟩), (65, .val (.bool true))]) (L := lT [(54, ⟨⟨[0, 1, 2, 4, 11, 12], [], 0, 0⟩, (X_viewportlaw26StylesOthers_1 kind c6_ (.inr ())).1, (X_viewportlaw26StylesOthers_1 kind c6_ (.inr ())).2⟩)]) (wk := ⟨[10], [], 0, 0⟩)
    (ps := [Gv P (.func 5) [] Ax.h0 (Value.bool true) Ax.h0,
    G_viewportlaw26lightq1  c2_,
    (Value.bool (!c2_)) = (Value.bool false),
    (Value.bool (decide ((((Args.A).length : Nat) : Int) > (40 : Int)))) = (Value.bool false),
    (Value.bool (decide ((((oP).l.length : Nat) : Int) > (20 : Int)))) = (Value.bool false),
    G_stylesStyleq1 kind c6_,
    (Value.bool (oK != kind)) = (Value.bool false),
    CG P none (fnN P 4) 0 (codeOf P 4 [false, true, false, true, true, true, true, true]) (S_viewportlaw26StylesOthers_1 kind c6_ 0) (X_viewportlaw26StylesOthers_1 kind c6_ (.inr ())),
    (Args.A).length = (Args.A).length,
    rdL (iv Args.A) (Nat.mul (Args.A).length 1) 0 = some (iv Args.A),
    0 < (Args.A).length,
    0 < big,
    0 < Nat.add 0 (Args.A).length,
    rdT (layT ([] : List Value)) (Nat.mul 0 1) 0 = some (([] : List Value)),
    fits (Nat.add 0 (Args.A).length) 8 = true,
    ([] : List Value) ++ (iv Args.A) = (iv (([] : List Int) ++ Args.A)),
    Nat.add 0 (Args.A).length = ((([] : List Int) ++ Args.A)).length,
    srcB P Ax.h0 1 (Value.slice (some ⟨1, 0, some 1⟩) (Args.Y).length Args.cY) = some (0, []),
    ∀ H : AH, appTop H 1 3 8 (0, []) (Value.slice (some ⟨1, 0, none⟩) ((([] : List Int) ++ Args.A)).length (Nat.add big 1)) = some ((Value.slice (some ⟨1, 0, none⟩) ((([] : List Int) ++ Args.A)).length (Nat.add big 1)), H),
    G_stylesStyleq3 kind (([] : List Int) ++ Args.A) c14_,
    FlatB (.cells (layT (iv (([] : List Int) ++ Args.A))) 3),
    FlatB (.cells (layT (iv (([] : List Int) ++ Args.A))) 3),
    (Value.bool (c14_ == c6_)) = (Value.bool true)]) (by kernel_rfl) ⟨(m_viewportlaw26lives_ok n () hc1), (m_viewportlaw26lightq1_ok n c2_ hc2), (vBn hc3), (vbF hc4), (vbF hc5), (m_stylesStyleq1_ok n kind c6_ hc6), (vnF hc7), (m_viewportlaw26StylesOthers_1_ok n kind c6_ 0 (.inr ()) hc8), (rfl), (rdL_iv _ _ rfl), (hc9), ((by decide)), (hc11), (rfl), (fits_ok hc10 (by have := hc10; show (_ : Nat) + _ ≤ _; omega)), (by simp [iv]), (by simp <;> omega), (src0W rfl (by have := hc12; omega)), (fun H => top0 (by decide) (by have := hc13; show (_ : Nat) ≤ 1180591620717411303424 + 1; omega) H), (m_stylesStyleq3_ok n kind (([] : List Int) ++ Args.A) c14_ hc14), (iv_flat _ _), (iv_flat _ _), (veT hc15), trivial⟩
set_option maxRecDepth 100000 in
theorem p_viewportlaw26StylesOthers_5 (n : Nat) (kind : Int) (oK : Int) (oP : NL) (oS : Int) (oR : Int) (hc1 : m_viewportlaw26lives n = some ()) (c2_ : Bool) (hc2 : m_viewportlaw26lightq1 n = some c2_) (hc3 : c2_ = true) (hc4 : ¬ ((((Args.A).length : Nat) : Int) > (40 : Int))) (hc5 : ¬ ((((oP).l.length : Nat) : Int) > (20 : Int))) (c6_ : Int) (hc6 : m_stylesStyleq1 n kind = some c6_) (hc7 : oK = kind) (hc8 : m_viewportlaw26StylesOthers_1 n kind c6_ 0 = some (.inr ())) (hc9 : ¬ (0 < (Args.A).length)) (hc10 : 0 < (Args.Y).length) (hc11 : (0 + (Args.Y).length) * 8 ≤ 140737488355328) (hc12 : 0 < 0 + (Args.Y).length) (c13_ : Int) (hc13 : m_stylesStyleq3 n kind (([] : List Int) ++ Args.Y) = some c13_) (hc14 : c13_ = c6_) : G_viewportlaw26StylesOthers kind oK oP oS oR () :=
  runF_ok hm (A := aT [(5, .call ⟨0, [], (Value.bool true), Ax.h0, []⟩), (12, .call ⟨0, [], (V_viewportlaw26lightq1  c2_), (R_viewportlaw26lightq1  c2_), []⟩), (13, .val (.bool false)), (17, .val (.bool false)), (23, .val (.bool false)), (30, .call ⟨0, [], (V_stylesStyleq1 kind c6_), (R_stylesStyleq1 kind c6_), []⟩), (37, .val (.bool false)), (60, .app0), (62, .app ⟨some ((Args.Y).length, (iv Args.Y)), ([] : List Value), (iv (([] : List Int) ++ Args.Y)), ((([] : List Int) ++ Args.Y)).length, true⟩), (63, .call ⟨1, [(0, 1, true)], (V_stylesStyleq3 kind (([] : List Int) ++ Args.Y) c13_), (R_stylesStyleq3 kind (([] : List Int) ++ Args.Y) c13_), [(1, 0, true)]⟩), (65, .val (.bool true))]) (L := lT [(54, ⟨⟨[0, 1, 2, 4, 11, 12], [], 0, 0⟩, (X_viewportlaw26StylesOthers_1 kind c6_ (.inr ())).1, (X_viewportlaw26StylesOthers_1 kind c6_ (.inr ())).2⟩)]) (wk := ⟨[10], [], 0, 0⟩)
    (ps := [Gv P (.func 5) [] Ax.h0 (Value.bool true) Ax.h0,
    G_viewportlaw26lightq1  c2_,
    (Value.bool (!c2_)) = (Value.bool false),
    (Value.bool (decide ((((Args.A).length : Nat) : Int) > (40 : Int)))) = (Value.bool false),
    (Value.bool (decide ((((oP).l.length : Nat) : Int) > (20 : Int)))) = (Value.bool false),
    G_stylesStyleq1 kind c6_,
    (Value.bool (oK != kind)) = (Value.bool false),
    CG P none (fnN P 4) 0 (codeOf P 4 [false, true, false, true, true, true, true, true]) (S_viewportlaw26StylesOthers_1 kind c6_ 0) (X_viewportlaw26StylesOthers_1 kind c6_ (.inr ())),
    srcB P Ax.h0 1 (Value.slice (some ⟨2, 0, some 1⟩) (Args.A).length Args.cA) = some (0, []),
    ∀ H : AH, appTop H 1 3 8 (0, []) (Value.slice (some ⟨0, 0, none⟩) 0 0) = some ((Value.slice (some ⟨0, 0, none⟩) 0 0), H),
    (Args.Y).length = (Args.Y).length,
    rdL (iv Args.Y) (Nat.mul (Args.Y).length 1) 0 = some (iv Args.Y),
    0 < (Args.Y).length,
    0 < big,
    0 < Nat.add 0 (Args.Y).length,
    rdT (layT ([] : List Value)) (Nat.mul 0 1) 0 = some (([] : List Value)),
    fits (Nat.add 0 (Args.Y).length) 8 = true,
    ([] : List Value) ++ (iv Args.Y) = (iv (([] : List Int) ++ Args.Y)),
    Nat.add 0 (Args.Y).length = ((([] : List Int) ++ Args.Y)).length,
    G_stylesStyleq3 kind (([] : List Int) ++ Args.Y) c13_,
    FlatB (.cells (layT (iv (([] : List Int) ++ Args.Y))) 3),
    FlatB (.cells (layT (iv (([] : List Int) ++ Args.Y))) 3),
    (Value.bool (c13_ == c6_)) = (Value.bool true)]) (by kernel_rfl) ⟨(m_viewportlaw26lives_ok n () hc1), (m_viewportlaw26lightq1_ok n c2_ hc2), (vBn hc3), (vbF hc4), (vbF hc5), (m_stylesStyleq1_ok n kind c6_ hc6), (vnF hc7), (m_viewportlaw26StylesOthers_1_ok n kind c6_ 0 (.inr ()) hc8), (src0W rfl (by have := hc9; omega)), (fun _ => rfl), (rfl), (rdL_iv _ _ rfl), (hc10), ((by decide)), (hc12), (rfl), (fits_ok hc11 (by have := hc11; show (_ : Nat) + _ ≤ _; omega)), (by simp [iv]), (by simp <;> omega), (m_stylesStyleq3_ok n kind (([] : List Int) ++ Args.Y) c13_ hc13), (iv_flat _ _), (iv_flat _ _), (veT hc14), trivial⟩
set_option maxRecDepth 100000 in
theorem p_viewportlaw26StylesOthers_6 (n : Nat) (kind : Int) (oK : Int) (oP : NL) (oS : Int) (oR : Int) (hc1 : m_viewportlaw26lives n = some ()) (c2_ : Bool) (hc2 : m_viewportlaw26lightq1 n = some c2_) (hc3 : c2_ = true) (hc4 : ¬ ((((Args.A).length : Nat) : Int) > (40 : Int))) (hc5 : ¬ ((((oP).l.length : Nat) : Int) > (20 : Int))) (c6_ : Int) (hc6 : m_stylesStyleq1 n kind = some c6_) (hc7 : oK = kind) (hc8 : m_viewportlaw26StylesOthers_1 n kind c6_ 0 = some (.inr ())) (hc9 : ¬ (0 < (Args.A).length)) (hc10 : ¬ (0 < (Args.Y).length)) (c11_ : Int) (hc11 : m_stylesStyleq4 n kind = some c11_) (hc12 : c11_ = c6_) : G_viewportlaw26StylesOthers kind oK oP oS oR () :=
  runF_ok hm (A := aT [(5, .call ⟨0, [], (Value.bool true), Ax.h0, []⟩), (12, .call ⟨0, [], (V_viewportlaw26lightq1  c2_), (R_viewportlaw26lightq1  c2_), []⟩), (13, .val (.bool false)), (17, .val (.bool false)), (23, .val (.bool false)), (30, .call ⟨0, [], (V_stylesStyleq1 kind c6_), (R_stylesStyleq1 kind c6_), []⟩), (37, .val (.bool false)), (60, .app0), (62, .app0), (63, .call ⟨1, [(0, 0, false)], (V_stylesStyleq4 kind c11_), (R_stylesStyleq4 kind c11_), [(0, 0, false)]⟩), (65, .val (.bool true))]) (L := lT [(54, ⟨⟨[0, 1, 2, 4, 11, 12], [], 0, 0⟩, (X_viewportlaw26StylesOthers_1 kind c6_ (.inr ())).1, (X_viewportlaw26StylesOthers_1 kind c6_ (.inr ())).2⟩)]) (wk := ⟨[10], [], 0, 0⟩)
    (ps := [Gv P (.func 5) [] Ax.h0 (Value.bool true) Ax.h0,
    G_viewportlaw26lightq1  c2_,
    (Value.bool (!c2_)) = (Value.bool false),
    (Value.bool (decide ((((Args.A).length : Nat) : Int) > (40 : Int)))) = (Value.bool false),
    (Value.bool (decide ((((oP).l.length : Nat) : Int) > (20 : Int)))) = (Value.bool false),
    G_stylesStyleq1 kind c6_,
    (Value.bool (oK != kind)) = (Value.bool false),
    CG P none (fnN P 4) 0 (codeOf P 4 [false, true, false, true, true, true, true, true]) (S_viewportlaw26StylesOthers_1 kind c6_ 0) (X_viewportlaw26StylesOthers_1 kind c6_ (.inr ())),
    srcB P Ax.h0 1 (Value.slice (some ⟨2, 0, some 1⟩) (Args.A).length Args.cA) = some (0, []),
    ∀ H : AH, appTop H 1 3 8 (0, []) (Value.slice (some ⟨0, 0, none⟩) 0 0) = some ((Value.slice (some ⟨0, 0, none⟩) 0 0), H),
    srcB P Ax.h0 1 (Value.slice (some ⟨1, 0, some 1⟩) (Args.Y).length Args.cY) = some (0, []),
    ∀ H : AH, appTop H 1 3 8 (0, []) (Value.slice (some ⟨0, 0, none⟩) 0 0) = some ((Value.slice (some ⟨0, 0, none⟩) 0 0), H),
    G_stylesStyleq4 kind c11_,
    (Value.bool (c11_ == c6_)) = (Value.bool true)]) (by kernel_rfl) ⟨(m_viewportlaw26lives_ok n () hc1), (m_viewportlaw26lightq1_ok n c2_ hc2), (vBn hc3), (vbF hc4), (vbF hc5), (m_stylesStyleq1_ok n kind c6_ hc6), (vnF hc7), (m_viewportlaw26StylesOthers_1_ok n kind c6_ 0 (.inr ()) hc8), (src0W rfl (by have := hc9; omega)), (fun _ => rfl), (src0W rfl (by have := hc10; omega)), (fun _ => rfl), (m_stylesStyleq4_ok n kind c11_ hc11), (veT hc12), trivial⟩
set_option maxRecDepth 100000 in
theorem p_viewportlaw26StylesOthers_7 (n : Nat) (kind : Int) (oK : Int) (oP : NL) (oS : Int) (oR : Int) (hc1 : m_viewportlaw26lives n = some ()) (c2_ : Bool) (hc2 : m_viewportlaw26lightq1 n = some c2_) (hc3 : c2_ = true) (hc4 : ¬ ((((Args.A).length : Nat) : Int) > (40 : Int))) (hc5 : ¬ ((((oP).l.length : Nat) : Int) > (20 : Int))) (c6_ : Int) (hc6 : m_stylesStyleq1 n kind = some c6_) (hc7 : ¬ (oK = kind)) (hc8 : 0 < (Args.S).length) (hc9 : (1 + (Args.S).length) * 48 ≤ 140737488355328) (hc10 : 1 < 1 + (Args.S).length) (c11_ : Int) (hc11 : m_stylesStyleq2 n ([(oK, oP, oS, oR)] ++ Args.S) (Nat.add big 4) kind = some c11_) (hc12 : c11_ = c6_) (hc13 : m_viewportlaw26StylesOthers_1 n kind c6_ 0 = some (.inl ())) : G_viewportlaw26StylesOthers kind oK oP oS oR () :=
  runF_ok hm (A := aT [(5, .call ⟨0, [], (Value.bool true), Ax.h0, []⟩), (12, .call ⟨0, [], (V_viewportlaw26lightq1  c2_), (R_viewportlaw26lightq1  c2_), []⟩), (13, .val (.bool false)), (17, .val (.bool false)), (23, .val (.bool false)), (30, .call ⟨0, [], (V_stylesStyleq1 kind c6_), (R_stylesStyleq1 kind c6_), []⟩), (37, .val (.bool true)), (42, .app ⟨some ((Args.S).length, (rows rw_iLii Args.S)), [(Value.int .i64 oK), (nlV oP), (Value.int .i64 oS), (Value.int .i64 oR)], (rows rw_iLii ([(oK, oP, oS, oR)] ++ Args.S)), (([(oK, oP, oS, oR)] ++ Args.S)).length, true⟩), (45, .call ⟨1, [(0, 2, true)], (V_stylesStyleq2 ([(oK, oP, oS, oR)] ++ Args.S) (Nat.add big 4) kind c11_), (R_stylesStyleq2 ([(oK, oP, oS, oR)] ++ Args.S) (Nat.add big 4) kind c11_), [(2, 0, true)]⟩), (47, .val (.bool false))]) (L := lT [(54, ⟨⟨[0, 1, 2, 4, 11, 12], [], 0, 0⟩, (X_viewportlaw26StylesOthers_1 kind c6_ (.inl ())).1, (X_viewportlaw26StylesOthers_1 kind c6_ (.inl ())).2⟩)]) (wk := ⟨[10], [], 0, 0⟩)
    (ps := [Gv P (.func 5) [] Ax.h0 (Value.bool true) Ax.h0,
    G_viewportlaw26lightq1  c2_,
    (Value.bool (!c2_)) = (Value.bool false),
    (Value.bool (decide ((((Args.A).length : Nat) : Int) > (40 : Int)))) = (Value.bool false),
    (Value.bool (decide ((((oP).l.length : Nat) : Int) > (20 : Int)))) = (Value.bool false),
    G_stylesStyleq1 kind c6_,
    (Value.bool (oK != kind)) = (Value.bool true),
    (Args.S).length = (Args.S).length,
    rdL (rows rw_iLii Args.S) (Nat.mul (Args.S).length 4) 0 = some (rows rw_iLii Args.S),
    0 < (Args.S).length,
    1 < big,
    1 < Nat.add 1 (Args.S).length,
    rdT (layT [(Value.int .i64 oK), (nlV oP), (Value.int .i64 oS), (Value.int .i64 oR)]) (Nat.mul 1 4) 0 = some ([(Value.int .i64 oK), (nlV oP), (Value.int .i64 oS), (Value.int .i64 oR)]),
    fits (Nat.add 1 (Args.S).length) 48 = true,
    [(Value.int .i64 oK), (nlV oP), (Value.int .i64 oS), (Value.int .i64 oR)] ++ (rows rw_iLii Args.S) = (rows rw_iLii ([(oK, oP, oS, oR)] ++ Args.S)),
    Nat.add 1 (Args.S).length = (([(oK, oP, oS, oR)] ++ Args.S)).length,
    G_stylesStyleq2 ([(oK, oP, oS, oR)] ++ Args.S) (Nat.add big 4) kind c11_,
    FlatB (.cells (layT (rows rw_iLii ([(oK, oP, oS, oR)] ++ Args.S))) 27),
    FlatB (.cells (layT (rows rw_iLii ([(oK, oP, oS, oR)] ++ Args.S))) 27),
    (Value.bool (c11_ != c6_)) = (Value.bool false),
    CG P none (fnN P 4) 0 (codeOf P 4 [false, true, false, true, true, true, true, true]) (S_viewportlaw26StylesOthers_1 kind c6_ 0) (X_viewportlaw26StylesOthers_1 kind c6_ (.inl ()))]) (by kernel_rfl) ⟨(m_viewportlaw26lives_ok n () hc1), (m_viewportlaw26lightq1_ok n c2_ hc2), (vBn hc3), (vbF hc4), (vbF hc5), (m_stylesStyleq1_ok n kind c6_ hc6), (vnT hc7), (rfl), (rdL_rows rwf_iLii _ _ rfl), (hc8), ((by decide)), (hc10), (rfl), (fits_ok hc9 (by have := hc9; show (_ : Nat) + _ ≤ _; omega)), (rows_app rw_iLii [(oK, oP, oS, oR)] Args.S), (by simp <;> omega), (m_stylesStyleq2_ok n ([(oK, oP, oS, oR)] ++ Args.S) (Nat.add big 4) kind c11_ hc11), (rows_flat rwf_iLii _ _), (rows_flat rwf_iLii _ _), (vnF hc12), (m_viewportlaw26StylesOthers_1_ok n kind c6_ 0 (.inl ()) hc13), trivial⟩
set_option maxRecDepth 100000 in
theorem p_viewportlaw26StylesOthers_8 (n : Nat) (kind : Int) (oK : Int) (oP : NL) (oS : Int) (oR : Int) (hc1 : m_viewportlaw26lives n = some ()) (c2_ : Bool) (hc2 : m_viewportlaw26lightq1 n = some c2_) (hc3 : c2_ = true) (hc4 : ¬ ((((Args.A).length : Nat) : Int) > (40 : Int))) (hc5 : ¬ ((((oP).l.length : Nat) : Int) > (20 : Int))) (c6_ : Int) (hc6 : m_stylesStyleq1 n kind = some c6_) (hc7 : ¬ (oK = kind)) (hc8 : 0 < (Args.S).length) (hc9 : (1 + (Args.S).length) * 48 ≤ 140737488355328) (hc10 : 1 < 1 + (Args.S).length) (c11_ : Int) (hc11 : m_stylesStyleq2 n ([(oK, oP, oS, oR)] ++ Args.S) (Nat.add big 4) kind = some c11_) (hc12 : c11_ = c6_) (hc13 : m_viewportlaw26StylesOthers_1 n kind c6_ 0 = some (.inr ())) (hc14 : 0 < (Args.A).length) (hc15 : (0 + (Args.A).length) * 8 ≤ 140737488355328) (hc16 : 0 < 0 + (Args.A).length) (hc17 : 0 < (Args.Y).length) (hc18 : (((([] : List Int) ++ Args.A)).length + (Args.Y).length) * 8 ≤ 140737488355328) (c19_ : Int) (hc19 : m_stylesStyleq3 n kind ((([] : List Int) ++ Args.A) ++ Args.Y) = some c19_) (hc20 : c19_ = c6_) : G_viewportlaw26StylesOthers kind oK oP oS oR () :=
  runF_ok hm (A := aT [(5, .call ⟨0, [], (Value.bool true), Ax.h0, []⟩), (12, .call ⟨0, [], (V_viewportlaw26lightq1  c2_), (R_viewportlaw26lightq1  c2_), []⟩), (13, .val (.bool false)), (17, .val (.bool false)), (23, .val (.bool false)), (30, .call ⟨0, [], (V_stylesStyleq1 kind c6_), (R_stylesStyleq1 kind c6_), []⟩), (37, .val (.bool true)), (42, .app ⟨some ((Args.S).length, (rows rw_iLii Args.S)), [(Value.int .i64 oK), (nlV oP), (Value.int .i64 oS), (Value.int .i64 oR)], (rows rw_iLii ([(oK, oP, oS, oR)] ++ Args.S)), (([(oK, oP, oS, oR)] ++ Args.S)).length, true⟩), (45, .call ⟨1, [(0, 2, true)], (V_stylesStyleq2 ([(oK, oP, oS, oR)] ++ Args.S) (Nat.add big 4) kind c11_), (R_stylesStyleq2 ([(oK, oP, oS, oR)] ++ Args.S) (Nat.add big 4) kind c11_), [(2, 0, true)]⟩), (47, .val (.bool false)), (60, .app ⟨some ((Args.A).length, (iv Args.A)), ([] : List Value), (iv (([] : List Int) ++ Args.A)), ((([] : List Int) ++ Args.A)).length, true⟩), (62, .app ⟨some ((Args.Y).length, (iv Args.Y)), iv (([] : List Int) ++ Args.A), (iv ((([] : List Int) ++ Args.A) ++ Args.Y)), (((([] : List Int) ++ Args.A) ++ Args.Y)).length, false⟩), (63, .call ⟨1, [(0, 2, true)], (V_stylesStyleq3 kind ((([] : List Int) ++ Args.A) ++ Args.Y) c19_), (R_stylesStyleq3 kind ((([] : List Int) ++ Args.A) ++ Args.Y) c19_), [(2, 0, true)]⟩), (65, .val (.bool true))]) (L := lT [(54, ⟨⟨[0, 1, 2, 4, 11, 12], [], 0, 0⟩, (X_viewportlaw26StylesOthers_1 kind c6_ (.inr ())).1, (X_viewportlaw26StylesOthers_1 kind c6_ (.inr ())).2⟩)]) (wk := ⟨[10], [], 0, 0⟩)
    (ps := [Gv P (.func 5) [] Ax.h0 (Value.bool true) Ax.h0,
    G_viewportlaw26lightq1  c2_,
    (Value.bool (!c2_)) = (Value.bool false),
    (Value.bool (decide ((((Args.A).length : Nat) : Int) > (40 : Int)))) = (Value.bool false),
    (Value.bool (decide ((((oP).l.length : Nat) : Int) > (20 : Int)))) = (Value.bool false),
    G_stylesStyleq1 kind c6_,
    (Value.bool (oK != kind)) = (Value.bool true),
    (Args.S).length = (Args.S).length,
    rdL (rows rw_iLii Args.S) (Nat.mul (Args.S).length 4) 0 = some (rows rw_iLii Args.S),
    0 < (Args.S).length,
    1 < big,
    1 < Nat.add 1 (Args.S).length,
    rdT (layT [(Value.int .i64 oK), (nlV oP), (Value.int .i64 oS), (Value.int .i64 oR)]) (Nat.mul 1 4) 0 = some ([(Value.int .i64 oK), (nlV oP), (Value.int .i64 oS), (Value.int .i64 oR)]),
    fits (Nat.add 1 (Args.S).length) 48 = true,
    [(Value.int .i64 oK), (nlV oP), (Value.int .i64 oS), (Value.int .i64 oR)] ++ (rows rw_iLii Args.S) = (rows rw_iLii ([(oK, oP, oS, oR)] ++ Args.S)),
    Nat.add 1 (Args.S).length = (([(oK, oP, oS, oR)] ++ Args.S)).length,
    G_stylesStyleq2 ([(oK, oP, oS, oR)] ++ Args.S) (Nat.add big 4) kind c11_,
    FlatB (.cells (layT (rows rw_iLii ([(oK, oP, oS, oR)] ++ Args.S))) 27),
    FlatB (.cells (layT (rows rw_iLii ([(oK, oP, oS, oR)] ++ Args.S))) 27),
    (Value.bool (c11_ != c6_)) = (Value.bool false),
    CG P none (fnN P 4) 0 (codeOf P 4 [false, true, false, true, true, true, true, true]) (S_viewportlaw26StylesOthers_1 kind c6_ 0) (X_viewportlaw26StylesOthers_1 kind c6_ (.inr ())),
    (Args.A).length = (Args.A).length,
    rdL (iv Args.A) (Nat.mul (Args.A).length 1) 0 = some (iv Args.A),
    0 < (Args.A).length,
    0 < big,
    0 < Nat.add 0 (Args.A).length,
    rdT (layT ([] : List Value)) (Nat.mul 0 1) 0 = some (([] : List Value)),
    fits (Nat.add 0 (Args.A).length) 8 = true,
    ([] : List Value) ++ (iv Args.A) = (iv (([] : List Int) ++ Args.A)),
    Nat.add 0 (Args.A).length = ((([] : List Int) ++ Args.A)).length,
    (Args.Y).length = (Args.Y).length,
    rdL (iv Args.Y) (Nat.mul (Args.Y).length 1) 0 = some (iv Args.Y),
    0 < (Args.Y).length,
    rdT (layT (iv (([] : List Int) ++ Args.A))) (Nat.mul ((([] : List Int) ++ Args.A)).length 1) 0 = some (iv (([] : List Int) ++ Args.A)),
    fits (Nat.add ((([] : List Int) ++ Args.A)).length (Args.Y).length) 8 = true,
    allCells (iv Args.Y) = true,
    allCells (iv (([] : List Int) ++ Args.A)) = true,
    iv (([] : List Int) ++ Args.A) ++ (iv Args.Y) = (iv ((([] : List Int) ++ Args.A) ++ Args.Y)),
    Nat.add ((([] : List Int) ++ Args.A)).length (Args.Y).length = (((([] : List Int) ++ Args.A) ++ Args.Y)).length,
    G_stylesStyleq3 kind ((([] : List Int) ++ Args.A) ++ Args.Y) c19_,
    FlatB (.cells (layT (iv ((([] : List Int) ++ Args.A) ++ Args.Y))) 3),
    FlatB (.cells (layT (iv ((([] : List Int) ++ Args.A) ++ Args.Y))) 3),
    (Value.bool (c19_ == c6_)) = (Value.bool true)]) (by kernel_rfl) ⟨(m_viewportlaw26lives_ok n () hc1), (m_viewportlaw26lightq1_ok n c2_ hc2), (vBn hc3), (vbF hc4), (vbF hc5), (m_stylesStyleq1_ok n kind c6_ hc6), (vnT hc7), (rfl), (rdL_rows rwf_iLii _ _ rfl), (hc8), ((by decide)), (hc10), (rfl), (fits_ok hc9 (by have := hc9; show (_ : Nat) + _ ≤ _; omega)), (rows_app rw_iLii [(oK, oP, oS, oR)] Args.S), (by simp <;> omega), (m_stylesStyleq2_ok n ([(oK, oP, oS, oR)] ++ Args.S) (Nat.add big 4) kind c11_ hc11), (rows_flat rwf_iLii _ _), (rows_flat rwf_iLii _ _), (vnF hc12), (m_viewportlaw26StylesOthers_1_ok n kind c6_ 0 (.inr ()) hc13), (rfl), (rdL_iv _ _ rfl), (hc14), ((by decide)), (hc16), (rfl), (fits_ok hc15 (by have := hc15; show (_ : Nat) + _ ≤ _; omega)), (by simp [iv]), (by simp <;> omega), (rfl), (rdL_iv _ _ rfl), (hc17), (iv_rd _), (fits_ok hc18 (by have := hc18; show (_ : Nat) + _ ≤ _; omega)), (iv_cells _), (iv_cells _), (by simp [iv]), (by simp <;> omega), (m_stylesStyleq3_ok n kind ((([] : List Int) ++ Args.A) ++ Args.Y) c19_ hc19), (iv_flat _ _), (iv_flat _ _), (veT hc20), trivial⟩
set_option maxRecDepth 100000 in
theorem p_viewportlaw26StylesOthers_9 (n : Nat) (kind : Int) (oK : Int) (oP : NL) (oS : Int) (oR : Int) (hc1 : m_viewportlaw26lives n = some ()) (c2_ : Bool) (hc2 : m_viewportlaw26lightq1 n = some c2_) (hc3 : c2_ = true) (hc4 : ¬ ((((Args.A).length : Nat) : Int) > (40 : Int))) (hc5 : ¬ ((((oP).l.length : Nat) : Int) > (20 : Int))) (c6_ : Int) (hc6 : m_stylesStyleq1 n kind = some c6_) (hc7 : ¬ (oK = kind)) (hc8 : 0 < (Args.S).length) (hc9 : (1 + (Args.S).length) * 48 ≤ 140737488355328) (hc10 : 1 < 1 + (Args.S).length) (c11_ : Int) (hc11 : m_stylesStyleq2 n ([(oK, oP, oS, oR)] ++ Args.S) (Nat.add big 4) kind = some c11_) (hc12 : c11_ = c6_) (hc13 : m_viewportlaw26StylesOthers_1 n kind c6_ 0 = some (.inr ())) (hc14 : 0 < (Args.A).length) (hc15 : (0 + (Args.A).length) * 8 ≤ 140737488355328) (hc16 : 0 < 0 + (Args.A).length) (hc17 : ¬ (0 < (Args.Y).length)) (hc18 : ((([] : List Int) ++ Args.A)).length * 8 ≤ 140737488355328) (c19_ : Int) (hc19 : m_stylesStyleq3 n kind (([] : List Int) ++ Args.A) = some c19_) (hc20 : c19_ = c6_) : G_viewportlaw26StylesOthers kind oK oP oS oR () :=
  runF_ok hm (A := aT [(5, .call ⟨0, [], (Value.bool true), Ax.h0, []⟩), (12, .call ⟨0, [], (V_viewportlaw26lightq1  c2_), (R_viewportlaw26lightq1  c2_), []⟩), (13, .val (.bool false)), (17, .val (.bool false)), (23, .val (.bool false)), (30, .call ⟨0, [], (V_stylesStyleq1 kind c6_), (R_stylesStyleq1 kind c6_), []⟩), (37, .val (.bool true)), (42, .app ⟨some ((Args.S).length, (rows rw_iLii Args.S)), [(Value.int .i64 oK), (nlV oP), (Value.int .i64 oS), (Value.int .i64 oR)], (rows rw_iLii ([(oK, oP, oS, oR)] ++ Args.S)), (([(oK, oP, oS, oR)] ++ Args.S)).length, true⟩), (45, .call ⟨1, [(0, 2, true)], (V_stylesStyleq2 ([(oK, oP, oS, oR)] ++ Args.S) (Nat.add big 4) kind c11_), (R_stylesStyleq2 ([(oK, oP, oS, oR)] ++ Args.S) (Nat.add big 4) kind c11_), [(2, 0, true)]⟩), (47, .val (.bool false)), (60, .app ⟨some ((Args.A).length, (iv Args.A)), ([] : List Value), (iv (([] : List Int) ++ Args.A)), ((([] : List Int) ++ Args.A)).length, true⟩), (62, .app0), (63, .call ⟨1, [(0, 1, true)], (V_stylesStyleq3 kind (([] : List Int) ++ Args.A) c19_), (R_stylesStyleq3 kind (([] : List Int) ++ Args.A) c19_), [(1, 0, true)]⟩), (65, .val (.bool true))]) (L := lT [(54, ⟨⟨[0, 1, 2, 4, 11, 12], [], 0, 0⟩, (X_viewportlaw26StylesOthers_1 kind c6_ (.inr ())).1, (X_viewportlaw26StylesOthers_1 kind c6_ (.inr ())).2⟩)]) (wk := ⟨[10], [], 0, 0⟩)
    (ps := [Gv P (.func 5) [] Ax.h0 (Value.bool true) Ax.h0,
    G_viewportlaw26lightq1  c2_,
    (Value.bool (!c2_)) = (Value.bool false),
    (Value.bool (decide ((((Args.A).length : Nat) : Int) > (40 : Int)))) = (Value.bool false),
    (Value.bool (decide ((((oP).l.length : Nat) : Int) > (20 : Int)))) = (Value.bool false),
    G_stylesStyleq1 kind c6_,
    (Value.bool (oK != kind)) = (Value.bool true),
    (Args.S).length = (Args.S).length,
    rdL (rows rw_iLii Args.S) (Nat.mul (Args.S).length 4) 0 = some (rows rw_iLii Args.S),
    0 < (Args.S).length,
    1 < big,
    1 < Nat.add 1 (Args.S).length,
    rdT (layT [(Value.int .i64 oK), (nlV oP), (Value.int .i64 oS), (Value.int .i64 oR)]) (Nat.mul 1 4) 0 = some ([(Value.int .i64 oK), (nlV oP), (Value.int .i64 oS), (Value.int .i64 oR)]),
    fits (Nat.add 1 (Args.S).length) 48 = true,
    [(Value.int .i64 oK), (nlV oP), (Value.int .i64 oS), (Value.int .i64 oR)] ++ (rows rw_iLii Args.S) = (rows rw_iLii ([(oK, oP, oS, oR)] ++ Args.S)),
    Nat.add 1 (Args.S).length = (([(oK, oP, oS, oR)] ++ Args.S)).length,
    G_stylesStyleq2 ([(oK, oP, oS, oR)] ++ Args.S) (Nat.add big 4) kind c11_,
    FlatB (.cells (layT (rows rw_iLii ([(oK, oP, oS, oR)] ++ Args.S))) 27),
    FlatB (.cells (layT (rows rw_iLii ([(oK, oP, oS, oR)] ++ Args.S))) 27),
    (Value.bool (c11_ != c6_)) = (Value.bool false),
    CG P none (fnN P 4) 0 (codeOf P 4 [false, true, false, true, true, true, true, true]) (S_viewportlaw26StylesOthers_1 kind c6_ 0) (X_viewportlaw26StylesOthers_1 kind c6_ (.inr ())),
    (Args.A).length = (Args.A).length,
    rdL (iv Args.A) (Nat.mul (Args.A).length 1) 0 = some (iv Args.A),
    0 < (Args.A).length,
    0 < big,
    0 < Nat.add 0 (Args.A).length,
    rdT (layT ([] : List Value)) (Nat.mul 0 1) 0 = some (([] : List Value)),
    fits (Nat.add 0 (Args.A).length) 8 = true,
    ([] : List Value) ++ (iv Args.A) = (iv (([] : List Int) ++ Args.A)),
    Nat.add 0 (Args.A).length = ((([] : List Int) ++ Args.A)).length,
    srcB P Ax.h0 1 (Value.slice (some ⟨1, 0, some 1⟩) (Args.Y).length Args.cY) = some (0, []),
    ∀ H : AH, appTop H 1 3 8 (0, []) (Value.slice (some ⟨1, 0, none⟩) ((([] : List Int) ++ Args.A)).length (Nat.add big 1)) = some ((Value.slice (some ⟨1, 0, none⟩) ((([] : List Int) ++ Args.A)).length (Nat.add big 1)), H),
    G_stylesStyleq3 kind (([] : List Int) ++ Args.A) c19_,
    FlatB (.cells (layT (iv (([] : List Int) ++ Args.A))) 3),
    FlatB (.cells (layT (iv (([] : List Int) ++ Args.A))) 3),
    (Value.bool (c19_ == c6_)) = (Value.bool true)]) (by kernel_rfl) ⟨(m_viewportlaw26lives_ok n () hc1), (m_viewportlaw26lightq1_ok n c2_ hc2), (vBn hc3), (vbF hc4), (vbF hc5), (m_stylesStyleq1_ok n kind c6_ hc6), (vnT hc7), (rfl), (rdL_rows rwf_iLii _ _ rfl), (hc8), ((by decide)), (hc10), (rfl), (fits_ok hc9 (by have := hc9; show (_ : Nat) + _ ≤ _; omega)), (rows_app rw_iLii [(oK, oP, oS, oR)] Args.S), (by simp <;> omega), (m_stylesStyleq2_ok n ([(oK, oP, oS, oR)] ++ Args.S) (Nat.add big 4) kind c11_ hc11), (rows_flat rwf_iLii _ _), (rows_flat rwf_iLii _ _), (vnF hc12), (m_viewportlaw26StylesOthers_1_ok n kind c6_ 0 (.inr ()) hc13), (rfl), (rdL_iv _ _ rfl), (hc14), ((by decide)), (hc16), (rfl), (fits_ok hc15 (by have := hc15; show (_ : Nat) + _ ≤ _; omega)), (by simp [iv]), (by simp <;> omega), (src0W rfl (by have := hc17; omega)), (fun H => top0 (by decide) (by have := hc18; show (_ : Nat) ≤ 1180591620717411303424 + 1; omega) H), (m_stylesStyleq3_ok n kind (([] : List Int) ++ Args.A) c19_ hc19), (iv_flat _ _), (iv_flat _ _), (veT hc20), trivial⟩
set_option maxRecDepth 100000 in
theorem p_viewportlaw26StylesOthers_10 (n : Nat) (kind : Int) (oK : Int) (oP : NL) (oS : Int) (oR : Int) (hc1 : m_viewportlaw26lives n = some ()) (c2_ : Bool) (hc2 : m_viewportlaw26lightq1 n = some c2_) (hc3 : c2_ = true) (hc4 : ¬ ((((Args.A).length : Nat) : Int) > (40 : Int))) (hc5 : ¬ ((((oP).l.length : Nat) : Int) > (20 : Int))) (c6_ : Int) (hc6 : m_stylesStyleq1 n kind = some c6_) (hc7 : ¬ (oK = kind)) (hc8 : 0 < (Args.S).length) (hc9 : (1 + (Args.S).length) * 48 ≤ 140737488355328) (hc10 : 1 < 1 + (Args.S).length) (c11_ : Int) (hc11 : m_stylesStyleq2 n ([(oK, oP, oS, oR)] ++ Args.S) (Nat.add big 4) kind = some c11_) (hc12 : c11_ = c6_) (hc13 : m_viewportlaw26StylesOthers_1 n kind c6_ 0 = some (.inr ())) (hc14 : ¬ (0 < (Args.A).length)) (hc15 : 0 < (Args.Y).length) (hc16 : (0 + (Args.Y).length) * 8 ≤ 140737488355328) (hc17 : 0 < 0 + (Args.Y).length) (c18_ : Int) (hc18 : m_stylesStyleq3 n kind (([] : List Int) ++ Args.Y) = some c18_) (hc19 : c18_ = c6_) : G_viewportlaw26StylesOthers kind oK oP oS oR () :=
  runF_ok hm (A := aT [(5, .call ⟨0, [], (Value.bool true), Ax.h0, []⟩), (12, .call ⟨0, [], (V_viewportlaw26lightq1  c2_), (R_viewportlaw26lightq1  c2_), []⟩), (13, .val (.bool false)), (17, .val (.bool false)), (23, .val (.bool false)), (30, .call ⟨0, [], (V_stylesStyleq1 kind c6_), (R_stylesStyleq1 kind c6_), []⟩), (37, .val (.bool true)), (42, .app ⟨some ((Args.S).length, (rows rw_iLii Args.S)), [(Value.int .i64 oK), (nlV oP), (Value.int .i64 oS), (Value.int .i64 oR)], (rows rw_iLii ([(oK, oP, oS, oR)] ++ Args.S)), (([(oK, oP, oS, oR)] ++ Args.S)).length, true⟩), (45, .call ⟨1, [(0, 2, true)], (V_stylesStyleq2 ([(oK, oP, oS, oR)] ++ Args.S) (Nat.add big 4) kind c11_), (R_stylesStyleq2 ([(oK, oP, oS, oR)] ++ Args.S) (Nat.add big 4) kind c11_), [(2, 0, true)]⟩), (47, .val (.bool false)), (60, .app0), (62, .app ⟨some ((Args.Y).length, (iv Args.Y)), ([] : List Value), (iv (([] : List Int) ++ Args.Y)), ((([] : List Int) ++ Args.Y)).length, true⟩), (63, .call ⟨1, [(0, 1, true)], (V_stylesStyleq3 kind (([] : List Int) ++ Args.Y) c18_), (R_stylesStyleq3 kind (([] : List Int) ++ Args.Y) c18_), [(1, 0, true)]⟩), (65, .val (.bool true))]) (L := lT [(54, ⟨⟨[0, 1, 2, 4, 11, 12], [], 0, 0⟩, (X_viewportlaw26StylesOthers_1 kind c6_ (.inr ())).1, (X_viewportlaw26StylesOthers_1 kind c6_ (.inr ())).2⟩)]) (wk := ⟨[10], [], 0, 0⟩)
    (ps := [Gv P (.func 5) [] Ax.h0 (Value.bool true) Ax.h0,
    G_viewportlaw26lightq1  c2_,
    (Value.bool (!c2_)) = (Value.bool false),
    (Value.bool (decide ((((Args.A).length : Nat) : Int) > (40 : Int)))) = (Value.bool false),
    (Value.bool (decide ((((oP).l.length : Nat) : Int) > (20 : Int)))) = (Value.bool false),
    G_stylesStyleq1 kind c6_,
    (Value.bool (oK != kind)) = (Value.bool true),
    (Args.S).length = (Args.S).length,
    rdL (rows rw_iLii Args.S) (Nat.mul (Args.S).length 4) 0 = some (rows rw_iLii Args.S),
    0 < (Args.S).length,
    1 < big,
    1 < Nat.add 1 (Args.S).length,
    rdT (layT [(Value.int .i64 oK), (nlV oP), (Value.int .i64 oS), (Value.int .i64 oR)]) (Nat.mul 1 4) 0 = some ([(Value.int .i64 oK), (nlV oP), (Value.int .i64 oS), (Value.int .i64 oR)]),
    fits (Nat.add 1 (Args.S).length) 48 = true,
    [(Value.int .i64 oK), (nlV oP), (Value.int .i64 oS), (Value.int .i64 oR)] ++ (rows rw_iLii Args.S) = (rows rw_iLii ([(oK, oP, oS, oR)] ++ Args.S)),
    Nat.add 1 (Args.S).length = (([(oK, oP, oS, oR)] ++ Args.S)).length,
    G_stylesStyleq2 ([(oK, oP, oS, oR)] ++ Args.S) (Nat.add big 4) kind c11_,
    FlatB (.cells (layT (rows rw_iLii ([(oK, oP, oS, oR)] ++ Args.S))) 27),
    FlatB (.cells (layT (rows rw_iLii ([(oK, oP, oS, oR)] ++ Args.S))) 27),
    (Value.bool (c11_ != c6_)) = (Value.bool false),
    CG P none (fnN P 4) 0 (codeOf P 4 [false, true, false, true, true, true, true, true]) (S_viewportlaw26StylesOthers_1 kind c6_ 0) (X_viewportlaw26StylesOthers_1 kind c6_ (.inr ())),
    srcB P Ax.h0 1 (Value.slice (some ⟨2, 0, some 1⟩) (Args.A).length Args.cA) = some (0, []),
    ∀ H : AH, appTop H 1 3 8 (0, []) (Value.slice (some ⟨0, 0, none⟩) 0 0) = some ((Value.slice (some ⟨0, 0, none⟩) 0 0), H),
    (Args.Y).length = (Args.Y).length,
    rdL (iv Args.Y) (Nat.mul (Args.Y).length 1) 0 = some (iv Args.Y),
    0 < (Args.Y).length,
    0 < big,
    0 < Nat.add 0 (Args.Y).length,
    rdT (layT ([] : List Value)) (Nat.mul 0 1) 0 = some (([] : List Value)),
    fits (Nat.add 0 (Args.Y).length) 8 = true,
    ([] : List Value) ++ (iv Args.Y) = (iv (([] : List Int) ++ Args.Y)),
    Nat.add 0 (Args.Y).length = ((([] : List Int) ++ Args.Y)).length,
    G_stylesStyleq3 kind (([] : List Int) ++ Args.Y) c18_,
    FlatB (.cells (layT (iv (([] : List Int) ++ Args.Y))) 3),
    FlatB (.cells (layT (iv (([] : List Int) ++ Args.Y))) 3),
    (Value.bool (c18_ == c6_)) = (Value.bool true)]) (by kernel_rfl) ⟨(m_viewportlaw26lives_ok n () hc1), (m_viewportlaw26lightq1_ok n c2_ hc2), (vBn hc3), (vbF hc4), (vbF hc5), (m_stylesStyleq1_ok n kind c6_ hc6), (vnT hc7), (rfl), (rdL_rows rwf_iLii _ _ rfl), (hc8), ((by decide)), (hc10), (rfl), (fits_ok hc9 (by have := hc9; show (_ : Nat) + _ ≤ _; omega)), (rows_app rw_iLii [(oK, oP, oS, oR)] Args.S), (by simp <;> omega), (m_stylesStyleq2_ok n ([(oK, oP, oS, oR)] ++ Args.S) (Nat.add big 4) kind c11_ hc11), (rows_flat rwf_iLii _ _), (rows_flat rwf_iLii _ _), (vnF hc12), (m_viewportlaw26StylesOthers_1_ok n kind c6_ 0 (.inr ()) hc13), (src0W rfl (by have := hc14; omega)), (fun _ => rfl), (rfl), (rdL_iv _ _ rfl), (hc15), ((by decide)), (hc17), (rfl), (fits_ok hc16 (by have := hc16; show (_ : Nat) + _ ≤ _; omega)), (by simp [iv]), (by simp <;> omega), (m_stylesStyleq3_ok n kind (([] : List Int) ++ Args.Y) c18_ hc18), (iv_flat _ _), (iv_flat _ _), (veT hc19), trivial⟩
set_option maxRecDepth 100000 in
theorem p_viewportlaw26StylesOthers_11 (n : Nat) (kind : Int) (oK : Int) (oP : NL) (oS : Int) (oR : Int) (hc1 : m_viewportlaw26lives n = some ()) (c2_ : Bool) (hc2 : m_viewportlaw26lightq1 n = some c2_) (hc3 : c2_ = true) (hc4 : ¬ ((((Args.A).length : Nat) : Int) > (40 : Int))) (hc5 : ¬ ((((oP).l.length : Nat) : Int) > (20 : Int))) (c6_ : Int) (hc6 : m_stylesStyleq1 n kind = some c6_) (hc7 : ¬ (oK = kind)) (hc8 : 0 < (Args.S).length) (hc9 : (1 + (Args.S).length) * 48 ≤ 140737488355328) (hc10 : 1 < 1 + (Args.S).length) (c11_ : Int) (hc11 : m_stylesStyleq2 n ([(oK, oP, oS, oR)] ++ Args.S) (Nat.add big 4) kind = some c11_) (hc12 : c11_ = c6_) (hc13 : m_viewportlaw26StylesOthers_1 n kind c6_ 0 = some (.inr ())) (hc14 : ¬ (0 < (Args.A).length)) (hc15 : ¬ (0 < (Args.Y).length)) (c16_ : Int) (hc16 : m_stylesStyleq4 n kind = some c16_) (hc17 : c16_ = c6_) : G_viewportlaw26StylesOthers kind oK oP oS oR () :=
  runF_ok hm (A := aT [(5, .call ⟨0, [], (Value.bool true), Ax.h0, []⟩), (12, .call ⟨0, [], (V_viewportlaw26lightq1  c2_), (R_viewportlaw26lightq1  c2_), []⟩), (13, .val (.bool false)), (17, .val (.bool false)), (23, .val (.bool false)), (30, .call ⟨0, [], (V_stylesStyleq1 kind c6_), (R_stylesStyleq1 kind c6_), []⟩), (37, .val (.bool true)), (42, .app ⟨some ((Args.S).length, (rows rw_iLii Args.S)), [(Value.int .i64 oK), (nlV oP), (Value.int .i64 oS), (Value.int .i64 oR)], (rows rw_iLii ([(oK, oP, oS, oR)] ++ Args.S)), (([(oK, oP, oS, oR)] ++ Args.S)).length, true⟩), (45, .call ⟨1, [(0, 2, true)], (V_stylesStyleq2 ([(oK, oP, oS, oR)] ++ Args.S) (Nat.add big 4) kind c11_), (R_stylesStyleq2 ([(oK, oP, oS, oR)] ++ Args.S) (Nat.add big 4) kind c11_), [(2, 0, true)]⟩), (47, .val (.bool false)), (60, .app0), (62, .app0), (63, .call ⟨1, [(0, 0, false)], (V_stylesStyleq4 kind c16_), (R_stylesStyleq4 kind c16_), [(0, 0, false)]⟩), (65, .val (.bool true))]) (L := lT [(54, ⟨⟨[0, 1, 2, 4, 11, 12], [], 0, 0⟩, (X_viewportlaw26StylesOthers_1 kind c6_ (.inr ())).1, (X_viewportlaw26StylesOthers_1 kind c6_ (.inr ())).2⟩)]) (wk := ⟨[10], [], 0, 0⟩)
    (ps := [Gv P (.func 5) [] Ax.h0 (Value.bool true) Ax.h0,
    G_viewportlaw26lightq1  c2_,
    (Value.bool (!c2_)) = (Value.bool false),
    (Value.bool (decide ((((Args.A).length : Nat) : Int) > (40 : Int)))) = (Value.bool false),
    (Value.bool (decide ((((oP).l.length : Nat) : Int) > (20 : Int)))) = (Value.bool false),
    G_stylesStyleq1 kind c6_,
    (Value.bool (oK != kind)) = (Value.bool true),
    (Args.S).length = (Args.S).length,
    rdL (rows rw_iLii Args.S) (Nat.mul (Args.S).length 4) 0 = some (rows rw_iLii Args.S),
    0 < (Args.S).length,
    1 < big,
    1 < Nat.add 1 (Args.S).length,
    rdT (layT [(Value.int .i64 oK), (nlV oP), (Value.int .i64 oS), (Value.int .i64 oR)]) (Nat.mul 1 4) 0 = some ([(Value.int .i64 oK), (nlV oP), (Value.int .i64 oS), (Value.int .i64 oR)]),
    fits (Nat.add 1 (Args.S).length) 48 = true,
    [(Value.int .i64 oK), (nlV oP), (Value.int .i64 oS), (Value.int .i64 oR)] ++ (rows rw_iLii Args.S) = (rows rw_iLii ([(oK, oP, oS, oR)] ++ Args.S)),
    Nat.add 1 (Args.S).length = (([(oK, oP, oS, oR)] ++ Args.S)).length,
    G_stylesStyleq2 ([(oK, oP, oS, oR)] ++ Args.S) (Nat.add big 4) kind c11_,
    FlatB (.cells (layT (rows rw_iLii ([(oK, oP, oS, oR)] ++ Args.S))) 27),
    FlatB (.cells (layT (rows rw_iLii ([(oK, oP, oS, oR)] ++ Args.S))) 27),
    (Value.bool (c11_ != c6_)) = (Value.bool false),
    CG P none (fnN P 4) 0 (codeOf P 4 [false, true, false, true, true, true, true, true]) (S_viewportlaw26StylesOthers_1 kind c6_ 0) (X_viewportlaw26StylesOthers_1 kind c6_ (.inr ())),
    srcB P Ax.h0 1 (Value.slice (some ⟨2, 0, some 1⟩) (Args.A).length Args.cA) = some (0, []),
    ∀ H : AH, appTop H 1 3 8 (0, []) (Value.slice (some ⟨0, 0, none⟩) 0 0) = some ((Value.slice (some ⟨0, 0, none⟩) 0 0), H),
    srcB P Ax.h0 1 (Value.slice (some ⟨1, 0, some 1⟩) (Args.Y).length Args.cY) = some (0, []),
    ∀ H : AH, appTop H 1 3 8 (0, []) (Value.slice (some ⟨0, 0, none⟩) 0 0) = some ((Value.slice (some ⟨0, 0, none⟩) 0 0), H),
    G_stylesStyleq4 kind c16_,
    (Value.bool (c16_ == c6_)) = (Value.bool true)]) (by kernel_rfl) ⟨(m_viewportlaw26lives_ok n () hc1), (m_viewportlaw26lightq1_ok n c2_ hc2), (vBn hc3), (vbF hc4), (vbF hc5), (m_stylesStyleq1_ok n kind c6_ hc6), (vnT hc7), (rfl), (rdL_rows rwf_iLii _ _ rfl), (hc8), ((by decide)), (hc10), (rfl), (fits_ok hc9 (by have := hc9; show (_ : Nat) + _ ≤ _; omega)), (rows_app rw_iLii [(oK, oP, oS, oR)] Args.S), (by simp <;> omega), (m_stylesStyleq2_ok n ([(oK, oP, oS, oR)] ++ Args.S) (Nat.add big 4) kind c11_ hc11), (rows_flat rwf_iLii _ _), (rows_flat rwf_iLii _ _), (vnF hc12), (m_viewportlaw26StylesOthers_1_ok n kind c6_ 0 (.inr ()) hc13), (src0W rfl (by have := hc14; omega)), (fun _ => rfl), (src0W rfl (by have := hc15; omega)), (fun _ => rfl), (m_stylesStyleq4_ok n kind c16_ hc16), (veT hc17), trivial⟩
set_option maxRecDepth 100000 in
theorem p_viewportlaw26StylesOthers_12 (n : Nat) (kind : Int) (oK : Int) (oP : NL) (oS : Int) (oR : Int) (hc1 : m_viewportlaw26lives n = some ()) (c2_ : Bool) (hc2 : m_viewportlaw26lightq1 n = some c2_) (hc3 : c2_ = true) (hc4 : ¬ ((((Args.A).length : Nat) : Int) > (40 : Int))) (hc5 : ¬ ((((oP).l.length : Nat) : Int) > (20 : Int))) (c6_ : Int) (hc6 : m_stylesStyleq1 n kind = some c6_) (hc7 : ¬ (oK = kind)) (hc8 : ¬ (0 < (Args.S).length)) (c9_ : Int) (hc9 : m_stylesStyleq2 n [(oK, oP, oS, oR)] 1 kind = some c9_) (hc10 : c9_ = c6_) (hc11 : m_viewportlaw26StylesOthers_1 n kind c6_ 0 = some (.inl ())) : G_viewportlaw26StylesOthers kind oK oP oS oR () :=
  runF_ok hm (A := aT [(5, .call ⟨0, [], (Value.bool true), Ax.h0, []⟩), (12, .call ⟨0, [], (V_viewportlaw26lightq1  c2_), (R_viewportlaw26lightq1  c2_), []⟩), (13, .val (.bool false)), (17, .val (.bool false)), (23, .val (.bool false)), (30, .call ⟨0, [], (V_stylesStyleq1 kind c6_), (R_stylesStyleq1 kind c6_), []⟩), (37, .val (.bool true)), (42, .app0), (45, .call ⟨1, [(0, 1, false)], (V_stylesStyleq2 [(oK, oP, oS, oR)] 1 kind c9_), (R_stylesStyleq2 [(oK, oP, oS, oR)] 1 kind c9_), [(1, 0, true)]⟩), (47, .val (.bool false))]) (L := lT [(54, ⟨⟨[0, 1, 2, 4, 11, 12], [], 0, 0⟩, (X_viewportlaw26StylesOthers_1 kind c6_ (.inl ())).1, (X_viewportlaw26StylesOthers_1 kind c6_ (.inl ())).2⟩)]) (wk := ⟨[10], [], 0, 0⟩)
    (ps := [Gv P (.func 5) [] Ax.h0 (Value.bool true) Ax.h0,
    G_viewportlaw26lightq1  c2_,
    (Value.bool (!c2_)) = (Value.bool false),
    (Value.bool (decide ((((Args.A).length : Nat) : Int) > (40 : Int)))) = (Value.bool false),
    (Value.bool (decide ((((oP).l.length : Nat) : Int) > (20 : Int)))) = (Value.bool false),
    G_stylesStyleq1 kind c6_,
    (Value.bool (oK != kind)) = (Value.bool true),
    srcB P Ax.h0 4 (Value.slice (some ⟨0, 0, some 1⟩) (Args.S).length Args.cS) = some (0, []),
    ∀ H : AH, appTop H 4 27 48 (0, []) (Value.slice (some ⟨1, 0, none⟩) 1 1) = some ((Value.slice (some ⟨1, 0, none⟩) 1 1), H),
    G_stylesStyleq2 [(oK, oP, oS, oR)] 1 kind c9_,
    FlatB (.cells (layT (rows rw_iLii [(oK, oP, oS, oR)])) 27),
    (Value.bool (c9_ != c6_)) = (Value.bool false),
    CG P none (fnN P 4) 0 (codeOf P 4 [false, true, false, true, true, true, true, true]) (S_viewportlaw26StylesOthers_1 kind c6_ 0) (X_viewportlaw26StylesOthers_1 kind c6_ (.inl ()))]) (by kernel_rfl) ⟨(m_viewportlaw26lives_ok n () hc1), (m_viewportlaw26lightq1_ok n c2_ hc2), (vBn hc3), (vbF hc4), (vbF hc5), (m_stylesStyleq1_ok n kind c6_ hc6), (vnT hc7), (src0W rfl (by have := hc8; omega)), (fun _ => rfl), (m_stylesStyleq2_ok n [(oK, oP, oS, oR)] 1 kind c9_ hc9), (rows_flat rwf_iLii _ _), (vnF hc10), (m_viewportlaw26StylesOthers_1_ok n kind c6_ 0 (.inl ()) hc11), trivial⟩
set_option maxRecDepth 100000 in
theorem p_viewportlaw26StylesOthers_13 (n : Nat) (kind : Int) (oK : Int) (oP : NL) (oS : Int) (oR : Int) (hc1 : m_viewportlaw26lives n = some ()) (c2_ : Bool) (hc2 : m_viewportlaw26lightq1 n = some c2_) (hc3 : c2_ = true) (hc4 : ¬ ((((Args.A).length : Nat) : Int) > (40 : Int))) (hc5 : ¬ ((((oP).l.length : Nat) : Int) > (20 : Int))) (c6_ : Int) (hc6 : m_stylesStyleq1 n kind = some c6_) (hc7 : ¬ (oK = kind)) (hc8 : ¬ (0 < (Args.S).length)) (c9_ : Int) (hc9 : m_stylesStyleq2 n [(oK, oP, oS, oR)] 1 kind = some c9_) (hc10 : c9_ = c6_) (hc11 : m_viewportlaw26StylesOthers_1 n kind c6_ 0 = some (.inr ())) (hc12 : 0 < (Args.A).length) (hc13 : (0 + (Args.A).length) * 8 ≤ 140737488355328) (hc14 : 0 < 0 + (Args.A).length) (hc15 : 0 < (Args.Y).length) (hc16 : (((([] : List Int) ++ Args.A)).length + (Args.Y).length) * 8 ≤ 140737488355328) (c17_ : Int) (hc17 : m_stylesStyleq3 n kind ((([] : List Int) ++ Args.A) ++ Args.Y) = some c17_) (hc18 : c17_ = c6_) : G_viewportlaw26StylesOthers kind oK oP oS oR () :=
  runF_ok hm (A := aT [(5, .call ⟨0, [], (Value.bool true), Ax.h0, []⟩), (12, .call ⟨0, [], (V_viewportlaw26lightq1  c2_), (R_viewportlaw26lightq1  c2_), []⟩), (13, .val (.bool false)), (17, .val (.bool false)), (23, .val (.bool false)), (30, .call ⟨0, [], (V_stylesStyleq1 kind c6_), (R_stylesStyleq1 kind c6_), []⟩), (37, .val (.bool true)), (42, .app0), (45, .call ⟨1, [(0, 1, false)], (V_stylesStyleq2 [(oK, oP, oS, oR)] 1 kind c9_), (R_stylesStyleq2 [(oK, oP, oS, oR)] 1 kind c9_), [(1, 0, true)]⟩), (47, .val (.bool false)), (60, .app ⟨some ((Args.A).length, (iv Args.A)), ([] : List Value), (iv (([] : List Int) ++ Args.A)), ((([] : List Int) ++ Args.A)).length, true⟩), (62, .app ⟨some ((Args.Y).length, (iv Args.Y)), iv (([] : List Int) ++ Args.A), (iv ((([] : List Int) ++ Args.A) ++ Args.Y)), (((([] : List Int) ++ Args.A) ++ Args.Y)).length, false⟩), (63, .call ⟨1, [(0, 2, true)], (V_stylesStyleq3 kind ((([] : List Int) ++ Args.A) ++ Args.Y) c17_), (R_stylesStyleq3 kind ((([] : List Int) ++ Args.A) ++ Args.Y) c17_), [(2, 0, true)]⟩), (65, .val (.bool true))]) (L := lT [(54, ⟨⟨[0, 1, 2, 4, 11, 12], [], 0, 0⟩, (X_viewportlaw26StylesOthers_1 kind c6_ (.inr ())).1, (X_viewportlaw26StylesOthers_1 kind c6_ (.inr ())).2⟩)]) (wk := ⟨[10], [], 0, 0⟩)
    (ps := [Gv P (.func 5) [] Ax.h0 (Value.bool true) Ax.h0,
    G_viewportlaw26lightq1  c2_,
    (Value.bool (!c2_)) = (Value.bool false),
    (Value.bool (decide ((((Args.A).length : Nat) : Int) > (40 : Int)))) = (Value.bool false),
    (Value.bool (decide ((((oP).l.length : Nat) : Int) > (20 : Int)))) = (Value.bool false),
    G_stylesStyleq1 kind c6_,
    (Value.bool (oK != kind)) = (Value.bool true),
    srcB P Ax.h0 4 (Value.slice (some ⟨0, 0, some 1⟩) (Args.S).length Args.cS) = some (0, []),
    ∀ H : AH, appTop H 4 27 48 (0, []) (Value.slice (some ⟨1, 0, none⟩) 1 1) = some ((Value.slice (some ⟨1, 0, none⟩) 1 1), H),
    G_stylesStyleq2 [(oK, oP, oS, oR)] 1 kind c9_,
    FlatB (.cells (layT (rows rw_iLii [(oK, oP, oS, oR)])) 27),
    (Value.bool (c9_ != c6_)) = (Value.bool false),
    CG P none (fnN P 4) 0 (codeOf P 4 [false, true, false, true, true, true, true, true]) (S_viewportlaw26StylesOthers_1 kind c6_ 0) (X_viewportlaw26StylesOthers_1 kind c6_ (.inr ())),
    (Args.A).length = (Args.A).length,
    rdL (iv Args.A) (Nat.mul (Args.A).length 1) 0 = some (iv Args.A),
    0 < (Args.A).length,
    0 < big,
    0 < Nat.add 0 (Args.A).length,
    rdT (layT ([] : List Value)) (Nat.mul 0 1) 0 = some (([] : List Value)),
    fits (Nat.add 0 (Args.A).length) 8 = true,
    ([] : List Value) ++ (iv Args.A) = (iv (([] : List Int) ++ Args.A)),
    Nat.add 0 (Args.A).length = ((([] : List Int) ++ Args.A)).length,
    (Args.Y).length = (Args.Y).length,
    rdL (iv Args.Y) (Nat.mul (Args.Y).length 1) 0 = some (iv Args.Y),
    0 < (Args.Y).length,
    rdT (layT (iv (([] : List Int) ++ Args.A))) (Nat.mul ((([] : List Int) ++ Args.A)).length 1) 0 = some (iv (([] : List Int) ++ Args.A)),
    fits (Nat.add ((([] : List Int) ++ Args.A)).length (Args.Y).length) 8 = true,
    allCells (iv Args.Y) = true,
    allCells (iv (([] : List Int) ++ Args.A)) = true,
    iv (([] : List Int) ++ Args.A) ++ (iv Args.Y) = (iv ((([] : List Int) ++ Args.A) ++ Args.Y)),
    Nat.add ((([] : List Int) ++ Args.A)).length (Args.Y).length = (((([] : List Int) ++ Args.A) ++ Args.Y)).length,
    G_stylesStyleq3 kind ((([] : List Int) ++ Args.A) ++ Args.Y) c17_,
    FlatB (.cells (layT (iv ((([] : List Int) ++ Args.A) ++ Args.Y))) 3),
    FlatB (.cells (layT (iv ((([] : List Int) ++ Args.A) ++ Args.Y))) 3),
    (Value.bool (c17_ == c6_)) = (Value.bool true)]) (by kernel_rfl) ⟨(m_viewportlaw26lives_ok n () hc1), (m_viewportlaw26lightq1_ok n c2_ hc2), (vBn hc3), (vbF hc4), (vbF hc5), (m_stylesStyleq1_ok n kind c6_ hc6), (vnT hc7), (src0W rfl (by have := hc8; omega)), (fun _ => rfl), (m_stylesStyleq2_ok n [(oK, oP, oS, oR)] 1 kind c9_ hc9), (rows_flat rwf_iLii _ _), (vnF hc10), (m_viewportlaw26StylesOthers_1_ok n kind c6_ 0 (.inr ()) hc11), (rfl), (rdL_iv _ _ rfl), (hc12), ((by decide)), (hc14), (rfl), (fits_ok hc13 (by have := hc13; show (_ : Nat) + _ ≤ _; omega)), (by simp [iv]), (by simp <;> omega), (rfl), (rdL_iv _ _ rfl), (hc15), (iv_rd _), (fits_ok hc16 (by have := hc16; show (_ : Nat) + _ ≤ _; omega)), (iv_cells _), (iv_cells _), (by simp [iv]), (by simp <;> omega), (m_stylesStyleq3_ok n kind ((([] : List Int) ++ Args.A) ++ Args.Y) c17_ hc17), (iv_flat _ _), (iv_flat _ _), (veT hc18), trivial⟩
set_option maxRecDepth 100000 in
theorem p_viewportlaw26StylesOthers_14 (n : Nat) (kind : Int) (oK : Int) (oP : NL) (oS : Int) (oR : Int) (hc1 : m_viewportlaw26lives n = some ()) (c2_ : Bool) (hc2 : m_viewportlaw26lightq1 n = some c2_) (hc3 : c2_ = true) (hc4 : ¬ ((((Args.A).length : Nat) : Int) > (40 : Int))) (hc5 : ¬ ((((oP).l.length : Nat) : Int) > (20 : Int))) (c6_ : Int) (hc6 : m_stylesStyleq1 n kind = some c6_) (hc7 : ¬ (oK = kind)) (hc8 : ¬ (0 < (Args.S).length)) (c9_ : Int) (hc9 : m_stylesStyleq2 n [(oK, oP, oS, oR)] 1 kind = some c9_) (hc10 : c9_ = c6_) (hc11 : m_viewportlaw26StylesOthers_1 n kind c6_ 0 = some (.inr ())) (hc12 : 0 < (Args.A).length) (hc13 : (0 + (Args.A).length) * 8 ≤ 140737488355328) (hc14 : 0 < 0 + (Args.A).length) (hc15 : ¬ (0 < (Args.Y).length)) (hc16 : ((([] : List Int) ++ Args.A)).length * 8 ≤ 140737488355328) (c17_ : Int) (hc17 : m_stylesStyleq3 n kind (([] : List Int) ++ Args.A) = some c17_) (hc18 : c17_ = c6_) : G_viewportlaw26StylesOthers kind oK oP oS oR () :=
  runF_ok hm (A := aT [(5, .call ⟨0, [], (Value.bool true), Ax.h0, []⟩), (12, .call ⟨0, [], (V_viewportlaw26lightq1  c2_), (R_viewportlaw26lightq1  c2_), []⟩), (13, .val (.bool false)), (17, .val (.bool false)), (23, .val (.bool false)), (30, .call ⟨0, [], (V_stylesStyleq1 kind c6_), (R_stylesStyleq1 kind c6_), []⟩), (37, .val (.bool true)), (42, .app0), (45, .call ⟨1, [(0, 1, false)], (V_stylesStyleq2 [(oK, oP, oS, oR)] 1 kind c9_), (R_stylesStyleq2 [(oK, oP, oS, oR)] 1 kind c9_), [(1, 0, true)]⟩), (47, .val (.bool false)), (60, .app ⟨some ((Args.A).length, (iv Args.A)), ([] : List Value), (iv (([] : List Int) ++ Args.A)), ((([] : List Int) ++ Args.A)).length, true⟩), (62, .app0), (63, .call ⟨1, [(0, 1, true)], (V_stylesStyleq3 kind (([] : List Int) ++ Args.A) c17_), (R_stylesStyleq3 kind (([] : List Int) ++ Args.A) c17_), [(1, 0, true)]⟩), (65, .val (.bool true))]) (L := lT [(54, ⟨⟨[0, 1, 2, 4, 11, 12], [], 0, 0⟩, (X_viewportlaw26StylesOthers_1 kind c6_ (.inr ())).1, (X_viewportlaw26StylesOthers_1 kind c6_ (.inr ())).2⟩)]) (wk := ⟨[10], [], 0, 0⟩)
    (ps := [Gv P (.func 5) [] Ax.h0 (Value.bool true) Ax.h0,
    G_viewportlaw26lightq1  c2_,
    (Value.bool (!c2_)) = (Value.bool false),
    (Value.bool (decide ((((Args.A).length : Nat) : Int) > (40 : Int)))) = (Value.bool false),
    (Value.bool (decide ((((oP).l.length : Nat) : Int) > (20 : Int)))) = (Value.bool false),
    G_stylesStyleq1 kind c6_,
    (Value.bool (oK != kind)) = (Value.bool true),
    srcB P Ax.h0 4 (Value.slice (some ⟨0, 0, some 1⟩) (Args.S).length Args.cS) = some (0, []),
    ∀ H : AH, appTop H 4 27 48 (0, []) (Value.slice (some ⟨1, 0, none⟩) 1 1) = some ((Value.slice (some ⟨1, 0, none⟩) 1 1), H),
    G_stylesStyleq2 [(oK, oP, oS, oR)] 1 kind c9_,
    FlatB (.cells (layT (rows rw_iLii [(oK, oP, oS, oR)])) 27),
    (Value.bool (c9_ != c6_)) = (Value.bool false),
    CG P none (fnN P 4) 0 (codeOf P 4 [false, true, false, true, true, true, true, true]) (S_viewportlaw26StylesOthers_1 kind c6_ 0) (X_viewportlaw26StylesOthers_1 kind c6_ (.inr ())),
    (Args.A).length = (Args.A).length,
    rdL (iv Args.A) (Nat.mul (Args.A).length 1) 0 = some (iv Args.A),
    0 < (Args.A).length,
    0 < big,
    0 < Nat.add 0 (Args.A).length,
    rdT (layT ([] : List Value)) (Nat.mul 0 1) 0 = some (([] : List Value)),
    fits (Nat.add 0 (Args.A).length) 8 = true,
    ([] : List Value) ++ (iv Args.A) = (iv (([] : List Int) ++ Args.A)),
    Nat.add 0 (Args.A).length = ((([] : List Int) ++ Args.A)).length,
    srcB P Ax.h0 1 (Value.slice (some ⟨1, 0, some 1⟩) (Args.Y).length Args.cY) = some (0, []),
    ∀ H : AH, appTop H 1 3 8 (0, []) (Value.slice (some ⟨1, 0, none⟩) ((([] : List Int) ++ Args.A)).length (Nat.add big 1)) = some ((Value.slice (some ⟨1, 0, none⟩) ((([] : List Int) ++ Args.A)).length (Nat.add big 1)), H),
    G_stylesStyleq3 kind (([] : List Int) ++ Args.A) c17_,
    FlatB (.cells (layT (iv (([] : List Int) ++ Args.A))) 3),
    FlatB (.cells (layT (iv (([] : List Int) ++ Args.A))) 3),
    (Value.bool (c17_ == c6_)) = (Value.bool true)]) (by kernel_rfl) ⟨(m_viewportlaw26lives_ok n () hc1), (m_viewportlaw26lightq1_ok n c2_ hc2), (vBn hc3), (vbF hc4), (vbF hc5), (m_stylesStyleq1_ok n kind c6_ hc6), (vnT hc7), (src0W rfl (by have := hc8; omega)), (fun _ => rfl), (m_stylesStyleq2_ok n [(oK, oP, oS, oR)] 1 kind c9_ hc9), (rows_flat rwf_iLii _ _), (vnF hc10), (m_viewportlaw26StylesOthers_1_ok n kind c6_ 0 (.inr ()) hc11), (rfl), (rdL_iv _ _ rfl), (hc12), ((by decide)), (hc14), (rfl), (fits_ok hc13 (by have := hc13; show (_ : Nat) + _ ≤ _; omega)), (by simp [iv]), (by simp <;> omega), (src0W rfl (by have := hc15; omega)), (fun H => top0 (by decide) (by have := hc16; show (_ : Nat) ≤ 1180591620717411303424 + 1; omega) H), (m_stylesStyleq3_ok n kind (([] : List Int) ++ Args.A) c17_ hc17), (iv_flat _ _), (iv_flat _ _), (veT hc18), trivial⟩
set_option maxRecDepth 100000 in
theorem p_viewportlaw26StylesOthers_15 (n : Nat) (kind : Int) (oK : Int) (oP : NL) (oS : Int) (oR : Int) (hc1 : m_viewportlaw26lives n = some ()) (c2_ : Bool) (hc2 : m_viewportlaw26lightq1 n = some c2_) (hc3 : c2_ = true) (hc4 : ¬ ((((Args.A).length : Nat) : Int) > (40 : Int))) (hc5 : ¬ ((((oP).l.length : Nat) : Int) > (20 : Int))) (c6_ : Int) (hc6 : m_stylesStyleq1 n kind = some c6_) (hc7 : ¬ (oK = kind)) (hc8 : ¬ (0 < (Args.S).length)) (c9_ : Int) (hc9 : m_stylesStyleq2 n [(oK, oP, oS, oR)] 1 kind = some c9_) (hc10 : c9_ = c6_) (hc11 : m_viewportlaw26StylesOthers_1 n kind c6_ 0 = some (.inr ())) (hc12 : ¬ (0 < (Args.A).length)) (hc13 : 0 < (Args.Y).length) (hc14 : (0 + (Args.Y).length) * 8 ≤ 140737488355328) (hc15 : 0 < 0 + (Args.Y).length) (c16_ : Int) (hc16 : m_stylesStyleq3 n kind (([] : List Int) ++ Args.Y) = some c16_) (hc17 : c16_ = c6_) : G_viewportlaw26StylesOthers kind oK oP oS oR () :=
  runF_ok hm (A := aT [(5, .call ⟨0, [], (Value.bool true), Ax.h0, []⟩), (12, .call ⟨0, [], (V_viewportlaw26lightq1  c2_), (R_viewportlaw26lightq1  c2_), []⟩), (13, .val (.bool false)), (17, .val (.bool false)), (23, .val (.bool false)), (30, .call ⟨0, [], (V_stylesStyleq1 kind c6_), (R_stylesStyleq1 kind c6_), []⟩), (37, .val (.bool true)), (42, .app0), (45, .call ⟨1, [(0, 1, false)], (V_stylesStyleq2 [(oK, oP, oS, oR)] 1 kind c9_), (R_stylesStyleq2 [(oK, oP, oS, oR)] 1 kind c9_), [(1, 0, true)]⟩), (47, .val (.bool false)), (60, .app0), (62, .app ⟨some ((Args.Y).length, (iv Args.Y)), ([] : List Value), (iv (([] : List Int) ++ Args.Y)), ((([] : List Int) ++ Args.Y)).length, true⟩), (63, .call ⟨1, [(0, 1, true)], (V_stylesStyleq3 kind (([] : List Int) ++ Args.Y) c16_), (R_stylesStyleq3 kind (([] : List Int) ++ Args.Y) c16_), [(1, 0, true)]⟩), (65, .val (.bool true))]) (L := lT [(54, ⟨⟨[0, 1, 2, 4, 11, 12], [], 0, 0⟩, (X_viewportlaw26StylesOthers_1 kind c6_ (.inr ())).1, (X_viewportlaw26StylesOthers_1 kind c6_ (.inr ())).2⟩)]) (wk := ⟨[10], [], 0, 0⟩)
    (ps := [Gv P (.func 5) [] Ax.h0 (Value.bool true) Ax.h0,
    G_viewportlaw26lightq1  c2_,
    (Value.bool (!c2_)) = (Value.bool false),
    (Value.bool (decide ((((Args.A).length : Nat) : Int) > (40 : Int)))) = (Value.bool false),
    (Value.bool (decide ((((oP).l.length : Nat) : Int) > (20 : Int)))) = (Value.bool false),
    G_stylesStyleq1 kind c6_,
    (Value.bool (oK != kind)) = (Value.bool true),
    srcB P Ax.h0 4 (Value.slice (some ⟨0, 0, some 1⟩) (Args.S).length Args.cS) = some (0, []),
    ∀ H : AH, appTop H 4 27 48 (0, []) (Value.slice (some ⟨1, 0, none⟩) 1 1) = some ((Value.slice (some ⟨1, 0, none⟩) 1 1), H),
    G_stylesStyleq2 [(oK, oP, oS, oR)] 1 kind c9_,
    FlatB (.cells (layT (rows rw_iLii [(oK, oP, oS, oR)])) 27),
    (Value.bool (c9_ != c6_)) = (Value.bool false),
    CG P none (fnN P 4) 0 (codeOf P 4 [false, true, false, true, true, true, true, true]) (S_viewportlaw26StylesOthers_1 kind c6_ 0) (X_viewportlaw26StylesOthers_1 kind c6_ (.inr ())),
    srcB P Ax.h0 1 (Value.slice (some ⟨2, 0, some 1⟩) (Args.A).length Args.cA) = some (0, []),
    ∀ H : AH, appTop H 1 3 8 (0, []) (Value.slice (some ⟨0, 0, none⟩) 0 0) = some ((Value.slice (some ⟨0, 0, none⟩) 0 0), H),
    (Args.Y).length = (Args.Y).length,
    rdL (iv Args.Y) (Nat.mul (Args.Y).length 1) 0 = some (iv Args.Y),
    0 < (Args.Y).length,
    0 < big,
    0 < Nat.add 0 (Args.Y).length,
    rdT (layT ([] : List Value)) (Nat.mul 0 1) 0 = some (([] : List Value)),
    fits (Nat.add 0 (Args.Y).length) 8 = true,
    ([] : List Value) ++ (iv Args.Y) = (iv (([] : List Int) ++ Args.Y)),
    Nat.add 0 (Args.Y).length = ((([] : List Int) ++ Args.Y)).length,
    G_stylesStyleq3 kind (([] : List Int) ++ Args.Y) c16_,
    FlatB (.cells (layT (iv (([] : List Int) ++ Args.Y))) 3),
    FlatB (.cells (layT (iv (([] : List Int) ++ Args.Y))) 3),
    (Value.bool (c16_ == c6_)) = (Value.bool true)]) (by kernel_rfl) ⟨(m_viewportlaw26lives_ok n () hc1), (m_viewportlaw26lightq1_ok n c2_ hc2), (vBn hc3), (vbF hc4), (vbF hc5), (m_stylesStyleq1_ok n kind c6_ hc6), (vnT hc7), (src0W rfl (by have := hc8; omega)), (fun _ => rfl), (m_stylesStyleq2_ok n [(oK, oP, oS, oR)] 1 kind c9_ hc9), (rows_flat rwf_iLii _ _), (vnF hc10), (m_viewportlaw26StylesOthers_1_ok n kind c6_ 0 (.inr ()) hc11), (src0W rfl (by have := hc12; omega)), (fun _ => rfl), (rfl), (rdL_iv _ _ rfl), (hc13), ((by decide)), (hc15), (rfl), (fits_ok hc14 (by have := hc14; show (_ : Nat) + _ ≤ _; omega)), (by simp [iv]), (by simp <;> omega), (m_stylesStyleq3_ok n kind (([] : List Int) ++ Args.Y) c16_ hc16), (iv_flat _ _), (iv_flat _ _), (veT hc17), trivial⟩
set_option maxRecDepth 100000 in
theorem p_viewportlaw26StylesOthers_16 (n : Nat) (kind : Int) (oK : Int) (oP : NL) (oS : Int) (oR : Int) (hc1 : m_viewportlaw26lives n = some ()) (c2_ : Bool) (hc2 : m_viewportlaw26lightq1 n = some c2_) (hc3 : c2_ = true) (hc4 : ¬ ((((Args.A).length : Nat) : Int) > (40 : Int))) (hc5 : ¬ ((((oP).l.length : Nat) : Int) > (20 : Int))) (c6_ : Int) (hc6 : m_stylesStyleq1 n kind = some c6_) (hc7 : ¬ (oK = kind)) (hc8 : ¬ (0 < (Args.S).length)) (c9_ : Int) (hc9 : m_stylesStyleq2 n [(oK, oP, oS, oR)] 1 kind = some c9_) (hc10 : c9_ = c6_) (hc11 : m_viewportlaw26StylesOthers_1 n kind c6_ 0 = some (.inr ())) (hc12 : ¬ (0 < (Args.A).length)) (hc13 : ¬ (0 < (Args.Y).length)) (c14_ : Int) (hc14 : m_stylesStyleq4 n kind = some c14_) (hc15 : c14_ = c6_) : G_viewportlaw26StylesOthers kind oK oP oS oR () :=
  runF_ok hm (A := aT [(5, .call ⟨0, [], (Value.bool true), Ax.h0, []⟩), (12, .call ⟨0, [], (V_viewportlaw26lightq1  c2_), (R_viewportlaw26lightq1  c2_), []⟩), (13, .val (.bool false)), (17, .val (.bool false)), (23, .val (.bool false)), (30, .call ⟨0, [], (V_stylesStyleq1 kind c6_), (R_stylesStyleq1 kind c6_), []⟩), (37, .val (.bool true)), (42, .app0), (45, .call ⟨1, [(0, 1, false)], (V_stylesStyleq2 [(oK, oP, oS, oR)] 1 kind c9_), (R_stylesStyleq2 [(oK, oP, oS, oR)] 1 kind c9_), [(1, 0, true)]⟩), (47, .val (.bool false)), (60, .app0), (62, .app0), (63, .call ⟨1, [(0, 0, false)], (V_stylesStyleq4 kind c14_), (R_stylesStyleq4 kind c14_), [(0, 0, false)]⟩), (65, .val (.bool true))]) (L := lT [(54, ⟨⟨[0, 1, 2, 4, 11, 12], [], 0, 0⟩, (X_viewportlaw26StylesOthers_1 kind c6_ (.inr ())).1, (X_viewportlaw26StylesOthers_1 kind c6_ (.inr ())).2⟩)]) (wk := ⟨[10], [], 0, 0⟩)
    (ps := [Gv P (.func 5) [] Ax.h0 (Value.bool true) Ax.h0,
    G_viewportlaw26lightq1  c2_,
    (Value.bool (!c2_)) = (Value.bool false),
    (Value.bool (decide ((((Args.A).length : Nat) : Int) > (40 : Int)))) = (Value.bool false),
    (Value.bool (decide ((((oP).l.length : Nat) : Int) > (20 : Int)))) = (Value.bool false),
    G_stylesStyleq1 kind c6_,
    (Value.bool (oK != kind)) = (Value.bool true),
    srcB P Ax.h0 4 (Value.slice (some ⟨0, 0, some 1⟩) (Args.S).length Args.cS) = some (0, []),
    ∀ H : AH, appTop H 4 27 48 (0, []) (Value.slice (some ⟨1, 0, none⟩) 1 1) = some ((Value.slice (some ⟨1, 0, none⟩) 1 1), H),
    G_stylesStyleq2 [(oK, oP, oS, oR)] 1 kind c9_,
    FlatB (.cells (layT (rows rw_iLii [(oK, oP, oS, oR)])) 27),
    (Value.bool (c9_ != c6_)) = (Value.bool false),
    CG P none (fnN P 4) 0 (codeOf P 4 [false, true, false, true, true, true, true, true]) (S_viewportlaw26StylesOthers_1 kind c6_ 0) (X_viewportlaw26StylesOthers_1 kind c6_ (.inr ())),
    srcB P Ax.h0 1 (Value.slice (some ⟨2, 0, some 1⟩) (Args.A).length Args.cA) = some (0, []),
    ∀ H : AH, appTop H 1 3 8 (0, []) (Value.slice (some ⟨0, 0, none⟩) 0 0) = some ((Value.slice (some ⟨0, 0, none⟩) 0 0), H),
    srcB P Ax.h0 1 (Value.slice (some ⟨1, 0, some 1⟩) (Args.Y).length Args.cY) = some (0, []),
    ∀ H : AH, appTop H 1 3 8 (0, []) (Value.slice (some ⟨0, 0, none⟩) 0 0) = some ((Value.slice (some ⟨0, 0, none⟩) 0 0), H),
    G_stylesStyleq4 kind c14_,
    (Value.bool (c14_ == c6_)) = (Value.bool true)]) (by kernel_rfl) ⟨(m_viewportlaw26lives_ok n () hc1), (m_viewportlaw26lightq1_ok n c2_ hc2), (vBn hc3), (vbF hc4), (vbF hc5), (m_stylesStyleq1_ok n kind c6_ hc6), (vnT hc7), (src0W rfl (by have := hc8; omega)), (fun _ => rfl), (m_stylesStyleq2_ok n [(oK, oP, oS, oR)] 1 kind c9_ hc9), (rows_flat rwf_iLii _ _), (vnF hc10), (m_viewportlaw26StylesOthers_1_ok n kind c6_ 0 (.inr ()) hc11), (src0W rfl (by have := hc12; omega)), (fun _ => rfl), (src0W rfl (by have := hc13; omega)), (fun _ => rfl), (m_stylesStyleq4_ok n kind c14_ hc14), (veT hc15), trivial⟩
set_option maxRecDepth 100000 in
theorem p_viewportlaw26StylesOthers_17 (n : Nat) (kind : Int) (oK : Int) (oP : NL) (oS : Int) (oR : Int) (hc1 : m_viewportlaw26lives n = some ()) (c2_ : Bool) (hc2 : m_viewportlaw26lightq1 n = some c2_) (hc3 : ¬ (c2_ = true)) : G_viewportlaw26StylesOthers kind oK oP oS oR () :=
  runF_ok hm (A := aT [(5, .call ⟨0, [], (Value.bool true), Ax.h0, []⟩), (12, .call ⟨0, [], (V_viewportlaw26lightq1  c2_), (R_viewportlaw26lightq1  c2_), []⟩), (13, .val (.bool true))]) (L := lT []) (wk := ⟨[10], [], 0, 0⟩)
    (ps := [Gv P (.func 5) [] Ax.h0 (Value.bool true) Ax.h0,
    G_viewportlaw26lightq1  c2_,
    (Value.bool (!c2_)) = (Value.bool true)]) (by kernel_rfl) ⟨(m_viewportlaw26lives_ok n () hc1), (m_viewportlaw26lightq1_ok n c2_ hc2), (vBn (Bool.eq_false_iff.2 hc3)), trivial⟩
theorem m_viewportlaw26StylesOthers_ok (n : Nat) (kind : Int) (oK : Int) (oP : NL) (oS : Int) (oR : Int) (r : Unit) (h : m_viewportlaw26StylesOthers n kind oK oP oS oR = some r) : G_viewportlaw26StylesOthers kind oK oP oS oR r := by
  unfold m_viewportlaw26StylesOthers at h
  obtain ⟨_, hc1, h⟩ := Option.bind_eq_some_iff.1 h
  obtain ⟨c2_, hc2, h⟩ := Option.bind_eq_some_iff.1 h
  by_cases hc3 : c2_ = true
  · rw [if_pos hc3] at h
    by_cases hc4 : (((Args.A).length : Nat) : Int) > (40 : Int)
    · rw [if_pos hc4] at h
      obtain rfl := Option.some.inj h; exact p_viewportlaw26StylesOthers_0 n kind oK oP oS oR hc1 c2_ hc2 hc3 hc4
    · rw [if_neg hc4] at h
      by_cases hc5 : (((oP).l.length : Nat) : Int) > (20 : Int)
      · rw [if_pos hc5] at h
        obtain rfl := Option.some.inj h; exact p_viewportlaw26StylesOthers_1 n kind oK oP oS oR hc1 c2_ hc2 hc3 hc4 hc5
      · rw [if_neg hc5] at h
        obtain ⟨c6_, hc6, h⟩ := Option.bind_eq_some_iff.1 h
        by_cases hc7 : oK = kind
        · rw [if_pos hc7] at h
          rcases hc8 : m_viewportlaw26StylesOthers_1 n kind c6_ 0 with _ | (⟨⟩ | ⟨⟩)
          · rw [hc8] at h; cases h
          · rw [hc8] at h
            dsimp only at h
            obtain rfl := Option.some.inj h; exact p_viewportlaw26StylesOthers_2 n kind oK oP oS oR hc1 c2_ hc2 hc3 hc4 hc5 c6_ hc6 hc7 hc8
          · rw [hc8] at h
            dsimp only at h
            by_cases hc9 : 0 < (Args.A).length
            · rw [if_pos hc9] at h
              by_cases hc10 : (0 + (Args.A).length) * 8 ≤ 140737488355328
              · rw [if_pos hc10] at h
                by_cases hc11 : 0 < 0 + (Args.A).length
                · rw [if_pos hc11] at h
                  by_cases hc12 : 0 < (Args.Y).length
                  · rw [if_pos hc12] at h
                    by_cases hc13 : (((([] : List Int) ++ Args.A)).length + (Args.Y).length) * 8 ≤ 140737488355328
                    · rw [if_pos hc13] at h
                      obtain ⟨c14_, hc14, h⟩ := Option.bind_eq_some_iff.1 h
                      by_cases hc15 : c14_ = c6_
                      · rw [if_pos hc15] at h
                        obtain rfl := Option.some.inj h; exact p_viewportlaw26StylesOthers_3 n kind oK oP oS oR hc1 c2_ hc2 hc3 hc4 hc5 c6_ hc6 hc7 hc8 hc9 hc10 hc11 hc12 hc13 c14_ hc14 hc15
                      · rw [if_neg hc15] at h
                        cases h
                    · rw [if_neg hc13] at h; cases h
                  · rw [if_neg hc12] at h
                    by_cases hc13 : ((([] : List Int) ++ Args.A)).length * 8 ≤ 140737488355328
                    · rw [if_pos hc13] at h
                      obtain ⟨c14_, hc14, h⟩ := Option.bind_eq_some_iff.1 h
                      by_cases hc15 : c14_ = c6_
                      · rw [if_pos hc15] at h
                        obtain rfl := Option.some.inj h; exact p_viewportlaw26StylesOthers_4 n kind oK oP oS oR hc1 c2_ hc2 hc3 hc4 hc5 c6_ hc6 hc7 hc8 hc9 hc10 hc11 hc12 hc13 c14_ hc14 hc15
                      · rw [if_neg hc15] at h
                        cases h
                    · rw [if_neg hc13] at h; cases h
                · rw [if_neg hc11] at h; cases h
              · rw [if_neg hc10] at h; cases h
            · rw [if_neg hc9] at h
              by_cases hc10 : 0 < (Args.Y).length
              · rw [if_pos hc10] at h
                by_cases hc11 : (0 + (Args.Y).length) * 8 ≤ 140737488355328
                · rw [if_pos hc11] at h
                  by_cases hc12 : 0 < 0 + (Args.Y).length
                  · rw [if_pos hc12] at h
                    obtain ⟨c13_, hc13, h⟩ := Option.bind_eq_some_iff.1 h
                    by_cases hc14 : c13_ = c6_
                    · rw [if_pos hc14] at h
                      obtain rfl := Option.some.inj h; exact p_viewportlaw26StylesOthers_5 n kind oK oP oS oR hc1 c2_ hc2 hc3 hc4 hc5 c6_ hc6 hc7 hc8 hc9 hc10 hc11 hc12 c13_ hc13 hc14
                    · rw [if_neg hc14] at h
                      cases h
                  · rw [if_neg hc12] at h; cases h
                · rw [if_neg hc11] at h; cases h
              · rw [if_neg hc10] at h
                obtain ⟨c11_, hc11, h⟩ := Option.bind_eq_some_iff.1 h
                by_cases hc12 : c11_ = c6_
                · rw [if_pos hc12] at h
                  obtain rfl := Option.some.inj h; exact p_viewportlaw26StylesOthers_6 n kind oK oP oS oR hc1 c2_ hc2 hc3 hc4 hc5 c6_ hc6 hc7 hc8 hc9 hc10 c11_ hc11 hc12
                · rw [if_neg hc12] at h
                  cases h
        · rw [if_neg hc7] at h
          by_cases hc8 : 0 < (Args.S).length
          · rw [if_pos hc8] at h
            by_cases hc9 : (1 + (Args.S).length) * 48 ≤ 140737488355328
            · rw [if_pos hc9] at h
              by_cases hc10 : 1 < 1 + (Args.S).length
              · rw [if_pos hc10] at h
                obtain ⟨c11_, hc11, h⟩ := Option.bind_eq_some_iff.1 h
                by_cases hc12 : c11_ = c6_
                · rw [if_pos hc12] at h
                  rcases hc13 : m_viewportlaw26StylesOthers_1 n kind c6_ 0 with _ | (⟨⟩ | ⟨⟩)
                  · rw [hc13] at h; cases h
                  · rw [hc13] at h
                    dsimp only at h
                    obtain rfl := Option.some.inj h; exact p_viewportlaw26StylesOthers_7 n kind oK oP oS oR hc1 c2_ hc2 hc3 hc4 hc5 c6_ hc6 hc7 hc8 hc9 hc10 c11_ hc11 hc12 hc13
                  · rw [hc13] at h
                    dsimp only at h
                    by_cases hc14 : 0 < (Args.A).length
                    · rw [if_pos hc14] at h
                      by_cases hc15 : (0 + (Args.A).length) * 8 ≤ 140737488355328
                      · rw [if_pos hc15] at h
                        by_cases hc16 : 0 < 0 + (Args.A).length
                        · rw [if_pos hc16] at h
                          by_cases hc17 : 0 < (Args.Y).length
                          · rw [if_pos hc17] at h
                            by_cases hc18 : (((([] : List Int) ++ Args.A)).length + (Args.Y).length) * 8 ≤ 140737488355328
                            · rw [if_pos hc18] at h
                              obtain ⟨c19_, hc19, h⟩ := Option.bind_eq_some_iff.1 h
                              by_cases hc20 : c19_ = c6_
                              · rw [if_pos hc20] at h
                                obtain rfl := Option.some.inj h; exact p_viewportlaw26StylesOthers_8 n kind oK oP oS oR hc1 c2_ hc2 hc3 hc4 hc5 c6_ hc6 hc7 hc8 hc9 hc10 c11_ hc11 hc12 hc13 hc14 hc15 hc16 hc17 hc18 c19_ hc19 hc20
                              · rw [if_neg hc20] at h
                                cases h
                            · rw [if_neg hc18] at h; cases h
                          · rw [if_neg hc17] at h
                            by_cases hc18 : ((([] : List Int) ++ Args.A)).length * 8 ≤ 140737488355328
                            · rw [if_pos hc18] at h
                              obtain ⟨c19_, hc19, h⟩ := Option.bind_eq_some_iff.1 h
                              by_cases hc20 : c19_ = c6_
                              · rw [if_pos hc20] at h
                                obtain rfl := Option.some.inj h; exact p_viewportlaw26StylesOthers_9 n kind oK oP oS oR hc1 c2_ hc2 hc3 hc4 hc5 c6_ hc6 hc7 hc8 hc9 hc10 c11_ hc11 hc12 hc13 hc14 hc15 hc16 hc17 hc18 c19_ hc19 hc20
                              · rw [if_neg hc20] at h
                                cases h
                            · rw [if_neg hc18] at h; cases h
                        · rw [if_neg hc16] at h; cases h
                      · rw [if_neg hc15] at h; cases h
                    · rw [if_neg hc14] at h
                      by_cases hc15 : 0 < (Args.Y).length
                      · rw [if_pos hc15] at h
                        by_cases hc16 : (0 + (Args.Y).length) * 8 ≤ 140737488355328
                        · rw [if_pos hc16] at h
                          by_cases hc17 : 0 < 0 + (Args.Y).length
                          · rw [if_pos hc17] at h
                            obtain ⟨c18_, hc18, h⟩ := Option.bind_eq_some_iff.1 h
                            by_cases hc19 : c18_ = c6_
                            · rw [if_pos hc19] at h
                              obtain rfl := Option.some.inj h; exact p_viewportlaw26StylesOthers_10 n kind oK oP oS oR hc1 c2_ hc2 hc3 hc4 hc5 c6_ hc6 hc7 hc8 hc9 hc10 c11_ hc11 hc12 hc13 hc14 hc15 hc16 hc17 c18_ hc18 hc19
                            · rw [if_neg hc19] at h
                              cases h
                          · rw [if_neg hc17] at h; cases h
                        · rw [if_neg hc16] at h; cases h
                      · rw [if_neg hc15] at h
                        obtain ⟨c16_, hc16, h⟩ := Option.bind_eq_some_iff.1 h
                        by_cases hc17 : c16_ = c6_
                        · rw [if_pos hc17] at h
                          obtain rfl := Option.some.inj h; exact p_viewportlaw26StylesOthers_11 n kind oK oP oS oR hc1 c2_ hc2 hc3 hc4 hc5 c6_ hc6 hc7 hc8 hc9 hc10 c11_ hc11 hc12 hc13 hc14 hc15 c16_ hc16 hc17
                        · rw [if_neg hc17] at h
                          cases h
                · rw [if_neg hc12] at h
                  cases h
              · rw [if_neg hc10] at h; cases h
            · rw [if_neg hc9] at h; cases h
          · rw [if_neg hc8] at h
            obtain ⟨c9_, hc9, h⟩ := Option.bind_eq_some_iff.1 h
            by_cases hc10 : c9_ = c6_
            · rw [if_pos hc10] at h
              rcases hc11 : m_viewportlaw26StylesOthers_1 n kind c6_ 0 with _ | (⟨⟩ | ⟨⟩)
              · rw [hc11] at h; cases h
              · rw [hc11] at h
                dsimp only at h
                obtain rfl := Option.some.inj h; exact p_viewportlaw26StylesOthers_12 n kind oK oP oS oR hc1 c2_ hc2 hc3 hc4 hc5 c6_ hc6 hc7 hc8 c9_ hc9 hc10 hc11
              · rw [hc11] at h
                dsimp only at h
                by_cases hc12 : 0 < (Args.A).length
                · rw [if_pos hc12] at h
                  by_cases hc13 : (0 + (Args.A).length) * 8 ≤ 140737488355328
                  · rw [if_pos hc13] at h
                    by_cases hc14 : 0 < 0 + (Args.A).length
                    · rw [if_pos hc14] at h
                      by_cases hc15 : 0 < (Args.Y).length
                      · rw [if_pos hc15] at h
                        by_cases hc16 : (((([] : List Int) ++ Args.A)).length + (Args.Y).length) * 8 ≤ 140737488355328
                        · rw [if_pos hc16] at h
                          obtain ⟨c17_, hc17, h⟩ := Option.bind_eq_some_iff.1 h
                          by_cases hc18 : c17_ = c6_
                          · rw [if_pos hc18] at h
                            obtain rfl := Option.some.inj h; exact p_viewportlaw26StylesOthers_13 n kind oK oP oS oR hc1 c2_ hc2 hc3 hc4 hc5 c6_ hc6 hc7 hc8 c9_ hc9 hc10 hc11 hc12 hc13 hc14 hc15 hc16 c17_ hc17 hc18
                          · rw [if_neg hc18] at h
                            cases h
                        · rw [if_neg hc16] at h; cases h
                      · rw [if_neg hc15] at h
                        by_cases hc16 : ((([] : List Int) ++ Args.A)).length * 8 ≤ 140737488355328
                        · rw [if_pos hc16] at h
                          obtain ⟨c17_, hc17, h⟩ := Option.bind_eq_some_iff.1 h
                          by_cases hc18 : c17_ = c6_
                          · rw [if_pos hc18] at h
                            obtain rfl := Option.some.inj h; exact p_viewportlaw26StylesOthers_14 n kind oK oP oS oR hc1 c2_ hc2 hc3 hc4 hc5 c6_ hc6 hc7 hc8 c9_ hc9 hc10 hc11 hc12 hc13 hc14 hc15 hc16 c17_ hc17 hc18
                          · rw [if_neg hc18] at h
                            cases h
                        · rw [if_neg hc16] at h; cases h
                    · rw [if_neg hc14] at h; cases h
                  · rw [if_neg hc13] at h; cases h
                · rw [if_neg hc12] at h
                  by_cases hc13 : 0 < (Args.Y).length
                  · rw [if_pos hc13] at h
                    by_cases hc14 : (0 + (Args.Y).length) * 8 ≤ 140737488355328
                    · rw [if_pos hc14] at h
                      by_cases hc15 : 0 < 0 + (Args.Y).length
                      · rw [if_pos hc15] at h
                        obtain ⟨c16_, hc16, h⟩ := Option.bind_eq_some_iff.1 h
                        by_cases hc17 : c16_ = c6_
                        · rw [if_pos hc17] at h
                          obtain rfl := Option.some.inj h; exact p_viewportlaw26StylesOthers_15 n kind oK oP oS oR hc1 c2_ hc2 hc3 hc4 hc5 c6_ hc6 hc7 hc8 c9_ hc9 hc10 hc11 hc12 hc13 hc14 hc15 c16_ hc16 hc17
                        · rw [if_neg hc17] at h
                          cases h
                      · rw [if_neg hc15] at h; cases h
                    · rw [if_neg hc14] at h; cases h
                  · rw [if_neg hc13] at h
                    obtain ⟨c14_, hc14, h⟩ := Option.bind_eq_some_iff.1 h
                    by_cases hc15 : c14_ = c6_
                    · rw [if_pos hc15] at h
                      obtain rfl := Option.some.inj h; exact p_viewportlaw26StylesOthers_16 n kind oK oP oS oR hc1 c2_ hc2 hc3 hc4 hc5 c6_ hc6 hc7 hc8 c9_ hc9 hc10 hc11 hc12 hc13 c14_ hc14 hc15
                    · rw [if_neg hc15] at h
                      cases h
            · rw [if_neg hc10] at h
              cases h
  · rw [if_neg hc3] at h
    obtain rfl := Option.some.inj h; exact p_viewportlaw26StylesOthers_17 n kind oK oP oS oR hc1 c2_ hc2 hc3

end Go.Proofs.Ytliifcfgcfenkaa.styow
