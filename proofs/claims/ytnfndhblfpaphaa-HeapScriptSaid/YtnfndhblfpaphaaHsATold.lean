/-
  What functions do, told by pure functions. No condition.
-/
import Derived.Test.YtnfndhblfpaphaaHsLives
set_option linter.unusedSimpArgs false
set_option linter.unusedVariables false
set_option linter.unusedSectionVars false
set_option linter.unnecessarySimpa false
namespace Go.Proofs.Ytnfndhblfpaphaa.hsw
open Go Go.Proofs.Ytnfndhblfpaphaa Ax
variable [Args]
def rw_iii (x : Int × Int × Int) : List Value := [Value.int .i64 (x.1), Value.int .i64 (x.2.1), Value.int .i64 (x.2.2)]
theorem rwf_iii : RowF rw_iii 3 := ⟨fun _ => rfl, fun a v h => by
  simp only [rw_iii, List.mem_cons, List.not_mem_nil, or_false] at h
  rcases h with rfl | rfl | rfl <;> rfl, fun _ => rfl⟩

def m_viewportlaw23lives (n : Nat) : Option Unit := some ()
theorem m_viewportlaw23lives_ok (n : Nat) (r : Unit) (h : m_viewportlaw23lives n = some r) : Gv P (.func 6) [] Ax.h0 (.bool true) Ax.h0 := lives_gv

noncomputable def A_heapNewviewportref23Itemq1 : List Value := [(Value.func (.func 8) #[] #[])]
noncomputable def H_heapNewviewportref23Itemq1 : AH := ⟨sB [], 0, 0⟩
noncomputable def V_heapNewviewportref23Itemq1 (r : Unit) : Value := match r with
  | _ => (Value.pointer (some ⟨0, 0, none⟩))
noncomputable def R_heapNewviewportref23Itemq1 (r : Unit) : AH := match r with
  | _ => ⟨sB [(0, (some (.cells (layT [(Value.pointer (some ⟨0, 0, none⟩)), (Value.func (.func 8) #[] #[]), (Value.slice none 0 0), (Value.int .i64 (0 : Int))]) 51)))], 1, 0⟩
noncomputable abbrev G_heapNewviewportref23Itemq1  (r : Unit) : Prop := Gv P (.func 7) (A_heapNewviewportref23Itemq1 ) (H_heapNewviewportref23Itemq1 ) (V_heapNewviewportref23Itemq1  r) (R_heapNewviewportref23Itemq1  r)
def m_heapNewviewportref23Itemq1 (n : Nat) : Option (Unit) :=
  some ()
set_option maxRecDepth 100000 in
theorem p_heapNewviewportref23Itemq1_0 (n : Nat)  : G_heapNewviewportref23Itemq1  () :=
  runF_ok hm (A := aT []) (L := lT []) (wk := ⟨[2], [(0, 0, false)], 1, 0⟩)
    (ps := []) (by kernel_rfl) trivial
theorem m_heapNewviewportref23Itemq1_ok (n : Nat) (r : Unit) (h : m_heapNewviewportref23Itemq1 n = some r) : G_heapNewviewportref23Itemq1  r := by
  unfold m_heapNewviewportref23Itemq1 at h
  obtain rfl := Option.some.inj h; exact p_heapNewviewportref23Itemq1_0 n

noncomputable def A_viewportkitPickq1 (a0 : Int) (a1 : Int) : List Value := [(Value.int .i64 a0), (Value.int .i64 a1)]
noncomputable def H_viewportkitPickq1 (a0 : Int) (a1 : Int) : AH := ⟨sB [], 0, 0⟩
noncomputable def V_viewportkitPickq1 (a0 : Int) (a1 : Int) (r : Int) : Value := match r with
  | o0 => (Value.int .i64 o0)
noncomputable def R_viewportkitPickq1 (a0 : Int) (a1 : Int) (r : Int) : AH := match r with
  | o0 => ⟨sB [], 0, 0⟩
noncomputable abbrev G_viewportkitPickq1 (a0 : Int) (a1 : Int) (r : Int) : Prop := Gv P (.func 9) (A_viewportkitPickq1 a0 a1) (H_viewportkitPickq1 a0 a1) (V_viewportkitPickq1 a0 a1 r) (R_viewportkitPickq1 a0 a1 r)
def m_viewportkitPickq1 (n : Nat) (a0 : Int) (a1 : Int) : Option (Int) :=
  if a1 < (1 : Int) then
    some 0
  else
    if ¬ (a1 = 0) then
      if (Int.tmod a0 a1) < (0 : Int) then
        some (w64 ((Int.tmod a0 a1) + a1))
      else
        some (Int.tmod a0 a1)
    else none
set_option maxRecDepth 100000 in
theorem p_viewportkitPickq1_0 (n : Nat) (a0 : Int) (a1 : Int) (hc1 : a1 < (1 : Int)) : G_viewportkitPickq1 a0 a1 0 :=
  runF_ok hm (A := aT [(5, .val (.bool true))]) (L := lT []) (wk := ⟨[4], [], 0, 0⟩)
    (ps := [(Value.bool (decide (a1 < (1 : Int)))) = (Value.bool true)]) (by kernel_rfl) ⟨(vbT hc1), trivial⟩
set_option maxRecDepth 100000 in
theorem p_viewportkitPickq1_1 (n : Nat) (a0 : Int) (a1 : Int) (hc1 : ¬ (a1 < (1 : Int))) (hc2 : ¬ (a1 = 0)) (hc3 : (Int.tmod a0 a1) < (0 : Int)) : G_viewportkitPickq1 a0 a1 (w64 ((Int.tmod a0 a1) + a1)) :=
  runF_ok hm (A := aT [(5, .val (.bool false)), (10, .pur (Value.int .i64 (Int.tmod a0 a1))), (15, .val (.bool true))]) (L := lT []) (wk := ⟨[4], [], 0, 0⟩)
    (ps := [(Value.bool (decide (a1 < (1 : Int)))) = (Value.bool false),
    opBin P .rem 3 (.tmp 8) (.tmp 9) (Value.int .i64 a0) (Value.int .i64 a1) Ax.h0 = some ((Value.int .i64 (Int.tmod a0 a1)), Ax.h0),
    (Value.bool (decide ((Int.tmod a0 a1) < (0 : Int)))) = (Value.bool true)]) (by kernel_rfl) ⟨(vbF hc1), (remI hc2), (vbT hc3), trivial⟩
set_option maxRecDepth 100000 in
theorem p_viewportkitPickq1_2 (n : Nat) (a0 : Int) (a1 : Int) (hc1 : ¬ (a1 < (1 : Int))) (hc2 : ¬ (a1 = 0)) (hc3 : ¬ ((Int.tmod a0 a1) < (0 : Int))) : G_viewportkitPickq1 a0 a1 (Int.tmod a0 a1) :=
  runF_ok hm (A := aT [(5, .val (.bool false)), (10, .pur (Value.int .i64 (Int.tmod a0 a1))), (15, .val (.bool false))]) (L := lT []) (wk := ⟨[4], [], 0, 0⟩)
    (ps := [(Value.bool (decide (a1 < (1 : Int)))) = (Value.bool false),
    opBin P .rem 3 (.tmp 8) (.tmp 9) (Value.int .i64 a0) (Value.int .i64 a1) Ax.h0 = some ((Value.int .i64 (Int.tmod a0 a1)), Ax.h0),
    (Value.bool (decide ((Int.tmod a0 a1) < (0 : Int)))) = (Value.bool false)]) (by kernel_rfl) ⟨(vbF hc1), (remI hc2), (vbF hc3), trivial⟩
theorem m_viewportkitPickq1_ok (n : Nat) (a0 : Int) (a1 : Int) (r : Int) (h : m_viewportkitPickq1 n a0 a1 = some r) : G_viewportkitPickq1 a0 a1 r := by
  unfold m_viewportkitPickq1 at h
  by_cases hc1 : a1 < (1 : Int)
  · rw [if_pos hc1] at h
    obtain rfl := Option.some.inj h; exact p_viewportkitPickq1_0 n a0 a1 hc1
  · rw [if_neg hc1] at h
    by_cases hc2 : ¬ (a1 = 0)
    · rw [if_pos hc2] at h
      by_cases hc3 : (Int.tmod a0 a1) < (0 : Int)
      · rw [if_pos hc3] at h
        obtain rfl := Option.some.inj h; exact p_viewportkitPickq1_1 n a0 a1 hc1 hc2 hc3
      · rw [if_neg hc3] at h
        obtain rfl := Option.some.inj h; exact p_viewportkitPickq1_2 n a0 a1 hc1 hc2 hc3
    · rw [if_neg hc2] at h; cases h

noncomputable def A_viewportlaw23oneq1 (a0 : Int) (a1 : Int) : List Value := [(Value.int .i64 a0), (Value.int .i64 a1)]
noncomputable def H_viewportlaw23oneq1 (a0 : Int) (a1 : Int) : AH := ⟨sB [], 0, 0⟩
noncomputable def V_viewportlaw23oneq1 (a0 : Int) (a1 : Int) (r : Unit) : Value := match r with
  | _ => (Value.agg #[(Value.int .i64 a0), (Value.int .i64 a1)])
noncomputable def R_viewportlaw23oneq1 (a0 : Int) (a1 : Int) (r : Unit) : AH := match r with
  | _ => ⟨sB [(0, (some (.cells (layT [(Value.int .i64 a0), (Value.int .i64 a1)]) 27)))], 1, 0⟩
noncomputable abbrev G_viewportlaw23oneq1 (a0 : Int) (a1 : Int) (r : Unit) : Prop := Gv P (.func 11) (A_viewportlaw23oneq1 a0 a1) (H_viewportlaw23oneq1 a0 a1) (V_viewportlaw23oneq1 a0 a1 r) (R_viewportlaw23oneq1 a0 a1 r)
def m_viewportlaw23oneq1 (n : Nat) (a0 : Int) (a1 : Int) : Option (Unit) :=
  some ()
set_option maxRecDepth 100000 in
theorem p_viewportlaw23oneq1_0 (n : Nat) (a0 : Int) (a1 : Int) : G_viewportlaw23oneq1 a0 a1 () :=
  runF_ok hm (A := aT []) (L := lT []) (wk := ⟨[4], [(0, 0, false)], 1, 0⟩)
    (ps := []) (by kernel_rfl) trivial
theorem m_viewportlaw23oneq1_ok (n : Nat) (a0 : Int) (a1 : Int) (r : Unit) (h : m_viewportlaw23oneq1 n a0 a1 = some r) : G_viewportlaw23oneq1 a0 a1 r := by
  unfold m_viewportlaw23oneq1 at h
  obtain rfl := Option.some.inj h; exact p_viewportlaw23oneq1_0 n a0 a1

noncomputable def A_heapHeapviewportlaw23itemvalidq1 (a0 : Int) : List Value := [(Value.pointer (some ⟨0, 0, none⟩))]
noncomputable def H_heapHeapviewportlaw23itemvalidq1 (a0 : Int) : AH := ⟨sB [(0, (some (.cells (layT [(Value.pointer (some ⟨0, 0, none⟩)), (Value.func (.func 8) #[] #[]), (Value.slice none 0 0), (Value.int .i64 a0)]) 51)))], 1, 1⟩
noncomputable def V_heapHeapviewportlaw23itemvalidq1 (a0 : Int) (r : Unit) : Value := match r with
  | _ => (Value.bool true)
noncomputable def R_heapHeapviewportlaw23itemvalidq1 (a0 : Int) (r : Unit) : AH := match r with
  | _ => ⟨sB [], 1, 1⟩
noncomputable abbrev G_heapHeapviewportlaw23itemvalidq1 (a0 : Int) (r : Unit) : Prop := Gv P (.func 20) (A_heapHeapviewportlaw23itemvalidq1 a0) (H_heapHeapviewportlaw23itemvalidq1 a0) (V_heapHeapviewportlaw23itemvalidq1 a0 r) (R_heapHeapviewportlaw23itemvalidq1 a0 r)
def m_heapHeapviewportlaw23itemvalidq1 (n : Nat) (a0 : Int) : Option (Unit) :=
  some ()
set_option maxRecDepth 100000 in
theorem p_heapHeapviewportlaw23itemvalidq1_0 (n : Nat) (a0 : Int) : G_heapHeapviewportlaw23itemvalidq1 a0 () :=
  runF_ok hm (A := aT []) (L := lT []) (wk := ⟨[2], [], 1, 1⟩)
    (ps := []) (by kernel_rfl) trivial
theorem m_heapHeapviewportlaw23itemvalidq1_ok (n : Nat) (a0 : Int) (r : Unit) (h : m_heapHeapviewportlaw23itemvalidq1 n a0 = some r) : G_heapHeapviewportlaw23itemvalidq1 a0 r := by
  unfold m_heapHeapviewportlaw23itemvalidq1 at h
  obtain rfl := Option.some.inj h; exact p_heapHeapviewportlaw23itemvalidq1_0 n a0

noncomputable def A_viewportlaw23byKeyq1 (a0 : Int) (a1 : Int) (a2 : Int) (a3 : Int) : List Value := [(Value.agg #[(Value.int .i64 a0), (Value.int .i64 a1)]), (Value.agg #[(Value.int .i64 a2), (Value.int .i64 a3)])]
noncomputable def H_viewportlaw23byKeyq1 (a0 : Int) (a1 : Int) (a2 : Int) (a3 : Int) : AH := ⟨sB [], 0, 0⟩
noncomputable def V_viewportlaw23byKeyq1 (a0 : Int) (a1 : Int) (a2 : Int) (a3 : Int) (r : Int) : Value := match r with
  | o0 => (Value.int .i64 o0)
noncomputable def R_viewportlaw23byKeyq1 (a0 : Int) (a1 : Int) (a2 : Int) (a3 : Int) (r : Int) : AH := match r with
  | o0 => ⟨sB [], 0, 0⟩
noncomputable abbrev G_viewportlaw23byKeyq1 (a0 : Int) (a1 : Int) (a2 : Int) (a3 : Int) (r : Int) : Prop := Gv P (.func 8) (A_viewportlaw23byKeyq1 a0 a1 a2 a3) (H_viewportlaw23byKeyq1 a0 a1 a2 a3) (V_viewportlaw23byKeyq1 a0 a1 a2 a3 r) (R_viewportlaw23byKeyq1 a0 a1 a2 a3 r)
def m_viewportlaw23byKeyq1 (n : Nat) (a0 : Int) (a1 : Int) (a2 : Int) (a3 : Int) : Option (Int) :=
  if a0 < a2 then
    some (-1)
  else
    if a0 > a2 then
      some 1
    else
      some 0
set_option maxRecDepth 100000 in
theorem p_viewportlaw23byKeyq1_0 (n : Nat) (a0 : Int) (a1 : Int) (a2 : Int) (a3 : Int) (hc1 : a0 < a2) : G_viewportlaw23byKeyq1 a0 a1 a2 a3 (-1) :=
  runF_ok hm (A := aT [(11, .val (.bool true))]) (L := lT []) (wk := ⟨[4], [], 0, 0⟩)
    (ps := [(Value.bool (decide (a0 < a2))) = (Value.bool true)]) (by kernel_rfl) ⟨(vbT hc1), trivial⟩
set_option maxRecDepth 100000 in
theorem p_viewportlaw23byKeyq1_1 (n : Nat) (a0 : Int) (a1 : Int) (a2 : Int) (a3 : Int) (hc1 : ¬ (a0 < a2)) (hc2 : a0 > a2) : G_viewportlaw23byKeyq1 a0 a1 a2 a3 1 :=
  runF_ok hm (A := aT [(11, .val (.bool false)), (19, .val (.bool true))]) (L := lT []) (wk := ⟨[4], [], 0, 0⟩)
    (ps := [(Value.bool (decide (a0 < a2))) = (Value.bool false),
    (Value.bool (decide (a0 > a2))) = (Value.bool true)]) (by kernel_rfl) ⟨(vbF hc1), (vbT hc2), trivial⟩
set_option maxRecDepth 100000 in
theorem p_viewportlaw23byKeyq1_2 (n : Nat) (a0 : Int) (a1 : Int) (a2 : Int) (a3 : Int) (hc1 : ¬ (a0 < a2)) (hc2 : ¬ (a0 > a2)) : G_viewportlaw23byKeyq1 a0 a1 a2 a3 0 :=
  runF_ok hm (A := aT [(11, .val (.bool false)), (19, .val (.bool false))]) (L := lT []) (wk := ⟨[4], [], 0, 0⟩)
    (ps := [(Value.bool (decide (a0 < a2))) = (Value.bool false),
    (Value.bool (decide (a0 > a2))) = (Value.bool false)]) (by kernel_rfl) ⟨(vbF hc1), (vbF hc2), trivial⟩
theorem m_viewportlaw23byKeyq1_ok (n : Nat) (a0 : Int) (a1 : Int) (a2 : Int) (a3 : Int) (r : Int) (h : m_viewportlaw23byKeyq1 n a0 a1 a2 a3 = some r) : G_viewportlaw23byKeyq1 a0 a1 a2 a3 r := by
  unfold m_viewportlaw23byKeyq1 at h
  by_cases hc1 : a0 < a2
  · rw [if_pos hc1] at h
    obtain rfl := Option.some.inj h; exact p_viewportlaw23byKeyq1_0 n a0 a1 a2 a3 hc1
  · rw [if_neg hc1] at h
    by_cases hc2 : a0 > a2
    · rw [if_pos hc2] at h
      obtain rfl := Option.some.inj h; exact p_viewportlaw23byKeyq1_1 n a0 a1 a2 a3 hc1 hc2
    · rw [if_neg hc2] at h
      obtain rfl := Option.some.inj h; exact p_viewportlaw23byKeyq1_2 n a0 a1 a2 a3 hc1 hc2

noncomputable def A_heapHeapviewportlaw23itembeforeq1 (a0 : List (Int × Int × Int)) (a1 : Int) (a2 : Int) (a3 : Int) : List Value := [(Value.pointer (some ⟨0, 0, none⟩)), (Value.int .i64 a2), (Value.int .i64 a3)]
noncomputable def H_heapHeapviewportlaw23itembeforeq1 (a0 : List (Int × Int × Int)) (a1 : Int) (a2 : Int) (a3 : Int) : AH := ⟨sB [(0, (some (.cells (layT [(Value.pointer (some ⟨0, 0, none⟩)), (Value.func (.func 8) #[] #[]), (Value.slice (some ⟨1, 0, none⟩) (a0).length (Nat.add big 3)), (Value.int .i64 a1)]) 51))), (1, (some (.cells (layT (rows rw_iii a0)) 55)))], 2, 2⟩
noncomputable def V_heapHeapviewportlaw23itembeforeq1 (a0 : List (Int × Int × Int)) (a1 : Int) (a2 : Int) (a3 : Int) (r : Bool) : Value := match r with
  | o0 => (Value.bool o0)
noncomputable def R_heapHeapviewportlaw23itembeforeq1 (a0 : List (Int × Int × Int)) (a1 : Int) (a2 : Int) (a3 : Int) (r : Bool) : AH := match r with
  | o0 => ⟨sB [], 2, 2⟩
noncomputable abbrev G_heapHeapviewportlaw23itembeforeq1 (a0 : List (Int × Int × Int)) (a1 : Int) (a2 : Int) (a3 : Int) (r : Bool) : Prop := Gv P (.func 26) (A_heapHeapviewportlaw23itembeforeq1 a0 a1 a2 a3) (H_heapHeapviewportlaw23itembeforeq1 a0 a1 a2 a3) (V_heapHeapviewportlaw23itembeforeq1 a0 a1 a2 a3 r) (R_heapHeapviewportlaw23itembeforeq1 a0 a1 a2 a3 r)
def m_heapHeapviewportlaw23itembeforeq1 (n : Nat) (a0 : List (Int × Int × Int)) (a1 : Int) (a2 : Int) (a3 : Int) : Option (Bool) :=
  if 0 ≤ a2 ∧ a2 < (((a0).length : Nat) : Int) then
    if 0 ≤ a3 ∧ a3 < (((a0).length : Nat) : Int) then
      (m_viewportlaw23byKeyq1 n (((a0).getD (a2).toNat (0, 0, 0)).2.1) (((a0).getD (a2).toNat (0, 0, 0)).2.2) (((a0).getD (a3).toNat (0, 0, 0)).2.1) (((a0).getD (a3).toNat (0, 0, 0)).2.2)).bind fun c3_ =>
      if c3_ = (0 : Int) then
        if (((a0).getD (a2).toNat (0, 0, 0)).1) < (((a0).getD (a3).toNat (0, 0, 0)).1) then
          some true
        else
          some false
      else
        if c3_ < (0 : Int) then
          some true
        else
          some false
    else none
  else none
set_option maxRecDepth 100000 in
theorem p_heapHeapviewportlaw23itembeforeq1_0 (n : Nat) (a0 : List (Int × Int × Int)) (a1 : Int) (a2 : Int) (a3 : Int) (hc1 : 0 ≤ a2 ∧ a2 < (((a0).length : Nat) : Int)) (hc2 : 0 ≤ a3 ∧ a3 < (((a0).length : Nat) : Int)) (c3_ : Int) (hc3 : m_viewportlaw23byKeyq1 n (((a0).getD (a2).toNat (0, 0, 0)).2.1) (((a0).getD (a2).toNat (0, 0, 0)).2.2) (((a0).getD (a3).toNat (0, 0, 0)).2.1) (((a0).getD (a3).toNat (0, 0, 0)).2.2) = some c3_) (hc4 : c3_ = (0 : Int)) (hc5 : (((a0).getD (a2).toNat (0, 0, 0)).1) < (((a0).getD (a3).toNat (0, 0, 0)).1)) : G_heapHeapviewportlaw23itembeforeq1 a0 a1 a2 a3 true :=
  runF_ok hm (A := aT [(8, .pur (Value.pointer (some ⟨1, ((a2).toNat * 3), none⟩))), (9, .ld (Value.agg #[(Value.int .i64 (((a0).getD (a2).toNat (0, 0, 0)).1)), (Value.int .i64 (((a0).getD (a2).toNat (0, 0, 0)).2.1)), (Value.int .i64 (((a0).getD (a2).toNat (0, 0, 0)).2.2))])), (15, .pur (Value.pointer (some ⟨1, ((a3).toNat * 3), none⟩))), (16, .ld (Value.agg #[(Value.int .i64 (((a0).getD (a3).toNat (0, 0, 0)).1)), (Value.int .i64 (((a0).getD (a3).toNat (0, 0, 0)).2.1)), (Value.int .i64 (((a0).getD (a3).toNat (0, 0, 0)).2.2))])), (31, .call ⟨0, [], (V_viewportlaw23byKeyq1 (((a0).getD (a2).toNat (0, 0, 0)).2.1) (((a0).getD (a2).toNat (0, 0, 0)).2.2) (((a0).getD (a3).toNat (0, 0, 0)).2.1) (((a0).getD (a3).toNat (0, 0, 0)).2.2) c3_), (R_viewportlaw23byKeyq1 (((a0).getD (a2).toNat (0, 0, 0)).2.1) (((a0).getD (a2).toNat (0, 0, 0)).2.2) (((a0).getD (a3).toNat (0, 0, 0)).2.1) (((a0).getD (a3).toNat (0, 0, 0)).2.2) c3_), []⟩), (35, .val (.bool false)), (44, .val (.bool true))]) (L := lT []) (wk := ⟨[6], [], 2, 2⟩)
    (ps := [opIndexAddr P 49 (Value.slice (some ⟨1, 0, none⟩) (a0).length (Nat.add big 3)) (Value.int .i64 a2) Ax.h0 = some ((Value.pointer (some ⟨1, ((a2).toNat * 3), none⟩)), Ax.h0),
    rdT (layT (rows rw_iii a0)) 3 ((a2).toNat * 3) = some [(Value.int .i64 (((a0).getD (a2).toNat (0, 0, 0)).1)), (Value.int .i64 (((a0).getD (a2).toNat (0, 0, 0)).2.1)), (Value.int .i64 (((a0).getD (a2).toNat (0, 0, 0)).2.2))],
    opIndexAddr P 49 (Value.slice (some ⟨1, 0, none⟩) (a0).length (Nat.add big 3)) (Value.int .i64 a3) Ax.h0 = some ((Value.pointer (some ⟨1, ((a3).toNat * 3), none⟩)), Ax.h0),
    rdT (layT (rows rw_iii a0)) 3 ((a3).toNat * 3) = some [(Value.int .i64 (((a0).getD (a3).toNat (0, 0, 0)).1)), (Value.int .i64 (((a0).getD (a3).toNat (0, 0, 0)).2.1)), (Value.int .i64 (((a0).getD (a3).toNat (0, 0, 0)).2.2))],
    G_viewportlaw23byKeyq1 (((a0).getD (a2).toNat (0, 0, 0)).2.1) (((a0).getD (a2).toNat (0, 0, 0)).2.2) (((a0).getD (a3).toNat (0, 0, 0)).2.1) (((a0).getD (a3).toNat (0, 0, 0)).2.2) c3_,
    (Value.bool (c3_ != (0 : Int))) = (Value.bool false),
    (Value.bool (decide ((((a0).getD (a2).toNat (0, 0, 0)).1) < (((a0).getD (a3).toNat (0, 0, 0)).1)))) = (Value.bool true)]) (by kernel_rfl) ⟨(ixS (e := 55) (by kernel_rfl) (by kernel_rfl) (hc1).1 (hc1).2), (rows_rdp rwf_iii (0, 0, 0) (i := (a2).toNat) (j := 0) ((a2).toNat * 3) rfl (toNatLt hc1) (by decide) rfl), (ixS (e := 55) (by kernel_rfl) (by kernel_rfl) (hc2).1 (hc2).2), (rows_rdp rwf_iii (0, 0, 0) (i := (a3).toNat) (j := 0) ((a3).toNat * 3) rfl (toNatLt hc2) (by decide) rfl), (m_viewportlaw23byKeyq1_ok n (((a0).getD (a2).toNat (0, 0, 0)).2.1) (((a0).getD (a2).toNat (0, 0, 0)).2.2) (((a0).getD (a3).toNat (0, 0, 0)).2.1) (((a0).getD (a3).toNat (0, 0, 0)).2.2) c3_ hc3), (vnF hc4), (vbT hc5), trivial⟩
set_option maxRecDepth 100000 in
theorem p_heapHeapviewportlaw23itembeforeq1_1 (n : Nat) (a0 : List (Int × Int × Int)) (a1 : Int) (a2 : Int) (a3 : Int) (hc1 : 0 ≤ a2 ∧ a2 < (((a0).length : Nat) : Int)) (hc2 : 0 ≤ a3 ∧ a3 < (((a0).length : Nat) : Int)) (c3_ : Int) (hc3 : m_viewportlaw23byKeyq1 n (((a0).getD (a2).toNat (0, 0, 0)).2.1) (((a0).getD (a2).toNat (0, 0, 0)).2.2) (((a0).getD (a3).toNat (0, 0, 0)).2.1) (((a0).getD (a3).toNat (0, 0, 0)).2.2) = some c3_) (hc4 : c3_ = (0 : Int)) (hc5 : ¬ ((((a0).getD (a2).toNat (0, 0, 0)).1) < (((a0).getD (a3).toNat (0, 0, 0)).1))) : G_heapHeapviewportlaw23itembeforeq1 a0 a1 a2 a3 false :=
  runF_ok hm (A := aT [(8, .pur (Value.pointer (some ⟨1, ((a2).toNat * 3), none⟩))), (9, .ld (Value.agg #[(Value.int .i64 (((a0).getD (a2).toNat (0, 0, 0)).1)), (Value.int .i64 (((a0).getD (a2).toNat (0, 0, 0)).2.1)), (Value.int .i64 (((a0).getD (a2).toNat (0, 0, 0)).2.2))])), (15, .pur (Value.pointer (some ⟨1, ((a3).toNat * 3), none⟩))), (16, .ld (Value.agg #[(Value.int .i64 (((a0).getD (a3).toNat (0, 0, 0)).1)), (Value.int .i64 (((a0).getD (a3).toNat (0, 0, 0)).2.1)), (Value.int .i64 (((a0).getD (a3).toNat (0, 0, 0)).2.2))])), (31, .call ⟨0, [], (V_viewportlaw23byKeyq1 (((a0).getD (a2).toNat (0, 0, 0)).2.1) (((a0).getD (a2).toNat (0, 0, 0)).2.2) (((a0).getD (a3).toNat (0, 0, 0)).2.1) (((a0).getD (a3).toNat (0, 0, 0)).2.2) c3_), (R_viewportlaw23byKeyq1 (((a0).getD (a2).toNat (0, 0, 0)).2.1) (((a0).getD (a2).toNat (0, 0, 0)).2.2) (((a0).getD (a3).toNat (0, 0, 0)).2.1) (((a0).getD (a3).toNat (0, 0, 0)).2.2) c3_), []⟩), (35, .val (.bool false)), (44, .val (.bool false))]) (L := lT []) (wk := ⟨[6], [], 2, 2⟩)
    (ps := [opIndexAddr P 49 (Value.slice (some ⟨1, 0, none⟩) (a0).length (Nat.add big 3)) (Value.int .i64 a2) Ax.h0 = some ((Value.pointer (some ⟨1, ((a2).toNat * 3), none⟩)), Ax.h0),
    rdT (layT (rows rw_iii a0)) 3 ((a2).toNat * 3) = some [(Value.int .i64 (((a0).getD (a2).toNat (0, 0, 0)).1)), (Value.int .i64 (((a0).getD (a2).toNat (0, 0, 0)).2.1)), (Value.int .i64 (((a0).getD (a2).toNat (0, 0, 0)).2.2))],
    opIndexAddr P 49 (Value.slice (some ⟨1, 0, none⟩) (a0).length (Nat.add big 3)) (Value.int .i64 a3) Ax.h0 = some ((Value.pointer (some ⟨1, ((a3).toNat * 3), none⟩)), Ax.h0),
    rdT (layT (rows rw_iii a0)) 3 ((a3).toNat * 3) = some [(Value.int .i64 (((a0).getD (a3).toNat (0, 0, 0)).1)), (Value.int .i64 (((a0).getD (a3).toNat (0, 0, 0)).2.1)), (Value.int .i64 (((a0).getD (a3).toNat (0, 0, 0)).2.2))],
    G_viewportlaw23byKeyq1 (((a0).getD (a2).toNat (0, 0, 0)).2.1) (((a0).getD (a2).toNat (0, 0, 0)).2.2) (((a0).getD (a3).toNat (0, 0, 0)).2.1) (((a0).getD (a3).toNat (0, 0, 0)).2.2) c3_,
    (Value.bool (c3_ != (0 : Int))) = (Value.bool false),
    (Value.bool (decide ((((a0).getD (a2).toNat (0, 0, 0)).1) < (((a0).getD (a3).toNat (0, 0, 0)).1)))) = (Value.bool false)]) (by kernel_rfl) ⟨(ixS (e := 55) (by kernel_rfl) (by kernel_rfl) (hc1).1 (hc1).2), (rows_rdp rwf_iii (0, 0, 0) (i := (a2).toNat) (j := 0) ((a2).toNat * 3) rfl (toNatLt hc1) (by decide) rfl), (ixS (e := 55) (by kernel_rfl) (by kernel_rfl) (hc2).1 (hc2).2), (rows_rdp rwf_iii (0, 0, 0) (i := (a3).toNat) (j := 0) ((a3).toNat * 3) rfl (toNatLt hc2) (by decide) rfl), (m_viewportlaw23byKeyq1_ok n (((a0).getD (a2).toNat (0, 0, 0)).2.1) (((a0).getD (a2).toNat (0, 0, 0)).2.2) (((a0).getD (a3).toNat (0, 0, 0)).2.1) (((a0).getD (a3).toNat (0, 0, 0)).2.2) c3_ hc3), (vnF hc4), (vbF hc5), trivial⟩
set_option maxRecDepth 100000 in
theorem p_heapHeapviewportlaw23itembeforeq1_2 (n : Nat) (a0 : List (Int × Int × Int)) (a1 : Int) (a2 : Int) (a3 : Int) (hc1 : 0 ≤ a2 ∧ a2 < (((a0).length : Nat) : Int)) (hc2 : 0 ≤ a3 ∧ a3 < (((a0).length : Nat) : Int)) (c3_ : Int) (hc3 : m_viewportlaw23byKeyq1 n (((a0).getD (a2).toNat (0, 0, 0)).2.1) (((a0).getD (a2).toNat (0, 0, 0)).2.2) (((a0).getD (a3).toNat (0, 0, 0)).2.1) (((a0).getD (a3).toNat (0, 0, 0)).2.2) = some c3_) (hc4 : ¬ (c3_ = (0 : Int))) (hc5 : c3_ < (0 : Int)) : G_heapHeapviewportlaw23itembeforeq1 a0 a1 a2 a3 true :=
  runF_ok hm (A := aT [(8, .pur (Value.pointer (some ⟨1, ((a2).toNat * 3), none⟩))), (9, .ld (Value.agg #[(Value.int .i64 (((a0).getD (a2).toNat (0, 0, 0)).1)), (Value.int .i64 (((a0).getD (a2).toNat (0, 0, 0)).2.1)), (Value.int .i64 (((a0).getD (a2).toNat (0, 0, 0)).2.2))])), (15, .pur (Value.pointer (some ⟨1, ((a3).toNat * 3), none⟩))), (16, .ld (Value.agg #[(Value.int .i64 (((a0).getD (a3).toNat (0, 0, 0)).1)), (Value.int .i64 (((a0).getD (a3).toNat (0, 0, 0)).2.1)), (Value.int .i64 (((a0).getD (a3).toNat (0, 0, 0)).2.2))])), (31, .call ⟨0, [], (V_viewportlaw23byKeyq1 (((a0).getD (a2).toNat (0, 0, 0)).2.1) (((a0).getD (a2).toNat (0, 0, 0)).2.2) (((a0).getD (a3).toNat (0, 0, 0)).2.1) (((a0).getD (a3).toNat (0, 0, 0)).2.2) c3_), (R_viewportlaw23byKeyq1 (((a0).getD (a2).toNat (0, 0, 0)).2.1) (((a0).getD (a2).toNat (0, 0, 0)).2.2) (((a0).getD (a3).toNat (0, 0, 0)).2.1) (((a0).getD (a3).toNat (0, 0, 0)).2.2) c3_), []⟩), (35, .val (.bool true)), (39, .val (.bool true))]) (L := lT []) (wk := ⟨[6], [], 2, 2⟩)
    (ps := [opIndexAddr P 49 (Value.slice (some ⟨1, 0, none⟩) (a0).length (Nat.add big 3)) (Value.int .i64 a2) Ax.h0 = some ((Value.pointer (some ⟨1, ((a2).toNat * 3), none⟩)), Ax.h0),
    rdT (layT (rows rw_iii a0)) 3 ((a2).toNat * 3) = some [(Value.int .i64 (((a0).getD (a2).toNat (0, 0, 0)).1)), (Value.int .i64 (((a0).getD (a2).toNat (0, 0, 0)).2.1)), (Value.int .i64 (((a0).getD (a2).toNat (0, 0, 0)).2.2))],
    opIndexAddr P 49 (Value.slice (some ⟨1, 0, none⟩) (a0).length (Nat.add big 3)) (Value.int .i64 a3) Ax.h0 = some ((Value.pointer (some ⟨1, ((a3).toNat * 3), none⟩)), Ax.h0),
    rdT (layT (rows rw_iii a0)) 3 ((a3).toNat * 3) = some [(Value.int .i64 (((a0).getD (a3).toNat (0, 0, 0)).1)), (Value.int .i64 (((a0).getD (a3).toNat (0, 0, 0)).2.1)), (Value.int .i64 (((a0).getD (a3).toNat (0, 0, 0)).2.2))],
    G_viewportlaw23byKeyq1 (((a0).getD (a2).toNat (0, 0, 0)).2.1) (((a0).getD (a2).toNat (0, 0, 0)).2.2) (((a0).getD (a3).toNat (0, 0, 0)).2.1) (((a0).getD (a3).toNat (0, 0, 0)).2.2) c3_,
    (Value.bool (c3_ != (0 : Int))) = (Value.bool true),
    (Value.bool (decide (c3_ < (0 : Int)))) = (Value.bool true)]) (by kernel_rfl) ⟨(ixS (e := 55) (by kernel_rfl) (by kernel_rfl) (hc1).1 (hc1).2), (rows_rdp rwf_iii (0, 0, 0) (i := (a2).toNat) (j := 0) ((a2).toNat * 3) rfl (toNatLt hc1) (by decide) rfl), (ixS (e := 55) (by kernel_rfl) (by kernel_rfl) (hc2).1 (hc2).2), (rows_rdp rwf_iii (0, 0, 0) (i := (a3).toNat) (j := 0) ((a3).toNat * 3) rfl (toNatLt hc2) (by decide) rfl), (m_viewportlaw23byKeyq1_ok n (((a0).getD (a2).toNat (0, 0, 0)).2.1) (((a0).getD (a2).toNat (0, 0, 0)).2.2) (((a0).getD (a3).toNat (0, 0, 0)).2.1) (((a0).getD (a3).toNat (0, 0, 0)).2.2) c3_ hc3), (vnT hc4), (vbT hc5), trivial⟩
set_option maxRecDepth 100000 in
theorem p_heapHeapviewportlaw23itembeforeq1_3 (n : Nat) (a0 : List (Int × Int × Int)) (a1 : Int) (a2 : Int) (a3 : Int) (hc1 : 0 ≤ a2 ∧ a2 < (((a0).length : Nat) : Int)) (hc2 : 0 ≤ a3 ∧ a3 < (((a0).length : Nat) : Int)) (c3_ : Int) (hc3 : m_viewportlaw23byKeyq1 n (((a0).getD (a2).toNat (0, 0, 0)).2.1) (((a0).getD (a2).toNat (0, 0, 0)).2.2) (((a0).getD (a3).toNat (0, 0, 0)).2.1) (((a0).getD (a3).toNat (0, 0, 0)).2.2) = some c3_) (hc4 : ¬ (c3_ = (0 : Int))) (hc5 : ¬ (c3_ < (0 : Int))) : G_heapHeapviewportlaw23itembeforeq1 a0 a1 a2 a3 false :=
  runF_ok hm (A := aT [(8, .pur (Value.pointer (some ⟨1, ((a2).toNat * 3), none⟩))), (9, .ld (Value.agg #[(Value.int .i64 (((a0).getD (a2).toNat (0, 0, 0)).1)), (Value.int .i64 (((a0).getD (a2).toNat (0, 0, 0)).2.1)), (Value.int .i64 (((a0).getD (a2).toNat (0, 0, 0)).2.2))])), (15, .pur (Value.pointer (some ⟨1, ((a3).toNat * 3), none⟩))), (16, .ld (Value.agg #[(Value.int .i64 (((a0).getD (a3).toNat (0, 0, 0)).1)), (Value.int .i64 (((a0).getD (a3).toNat (0, 0, 0)).2.1)), (Value.int .i64 (((a0).getD (a3).toNat (0, 0, 0)).2.2))])), (31, .call ⟨0, [], (V_viewportlaw23byKeyq1 (((a0).getD (a2).toNat (0, 0, 0)).2.1) (((a0).getD (a2).toNat (0, 0, 0)).2.2) (((a0).getD (a3).toNat (0, 0, 0)).2.1) (((a0).getD (a3).toNat (0, 0, 0)).2.2) c3_), (R_viewportlaw23byKeyq1 (((a0).getD (a2).toNat (0, 0, 0)).2.1) (((a0).getD (a2).toNat (0, 0, 0)).2.2) (((a0).getD (a3).toNat (0, 0, 0)).2.1) (((a0).getD (a3).toNat (0, 0, 0)).2.2) c3_), []⟩), (35, .val (.bool true)), (39, .val (.bool false))]) (L := lT []) (wk := ⟨[6], [], 2, 2⟩)
    (ps := [opIndexAddr P 49 (Value.slice (some ⟨1, 0, none⟩) (a0).length (Nat.add big 3)) (Value.int .i64 a2) Ax.h0 = some ((Value.pointer (some ⟨1, ((a2).toNat * 3), none⟩)), Ax.h0),
    rdT (layT (rows rw_iii a0)) 3 ((a2).toNat * 3) = some [(Value.int .i64 (((a0).getD (a2).toNat (0, 0, 0)).1)), (Value.int .i64 (((a0).getD (a2).toNat (0, 0, 0)).2.1)), (Value.int .i64 (((a0).getD (a2).toNat (0, 0, 0)).2.2))],
    opIndexAddr P 49 (Value.slice (some ⟨1, 0, none⟩) (a0).length (Nat.add big 3)) (Value.int .i64 a3) Ax.h0 = some ((Value.pointer (some ⟨1, ((a3).toNat * 3), none⟩)), Ax.h0),
    rdT (layT (rows rw_iii a0)) 3 ((a3).toNat * 3) = some [(Value.int .i64 (((a0).getD (a3).toNat (0, 0, 0)).1)), (Value.int .i64 (((a0).getD (a3).toNat (0, 0, 0)).2.1)), (Value.int .i64 (((a0).getD (a3).toNat (0, 0, 0)).2.2))],
    G_viewportlaw23byKeyq1 (((a0).getD (a2).toNat (0, 0, 0)).2.1) (((a0).getD (a2).toNat (0, 0, 0)).2.2) (((a0).getD (a3).toNat (0, 0, 0)).2.1) (((a0).getD (a3).toNat (0, 0, 0)).2.2) c3_,
    (Value.bool (c3_ != (0 : Int))) = (Value.bool true),
    (Value.bool (decide (c3_ < (0 : Int)))) = (Value.bool false)]) (by kernel_rfl) ⟨(ixS (e := 55) (by kernel_rfl) (by kernel_rfl) (hc1).1 (hc1).2), (rows_rdp rwf_iii (0, 0, 0) (i := (a2).toNat) (j := 0) ((a2).toNat * 3) rfl (toNatLt hc1) (by decide) rfl), (ixS (e := 55) (by kernel_rfl) (by kernel_rfl) (hc2).1 (hc2).2), (rows_rdp rwf_iii (0, 0, 0) (i := (a3).toNat) (j := 0) ((a3).toNat * 3) rfl (toNatLt hc2) (by decide) rfl), (m_viewportlaw23byKeyq1_ok n (((a0).getD (a2).toNat (0, 0, 0)).2.1) (((a0).getD (a2).toNat (0, 0, 0)).2.2) (((a0).getD (a3).toNat (0, 0, 0)).2.1) (((a0).getD (a3).toNat (0, 0, 0)).2.2) c3_ hc3), (vnT hc4), (vbF hc5), trivial⟩
theorem m_heapHeapviewportlaw23itembeforeq1_ok (n : Nat) (a0 : List (Int × Int × Int)) (a1 : Int) (a2 : Int) (a3 : Int) (r : Bool) (h : m_heapHeapviewportlaw23itembeforeq1 n a0 a1 a2 a3 = some r) : G_heapHeapviewportlaw23itembeforeq1 a0 a1 a2 a3 r := by
  unfold m_heapHeapviewportlaw23itembeforeq1 at h
  by_cases hc1 : 0 ≤ a2 ∧ a2 < (((a0).length : Nat) : Int)
  · rw [if_pos hc1] at h
    by_cases hc2 : 0 ≤ a3 ∧ a3 < (((a0).length : Nat) : Int)
    · rw [if_pos hc2] at h
      obtain ⟨c3_, hc3, h⟩ := Option.bind_eq_some_iff.1 h
      by_cases hc4 : c3_ = (0 : Int)
      · rw [if_pos hc4] at h
        by_cases hc5 : (((a0).getD (a2).toNat (0, 0, 0)).1) < (((a0).getD (a3).toNat (0, 0, 0)).1)
        · rw [if_pos hc5] at h
          obtain rfl := Option.some.inj h; exact p_heapHeapviewportlaw23itembeforeq1_0 n a0 a1 a2 a3 hc1 hc2 c3_ hc3 hc4 hc5
        · rw [if_neg hc5] at h
          obtain rfl := Option.some.inj h; exact p_heapHeapviewportlaw23itembeforeq1_1 n a0 a1 a2 a3 hc1 hc2 c3_ hc3 hc4 hc5
      · rw [if_neg hc4] at h
        by_cases hc5 : c3_ < (0 : Int)
        · rw [if_pos hc5] at h
          obtain rfl := Option.some.inj h; exact p_heapHeapviewportlaw23itembeforeq1_2 n a0 a1 a2 a3 hc1 hc2 c3_ hc3 hc4 hc5
        · rw [if_neg hc5] at h
          obtain rfl := Option.some.inj h; exact p_heapHeapviewportlaw23itembeforeq1_3 n a0 a1 a2 a3 hc1 hc2 c3_ hc3 hc4 hc5
    · rw [if_neg hc2] at h; cases h
  · rw [if_neg hc1] at h; cases h

noncomputable def A_heapHeapviewportlaw23itembeforeq2 (a0 : List (Int × Int × Int)) (a1 : Nat) (a2 : Int) (a3 : Int) (a4 : Int) : List Value := [(Value.pointer (some ⟨0, 0, none⟩)), (Value.int .i64 a3), (Value.int .i64 a4)]
noncomputable def H_heapHeapviewportlaw23itembeforeq2 (a0 : List (Int × Int × Int)) (a1 : Nat) (a2 : Int) (a3 : Int) (a4 : Int) : AH := ⟨sB [(0, (some (.cells (layT [(Value.pointer (some ⟨0, 0, none⟩)), (Value.func (.func 8) #[] #[]), (Value.slice (some ⟨1, 0, none⟩) a1 (Nat.add big 3)), (Value.int .i64 a2)]) 51))), (1, (some (.cells (layT (rows rw_iii a0)) 55)))], 2, 2⟩
noncomputable def V_heapHeapviewportlaw23itembeforeq2 (a0 : List (Int × Int × Int)) (a1 : Nat) (a2 : Int) (a3 : Int) (a4 : Int) (r : Bool) : Value := match r with
  | o0 => (Value.bool o0)
noncomputable def R_heapHeapviewportlaw23itembeforeq2 (a0 : List (Int × Int × Int)) (a1 : Nat) (a2 : Int) (a3 : Int) (a4 : Int) (r : Bool) : AH := match r with
  | o0 => ⟨sB [], 2, 2⟩
noncomputable abbrev G_heapHeapviewportlaw23itembeforeq2 (a0 : List (Int × Int × Int)) (a1 : Nat) (a2 : Int) (a3 : Int) (a4 : Int) (r : Bool) : Prop := Gv P (.func 26) (A_heapHeapviewportlaw23itembeforeq2 a0 a1 a2 a3 a4) (H_heapHeapviewportlaw23itembeforeq2 a0 a1 a2 a3 a4) (V_heapHeapviewportlaw23itembeforeq2 a0 a1 a2 a3 a4 r) (R_heapHeapviewportlaw23itembeforeq2 a0 a1 a2 a3 a4 r)
def m_heapHeapviewportlaw23itembeforeq2 (n : Nat) (a0 : List (Int × Int × Int)) (a1 : Nat) (a2 : Int) (a3 : Int) (a4 : Int) : Option (Bool) :=
  if 0 ≤ a3 ∧ a3 < ((a1 : Nat) : Int) then
    if (a3).toNat < (a0).length then
      if 0 ≤ a4 ∧ a4 < ((a1 : Nat) : Int) then
        if (a4).toNat < (a0).length then
          (m_viewportlaw23byKeyq1 n (((a0).getD (a3).toNat (0, 0, 0)).2.1) (((a0).getD (a3).toNat (0, 0, 0)).2.2) (((a0).getD (a4).toNat (0, 0, 0)).2.1) (((a0).getD (a4).toNat (0, 0, 0)).2.2)).bind fun c5_ =>
          if c5_ = (0 : Int) then
            if (((a0).getD (a3).toNat (0, 0, 0)).1) < (((a0).getD (a4).toNat (0, 0, 0)).1) then
              some true
            else
              some false
          else
            if c5_ < (0 : Int) then
              some true
            else
              some false
        else none
      else none
    else none
  else none
set_option maxRecDepth 100000 in
theorem p_heapHeapviewportlaw23itembeforeq2_0 (n : Nat) (a0 : List (Int × Int × Int)) (a1 : Nat) (a2 : Int) (a3 : Int) (a4 : Int) (hc1 : 0 ≤ a3 ∧ a3 < ((a1 : Nat) : Int)) (hc2 : (a3).toNat < (a0).length) (hc3 : 0 ≤ a4 ∧ a4 < ((a1 : Nat) : Int)) (hc4 : (a4).toNat < (a0).length) (c5_ : Int) (hc5 : m_viewportlaw23byKeyq1 n (((a0).getD (a3).toNat (0, 0, 0)).2.1) (((a0).getD (a3).toNat (0, 0, 0)).2.2) (((a0).getD (a4).toNat (0, 0, 0)).2.1) (((a0).getD (a4).toNat (0, 0, 0)).2.2) = some c5_) (hc6 : c5_ = (0 : Int)) (hc7 : (((a0).getD (a3).toNat (0, 0, 0)).1) < (((a0).getD (a4).toNat (0, 0, 0)).1)) : G_heapHeapviewportlaw23itembeforeq2 a0 a1 a2 a3 a4 true :=
  runF_ok hm (A := aT [(8, .pur (Value.pointer (some ⟨1, ((a3).toNat * 3), none⟩))), (9, .ld (Value.agg #[(Value.int .i64 (((a0).getD (a3).toNat (0, 0, 0)).1)), (Value.int .i64 (((a0).getD (a3).toNat (0, 0, 0)).2.1)), (Value.int .i64 (((a0).getD (a3).toNat (0, 0, 0)).2.2))])), (15, .pur (Value.pointer (some ⟨1, ((a4).toNat * 3), none⟩))), (16, .ld (Value.agg #[(Value.int .i64 (((a0).getD (a4).toNat (0, 0, 0)).1)), (Value.int .i64 (((a0).getD (a4).toNat (0, 0, 0)).2.1)), (Value.int .i64 (((a0).getD (a4).toNat (0, 0, 0)).2.2))])), (31, .call ⟨0, [], (V_viewportlaw23byKeyq1 (((a0).getD (a3).toNat (0, 0, 0)).2.1) (((a0).getD (a3).toNat (0, 0, 0)).2.2) (((a0).getD (a4).toNat (0, 0, 0)).2.1) (((a0).getD (a4).toNat (0, 0, 0)).2.2) c5_), (R_viewportlaw23byKeyq1 (((a0).getD (a3).toNat (0, 0, 0)).2.1) (((a0).getD (a3).toNat (0, 0, 0)).2.2) (((a0).getD (a4).toNat (0, 0, 0)).2.1) (((a0).getD (a4).toNat (0, 0, 0)).2.2) c5_), []⟩), (35, .val (.bool false)), (44, .val (.bool true))]) (L := lT []) (wk := ⟨[6], [], 2, 2⟩)
    (ps := [opIndexAddr P 49 (Value.slice (some ⟨1, 0, none⟩) a1 (Nat.add big 3)) (Value.int .i64 a3) Ax.h0 = some ((Value.pointer (some ⟨1, ((a3).toNat * 3), none⟩)), Ax.h0),
    rdT (layT (rows rw_iii a0)) 3 ((a3).toNat * 3) = some [(Value.int .i64 (((a0).getD (a3).toNat (0, 0, 0)).1)), (Value.int .i64 (((a0).getD (a3).toNat (0, 0, 0)).2.1)), (Value.int .i64 (((a0).getD (a3).toNat (0, 0, 0)).2.2))],
    opIndexAddr P 49 (Value.slice (some ⟨1, 0, none⟩) a1 (Nat.add big 3)) (Value.int .i64 a4) Ax.h0 = some ((Value.pointer (some ⟨1, ((a4).toNat * 3), none⟩)), Ax.h0),
    rdT (layT (rows rw_iii a0)) 3 ((a4).toNat * 3) = some [(Value.int .i64 (((a0).getD (a4).toNat (0, 0, 0)).1)), (Value.int .i64 (((a0).getD (a4).toNat (0, 0, 0)).2.1)), (Value.int .i64 (((a0).getD (a4).toNat (0, 0, 0)).2.2))],
    G_viewportlaw23byKeyq1 (((a0).getD (a3).toNat (0, 0, 0)).2.1) (((a0).getD (a3).toNat (0, 0, 0)).2.2) (((a0).getD (a4).toNat (0, 0, 0)).2.1) (((a0).getD (a4).toNat (0, 0, 0)).2.2) c5_,
    (Value.bool (c5_ != (0 : Int))) = (Value.bool false),
    (Value.bool (decide ((((a0).getD (a3).toNat (0, 0, 0)).1) < (((a0).getD (a4).toNat (0, 0, 0)).1)))) = (Value.bool true)]) (by kernel_rfl) ⟨(ixS (e := 55) (by kernel_rfl) (by kernel_rfl) (hc1).1 (hc1).2), (rows_rdp rwf_iii (0, 0, 0) (i := (a3).toNat) (j := 0) ((a3).toNat * 3) rfl (hc2) (by decide) rfl), (ixS (e := 55) (by kernel_rfl) (by kernel_rfl) (hc3).1 (hc3).2), (rows_rdp rwf_iii (0, 0, 0) (i := (a4).toNat) (j := 0) ((a4).toNat * 3) rfl (hc4) (by decide) rfl), (m_viewportlaw23byKeyq1_ok n (((a0).getD (a3).toNat (0, 0, 0)).2.1) (((a0).getD (a3).toNat (0, 0, 0)).2.2) (((a0).getD (a4).toNat (0, 0, 0)).2.1) (((a0).getD (a4).toNat (0, 0, 0)).2.2) c5_ hc5), (vnF hc6), (vbT hc7), trivial⟩
set_option maxRecDepth 100000 in
theorem p_heapHeapviewportlaw23itembeforeq2_1 (n : Nat) (a0 : List (Int × Int × Int)) (a1 : Nat) (a2 : Int) (a3 : Int) (a4 : Int) (hc1 : 0 ≤ a3 ∧ a3 < ((a1 : Nat) : Int)) (hc2 : (a3).toNat < (a0).length) (hc3 : 0 ≤ a4 ∧ a4 < ((a1 : Nat) : Int)) (hc4 : (a4).toNat < (a0).length) (c5_ : Int) (hc5 : m_viewportlaw23byKeyq1 n (((a0).getD (a3).toNat (0, 0, 0)).2.1) (((a0).getD (a3).toNat (0, 0, 0)).2.2) (((a0).getD (a4).toNat (0, 0, 0)).2.1) (((a0).getD (a4).toNat (0, 0, 0)).2.2) = some c5_) (hc6 : c5_ = (0 : Int)) (hc7 : ¬ ((((a0).getD (a3).toNat (0, 0, 0)).1) < (((a0).getD (a4).toNat (0, 0, 0)).1))) : G_heapHeapviewportlaw23itembeforeq2 a0 a1 a2 a3 a4 false :=
  runF_ok hm (A := aT [(8, .pur (Value.pointer (some ⟨1, ((a3).toNat * 3), none⟩))), (9, .ld (Value.agg #[(Value.int .i64 (((a0).getD (a3).toNat (0, 0, 0)).1)), (Value.int .i64 (((a0).getD (a3).toNat (0, 0, 0)).2.1)), (Value.int .i64 (((a0).getD (a3).toNat (0, 0, 0)).2.2))])), (15, .pur (Value.pointer (some ⟨1, ((a4).toNat * 3), none⟩))), (16, .ld (Value.agg #[(Value.int .i64 (((a0).getD (a4).toNat (0, 0, 0)).1)), (Value.int .i64 (((a0).getD (a4).toNat (0, 0, 0)).2.1)), (Value.int .i64 (((a0).getD (a4).toNat (0, 0, 0)).2.2))])), (31, .call ⟨0, [], (V_viewportlaw23byKeyq1 (((a0).getD (a3).toNat (0, 0, 0)).2.1) (((a0).getD (a3).toNat (0, 0, 0)).2.2) (((a0).getD (a4).toNat (0, 0, 0)).2.1) (((a0).getD (a4).toNat (0, 0, 0)).2.2) c5_), (R_viewportlaw23byKeyq1 (((a0).getD (a3).toNat (0, 0, 0)).2.1) (((a0).getD (a3).toNat (0, 0, 0)).2.2) (((a0).getD (a4).toNat (0, 0, 0)).2.1) (((a0).getD (a4).toNat (0, 0, 0)).2.2) c5_), []⟩), (35, .val (.bool false)), (44, .val (.bool false))]) (L := lT []) (wk := ⟨[6], [], 2, 2⟩)
    (ps := [opIndexAddr P 49 (Value.slice (some ⟨1, 0, none⟩) a1 (Nat.add big 3)) (Value.int .i64 a3) Ax.h0 = some ((Value.pointer (some ⟨1, ((a3).toNat * 3), none⟩)), Ax.h0),
    rdT (layT (rows rw_iii a0)) 3 ((a3).toNat * 3) = some [(Value.int .i64 (((a0).getD (a3).toNat (0, 0, 0)).1)), (Value.int .i64 (((a0).getD (a3).toNat (0, 0, 0)).2.1)), (Value.int .i64 (((a0).getD (a3).toNat (0, 0, 0)).2.2))],
    opIndexAddr P 49 (Value.slice (some ⟨1, 0, none⟩) a1 (Nat.add big 3)) (Value.int .i64 a4) Ax.h0 = some ((Value.pointer (some ⟨1, ((a4).toNat * 3), none⟩)), Ax.h0),
    rdT (layT (rows rw_iii a0)) 3 ((a4).toNat * 3) = some [(Value.int .i64 (((a0).getD (a4).toNat (0, 0, 0)).1)), (Value.int .i64 (((a0).getD (a4).toNat (0, 0, 0)).2.1)), (Value.int .i64 (((a0).getD (a4).toNat (0, 0, 0)).2.2))],
    G_viewportlaw23byKeyq1 (((a0).getD (a3).toNat (0, 0, 0)).2.1) (((a0).getD (a3).toNat (0, 0, 0)).2.2) (((a0).getD (a4).toNat (0, 0, 0)).2.1) (((a0).getD (a4).toNat (0, 0, 0)).2.2) c5_,
    (Value.bool (c5_ != (0 : Int))) = (Value.bool false),
    (Value.bool (decide ((((a0).getD (a3).toNat (0, 0, 0)).1) < (((a0).getD (a4).toNat (0, 0, 0)).1)))) = (Value.bool false)]) (by kernel_rfl) ⟨(ixS (e := 55) (by kernel_rfl) (by kernel_rfl) (hc1).1 (hc1).2), (rows_rdp rwf_iii (0, 0, 0) (i := (a3).toNat) (j := 0) ((a3).toNat * 3) rfl (hc2) (by decide) rfl), (ixS (e := 55) (by kernel_rfl) (by kernel_rfl) (hc3).1 (hc3).2), (rows_rdp rwf_iii (0, 0, 0) (i := (a4).toNat) (j := 0) ((a4).toNat * 3) rfl (hc4) (by decide) rfl), (m_viewportlaw23byKeyq1_ok n (((a0).getD (a3).toNat (0, 0, 0)).2.1) (((a0).getD (a3).toNat (0, 0, 0)).2.2) (((a0).getD (a4).toNat (0, 0, 0)).2.1) (((a0).getD (a4).toNat (0, 0, 0)).2.2) c5_ hc5), (vnF hc6), (vbF hc7), trivial⟩
set_option maxRecDepth 100000 in
theorem p_heapHeapviewportlaw23itembeforeq2_2 (n : Nat) (a0 : List (Int × Int × Int)) (a1 : Nat) (a2 : Int) (a3 : Int) (a4 : Int) (hc1 : 0 ≤ a3 ∧ a3 < ((a1 : Nat) : Int)) (hc2 : (a3).toNat < (a0).length) (hc3 : 0 ≤ a4 ∧ a4 < ((a1 : Nat) : Int)) (hc4 : (a4).toNat < (a0).length) (c5_ : Int) (hc5 : m_viewportlaw23byKeyq1 n (((a0).getD (a3).toNat (0, 0, 0)).2.1) (((a0).getD (a3).toNat (0, 0, 0)).2.2) (((a0).getD (a4).toNat (0, 0, 0)).2.1) (((a0).getD (a4).toNat (0, 0, 0)).2.2) = some c5_) (hc6 : ¬ (c5_ = (0 : Int))) (hc7 : c5_ < (0 : Int)) : G_heapHeapviewportlaw23itembeforeq2 a0 a1 a2 a3 a4 true :=
  runF_ok hm (A := aT [(8, .pur (Value.pointer (some ⟨1, ((a3).toNat * 3), none⟩))), (9, .ld (Value.agg #[(Value.int .i64 (((a0).getD (a3).toNat (0, 0, 0)).1)), (Value.int .i64 (((a0).getD (a3).toNat (0, 0, 0)).2.1)), (Value.int .i64 (((a0).getD (a3).toNat (0, 0, 0)).2.2))])), (15, .pur (Value.pointer (some ⟨1, ((a4).toNat * 3), none⟩))), (16, .ld (Value.agg #[(Value.int .i64 (((a0).getD (a4).toNat (0, 0, 0)).1)), (Value.int .i64 (((a0).getD (a4).toNat (0, 0, 0)).2.1)), (Value.int .i64 (((a0).getD (a4).toNat (0, 0, 0)).2.2))])), (31, .call ⟨0, [], (V_viewportlaw23byKeyq1 (((a0).getD (a3).toNat (0, 0, 0)).2.1) (((a0).getD (a3).toNat (0, 0, 0)).2.2) (((a0).getD (a4).toNat (0, 0, 0)).2.1) (((a0).getD (a4).toNat (0, 0, 0)).2.2) c5_), (R_viewportlaw23byKeyq1 (((a0).getD (a3).toNat (0, 0, 0)).2.1) (((a0).getD (a3).toNat (0, 0, 0)).2.2) (((a0).getD (a4).toNat (0, 0, 0)).2.1) (((a0).getD (a4).toNat (0, 0, 0)).2.2) c5_), []⟩), (35, .val (.bool true)), (39, .val (.bool true))]) (L := lT []) (wk := ⟨[6], [], 2, 2⟩)
    (ps := [opIndexAddr P 49 (Value.slice (some ⟨1, 0, none⟩) a1 (Nat.add big 3)) (Value.int .i64 a3) Ax.h0 = some ((Value.pointer (some ⟨1, ((a3).toNat * 3), none⟩)), Ax.h0),
    rdT (layT (rows rw_iii a0)) 3 ((a3).toNat * 3) = some [(Value.int .i64 (((a0).getD (a3).toNat (0, 0, 0)).1)), (Value.int .i64 (((a0).getD (a3).toNat (0, 0, 0)).2.1)), (Value.int .i64 (((a0).getD (a3).toNat (0, 0, 0)).2.2))],
    opIndexAddr P 49 (Value.slice (some ⟨1, 0, none⟩) a1 (Nat.add big 3)) (Value.int .i64 a4) Ax.h0 = some ((Value.pointer (some ⟨1, ((a4).toNat * 3), none⟩)), Ax.h0),
    rdT (layT (rows rw_iii a0)) 3 ((a4).toNat * 3) = some [(Value.int .i64 (((a0).getD (a4).toNat (0, 0, 0)).1)), (Value.int .i64 (((a0).getD (a4).toNat (0, 0, 0)).2.1)), (Value.int .i64 (((a0).getD (a4).toNat (0, 0, 0)).2.2))],
    G_viewportlaw23byKeyq1 (((a0).getD (a3).toNat (0, 0, 0)).2.1) (((a0).getD (a3).toNat (0, 0, 0)).2.2) (((a0).getD (a4).toNat (0, 0, 0)).2.1) (((a0).getD (a4).toNat (0, 0, 0)).2.2) c5_,
    (Value.bool (c5_ != (0 : Int))) = (Value.bool true),
    (Value.bool (decide (c5_ < (0 : Int)))) = (Value.bool true)]) (by kernel_rfl) ⟨(ixS (e := 55) (by kernel_rfl) (by kernel_rfl) (hc1).1 (hc1).2), (rows_rdp rwf_iii (0, 0, 0) (i := (a3).toNat) (j := 0) ((a3).toNat * 3) rfl (hc2) (by decide) rfl), (ixS (e := 55) (by kernel_rfl) (by kernel_rfl) (hc3).1 (hc3).2), (rows_rdp rwf_iii (0, 0, 0) (i := (a4).toNat) (j := 0) ((a4).toNat * 3) rfl (hc4) (by decide) rfl), (m_viewportlaw23byKeyq1_ok n (((a0).getD (a3).toNat (0, 0, 0)).2.1) (((a0).getD (a3).toNat (0, 0, 0)).2.2) (((a0).getD (a4).toNat (0, 0, 0)).2.1) (((a0).getD (a4).toNat (0, 0, 0)).2.2) c5_ hc5), (vnT hc6), (vbT hc7), trivial⟩
set_option maxRecDepth 100000 in
theorem p_heapHeapviewportlaw23itembeforeq2_3 (n : Nat) (a0 : List (Int × Int × Int)) (a1 : Nat) (a2 : Int) (a3 : Int) (a4 : Int) (hc1 : 0 ≤ a3 ∧ a3 < ((a1 : Nat) : Int)) (hc2 : (a3).toNat < (a0).length) (hc3 : 0 ≤ a4 ∧ a4 < ((a1 : Nat) : Int)) (hc4 : (a4).toNat < (a0).length) (c5_ : Int) (hc5 : m_viewportlaw23byKeyq1 n (((a0).getD (a3).toNat (0, 0, 0)).2.1) (((a0).getD (a3).toNat (0, 0, 0)).2.2) (((a0).getD (a4).toNat (0, 0, 0)).2.1) (((a0).getD (a4).toNat (0, 0, 0)).2.2) = some c5_) (hc6 : ¬ (c5_ = (0 : Int))) (hc7 : ¬ (c5_ < (0 : Int))) : G_heapHeapviewportlaw23itembeforeq2 a0 a1 a2 a3 a4 false :=
  runF_ok hm (A := aT [(8, .pur (Value.pointer (some ⟨1, ((a3).toNat * 3), none⟩))), (9, .ld (Value.agg #[(Value.int .i64 (((a0).getD (a3).toNat (0, 0, 0)).1)), (Value.int .i64 (((a0).getD (a3).toNat (0, 0, 0)).2.1)), (Value.int .i64 (((a0).getD (a3).toNat (0, 0, 0)).2.2))])), (15, .pur (Value.pointer (some ⟨1, ((a4).toNat * 3), none⟩))), (16, .ld (Value.agg #[(Value.int .i64 (((a0).getD (a4).toNat (0, 0, 0)).1)), (Value.int .i64 (((a0).getD (a4).toNat (0, 0, 0)).2.1)), (Value.int .i64 (((a0).getD (a4).toNat (0, 0, 0)).2.2))])), (31, .call ⟨0, [], (V_viewportlaw23byKeyq1 (((a0).getD (a3).toNat (0, 0, 0)).2.1) (((a0).getD (a3).toNat (0, 0, 0)).2.2) (((a0).getD (a4).toNat (0, 0, 0)).2.1) (((a0).getD (a4).toNat (0, 0, 0)).2.2) c5_), (R_viewportlaw23byKeyq1 (((a0).getD (a3).toNat (0, 0, 0)).2.1) (((a0).getD (a3).toNat (0, 0, 0)).2.2) (((a0).getD (a4).toNat (0, 0, 0)).2.1) (((a0).getD (a4).toNat (0, 0, 0)).2.2) c5_), []⟩), (35, .val (.bool true)), (39, .val (.bool false))]) (L := lT []) (wk := ⟨[6], [], 2, 2⟩)
    (ps := [opIndexAddr P 49 (Value.slice (some ⟨1, 0, none⟩) a1 (Nat.add big 3)) (Value.int .i64 a3) Ax.h0 = some ((Value.pointer (some ⟨1, ((a3).toNat * 3), none⟩)), Ax.h0),
    rdT (layT (rows rw_iii a0)) 3 ((a3).toNat * 3) = some [(Value.int .i64 (((a0).getD (a3).toNat (0, 0, 0)).1)), (Value.int .i64 (((a0).getD (a3).toNat (0, 0, 0)).2.1)), (Value.int .i64 (((a0).getD (a3).toNat (0, 0, 0)).2.2))],
    opIndexAddr P 49 (Value.slice (some ⟨1, 0, none⟩) a1 (Nat.add big 3)) (Value.int .i64 a4) Ax.h0 = some ((Value.pointer (some ⟨1, ((a4).toNat * 3), none⟩)), Ax.h0),
    rdT (layT (rows rw_iii a0)) 3 ((a4).toNat * 3) = some [(Value.int .i64 (((a0).getD (a4).toNat (0, 0, 0)).1)), (Value.int .i64 (((a0).getD (a4).toNat (0, 0, 0)).2.1)), (Value.int .i64 (((a0).getD (a4).toNat (0, 0, 0)).2.2))],
    G_viewportlaw23byKeyq1 (((a0).getD (a3).toNat (0, 0, 0)).2.1) (((a0).getD (a3).toNat (0, 0, 0)).2.2) (((a0).getD (a4).toNat (0, 0, 0)).2.1) (((a0).getD (a4).toNat (0, 0, 0)).2.2) c5_,
    (Value.bool (c5_ != (0 : Int))) = (Value.bool true),
    (Value.bool (decide (c5_ < (0 : Int)))) = (Value.bool false)]) (by kernel_rfl) ⟨(ixS (e := 55) (by kernel_rfl) (by kernel_rfl) (hc1).1 (hc1).2), (rows_rdp rwf_iii (0, 0, 0) (i := (a3).toNat) (j := 0) ((a3).toNat * 3) rfl (hc2) (by decide) rfl), (ixS (e := 55) (by kernel_rfl) (by kernel_rfl) (hc3).1 (hc3).2), (rows_rdp rwf_iii (0, 0, 0) (i := (a4).toNat) (j := 0) ((a4).toNat * 3) rfl (hc4) (by decide) rfl), (m_viewportlaw23byKeyq1_ok n (((a0).getD (a3).toNat (0, 0, 0)).2.1) (((a0).getD (a3).toNat (0, 0, 0)).2.2) (((a0).getD (a4).toNat (0, 0, 0)).2.1) (((a0).getD (a4).toNat (0, 0, 0)).2.2) c5_ hc5), (vnT hc6), (vbF hc7), trivial⟩
theorem m_heapHeapviewportlaw23itembeforeq2_ok (n : Nat) (a0 : List (Int × Int × Int)) (a1 : Nat) (a2 : Int) (a3 : Int) (a4 : Int) (r : Bool) (h : m_heapHeapviewportlaw23itembeforeq2 n a0 a1 a2 a3 a4 = some r) : G_heapHeapviewportlaw23itembeforeq2 a0 a1 a2 a3 a4 r := by
  unfold m_heapHeapviewportlaw23itembeforeq2 at h
  by_cases hc1 : 0 ≤ a3 ∧ a3 < ((a1 : Nat) : Int)
  · rw [if_pos hc1] at h
    by_cases hc2 : (a3).toNat < (a0).length
    · rw [if_pos hc2] at h
      by_cases hc3 : 0 ≤ a4 ∧ a4 < ((a1 : Nat) : Int)
      · rw [if_pos hc3] at h
        by_cases hc4 : (a4).toNat < (a0).length
        · rw [if_pos hc4] at h
          obtain ⟨c5_, hc5, h⟩ := Option.bind_eq_some_iff.1 h
          by_cases hc6 : c5_ = (0 : Int)
          · rw [if_pos hc6] at h
            by_cases hc7 : (((a0).getD (a3).toNat (0, 0, 0)).1) < (((a0).getD (a4).toNat (0, 0, 0)).1)
            · rw [if_pos hc7] at h
              obtain rfl := Option.some.inj h; exact p_heapHeapviewportlaw23itembeforeq2_0 n a0 a1 a2 a3 a4 hc1 hc2 hc3 hc4 c5_ hc5 hc6 hc7
            · rw [if_neg hc7] at h
              obtain rfl := Option.some.inj h; exact p_heapHeapviewportlaw23itembeforeq2_1 n a0 a1 a2 a3 a4 hc1 hc2 hc3 hc4 c5_ hc5 hc6 hc7
          · rw [if_neg hc6] at h
            by_cases hc7 : c5_ < (0 : Int)
            · rw [if_pos hc7] at h
              obtain rfl := Option.some.inj h; exact p_heapHeapviewportlaw23itembeforeq2_2 n a0 a1 a2 a3 a4 hc1 hc2 hc3 hc4 c5_ hc5 hc6 hc7
            · rw [if_neg hc7] at h
              obtain rfl := Option.some.inj h; exact p_heapHeapviewportlaw23itembeforeq2_3 n a0 a1 a2 a3 a4 hc1 hc2 hc3 hc4 c5_ hc5 hc6 hc7
        · rw [if_neg hc4] at h; cases h
      · rw [if_neg hc3] at h; cases h
    · rw [if_neg hc2] at h; cases h
  · rw [if_neg hc1] at h; cases h

noncomputable def S_heapHeapviewportlaw23itemupq1_1 (x1_1 : Nat) (x1_2 : Int) (st : List (Int × Int × Int) × Int × Int) : XSt := match st with
  | (x1_0, x1_3, x1_4) => (sT 46 [(0, (Value.pointer (some ⟨0, 0, none⟩))), (1, (Value.int .i64 x1_3)), (4, (Value.int .i64 x1_4))], [], ⟨sB [(0, (some (.cells (layT [(Value.pointer (some ⟨0, 0, none⟩)), (Value.func (.func 8) #[] #[]), (Value.slice (some ⟨1, 0, none⟩) x1_1 (Nat.add big 3)), (Value.int .i64 x1_2)]) 51))), (1, (some (.cells (layT (rows rw_iii x1_0)) 55)))], 2, 1⟩)
noncomputable def X_heapHeapviewportlaw23itemupq1_1 (x1_1 : Nat) (x1_2 : Int) (r : List (Int × Int × Int)) : Ex × XSt := match r with
  | z1_0 => (.exit 0, (sT 46 [], [], ⟨sB [(0, (some (.cells (layT [(Value.pointer (some ⟨0, 0, none⟩)), (Value.func (.func 8) #[] #[]), (Value.slice (some ⟨1, 0, none⟩) x1_1 (Nat.add big 3)), (Value.int .i64 x1_2)]) 51))), (1, (some (.cells (layT (rows rw_iii z1_0)) 55)))], 2, 1⟩))
def B_heapHeapviewportlaw23itemupq1_1 (n : Nat) (x1_1 : Nat) (x1_2 : Int) (st : List (Int × Int × Int) × Int × Int) : Option ((List (Int × Int × Int) × Int × Int) ⊕ (List (Int × Int × Int))) := match st with
  | (x1_0, x1_3, x1_4) =>
    if x1_3 > (0 : Int) then
      (m_heapHeapviewportlaw23itembeforeq2 n x1_0 x1_1 x1_2 x1_3 x1_4).bind fun y1_2_ =>
      if y1_2_ = true then
        if 0 ≤ x1_4 ∧ x1_4 < ((x1_1 : Nat) : Int) then
          if (x1_4).toNat < (x1_0).length then
            if 0 ≤ x1_3 ∧ x1_3 < ((x1_1 : Nat) : Int) then
              if (x1_3).toNat < (x1_0).length then
                if (x1_4).toNat < (((x1_0).set (x1_3).toNat ((((x1_0).getD (x1_4).toNat (0, 0, 0)).1), (((x1_0).getD (x1_4).toNat (0, 0, 0)).2.1), (((x1_0).getD (x1_4).toNat (0, 0, 0)).2.2)))).length then
                  some (.inl (((((x1_0).set (x1_3).toNat ((((x1_0).getD (x1_4).toNat (0, 0, 0)).1), (((x1_0).getD (x1_4).toNat (0, 0, 0)).2.1), (((x1_0).getD (x1_4).toNat (0, 0, 0)).2.2)))).set (x1_4).toNat ((((x1_0).getD (x1_3).toNat (0, 0, 0)).1), (((x1_0).getD (x1_3).toNat (0, 0, 0)).2.1), (((x1_0).getD (x1_3).toNat (0, 0, 0)).2.2))), x1_4, (Int.fdiv (w64 (x1_4 - (1 : Int))) 2)))
                else none
              else none
            else none
          else none
        else none
      else
        some (.inr x1_0)
    else
      some (.inr x1_0)
def m_heapHeapviewportlaw23itemupq1_1 (n : Nat) (x1_1 : Nat) (x1_2 : Int) (st : List (Int × Int × Int) × Int × Int) : Option (List (Int × Int × Int)) := iterM (B_heapHeapviewportlaw23itemupq1_1 n x1_1 x1_2) n st
set_option maxRecDepth 100000 in
theorem q_heapHeapviewportlaw23itemupq1_1_0 (n : Nat) {rnd : Option Nat} (x1_0 : List (Int × Int × Int)) (x1_1 : Nat) (x1_2 : Int) (x1_3 : Int) (x1_4 : Int) (hy1_1 : x1_3 > (0 : Int)) (y1_2_ : Bool) (hy1_2 : m_heapHeapviewportlaw23itembeforeq2 n x1_0 x1_1 x1_2 x1_3 x1_4 = some y1_2_) (hy1_3 : y1_2_ = true) (hy1_4 : 0 ≤ x1_4 ∧ x1_4 < ((x1_1 : Nat) : Int)) (hy1_5 : (x1_4).toNat < (x1_0).length) (hy1_6 : 0 ≤ x1_3 ∧ x1_3 < ((x1_1 : Nat) : Int)) (hy1_7 : (x1_3).toNat < (x1_0).length) (hy1_8 : (x1_4).toNat < (((x1_0).set (x1_3).toNat ((((x1_0).getD (x1_4).toNat (0, 0, 0)).1), (((x1_0).getD (x1_4).toNat (0, 0, 0)).2.1), (((x1_0).getD (x1_4).toNat (0, 0, 0)).2.2)))).length) : CG P rnd (fnN P 21) 2 (codeOf P 21 [false, false, true]) (S_heapHeapviewportlaw23itemupq1_1 x1_1 x1_2 (x1_0, x1_3, x1_4)) (.normal, S_heapHeapviewportlaw23itemupq1_1 x1_1 x1_2 (((((x1_0).set (x1_3).toNat ((((x1_0).getD (x1_4).toNat (0, 0, 0)).1), (((x1_0).getD (x1_4).toNat (0, 0, 0)).2.1), (((x1_0).getD (x1_4).toNat (0, 0, 0)).2.2)))).set (x1_4).toNat ((((x1_0).getD (x1_3).toNat (0, 0, 0)).1), (((x1_0).getD (x1_3).toNat (0, 0, 0)).2.1), (((x1_0).getD (x1_3).toNat (0, 0, 0)).2.2))), x1_4, (Int.fdiv (w64 (x1_4 - (1 : Int))) 2))) :=
  runC_ok hm (A := aT [(3, .val (.bool true)), (8, .call ⟨2, [(0, 0, false), (1, 1, true)], (V_heapHeapviewportlaw23itembeforeq2 x1_0 x1_1 x1_2 x1_3 x1_4 y1_2_), (R_heapHeapviewportlaw23itembeforeq2 x1_0 x1_1 x1_2 x1_3 x1_4 y1_2_), []⟩), (10, .val (.bool true)), (29, .pur (Value.pointer (some ⟨1, ((x1_4).toNat * 3), none⟩))), (30, .ld (Value.agg #[(Value.int .i64 (((x1_0).getD (x1_4).toNat (0, 0, 0)).1)), (Value.int .i64 (((x1_0).getD (x1_4).toNat (0, 0, 0)).2.1)), (Value.int .i64 (((x1_0).getD (x1_4).toNat (0, 0, 0)).2.2))])), (36, .pur (Value.pointer (some ⟨1, ((x1_3).toNat * 3), none⟩))), (37, .ld (Value.agg #[(Value.int .i64 (((x1_0).getD (x1_3).toNat (0, 0, 0)).1)), (Value.int .i64 (((x1_0).getD (x1_3).toNat (0, 0, 0)).2.1)), (Value.int .i64 (((x1_0).getD (x1_3).toNat (0, 0, 0)).2.2))])), (38, .pur (Value.pointer (some ⟨1, ((x1_3).toNat * 3), none⟩))), (39, .sto (layT (rows rw_iii ((x1_0).set (x1_3).toNat ((((x1_0).getD (x1_4).toNat (0, 0, 0)).1), (((x1_0).getD (x1_4).toNat (0, 0, 0)).2.1), (((x1_0).getD (x1_4).toNat (0, 0, 0)).2.2)))))), (40, .pur (Value.pointer (some ⟨1, ((x1_4).toNat * 3), none⟩))), (41, .sto (layT (rows rw_iii ((((x1_0).set (x1_3).toNat ((((x1_0).getD (x1_4).toNat (0, 0, 0)).1), (((x1_0).getD (x1_4).toNat (0, 0, 0)).2.1), (((x1_0).getD (x1_4).toNat (0, 0, 0)).2.2)))).set (x1_4).toNat ((((x1_0).getD (x1_3).toNat (0, 0, 0)).1), (((x1_0).getD (x1_3).toNat (0, 0, 0)).2.1), (((x1_0).getD (x1_3).toNat (0, 0, 0)).2.2))))))]) (L := lT []) (wk := ⟨[0, 1, 4], [(0, 0, false), (1, 1, true)], 2, 1⟩)
    (ps := [(Value.bool (decide (x1_3 > (0 : Int)))) = (Value.bool true),
    G_heapHeapviewportlaw23itembeforeq2 x1_0 x1_1 x1_2 x1_3 x1_4 y1_2_,
    FlatB (.cells (layT (rows rw_iii x1_0)) 55),
    (Value.bool y1_2_) = (Value.bool true),
    opIndexAddr P 49 (Value.slice (some ⟨1, 0, none⟩) x1_1 (Nat.add big 3)) (Value.int .i64 x1_4) Ax.h0 = some ((Value.pointer (some ⟨1, ((x1_4).toNat * 3), none⟩)), Ax.h0),
    rdT (layT (rows rw_iii x1_0)) 3 ((x1_4).toNat * 3) = some [(Value.int .i64 (((x1_0).getD (x1_4).toNat (0, 0, 0)).1)), (Value.int .i64 (((x1_0).getD (x1_4).toNat (0, 0, 0)).2.1)), (Value.int .i64 (((x1_0).getD (x1_4).toNat (0, 0, 0)).2.2))],
    opIndexAddr P 49 (Value.slice (some ⟨1, 0, none⟩) x1_1 (Nat.add big 3)) (Value.int .i64 x1_3) Ax.h0 = some ((Value.pointer (some ⟨1, ((x1_3).toNat * 3), none⟩)), Ax.h0),
    rdT (layT (rows rw_iii x1_0)) 3 ((x1_3).toNat * 3) = some [(Value.int .i64 (((x1_0).getD (x1_3).toNat (0, 0, 0)).1)), (Value.int .i64 (((x1_0).getD (x1_3).toNat (0, 0, 0)).2.1)), (Value.int .i64 (((x1_0).getD (x1_3).toNat (0, 0, 0)).2.2))],
    opIndexAddr P 49 (Value.slice (some ⟨1, 0, none⟩) x1_1 (Nat.add big 3)) (Value.int .i64 x1_3) Ax.h0 = some ((Value.pointer (some ⟨1, ((x1_3).toNat * 3), none⟩)), Ax.h0),
    ∃ old, rdT (layT (rows rw_iii x1_0)) 3 ((x1_3).toNat * 3) = some old,
    layL [(Value.int .i64 (((x1_0).getD (x1_4).toNat (0, 0, 0)).1)), (Value.int .i64 (((x1_0).getD (x1_4).toNat (0, 0, 0)).2.1)), (Value.int .i64 (((x1_0).getD (x1_4).toNat (0, 0, 0)).2.2))] ((x1_3).toNat * 3) (layT (rows rw_iii x1_0)) = layT (rows rw_iii ((x1_0).set (x1_3).toNat ((((x1_0).getD (x1_4).toNat (0, 0, 0)).1), (((x1_0).getD (x1_4).toNat (0, 0, 0)).2.1), (((x1_0).getD (x1_4).toNat (0, 0, 0)).2.2)))),
    opIndexAddr P 49 (Value.slice (some ⟨1, 0, none⟩) x1_1 (Nat.add big 3)) (Value.int .i64 x1_4) Ax.h0 = some ((Value.pointer (some ⟨1, ((x1_4).toNat * 3), none⟩)), Ax.h0),
    ∃ old, rdT (layT (rows rw_iii ((x1_0).set (x1_3).toNat ((((x1_0).getD (x1_4).toNat (0, 0, 0)).1), (((x1_0).getD (x1_4).toNat (0, 0, 0)).2.1), (((x1_0).getD (x1_4).toNat (0, 0, 0)).2.2))))) 3 ((x1_4).toNat * 3) = some old,
    layL [(Value.int .i64 (((x1_0).getD (x1_3).toNat (0, 0, 0)).1)), (Value.int .i64 (((x1_0).getD (x1_3).toNat (0, 0, 0)).2.1)), (Value.int .i64 (((x1_0).getD (x1_3).toNat (0, 0, 0)).2.2))] ((x1_4).toNat * 3) (layT (rows rw_iii ((x1_0).set (x1_3).toNat ((((x1_0).getD (x1_4).toNat (0, 0, 0)).1), (((x1_0).getD (x1_4).toNat (0, 0, 0)).2.1), (((x1_0).getD (x1_4).toNat (0, 0, 0)).2.2))))) = layT (rows rw_iii ((((x1_0).set (x1_3).toNat ((((x1_0).getD (x1_4).toNat (0, 0, 0)).1), (((x1_0).getD (x1_4).toNat (0, 0, 0)).2.1), (((x1_0).getD (x1_4).toNat (0, 0, 0)).2.2)))).set (x1_4).toNat ((((x1_0).getD (x1_3).toNat (0, 0, 0)).1), (((x1_0).getD (x1_3).toNat (0, 0, 0)).2.1), (((x1_0).getD (x1_3).toNat (0, 0, 0)).2.2)))),
    FlatB (.cells (layT (rows rw_iii ((((x1_0).set (x1_3).toNat ((((x1_0).getD (x1_4).toNat (0, 0, 0)).1), (((x1_0).getD (x1_4).toNat (0, 0, 0)).2.1), (((x1_0).getD (x1_4).toNat (0, 0, 0)).2.2)))).set (x1_4).toNat ((((x1_0).getD (x1_3).toNat (0, 0, 0)).1), (((x1_0).getD (x1_3).toNat (0, 0, 0)).2.1), (((x1_0).getD (x1_3).toNat (0, 0, 0)).2.2))))) 55)]) (by kernel_rfl) ⟨(vbT hy1_1), (m_heapHeapviewportlaw23itembeforeq2_ok n x1_0 x1_1 x1_2 x1_3 x1_4 y1_2_ hy1_2), (rows_flat rwf_iii _ _), (vB hy1_3), (ixS (e := 55) (by kernel_rfl) (by kernel_rfl) (hy1_4).1 (hy1_4).2), (rows_rdp rwf_iii (0, 0, 0) (i := (x1_4).toNat) (j := 0) ((x1_4).toNat * 3) rfl (hy1_5) (by decide) rfl), (ixS (e := 55) (by kernel_rfl) (by kernel_rfl) (hy1_6).1 (hy1_6).2), (rows_rdp rwf_iii (0, 0, 0) (i := (x1_3).toNat) (j := 0) ((x1_3).toNat * 3) rfl (hy1_7) (by decide) rfl), (ixS (e := 55) (by kernel_rfl) (by kernel_rfl) (hy1_6).1 (hy1_6).2), (Exists.elim (rows_st rwf_iii (0, 0, 0) (i := (x1_3).toNat) (j := 0) (l := [(Value.int .i64 (((x1_0).getD (x1_4).toNat (0, 0, 0)).1)), (Value.int .i64 (((x1_0).getD (x1_4).toNat (0, 0, 0)).2.1)), (Value.int .i64 (((x1_0).getD (x1_4).toNat (0, 0, 0)).2.2))]) ((((x1_0).getD (x1_4).toNat (0, 0, 0)).1), (((x1_0).getD (x1_4).toNat (0, 0, 0)).2.1), (((x1_0).getD (x1_4).toNat (0, 0, 0)).2.2)) ((x1_3).toNat * 3) rfl (hy1_7) (Nat.le_of_ble_eq_true rfl) rfl) fun o h => ⟨o, h.1⟩), (Exists.elim (rows_st rwf_iii (0, 0, 0) (i := (x1_3).toNat) (j := 0) (l := [(Value.int .i64 (((x1_0).getD (x1_4).toNat (0, 0, 0)).1)), (Value.int .i64 (((x1_0).getD (x1_4).toNat (0, 0, 0)).2.1)), (Value.int .i64 (((x1_0).getD (x1_4).toNat (0, 0, 0)).2.2))]) ((((x1_0).getD (x1_4).toNat (0, 0, 0)).1), (((x1_0).getD (x1_4).toNat (0, 0, 0)).2.1), (((x1_0).getD (x1_4).toNat (0, 0, 0)).2.2)) ((x1_3).toNat * 3) rfl (hy1_7) (Nat.le_of_ble_eq_true rfl) rfl) fun o h => h.2), (ixS (e := 55) (by kernel_rfl) (by kernel_rfl) (hy1_4).1 (hy1_4).2), (Exists.elim (rows_st rwf_iii (0, 0, 0) (i := (x1_4).toNat) (j := 0) (l := [(Value.int .i64 (((x1_0).getD (x1_3).toNat (0, 0, 0)).1)), (Value.int .i64 (((x1_0).getD (x1_3).toNat (0, 0, 0)).2.1)), (Value.int .i64 (((x1_0).getD (x1_3).toNat (0, 0, 0)).2.2))]) ((((x1_0).getD (x1_3).toNat (0, 0, 0)).1), (((x1_0).getD (x1_3).toNat (0, 0, 0)).2.1), (((x1_0).getD (x1_3).toNat (0, 0, 0)).2.2)) ((x1_4).toNat * 3) rfl (hy1_8) (Nat.le_of_ble_eq_true rfl) rfl) fun o h => ⟨o, h.1⟩), (Exists.elim (rows_st rwf_iii (0, 0, 0) (i := (x1_4).toNat) (j := 0) (l := [(Value.int .i64 (((x1_0).getD (x1_3).toNat (0, 0, 0)).1)), (Value.int .i64 (((x1_0).getD (x1_3).toNat (0, 0, 0)).2.1)), (Value.int .i64 (((x1_0).getD (x1_3).toNat (0, 0, 0)).2.2))]) ((((x1_0).getD (x1_3).toNat (0, 0, 0)).1), (((x1_0).getD (x1_3).toNat (0, 0, 0)).2.1), (((x1_0).getD (x1_3).toNat (0, 0, 0)).2.2)) ((x1_4).toNat * 3) rfl (hy1_8) (Nat.le_of_ble_eq_true rfl) rfl) fun o h => h.2), (rows_flat rwf_iii _ _), trivial⟩
set_option maxRecDepth 100000 in
theorem q_heapHeapviewportlaw23itemupq1_1_1 (n : Nat) {rnd : Option Nat} (x1_0 : List (Int × Int × Int)) (x1_1 : Nat) (x1_2 : Int) (x1_3 : Int) (x1_4 : Int) (hy1_1 : x1_3 > (0 : Int)) (y1_2_ : Bool) (hy1_2 : m_heapHeapviewportlaw23itembeforeq2 n x1_0 x1_1 x1_2 x1_3 x1_4 = some y1_2_) (hy1_3 : ¬ (y1_2_ = true)) : CG P rnd (fnN P 21) 2 (codeOf P 21 [false, false, true]) (S_heapHeapviewportlaw23itemupq1_1 x1_1 x1_2 (x1_0, x1_3, x1_4)) (X_heapHeapviewportlaw23itemupq1_1 x1_1 x1_2 x1_0) :=
  runC_ok hm (A := aT [(3, .val (.bool true)), (8, .call ⟨2, [(0, 0, false), (1, 1, true)], (V_heapHeapviewportlaw23itembeforeq2 x1_0 x1_1 x1_2 x1_3 x1_4 y1_2_), (R_heapHeapviewportlaw23itembeforeq2 x1_0 x1_1 x1_2 x1_3 x1_4 y1_2_), []⟩), (10, .val (.bool false))]) (L := lT []) (wk := ⟨[], [(0, 0, false), (1, 1, true)], 2, 1⟩)
    (ps := [(Value.bool (decide (x1_3 > (0 : Int)))) = (Value.bool true),
    G_heapHeapviewportlaw23itembeforeq2 x1_0 x1_1 x1_2 x1_3 x1_4 y1_2_,
    FlatB (.cells (layT (rows rw_iii x1_0)) 55),
    (Value.bool y1_2_) = (Value.bool false),
    FlatB (.cells (layT (rows rw_iii x1_0)) 55)]) (by kernel_rfl) ⟨(vbT hy1_1), (m_heapHeapviewportlaw23itembeforeq2_ok n x1_0 x1_1 x1_2 x1_3 x1_4 y1_2_ hy1_2), (rows_flat rwf_iii _ _), (vB (Bool.eq_false_iff.2 hy1_3)), (rows_flat rwf_iii _ _), trivial⟩
set_option maxRecDepth 100000 in
theorem q_heapHeapviewportlaw23itemupq1_1_2 (n : Nat) {rnd : Option Nat} (x1_0 : List (Int × Int × Int)) (x1_1 : Nat) (x1_2 : Int) (x1_3 : Int) (x1_4 : Int) (hy1_1 : ¬ (x1_3 > (0 : Int))) : CG P rnd (fnN P 21) 2 (codeOf P 21 [false, false, true]) (S_heapHeapviewportlaw23itemupq1_1 x1_1 x1_2 (x1_0, x1_3, x1_4)) (X_heapHeapviewportlaw23itemupq1_1 x1_1 x1_2 x1_0) :=
  runC_ok hm (A := aT [(3, .val (.bool false))]) (L := lT []) (wk := ⟨[], [(0, 0, false), (1, 1, true)], 2, 1⟩)
    (ps := [(Value.bool (decide (x1_3 > (0 : Int)))) = (Value.bool false),
    FlatB (.cells (layT (rows rw_iii x1_0)) 55)]) (by kernel_rfl) ⟨(vbF hy1_1), (rows_flat rwf_iii _ _), trivial⟩
theorem m_heapHeapviewportlaw23itemupq1_1_ok (n : Nat) {rnd : Option Nat} (x1_1 : Nat) (x1_2 : Int) (st : List (Int × Int × Int) × Int × Int) (r : List (Int × Int × Int)) (h : m_heapHeapviewportlaw23itemupq1_1 n x1_1 x1_2 st = some r) : CG P rnd (fnN P 21) 2 (codeOf P 21 [false, true]) (S_heapHeapviewportlaw23itemupq1_1 x1_1 x1_2 st) (X_heapHeapviewportlaw23itemupq1_1 x1_1 x1_2 r) :=
  CG.iter (b := codeOf P 21 [false, false, true]) (by kernel_rfl) (body := B_heapHeapviewportlaw23itemupq1_1 n x1_1 x1_2) (S := S_heapHeapviewportlaw23itemupq1_1 x1_1 x1_2) (X := X_heapHeapviewportlaw23itemupq1_1 x1_1 x1_2)
    (fun s s' h => by
    obtain ⟨x1_0, x1_3, x1_4⟩ := s
    unfold B_heapHeapviewportlaw23itemupq1_1 at h
    dsimp only at h
    by_cases hy1_1 : x1_3 > (0 : Int)
    · rw [if_pos hy1_1] at h
      obtain ⟨y1_2_, hy1_2, h⟩ := Option.bind_eq_some_iff.1 h
      by_cases hy1_3 : y1_2_ = true
      · rw [if_pos hy1_3] at h
        by_cases hy1_4 : 0 ≤ x1_4 ∧ x1_4 < ((x1_1 : Nat) : Int)
        · rw [if_pos hy1_4] at h
          by_cases hy1_5 : (x1_4).toNat < (x1_0).length
          · rw [if_pos hy1_5] at h
            by_cases hy1_6 : 0 ≤ x1_3 ∧ x1_3 < ((x1_1 : Nat) : Int)
            · rw [if_pos hy1_6] at h
              by_cases hy1_7 : (x1_3).toNat < (x1_0).length
              · rw [if_pos hy1_7] at h
                by_cases hy1_8 : (x1_4).toNat < (((x1_0).set (x1_3).toNat ((((x1_0).getD (x1_4).toNat (0, 0, 0)).1), (((x1_0).getD (x1_4).toNat (0, 0, 0)).2.1), (((x1_0).getD (x1_4).toNat (0, 0, 0)).2.2)))).length
                · rw [if_pos hy1_8] at h
                  obtain rfl := Sum.inl.inj (Option.some.inj h); exact q_heapHeapviewportlaw23itemupq1_1_0 n x1_0 x1_1 x1_2 x1_3 x1_4 hy1_1 y1_2_ hy1_2 hy1_3 hy1_4 hy1_5 hy1_6 hy1_7 hy1_8
                · rw [if_neg hy1_8] at h; cases h
              · rw [if_neg hy1_7] at h; cases h
            · rw [if_neg hy1_6] at h; cases h
          · rw [if_neg hy1_5] at h; cases h
        · rw [if_neg hy1_4] at h; cases h
      · rw [if_neg hy1_3] at h
        cases h
    · rw [if_neg hy1_1] at h
      cases h)
    (fun s r h => by
    obtain ⟨x1_0, x1_3, x1_4⟩ := s
    unfold B_heapHeapviewportlaw23itemupq1_1 at h
    dsimp only at h
    by_cases hy1_1 : x1_3 > (0 : Int)
    · rw [if_pos hy1_1] at h
      obtain ⟨y1_2_, hy1_2, h⟩ := Option.bind_eq_some_iff.1 h
      by_cases hy1_3 : y1_2_ = true
      · rw [if_pos hy1_3] at h
        by_cases hy1_4 : 0 ≤ x1_4 ∧ x1_4 < ((x1_1 : Nat) : Int)
        · rw [if_pos hy1_4] at h
          by_cases hy1_5 : (x1_4).toNat < (x1_0).length
          · rw [if_pos hy1_5] at h
            by_cases hy1_6 : 0 ≤ x1_3 ∧ x1_3 < ((x1_1 : Nat) : Int)
            · rw [if_pos hy1_6] at h
              by_cases hy1_7 : (x1_3).toNat < (x1_0).length
              · rw [if_pos hy1_7] at h
                by_cases hy1_8 : (x1_4).toNat < (((x1_0).set (x1_3).toNat ((((x1_0).getD (x1_4).toNat (0, 0, 0)).1), (((x1_0).getD (x1_4).toNat (0, 0, 0)).2.1), (((x1_0).getD (x1_4).toNat (0, 0, 0)).2.2)))).length
                · rw [if_pos hy1_8] at h
                  cases h
                · rw [if_neg hy1_8] at h; cases h
              · rw [if_neg hy1_7] at h; cases h
            · rw [if_neg hy1_6] at h; cases h
          · rw [if_neg hy1_5] at h; cases h
        · rw [if_neg hy1_4] at h; cases h
      · rw [if_neg hy1_3] at h
        obtain rfl := Sum.inr.inj (Option.some.inj h); exact q_heapHeapviewportlaw23itemupq1_1_1 n x1_0 x1_1 x1_2 x1_3 x1_4 hy1_1 y1_2_ hy1_2 hy1_3
    · rw [if_neg hy1_1] at h
      obtain rfl := Sum.inr.inj (Option.some.inj h); exact q_heapHeapviewportlaw23itemupq1_1_2 n x1_0 x1_1 x1_2 x1_3 x1_4 hy1_1)
    (fun r => by intro hx; cases hx) h
noncomputable def A_heapHeapviewportlaw23itemupq1 (a0 : List (Int × Int × Int)) (a1 : Int) (a2 : Int) : List Value := [(Value.pointer (some ⟨0, 0, none⟩)), (Value.int .i64 a2)]
noncomputable def H_heapHeapviewportlaw23itemupq1 (a0 : List (Int × Int × Int)) (a1 : Int) (a2 : Int) : AH := ⟨sB [(0, (some (.cells (layT [(Value.pointer (some ⟨0, 0, none⟩)), (Value.func (.func 8) #[] #[]), (Value.slice (some ⟨1, 0, none⟩) (a0).length (Nat.add big 3)), (Value.int .i64 a1)]) 51))), (1, (some (.cells (layT (rows rw_iii a0)) 55)))], 2, 2⟩
noncomputable def V_heapHeapviewportlaw23itemupq1 (a0 : List (Int × Int × Int)) (a1 : Int) (a2 : Int) (r : List (Int × Int × Int)) : Value := match r with
  | o0 => (Value.tuple #[])
noncomputable def R_heapHeapviewportlaw23itemupq1 (a0 : List (Int × Int × Int)) (a1 : Int) (a2 : Int) (r : List (Int × Int × Int)) : AH := match r with
  | o0 => ⟨sB [(1, (some (.cells (layT (rows rw_iii o0)) 55)))], 2, 1⟩
noncomputable abbrev G_heapHeapviewportlaw23itemupq1 (a0 : List (Int × Int × Int)) (a1 : Int) (a2 : Int) (r : List (Int × Int × Int)) : Prop := Gv P (.func 21) (A_heapHeapviewportlaw23itemupq1 a0 a1 a2) (H_heapHeapviewportlaw23itemupq1 a0 a1 a2) (V_heapHeapviewportlaw23itemupq1 a0 a1 a2 r) (R_heapHeapviewportlaw23itemupq1 a0 a1 a2 r)
def m_heapHeapviewportlaw23itemupq1 (n : Nat) (a0 : List (Int × Int × Int)) (a1 : Int) (a2 : Int) : Option (List (Int × Int × Int)) :=
  (m_heapHeapviewportlaw23itemupq1_1 n ((a0).length) a1 (a0, a2, (Int.fdiv (w64 (a2 - (1 : Int))) 2))).bind fun c1_ =>
  some c1_
set_option maxRecDepth 100000 in
theorem p_heapHeapviewportlaw23itemupq1_0 (n : Nat) (a0 : List (Int × Int × Int)) (a1 : Int) (a2 : Int) (c1_ : List (Int × Int × Int)) (hc1 : m_heapHeapviewportlaw23itemupq1_1 n ((a0).length) a1 (a0, a2, (Int.fdiv (w64 (a2 - (1 : Int))) 2)) = some c1_) : G_heapHeapviewportlaw23itemupq1 a0 a1 a2 c1_ :=
  runF_ok hm (A := aT []) (L := lT [(6, ⟨⟨[0, 1, 4], [(0, 0, false), (1, 1, true)], 2, 1⟩, (X_heapHeapviewportlaw23itemupq1_1 ((a0).length) a1 c1_).1, (X_heapHeapviewportlaw23itemupq1_1 ((a0).length) a1 c1_).2⟩)]) (wk := ⟨[], [(1, 1, true)], 2, 1⟩)
    (ps := [CG P none (fnN P 21) 2 (codeOf P 21 [false, true]) (S_heapHeapviewportlaw23itemupq1_1 ((a0).length) a1 (a0, a2, (Int.fdiv (w64 (a2 - (1 : Int))) 2))) (X_heapHeapviewportlaw23itemupq1_1 ((a0).length) a1 c1_),
    FlatB (.cells (layT (rows rw_iii a0)) 55),
    FlatB (.cells (layT (rows rw_iii c1_)) 55)]) (by kernel_rfl) ⟨(m_heapHeapviewportlaw23itemupq1_1_ok n ((a0).length) a1 (a0, a2, (Int.fdiv (w64 (a2 - (1 : Int))) 2)) c1_ hc1), (rows_flat rwf_iii _ _), (rows_flat rwf_iii _ _), trivial⟩
theorem m_heapHeapviewportlaw23itemupq1_ok (n : Nat) (a0 : List (Int × Int × Int)) (a1 : Int) (a2 : Int) (r : List (Int × Int × Int)) (h : m_heapHeapviewportlaw23itemupq1 n a0 a1 a2 = some r) : G_heapHeapviewportlaw23itemupq1 a0 a1 a2 r := by
  unfold m_heapHeapviewportlaw23itemupq1 at h
  obtain ⟨c1_, hc1, h⟩ := Option.bind_eq_some_iff.1 h
  obtain rfl := Option.some.inj h; exact p_heapHeapviewportlaw23itemupq1_0 n a0 a1 a2 c1_ hc1

noncomputable def A_heapHeapviewportlaw23itemPutq1 (a0 : Int) (a1 : Int) (a2 : Int) : List Value := [(Value.pointer (some ⟨0, 0, none⟩)), (Value.agg #[(Value.int .i64 a1), (Value.int .i64 a2)])]
noncomputable def H_heapHeapviewportlaw23itemPutq1 (a0 : Int) (a1 : Int) (a2 : Int) : AH := ⟨sB [(0, (some (.cells (layT [(Value.pointer (some ⟨0, 0, none⟩)), (Value.func (.func 8) #[] #[]), (Value.slice none 0 0), (Value.int .i64 a0)]) 51)))], 1, 1⟩
noncomputable def V_heapHeapviewportlaw23itemPutq1 (a0 : Int) (a1 : Int) (a2 : Int) (r : List (Int × Int × Int)) : Value := match r with
  | o0 => (Value.tuple #[])
noncomputable def R_heapHeapviewportlaw23itemPutq1 (a0 : Int) (a1 : Int) (a2 : Int) (r : List (Int × Int × Int)) : AH := match r with
  | o0 => ⟨sB [(0, (some (.cells (layT [(Value.pointer (some ⟨0, 0, none⟩)), (Value.func (.func 8) #[] #[]), (Value.slice (some ⟨1, 0, none⟩) 1 (Nat.add big 3)), (Value.int .i64 (w64 (a0 + (1 : Int))))]) 51))), (1, (some (.cells (layT (rows rw_iii o0)) 55)))], 2, 0⟩
noncomputable abbrev G_heapHeapviewportlaw23itemPutq1 (a0 : Int) (a1 : Int) (a2 : Int) (r : List (Int × Int × Int)) : Prop := Gv P (.func 10) (A_heapHeapviewportlaw23itemPutq1 a0 a1 a2) (H_heapHeapviewportlaw23itemPutq1 a0 a1 a2) (V_heapHeapviewportlaw23itemPutq1 a0 a1 a2 r) (R_heapHeapviewportlaw23itemPutq1 a0 a1 a2 r)
def m_heapHeapviewportlaw23itemPutq1 (n : Nat) (a0 : Int) (a1 : Int) (a2 : Int) : Option (List (Int × Int × Int)) :=
  (m_heapHeapviewportlaw23itemvalidq1 n a0).bind fun _ =>
  (m_heapHeapviewportlaw23itemupq1 n [(a0, a1, a2)] (w64 (a0 + (1 : Int))) 0).bind fun c2_ =>
  some c2_
set_option maxRecDepth 100000 in
theorem p_heapHeapviewportlaw23itemPutq1_0 (n : Nat) (a0 : Int) (a1 : Int) (a2 : Int) (hc1 : m_heapHeapviewportlaw23itemvalidq1 n a0 = some ()) (c2_ : List (Int × Int × Int)) (hc2 : m_heapHeapviewportlaw23itemupq1 n [(a0, a1, a2)] (w64 (a0 + (1 : Int))) 0 = some c2_) : G_heapHeapviewportlaw23itemPutq1 a0 a1 a2 c2_ :=
  runF_ok hm (A := aT [(5, .call ⟨1, [(0, 0, false)], (V_heapHeapviewportlaw23itemvalidq1 a0 ()), (R_heapHeapviewportlaw23itemvalidq1 a0 ()), []⟩), (42, .call ⟨2, [(0, 0, false), (1, 15, false)], (V_heapHeapviewportlaw23itemupq1 [(a0, a1, a2)] (w64 (a0 + (1 : Int))) 0 c2_), (R_heapHeapviewportlaw23itemupq1 [(a0, a1, a2)] (w64 (a0 + (1 : Int))) 0 c2_), [(15, 1, true)]⟩)]) (L := lT []) (wk := ⟨[], [(0, 0, false), (1, 15, true)], 2, 0⟩)
    (ps := [G_heapHeapviewportlaw23itemvalidq1 a0 (),
    G_heapHeapviewportlaw23itemupq1 [(a0, a1, a2)] (w64 (a0 + (1 : Int))) 0 c2_,
    FlatB (.cells (layT (rows rw_iii c2_)) 55),
    FlatB (.cells (layT (rows rw_iii c2_)) 55)]) (by kernel_rfl) ⟨(m_heapHeapviewportlaw23itemvalidq1_ok n a0 () hc1), (m_heapHeapviewportlaw23itemupq1_ok n [(a0, a1, a2)] (w64 (a0 + (1 : Int))) 0 c2_ hc2), (rows_flat rwf_iii _ _), (rows_flat rwf_iii _ _), trivial⟩
theorem m_heapHeapviewportlaw23itemPutq1_ok (n : Nat) (a0 : Int) (a1 : Int) (a2 : Int) (r : List (Int × Int × Int)) (h : m_heapHeapviewportlaw23itemPutq1 n a0 a1 a2 = some r) : G_heapHeapviewportlaw23itemPutq1 a0 a1 a2 r := by
  unfold m_heapHeapviewportlaw23itemPutq1 at h
  obtain ⟨_, hc1, h⟩ := Option.bind_eq_some_iff.1 h
  obtain ⟨c2_, hc2, h⟩ := Option.bind_eq_some_iff.1 h
  obtain rfl := Option.some.inj h; exact p_heapHeapviewportlaw23itemPutq1_0 n a0 a1 a2 hc1 c2_ hc2

noncomputable def S_viewportref23HeapPutq1_1 (x1_0 : Int) (x1_1 : Int) (st : Unit) : XSt := match st with
  | _ => (sT 49 [(0, (Value.pointer (some ⟨0, 0, none⟩))), (3, (Value.pointer (some ⟨1, 0, none⟩))), (4, (Value.int .i64 (0 : Int)))], [], ⟨sB [(0, (some (.cells (layT [(Value.slice none 0 0)]) 32))), (1, (some (.cells (layT [(Value.int .i64 x1_0), (Value.int .i64 x1_1)]) 27)))], 2, 1⟩)
noncomputable def X_viewportref23HeapPutq1_1 (x1_0 : Int) (x1_1 : Int) (r : Unit) : Ex × XSt := match r with
  | _ => (.exit 0, (sT 49 [(0, (Value.pointer (some ⟨0, 0, none⟩))), (3, (Value.pointer (some ⟨1, 0, none⟩))), (4, (Value.int .i64 (0 : Int)))], [], ⟨sB [(0, (some (.cells (layT [(Value.slice none 0 0)]) 32))), (1, (some (.cells (layT [(Value.int .i64 x1_0), (Value.int .i64 x1_1)]) 27)))], 2, 1⟩))
def B_viewportref23HeapPutq1_1 (n : Nat) (x1_0 : Int) (x1_1 : Int) (st : Unit) : Option ((Unit) ⊕ (Unit)) := match st with
  | _ =>
    some (.inr ())
def m_viewportref23HeapPutq1_1 (n : Nat) (x1_0 : Int) (x1_1 : Int) (st : Unit) : Option (Unit) := iterM (B_viewportref23HeapPutq1_1 n x1_0 x1_1) n st
set_option maxRecDepth 100000 in
theorem q_viewportref23HeapPutq1_1_0 (n : Nat) {rnd : Option Nat} (x1_0 : Int) (x1_1 : Int) : CG P rnd (fnN P 12) 1 (codeOf P 12 [false, false, false, true, true]) (S_viewportref23HeapPutq1_1 x1_0 x1_1 ()) (X_viewportref23HeapPutq1_1 x1_0 x1_1 ()) :=
  runC_ok hm (A := aT []) (L := lT []) (wk := ⟨[0, 3, 4], [(0, 0, false), (1, 1, false)], 2, 1⟩)
    (ps := []) (by kernel_rfl) trivial
theorem m_viewportref23HeapPutq1_1_ok (n : Nat) {rnd : Option Nat} (x1_0 : Int) (x1_1 : Int) (st : Unit) (r : Unit) (h : m_viewportref23HeapPutq1_1 n x1_0 x1_1 st = some r) : CG P rnd (fnN P 12) 1 (codeOf P 12 [false, false, true, true]) (S_viewportref23HeapPutq1_1 x1_0 x1_1 st) (X_viewportref23HeapPutq1_1 x1_0 x1_1 r) :=
  CG.iter (b := codeOf P 12 [false, false, false, true, true]) (by kernel_rfl) (body := B_viewportref23HeapPutq1_1 n x1_0 x1_1) (S := S_viewportref23HeapPutq1_1 x1_0 x1_1) (X := X_viewportref23HeapPutq1_1 x1_0 x1_1)
    (fun s s' h => by
    unfold B_viewportref23HeapPutq1_1 at h
    dsimp only at h
    cases h)
    (fun s r h => by
    unfold B_viewportref23HeapPutq1_1 at h
    dsimp only at h
    obtain rfl := Sum.inr.inj (Option.some.inj h); exact q_viewportref23HeapPutq1_1_0 n x1_0 x1_1)
    (fun r => by intro hx; cases hx) h
noncomputable def A_viewportref23HeapPutq1 (a0 : Int) (a1 : Int) : List Value := [(Value.pointer (some ⟨0, 0, none⟩)), (Value.agg #[(Value.int .i64 a0), (Value.int .i64 a1)])]
noncomputable def H_viewportref23HeapPutq1 (a0 : Int) (a1 : Int) : AH := ⟨sB [(0, (some (.cells (layT [(Value.slice none 0 0)]) 32)))], 1, 1⟩
noncomputable def V_viewportref23HeapPutq1 (a0 : Int) (a1 : Int) (r : Unit) : Value := match r with
  | _ => (Value.tuple #[])
noncomputable def R_viewportref23HeapPutq1 (a0 : Int) (a1 : Int) (r : Unit) : AH := match r with
  | _ => ⟨sB [(0, (some (.cells (layT [(Value.slice (some ⟨1, 0, none⟩) 1 (Nat.add big 2))]) 32))), (1, (some (.cells (layT [(Value.int .i64 a0), (Value.int .i64 a1)]) 27)))], 2, 0⟩
noncomputable abbrev G_viewportref23HeapPutq1 (a0 : Int) (a1 : Int) (r : Unit) : Prop := Gv P (.func 12) (A_viewportref23HeapPutq1 a0 a1) (H_viewportref23HeapPutq1 a0 a1) (V_viewportref23HeapPutq1 a0 a1 r) (R_viewportref23HeapPutq1 a0 a1 r)
def m_viewportref23HeapPutq1 (n : Nat) (a0 : Int) (a1 : Int) : Option (Unit) :=
  (m_viewportref23HeapPutq1_1 n a0 a1 ()).bind fun _ =>
  if 1 * 16 ≤ 140737488355328 then
    some ()
  else none
set_option maxRecDepth 100000 in
theorem p_viewportref23HeapPutq1_0 (n : Nat) (a0 : Int) (a1 : Int) (hc1 : m_viewportref23HeapPutq1_1 n a0 a1 () = some ()) (hc2 : 1 * 16 ≤ 140737488355328) : G_viewportref23HeapPutq1 a0 a1 () :=
  runF_ok hm (A := aT [(30, .app0)]) (L := lT [(11, ⟨⟨[0, 3, 4], [(0, 0, false), (1, 1, false)], 2, 1⟩, (X_viewportref23HeapPutq1_1 a0 a1 ()).1, (X_viewportref23HeapPutq1_1 a0 a1 ()).2⟩)]) (wk := ⟨[], [(0, 0, false), (1, 13, false)], 2, 0⟩)
    (ps := [CG P none (fnN P 12) 1 (codeOf P 12 [false, false, true, true]) (S_viewportref23HeapPutq1_1 a0 a1 ()) (X_viewportref23HeapPutq1_1 a0 a1 ()),
    srcB P Ax.h0 2 (Value.slice none 0 0) = some (0, []),
    ∀ H : AH, appTop H 2 27 16 (0, []) (Value.slice (some ⟨13, 0, none⟩) 1 (Nat.add big 2)) = some ((Value.slice (some ⟨13, 0, none⟩) 1 (Nat.add big 2)), H)]) (by kernel_rfl) ⟨(m_viewportref23HeapPutq1_1_ok n a0 a1 () () hc1), (rfl), (fun H => top0 (by decide) (by have := hc2; show (_ : Nat) ≤ 1180591620717411303424 + 2; omega) H), trivial⟩
theorem m_viewportref23HeapPutq1_ok (n : Nat) (a0 : Int) (a1 : Int) (r : Unit) (h : m_viewportref23HeapPutq1 n a0 a1 = some r) : G_viewportref23HeapPutq1 a0 a1 r := by
  unfold m_viewportref23HeapPutq1 at h
  obtain ⟨_, hc1, h⟩ := Option.bind_eq_some_iff.1 h
  by_cases hc2 : 1 * 16 ≤ 140737488355328
  · rw [if_pos hc2] at h
    obtain rfl := Option.some.inj h; exact p_viewportref23HeapPutq1_0 n a0 a1 hc1 hc2
  · rw [if_neg hc2] at h; cases h

noncomputable def A_heapHeapviewportlaw23itemvalidq2 (a0 : List (Int × Int × Int)) (a1 : Int) : List Value := [(Value.pointer (some ⟨0, 0, none⟩))]
noncomputable def H_heapHeapviewportlaw23itemvalidq2 (a0 : List (Int × Int × Int)) (a1 : Int) : AH := ⟨sB [(0, (some (.cells (layT [(Value.pointer (some ⟨0, 0, none⟩)), (Value.func (.func 8) #[] #[]), (Value.slice (some ⟨1, 0, none⟩) 1 (Nat.add big 3)), (Value.int .i64 a1)]) 51))), (1, (some (.cells (layT (rows rw_iii a0)) 55)))], 2, 2⟩
noncomputable def V_heapHeapviewportlaw23itemvalidq2 (a0 : List (Int × Int × Int)) (a1 : Int) (r : Unit) : Value := match r with
  | _ => (Value.bool true)
noncomputable def R_heapHeapviewportlaw23itemvalidq2 (a0 : List (Int × Int × Int)) (a1 : Int) (r : Unit) : AH := match r with
  | _ => ⟨sB [], 2, 2⟩
noncomputable abbrev G_heapHeapviewportlaw23itemvalidq2 (a0 : List (Int × Int × Int)) (a1 : Int) (r : Unit) : Prop := Gv P (.func 20) (A_heapHeapviewportlaw23itemvalidq2 a0 a1) (H_heapHeapviewportlaw23itemvalidq2 a0 a1) (V_heapHeapviewportlaw23itemvalidq2 a0 a1 r) (R_heapHeapviewportlaw23itemvalidq2 a0 a1 r)
def m_heapHeapviewportlaw23itemvalidq2 (n : Nat) (a0 : List (Int × Int × Int)) (a1 : Int) : Option (Unit) :=
  some ()
set_option maxRecDepth 100000 in
theorem p_heapHeapviewportlaw23itemvalidq2_0 (n : Nat) (a0 : List (Int × Int × Int)) (a1 : Int) : G_heapHeapviewportlaw23itemvalidq2 a0 a1 () :=
  runF_ok hm (A := aT []) (L := lT []) (wk := ⟨[2], [], 2, 2⟩)
    (ps := []) (by kernel_rfl) trivial
theorem m_heapHeapviewportlaw23itemvalidq2_ok (n : Nat) (a0 : List (Int × Int × Int)) (a1 : Int) (r : Unit) (h : m_heapHeapviewportlaw23itemvalidq2 n a0 a1 = some r) : G_heapHeapviewportlaw23itemvalidq2 a0 a1 r := by
  unfold m_heapHeapviewportlaw23itemvalidq2 at h
  obtain rfl := Option.some.inj h; exact p_heapHeapviewportlaw23itemvalidq2_0 n a0 a1

noncomputable def A_heapHeapviewportlaw23itemLenq1 (a0 : List (Int × Int × Int)) (a1 : Int) : List Value := [(Value.pointer (some ⟨0, 0, none⟩))]
noncomputable def H_heapHeapviewportlaw23itemLenq1 (a0 : List (Int × Int × Int)) (a1 : Int) : AH := ⟨sB [(0, (some (.cells (layT [(Value.pointer (some ⟨0, 0, none⟩)), (Value.func (.func 8) #[] #[]), (Value.slice (some ⟨1, 0, none⟩) 1 (Nat.add big 3)), (Value.int .i64 a1)]) 51))), (1, (some (.cells (layT (rows rw_iii a0)) 55)))], 2, 2⟩
noncomputable def V_heapHeapviewportlaw23itemLenq1 (a0 : List (Int × Int × Int)) (a1 : Int) (r : Unit) : Value := match r with
  | _ => (Value.int .i64 (1 : Int))
noncomputable def R_heapHeapviewportlaw23itemLenq1 (a0 : List (Int × Int × Int)) (a1 : Int) (r : Unit) : AH := match r with
  | _ => ⟨sB [], 2, 2⟩
noncomputable abbrev G_heapHeapviewportlaw23itemLenq1 (a0 : List (Int × Int × Int)) (a1 : Int) (r : Unit) : Prop := Gv P (.func 17) (A_heapHeapviewportlaw23itemLenq1 a0 a1) (H_heapHeapviewportlaw23itemLenq1 a0 a1) (V_heapHeapviewportlaw23itemLenq1 a0 a1 r) (R_heapHeapviewportlaw23itemLenq1 a0 a1 r)
def m_heapHeapviewportlaw23itemLenq1 (n : Nat) (a0 : List (Int × Int × Int)) (a1 : Int) : Option (Unit) :=
  (m_heapHeapviewportlaw23itemvalidq2 n a0 a1).bind fun _ =>
  some ()
set_option maxRecDepth 100000 in
theorem p_heapHeapviewportlaw23itemLenq1_0 (n : Nat) (a0 : List (Int × Int × Int)) (a1 : Int) (hc1 : m_heapHeapviewportlaw23itemvalidq2 n a0 a1 = some ()) : G_heapHeapviewportlaw23itemLenq1 a0 a1 () :=
  runF_ok hm (A := aT [(5, .call ⟨2, [(0, 0, false), (1, 1, true)], (V_heapHeapviewportlaw23itemvalidq2 a0 a1 ()), (R_heapHeapviewportlaw23itemvalidq2 a0 a1 ()), []⟩)]) (L := lT []) (wk := ⟨[2], [], 2, 2⟩)
    (ps := [G_heapHeapviewportlaw23itemvalidq2 a0 a1 (),
    FlatB (.cells (layT (rows rw_iii a0)) 55)]) (by kernel_rfl) ⟨(m_heapHeapviewportlaw23itemvalidq2_ok n a0 a1 () hc1), (rows_flat rwf_iii _ _), trivial⟩
theorem m_heapHeapviewportlaw23itemLenq1_ok (n : Nat) (a0 : List (Int × Int × Int)) (a1 : Int) (r : Unit) (h : m_heapHeapviewportlaw23itemLenq1 n a0 a1 = some r) : G_heapHeapviewportlaw23itemLenq1 a0 a1 r := by
  unfold m_heapHeapviewportlaw23itemLenq1 at h
  obtain ⟨_, hc1, h⟩ := Option.bind_eq_some_iff.1 h
  obtain rfl := Option.some.inj h; exact p_heapHeapviewportlaw23itemLenq1_0 n a0 a1 hc1

noncomputable def A_heapHeapviewportlaw23itemLenq2 (a0 : Int) : List Value := [(Value.pointer (some ⟨0, 0, none⟩))]
noncomputable def H_heapHeapviewportlaw23itemLenq2 (a0 : Int) : AH := ⟨sB [(0, (some (.cells (layT [(Value.pointer (some ⟨0, 0, none⟩)), (Value.func (.func 8) #[] #[]), (Value.slice none 0 0), (Value.int .i64 a0)]) 51)))], 1, 1⟩
noncomputable def V_heapHeapviewportlaw23itemLenq2 (a0 : Int) (r : Unit) : Value := match r with
  | _ => (Value.int .i64 (0 : Int))
noncomputable def R_heapHeapviewportlaw23itemLenq2 (a0 : Int) (r : Unit) : AH := match r with
  | _ => ⟨sB [], 1, 1⟩
noncomputable abbrev G_heapHeapviewportlaw23itemLenq2 (a0 : Int) (r : Unit) : Prop := Gv P (.func 17) (A_heapHeapviewportlaw23itemLenq2 a0) (H_heapHeapviewportlaw23itemLenq2 a0) (V_heapHeapviewportlaw23itemLenq2 a0 r) (R_heapHeapviewportlaw23itemLenq2 a0 r)
def m_heapHeapviewportlaw23itemLenq2 (n : Nat) (a0 : Int) : Option (Unit) :=
  (m_heapHeapviewportlaw23itemvalidq1 n a0).bind fun _ =>
  some ()
set_option maxRecDepth 100000 in
theorem p_heapHeapviewportlaw23itemLenq2_0 (n : Nat) (a0 : Int) (hc1 : m_heapHeapviewportlaw23itemvalidq1 n a0 = some ()) : G_heapHeapviewportlaw23itemLenq2 a0 () :=
  runF_ok hm (A := aT [(5, .call ⟨1, [(0, 0, false)], (V_heapHeapviewportlaw23itemvalidq1 a0 ()), (R_heapHeapviewportlaw23itemvalidq1 a0 ()), []⟩)]) (L := lT []) (wk := ⟨[2], [], 1, 1⟩)
    (ps := [G_heapHeapviewportlaw23itemvalidq1 a0 ()]) (by kernel_rfl) ⟨(m_heapHeapviewportlaw23itemvalidq1_ok n a0 () hc1), trivial⟩
theorem m_heapHeapviewportlaw23itemLenq2_ok (n : Nat) (a0 : Int) (r : Unit) (h : m_heapHeapviewportlaw23itemLenq2 n a0 = some r) : G_heapHeapviewportlaw23itemLenq2 a0 r := by
  unfold m_heapHeapviewportlaw23itemLenq2 at h
  obtain ⟨_, hc1, h⟩ := Option.bind_eq_some_iff.1 h
  obtain rfl := Option.some.inj h; exact p_heapHeapviewportlaw23itemLenq2_0 n a0 hc1

noncomputable def A_heapHeapviewportlaw23itemLeastq1 (a0 : Int) : List Value := [(Value.pointer (some ⟨0, 0, none⟩))]
noncomputable def H_heapHeapviewportlaw23itemLeastq1 (a0 : Int) : AH := ⟨sB [(0, (some (.cells (layT [(Value.pointer (some ⟨0, 0, none⟩)), (Value.func (.func 8) #[] #[]), (Value.slice none 0 0), (Value.int .i64 a0)]) 51)))], 1, 1⟩
noncomputable def V_heapHeapviewportlaw23itemLeastq1 (a0 : Int) (r : Unit) : Value := match r with
  | _ => (Value.tuple #[(Value.agg #[(Value.int .i64 (0 : Int)), (Value.int .i64 (0 : Int))]), (Value.bool false)])
noncomputable def R_heapHeapviewportlaw23itemLeastq1 (a0 : Int) (r : Unit) : AH := match r with
  | _ => ⟨sB [(1, (some (.cells (layT [(Value.int .i64 (0 : Int)), (Value.int .i64 (0 : Int))]) 27)))], 2, 1⟩
noncomputable abbrev G_heapHeapviewportlaw23itemLeastq1 (a0 : Int) (r : Unit) : Prop := Gv P (.func 15) (A_heapHeapviewportlaw23itemLeastq1 a0) (H_heapHeapviewportlaw23itemLeastq1 a0) (V_heapHeapviewportlaw23itemLeastq1 a0 r) (R_heapHeapviewportlaw23itemLeastq1 a0 r)
def m_heapHeapviewportlaw23itemLeastq1 (n : Nat) (a0 : Int) : Option (Unit) :=
  (m_heapHeapviewportlaw23itemLenq2 n a0).bind fun _ =>
  some ()
set_option maxRecDepth 100000 in
theorem p_heapHeapviewportlaw23itemLeastq1_0 (n : Nat) (a0 : Int) (hc1 : m_heapHeapviewportlaw23itemLenq2 n a0 = some ()) : G_heapHeapviewportlaw23itemLeastq1 a0 () :=
  runF_ok hm (A := aT [(6, .call ⟨1, [(0, 0, false)], (V_heapHeapviewportlaw23itemLenq2 a0 ()), (R_heapHeapviewportlaw23itemLenq2 a0 ()), []⟩)]) (L := lT []) (wk := ⟨[2, 3], [(1, 1, false)], 2, 1⟩)
    (ps := [G_heapHeapviewportlaw23itemLenq2 a0 ()]) (by kernel_rfl) ⟨(m_heapHeapviewportlaw23itemLenq2_ok n a0 () hc1), trivial⟩
theorem m_heapHeapviewportlaw23itemLeastq1_ok (n : Nat) (a0 : Int) (r : Unit) (h : m_heapHeapviewportlaw23itemLeastq1 n a0 = some r) : G_heapHeapviewportlaw23itemLeastq1 a0 r := by
  unfold m_heapHeapviewportlaw23itemLeastq1 at h
  obtain ⟨_, hc1, h⟩ := Option.bind_eq_some_iff.1 h
  obtain rfl := Option.some.inj h; exact p_heapHeapviewportlaw23itemLeastq1_0 n a0 hc1

noncomputable def A_heapHeapviewportlaw23itemTakeq1 (a0 : Int) : List Value := [(Value.pointer (some ⟨0, 0, none⟩))]
noncomputable def H_heapHeapviewportlaw23itemTakeq1 (a0 : Int) : AH := ⟨sB [(0, (some (.cells (layT [(Value.pointer (some ⟨0, 0, none⟩)), (Value.func (.func 8) #[] #[]), (Value.slice none 0 0), (Value.int .i64 a0)]) 51)))], 1, 1⟩
noncomputable def V_heapHeapviewportlaw23itemTakeq1 (a0 : Int) (r : Unit) : Value := match r with
  | _ => (Value.tuple #[(Value.agg #[(Value.int .i64 (0 : Int)), (Value.int .i64 (0 : Int))]), (Value.bool false)])
noncomputable def R_heapHeapviewportlaw23itemTakeq1 (a0 : Int) (r : Unit) : AH := match r with
  | _ => ⟨sB [(1, (some (.cells (layT [(Value.int .i64 (0 : Int)), (Value.int .i64 (0 : Int))]) 27)))], 2, 1⟩
noncomputable abbrev G_heapHeapviewportlaw23itemTakeq1 (a0 : Int) (r : Unit) : Prop := Gv P (.func 13) (A_heapHeapviewportlaw23itemTakeq1 a0) (H_heapHeapviewportlaw23itemTakeq1 a0) (V_heapHeapviewportlaw23itemTakeq1 a0 r) (R_heapHeapviewportlaw23itemTakeq1 a0 r)
def m_heapHeapviewportlaw23itemTakeq1 (n : Nat) (a0 : Int) : Option (Unit) :=
  (m_heapHeapviewportlaw23itemLeastq1 n a0).bind fun _ =>
  some ()
set_option maxRecDepth 100000 in
theorem p_heapHeapviewportlaw23itemTakeq1_0 (n : Nat) (a0 : Int) (hc1 : m_heapHeapviewportlaw23itemLeastq1 n a0 = some ()) : G_heapHeapviewportlaw23itemTakeq1 a0 () :=
  runF_ok hm (A := aT [(5, .call ⟨1, [(0, 0, false)], (V_heapHeapviewportlaw23itemLeastq1 a0 ()), (R_heapHeapviewportlaw23itemLeastq1 a0 ()), [(2, 1, false)]⟩)]) (L := lT []) (wk := ⟨[2, 3], [(1, 1, false)], 2, 1⟩)
    (ps := [G_heapHeapviewportlaw23itemLeastq1 a0 ()]) (by kernel_rfl) ⟨(m_heapHeapviewportlaw23itemLeastq1_ok n a0 () hc1), trivial⟩
theorem m_heapHeapviewportlaw23itemTakeq1_ok (n : Nat) (a0 : Int) (r : Unit) (h : m_heapHeapviewportlaw23itemTakeq1 n a0 = some r) : G_heapHeapviewportlaw23itemTakeq1 a0 r := by
  unfold m_heapHeapviewportlaw23itemTakeq1 at h
  obtain ⟨_, hc1, h⟩ := Option.bind_eq_some_iff.1 h
  obtain rfl := Option.some.inj h; exact p_heapHeapviewportlaw23itemTakeq1_0 n a0 hc1

noncomputable def A_viewportref23HeapLeastq1 : List Value := [(Value.pointer (some ⟨0, 0, none⟩))]
noncomputable def H_viewportref23HeapLeastq1 : AH := ⟨sB [(0, (some (.cells (layT [(Value.slice none 0 0)]) 32)))], 1, 1⟩
noncomputable def V_viewportref23HeapLeastq1 (r : Unit) : Value := match r with
  | _ => (Value.tuple #[(Value.agg #[(Value.int .i64 (0 : Int)), (Value.int .i64 (0 : Int))]), (Value.bool false)])
noncomputable def R_viewportref23HeapLeastq1 (r : Unit) : AH := match r with
  | _ => ⟨sB [(1, (some (.cells (layT [(Value.int .i64 (0 : Int)), (Value.int .i64 (0 : Int))]) 27)))], 2, 1⟩
noncomputable abbrev G_viewportref23HeapLeastq1  (r : Unit) : Prop := Gv P (.func 16) (A_viewportref23HeapLeastq1 ) (H_viewportref23HeapLeastq1 ) (V_viewportref23HeapLeastq1  r) (R_viewportref23HeapLeastq1  r)
def m_viewportref23HeapLeastq1 (n : Nat) : Option (Unit) :=
  some ()
set_option maxRecDepth 100000 in
theorem p_viewportref23HeapLeastq1_0 (n : Nat)  : G_viewportref23HeapLeastq1  () :=
  runF_ok hm (A := aT []) (L := lT []) (wk := ⟨[2, 3], [(1, 1, false)], 2, 1⟩)
    (ps := []) (by kernel_rfl) trivial
theorem m_viewportref23HeapLeastq1_ok (n : Nat) (r : Unit) (h : m_viewportref23HeapLeastq1 n = some r) : G_viewportref23HeapLeastq1  r := by
  unfold m_viewportref23HeapLeastq1 at h
  obtain rfl := Option.some.inj h; exact p_viewportref23HeapLeastq1_0 n

noncomputable def A_viewportref23HeapTakeq1 : List Value := [(Value.pointer (some ⟨0, 0, none⟩))]
noncomputable def H_viewportref23HeapTakeq1 : AH := ⟨sB [(0, (some (.cells (layT [(Value.slice none 0 0)]) 32)))], 1, 1⟩
noncomputable def V_viewportref23HeapTakeq1 (r : Unit) : Value := match r with
  | _ => (Value.tuple #[(Value.agg #[(Value.int .i64 (0 : Int)), (Value.int .i64 (0 : Int))]), (Value.bool false)])
noncomputable def R_viewportref23HeapTakeq1 (r : Unit) : AH := match r with
  | _ => ⟨sB [(1, (some (.cells (layT [(Value.int .i64 (0 : Int)), (Value.int .i64 (0 : Int))]) 27)))], 2, 1⟩
noncomputable abbrev G_viewportref23HeapTakeq1  (r : Unit) : Prop := Gv P (.func 14) (A_viewportref23HeapTakeq1 ) (H_viewportref23HeapTakeq1 ) (V_viewportref23HeapTakeq1  r) (R_viewportref23HeapTakeq1  r)
def m_viewportref23HeapTakeq1 (n : Nat) : Option (Unit) :=
  (m_viewportref23HeapLeastq1 n).bind fun _ =>
  some ()
set_option maxRecDepth 100000 in
theorem p_viewportref23HeapTakeq1_0 (n : Nat) (hc1 : m_viewportref23HeapLeastq1 n = some ()) : G_viewportref23HeapTakeq1  () :=
  runF_ok hm (A := aT [(5, .call ⟨1, [(0, 0, false)], (V_viewportref23HeapLeastq1  ()), (R_viewportref23HeapLeastq1  ()), [(2, 1, false)]⟩)]) (L := lT []) (wk := ⟨[2, 3], [(1, 1, false)], 2, 1⟩)
    (ps := [G_viewportref23HeapLeastq1  ()]) (by kernel_rfl) ⟨(m_viewportref23HeapLeastq1_ok n () hc1), trivial⟩
theorem m_viewportref23HeapTakeq1_ok (n : Nat) (r : Unit) (h : m_viewportref23HeapTakeq1 n = some r) : G_viewportref23HeapTakeq1  r := by
  unfold m_viewportref23HeapTakeq1 at h
  obtain ⟨_, hc1, h⟩ := Option.bind_eq_some_iff.1 h
  obtain rfl := Option.some.inj h; exact p_viewportref23HeapTakeq1_0 n hc1

noncomputable def A_heapHeapviewportlaw23itemvalidq3 (a0 : List (Int × Int × Int)) (a1 : Int) : List Value := [(Value.pointer (some ⟨0, 0, none⟩))]
noncomputable def H_heapHeapviewportlaw23itemvalidq3 (a0 : List (Int × Int × Int)) (a1 : Int) : AH := ⟨sB [(0, (some (.cells (layT [(Value.pointer (some ⟨0, 0, none⟩)), (Value.func (.func 8) #[] #[]), (Value.slice (some ⟨1, 0, none⟩) (a0).length (Nat.add big 3)), (Value.int .i64 a1)]) 51))), (1, (some (.cells (layT (rows rw_iii a0)) 55)))], 2, 2⟩
noncomputable def V_heapHeapviewportlaw23itemvalidq3 (a0 : List (Int × Int × Int)) (a1 : Int) (r : Unit) : Value := match r with
  | _ => (Value.bool true)
noncomputable def R_heapHeapviewportlaw23itemvalidq3 (a0 : List (Int × Int × Int)) (a1 : Int) (r : Unit) : AH := match r with
  | _ => ⟨sB [], 2, 2⟩
noncomputable abbrev G_heapHeapviewportlaw23itemvalidq3 (a0 : List (Int × Int × Int)) (a1 : Int) (r : Unit) : Prop := Gv P (.func 20) (A_heapHeapviewportlaw23itemvalidq3 a0 a1) (H_heapHeapviewportlaw23itemvalidq3 a0 a1) (V_heapHeapviewportlaw23itemvalidq3 a0 a1 r) (R_heapHeapviewportlaw23itemvalidq3 a0 a1 r)
def m_heapHeapviewportlaw23itemvalidq3 (n : Nat) (a0 : List (Int × Int × Int)) (a1 : Int) : Option (Unit) :=
  some ()
set_option maxRecDepth 100000 in
theorem p_heapHeapviewportlaw23itemvalidq3_0 (n : Nat) (a0 : List (Int × Int × Int)) (a1 : Int) : G_heapHeapviewportlaw23itemvalidq3 a0 a1 () :=
  runF_ok hm (A := aT []) (L := lT []) (wk := ⟨[2], [], 2, 2⟩)
    (ps := []) (by kernel_rfl) trivial
theorem m_heapHeapviewportlaw23itemvalidq3_ok (n : Nat) (a0 : List (Int × Int × Int)) (a1 : Int) (r : Unit) (h : m_heapHeapviewportlaw23itemvalidq3 n a0 a1 = some r) : G_heapHeapviewportlaw23itemvalidq3 a0 a1 r := by
  unfold m_heapHeapviewportlaw23itemvalidq3 at h
  obtain rfl := Option.some.inj h; exact p_heapHeapviewportlaw23itemvalidq3_0 n a0 a1

noncomputable def A_heapHeapviewportlaw23itemPutq2 (a0 : List (Int × Int × Int)) (a1 : Int) (a2 : Int) (a3 : Int) : List Value := [(Value.pointer (some ⟨0, 0, none⟩)), (Value.agg #[(Value.int .i64 a2), (Value.int .i64 a3)])]
noncomputable def H_heapHeapviewportlaw23itemPutq2 (a0 : List (Int × Int × Int)) (a1 : Int) (a2 : Int) (a3 : Int) : AH := ⟨sB [(0, (some (.cells (layT [(Value.pointer (some ⟨0, 0, none⟩)), (Value.func (.func 8) #[] #[]), (Value.slice (some ⟨1, 0, none⟩) (a0).length (Nat.add big 3)), (Value.int .i64 a1)]) 51))), (1, (some (.cells (layT (rows rw_iii a0)) 55)))], 2, 2⟩
noncomputable def V_heapHeapviewportlaw23itemPutq2 (a0 : List (Int × Int × Int)) (a1 : Int) (a2 : Int) (a3 : Int) (r : List (Int × Int × Int)) : Value := match r with
  | o0 => (Value.tuple #[])
noncomputable def R_heapHeapviewportlaw23itemPutq2 (a0 : List (Int × Int × Int)) (a1 : Int) (a2 : Int) (a3 : Int) (r : List (Int × Int × Int)) : AH := match r with
  | o0 => ⟨sB [(0, (some (.cells (layT [(Value.pointer (some ⟨0, 0, none⟩)), (Value.func (.func 8) #[] #[]), (Value.slice (some ⟨2, 0, none⟩) ((a0 ++ [(a1, a2, a3)])).length (Nat.add big 3)), (Value.int .i64 (w64 (a1 + (1 : Int))))]) 51))), (2, (some (.cells (layT (rows rw_iii o0)) 55)))], 3, 0⟩
noncomputable abbrev G_heapHeapviewportlaw23itemPutq2 (a0 : List (Int × Int × Int)) (a1 : Int) (a2 : Int) (a3 : Int) (r : List (Int × Int × Int)) : Prop := Gv P (.func 10) (A_heapHeapviewportlaw23itemPutq2 a0 a1 a2 a3) (H_heapHeapviewportlaw23itemPutq2 a0 a1 a2 a3) (V_heapHeapviewportlaw23itemPutq2 a0 a1 a2 a3 r) (R_heapHeapviewportlaw23itemPutq2 a0 a1 a2 a3 r)
def m_heapHeapviewportlaw23itemPutq2 (n : Nat) (a0 : List (Int × Int × Int)) (a1 : Int) (a2 : Int) (a3 : Int) : Option (List (Int × Int × Int)) :=
  (m_heapHeapviewportlaw23itemvalidq3 n a0 a1).bind fun _ =>
  if ((a0).length + 1) * 24 ≤ 140737488355328 then
    (m_heapHeapviewportlaw23itemupq1 n (a0 ++ [(a1, a2, a3)]) (w64 (a1 + (1 : Int))) (w64 (((((a0 ++ [(a1, a2, a3)])).length : Nat) : Int) - (1 : Int)))).bind fun c3_ =>
    some c3_
  else none
set_option maxRecDepth 100000 in
theorem p_heapHeapviewportlaw23itemPutq2_0 (n : Nat) (a0 : List (Int × Int × Int)) (a1 : Int) (a2 : Int) (a3 : Int) (hc1 : m_heapHeapviewportlaw23itemvalidq3 n a0 a1 = some ()) (hc2 : ((a0).length + 1) * 24 ≤ 140737488355328) (c3_ : List (Int × Int × Int)) (hc3 : m_heapHeapviewportlaw23itemupq1 n (a0 ++ [(a1, a2, a3)]) (w64 (a1 + (1 : Int))) (w64 (((((a0 ++ [(a1, a2, a3)])).length : Nat) : Int) - (1 : Int))) = some c3_) : G_heapHeapviewportlaw23itemPutq2 a0 a1 a2 a3 c3_ :=
  runF_ok hm (A := aT [(5, .call ⟨2, [(0, 0, false), (1, 1, true)], (V_heapHeapviewportlaw23itemvalidq3 a0 a1 ()), (R_heapHeapviewportlaw23itemvalidq3 a0 a1 ()), []⟩), (22, .app ⟨none, rows rw_iii a0, (rows rw_iii (a0 ++ [(a1, a2, a3)])), ((a0 ++ [(a1, a2, a3)])).length, false⟩), (42, .call ⟨2, [(0, 0, false), (1, 16, true)], (V_heapHeapviewportlaw23itemupq1 (a0 ++ [(a1, a2, a3)]) (w64 (a1 + (1 : Int))) (w64 (((((a0 ++ [(a1, a2, a3)])).length : Nat) : Int) - (1 : Int))) c3_), (R_heapHeapviewportlaw23itemupq1 (a0 ++ [(a1, a2, a3)]) (w64 (a1 + (1 : Int))) (w64 (((((a0 ++ [(a1, a2, a3)])).length : Nat) : Int) - (1 : Int))) c3_), [(16, 1, true)]⟩)]) (L := lT []) (wk := ⟨[], [(0, 0, false), (2, 16, true)], 3, 0⟩)
    (ps := [G_heapHeapviewportlaw23itemvalidq3 a0 a1 (),
    FlatB (.cells (layT (rows rw_iii a0)) 55),
    0 < 1,
    rdT (layT (rows rw_iii a0)) (Nat.mul (a0).length 3) 0 = some (rows rw_iii a0),
    fits (Nat.add (a0).length 1) 24 = true,
    allCells [(Value.int .i64 a1), (Value.int .i64 a2), (Value.int .i64 a3)] = true,
    allCells (rows rw_iii a0) = true,
    rows rw_iii a0 ++ [(Value.int .i64 a1), (Value.int .i64 a2), (Value.int .i64 a3)] = (rows rw_iii (a0 ++ [(a1, a2, a3)])),
    Nat.add (a0).length 1 = ((a0 ++ [(a1, a2, a3)])).length,
    G_heapHeapviewportlaw23itemupq1 (a0 ++ [(a1, a2, a3)]) (w64 (a1 + (1 : Int))) (w64 (((((a0 ++ [(a1, a2, a3)])).length : Nat) : Int) - (1 : Int))) c3_,
    FlatB (.cells (layT (rows rw_iii (a0 ++ [(a1, a2, a3)]))) 55),
    FlatB (.cells (layT (rows rw_iii c3_)) 55),
    FlatB (.cells (layT (rows rw_iii c3_)) 55)]) (by kernel_rfl) ⟨(m_heapHeapviewportlaw23itemvalidq3_ok n a0 a1 () hc1), (rows_flat rwf_iii _ _), ((by decide)), (rows_rd rwf_iii _ _ rfl), (fits_ok hc2 (by have := hc2; show (_ : Nat) + _ ≤ _; omega)), (rfl), (rows_cells rwf_iii _), (rows_app rw_iii a0 [(a1, a2, a3)]), (by simp), (m_heapHeapviewportlaw23itemupq1_ok n (a0 ++ [(a1, a2, a3)]) (w64 (a1 + (1 : Int))) (w64 (((((a0 ++ [(a1, a2, a3)])).length : Nat) : Int) - (1 : Int))) c3_ hc3), (rows_flat rwf_iii _ _), (rows_flat rwf_iii _ _), (rows_flat rwf_iii _ _), trivial⟩
theorem m_heapHeapviewportlaw23itemPutq2_ok (n : Nat) (a0 : List (Int × Int × Int)) (a1 : Int) (a2 : Int) (a3 : Int) (r : List (Int × Int × Int)) (h : m_heapHeapviewportlaw23itemPutq2 n a0 a1 a2 a3 = some r) : G_heapHeapviewportlaw23itemPutq2 a0 a1 a2 a3 r := by
  unfold m_heapHeapviewportlaw23itemPutq2 at h
  obtain ⟨_, hc1, h⟩ := Option.bind_eq_some_iff.1 h
  by_cases hc2 : ((a0).length + 1) * 24 ≤ 140737488355328
  · rw [if_pos hc2] at h
    obtain ⟨c3_, hc3, h⟩ := Option.bind_eq_some_iff.1 h
    obtain rfl := Option.some.inj h; exact p_heapHeapviewportlaw23itemPutq2_0 n a0 a1 a2 a3 hc1 hc2 c3_ hc3
  · rw [if_neg hc2] at h; cases h

noncomputable def S_viewportref23HeapPutq2_1 (x1_0 : List (Int × Int)) (x1_1 : Int) (x1_2 : Int) (st : Int) : XSt := match st with
  | x1_3 => (sT 49 [(0, (Value.pointer (some ⟨0, 0, none⟩))), (3, (Value.pointer (some ⟨2, 0, none⟩))), (4, (Value.int .i64 x1_3))], [], ⟨sB [(0, (some (.cells (layT [(Value.slice (some ⟨1, 0, none⟩) (x1_0).length (Nat.add big 2))]) 32))), (1, (some (.cells (layT (rows rw_ii x1_0)) 27))), (2, (some (.cells (layT [(Value.int .i64 x1_1), (Value.int .i64 x1_2)]) 27)))], 3, 2⟩)
noncomputable def X_viewportref23HeapPutq2_1 (x1_0 : List (Int × Int)) (x1_1 : Int) (x1_2 : Int) (r : Int) : Ex × XSt := match r with
  | z1_0 => (.exit 0, (sT 49 [(0, (Value.pointer (some ⟨0, 0, none⟩))), (3, (Value.pointer (some ⟨2, 0, none⟩))), (4, (Value.int .i64 z1_0))], [], ⟨sB [(0, (some (.cells (layT [(Value.slice (some ⟨1, 0, none⟩) (x1_0).length (Nat.add big 2))]) 32))), (1, (some (.cells (layT (rows rw_ii x1_0)) 27))), (2, (some (.cells (layT [(Value.int .i64 x1_1), (Value.int .i64 x1_2)]) 27)))], 3, 2⟩))
def B_viewportref23HeapPutq2_1 (n : Nat) (x1_0 : List (Int × Int)) (x1_1 : Int) (x1_2 : Int) (st : Int) : Option ((Int) ⊕ (Int)) := match st with
  | x1_3 =>
    if x1_3 > (0 : Int) then
      if 0 ≤ (w64 (x1_3 - (1 : Int))) ∧ (w64 (x1_3 - (1 : Int))) < (((x1_0).length : Nat) : Int) then
        if (((x1_0).getD ((w64 (x1_3 - (1 : Int)))).toNat (0, 0)).1) > x1_1 then
          some (.inl (w64 (x1_3 - (1 : Int))))
        else
          some (.inr x1_3)
      else none
    else
      some (.inr x1_3)
def m_viewportref23HeapPutq2_1 (n : Nat) (x1_0 : List (Int × Int)) (x1_1 : Int) (x1_2 : Int) (st : Int) : Option (Int) := iterM (B_viewportref23HeapPutq2_1 n x1_0 x1_1 x1_2) n st
set_option maxRecDepth 100000 in
theorem q_viewportref23HeapPutq2_1_0 (n : Nat) {rnd : Option Nat} (x1_0 : List (Int × Int)) (x1_1 : Int) (x1_2 : Int) (x1_3 : Int) (hy1_1 : x1_3 > (0 : Int)) (hy1_2 : 0 ≤ (w64 (x1_3 - (1 : Int))) ∧ (w64 (x1_3 - (1 : Int))) < (((x1_0).length : Nat) : Int)) (hy1_3 : (((x1_0).getD ((w64 (x1_3 - (1 : Int)))).toNat (0, 0)).1) > x1_1) : CG P rnd (fnN P 12) 2 (codeOf P 12 [false, false, false, true, true]) (S_viewportref23HeapPutq2_1 x1_0 x1_1 x1_2 x1_3) (.normal, S_viewportref23HeapPutq2_1 x1_0 x1_1 x1_2 (w64 (x1_3 - (1 : Int)))) :=
  runC_ok hm (A := aT [(3, .val (.bool true)), (11, .pur (Value.pointer (some ⟨1, (((w64 (x1_3 - (1 : Int)))).toNat * 2), none⟩))), (13, .ld (Value.int .i64 (((x1_0).getD ((w64 (x1_3 - (1 : Int)))).toNat (0, 0)).1))), (16, .val (.bool true))]) (L := lT []) (wk := ⟨[0, 3, 4], [(0, 0, false), (1, 1, true), (2, 2, false)], 3, 2⟩)
    (ps := [(Value.bool (decide (x1_3 > (0 : Int)))) = (Value.bool true),
    opIndexAddr P 30 (Value.slice (some ⟨1, 0, none⟩) (x1_0).length (Nat.add big 2)) (Value.int .i64 (w64 (x1_3 - (1 : Int)))) Ax.h0 = some ((Value.pointer (some ⟨1, (((w64 (x1_3 - (1 : Int)))).toNat * 2), none⟩)), Ax.h0),
    (layT (rows rw_ii x1_0)).get (Nat.add (((w64 (x1_3 - (1 : Int)))).toNat * 2) 0) = some (Value.int .i64 (((x1_0).getD ((w64 (x1_3 - (1 : Int)))).toNat (0, 0)).1)),
    (Value.bool (decide ((((x1_0).getD ((w64 (x1_3 - (1 : Int)))).toNat (0, 0)).1) > x1_1))) = (Value.bool true),
    FlatB (.cells (layT (rows rw_ii x1_0)) 27)]) (by kernel_rfl) ⟨(vbT hy1_1), (ixS (e := 27) (by kernel_rfl) (by kernel_rfl) (hy1_2).1 (hy1_2).2), (rows_ld rwf_ii (0, 0) (i := ((w64 (x1_3 - (1 : Int)))).toNat) (j := 0) (Nat.add (((w64 (x1_3 - (1 : Int)))).toNat * 2) 0) rfl (toNatLt hy1_2) (by decide) rfl), (vbT hy1_3), (rows_flat rwf_ii _ _), trivial⟩
set_option maxRecDepth 100000 in
theorem q_viewportref23HeapPutq2_1_1 (n : Nat) {rnd : Option Nat} (x1_0 : List (Int × Int)) (x1_1 : Int) (x1_2 : Int) (x1_3 : Int) (hy1_1 : x1_3 > (0 : Int)) (hy1_2 : 0 ≤ (w64 (x1_3 - (1 : Int))) ∧ (w64 (x1_3 - (1 : Int))) < (((x1_0).length : Nat) : Int)) (hy1_3 : ¬ ((((x1_0).getD ((w64 (x1_3 - (1 : Int)))).toNat (0, 0)).1) > x1_1)) : CG P rnd (fnN P 12) 2 (codeOf P 12 [false, false, false, true, true]) (S_viewportref23HeapPutq2_1 x1_0 x1_1 x1_2 x1_3) (X_viewportref23HeapPutq2_1 x1_0 x1_1 x1_2 x1_3) :=
  runC_ok hm (A := aT [(3, .val (.bool true)), (11, .pur (Value.pointer (some ⟨1, (((w64 (x1_3 - (1 : Int)))).toNat * 2), none⟩))), (13, .ld (Value.int .i64 (((x1_0).getD ((w64 (x1_3 - (1 : Int)))).toNat (0, 0)).1))), (16, .val (.bool false))]) (L := lT []) (wk := ⟨[0, 3, 4], [(0, 0, false), (1, 1, true), (2, 2, false)], 3, 2⟩)
    (ps := [(Value.bool (decide (x1_3 > (0 : Int)))) = (Value.bool true),
    opIndexAddr P 30 (Value.slice (some ⟨1, 0, none⟩) (x1_0).length (Nat.add big 2)) (Value.int .i64 (w64 (x1_3 - (1 : Int)))) Ax.h0 = some ((Value.pointer (some ⟨1, (((w64 (x1_3 - (1 : Int)))).toNat * 2), none⟩)), Ax.h0),
    (layT (rows rw_ii x1_0)).get (Nat.add (((w64 (x1_3 - (1 : Int)))).toNat * 2) 0) = some (Value.int .i64 (((x1_0).getD ((w64 (x1_3 - (1 : Int)))).toNat (0, 0)).1)),
    (Value.bool (decide ((((x1_0).getD ((w64 (x1_3 - (1 : Int)))).toNat (0, 0)).1) > x1_1))) = (Value.bool false),
    FlatB (.cells (layT (rows rw_ii x1_0)) 27)]) (by kernel_rfl) ⟨(vbT hy1_1), (ixS (e := 27) (by kernel_rfl) (by kernel_rfl) (hy1_2).1 (hy1_2).2), (rows_ld rwf_ii (0, 0) (i := ((w64 (x1_3 - (1 : Int)))).toNat) (j := 0) (Nat.add (((w64 (x1_3 - (1 : Int)))).toNat * 2) 0) rfl (toNatLt hy1_2) (by decide) rfl), (vbF hy1_3), (rows_flat rwf_ii _ _), trivial⟩
set_option maxRecDepth 100000 in
theorem q_viewportref23HeapPutq2_1_2 (n : Nat) {rnd : Option Nat} (x1_0 : List (Int × Int)) (x1_1 : Int) (x1_2 : Int) (x1_3 : Int) (hy1_1 : ¬ (x1_3 > (0 : Int))) : CG P rnd (fnN P 12) 2 (codeOf P 12 [false, false, false, true, true]) (S_viewportref23HeapPutq2_1 x1_0 x1_1 x1_2 x1_3) (X_viewportref23HeapPutq2_1 x1_0 x1_1 x1_2 x1_3) :=
  runC_ok hm (A := aT [(3, .val (.bool false))]) (L := lT []) (wk := ⟨[0, 3, 4], [(0, 0, false), (1, 1, true), (2, 2, false)], 3, 2⟩)
    (ps := [(Value.bool (decide (x1_3 > (0 : Int)))) = (Value.bool false),
    FlatB (.cells (layT (rows rw_ii x1_0)) 27)]) (by kernel_rfl) ⟨(vbF hy1_1), (rows_flat rwf_ii _ _), trivial⟩
theorem m_viewportref23HeapPutq2_1_ok (n : Nat) {rnd : Option Nat} (x1_0 : List (Int × Int)) (x1_1 : Int) (x1_2 : Int) (st : Int) (r : Int) (h : m_viewportref23HeapPutq2_1 n x1_0 x1_1 x1_2 st = some r) : CG P rnd (fnN P 12) 2 (codeOf P 12 [false, false, true, true]) (S_viewportref23HeapPutq2_1 x1_0 x1_1 x1_2 st) (X_viewportref23HeapPutq2_1 x1_0 x1_1 x1_2 r) :=
  CG.iter (b := codeOf P 12 [false, false, false, true, true]) (by kernel_rfl) (body := B_viewportref23HeapPutq2_1 n x1_0 x1_1 x1_2) (S := S_viewportref23HeapPutq2_1 x1_0 x1_1 x1_2) (X := X_viewportref23HeapPutq2_1 x1_0 x1_1 x1_2)
    (fun x1_3 s' h => by
    unfold B_viewportref23HeapPutq2_1 at h
    dsimp only at h
    by_cases hy1_1 : x1_3 > (0 : Int)
    · rw [if_pos hy1_1] at h
      by_cases hy1_2 : 0 ≤ (w64 (x1_3 - (1 : Int))) ∧ (w64 (x1_3 - (1 : Int))) < (((x1_0).length : Nat) : Int)
      · rw [if_pos hy1_2] at h
        by_cases hy1_3 : (((x1_0).getD ((w64 (x1_3 - (1 : Int)))).toNat (0, 0)).1) > x1_1
        · rw [if_pos hy1_3] at h
          obtain rfl := Sum.inl.inj (Option.some.inj h); exact q_viewportref23HeapPutq2_1_0 n x1_0 x1_1 x1_2 x1_3 hy1_1 hy1_2 hy1_3
        · rw [if_neg hy1_3] at h
          cases h
      · rw [if_neg hy1_2] at h; cases h
    · rw [if_neg hy1_1] at h
      cases h)
    (fun x1_3 r h => by
    unfold B_viewportref23HeapPutq2_1 at h
    dsimp only at h
    by_cases hy1_1 : x1_3 > (0 : Int)
    · rw [if_pos hy1_1] at h
      by_cases hy1_2 : 0 ≤ (w64 (x1_3 - (1 : Int))) ∧ (w64 (x1_3 - (1 : Int))) < (((x1_0).length : Nat) : Int)
      · rw [if_pos hy1_2] at h
        by_cases hy1_3 : (((x1_0).getD ((w64 (x1_3 - (1 : Int)))).toNat (0, 0)).1) > x1_1
        · rw [if_pos hy1_3] at h
          cases h
        · rw [if_neg hy1_3] at h
          obtain rfl := Sum.inr.inj (Option.some.inj h); exact q_viewportref23HeapPutq2_1_1 n x1_0 x1_1 x1_2 x1_3 hy1_1 hy1_2 hy1_3
      · rw [if_neg hy1_2] at h; cases h
    · rw [if_neg hy1_1] at h
      obtain rfl := Sum.inr.inj (Option.some.inj h); exact q_viewportref23HeapPutq2_1_2 n x1_0 x1_1 x1_2 x1_3 hy1_1)
    (fun r => by intro hx; cases hx) h
noncomputable def A_viewportref23HeapPutq2 (a0 : List (Int × Int)) (a1 : Int) (a2 : Int) : List Value := [(Value.pointer (some ⟨0, 0, none⟩)), (Value.agg #[(Value.int .i64 a1), (Value.int .i64 a2)])]
noncomputable def H_viewportref23HeapPutq2 (a0 : List (Int × Int)) (a1 : Int) (a2 : Int) : AH := ⟨sB [(0, (some (.cells (layT [(Value.slice (some ⟨1, 0, none⟩) (a0).length (Nat.add big 2))]) 32))), (1, (some (.cells (layT (rows rw_ii a0)) 27)))], 2, 2⟩
noncomputable def V_viewportref23HeapPutq2 (a0 : List (Int × Int)) (a1 : Int) (a2 : Int) (r : List (Int × Int)) : Value := match r with
  | o0 => (Value.tuple #[])
noncomputable def R_viewportref23HeapPutq2 (a0 : List (Int × Int)) (a1 : Int) (a2 : Int) (r : List (Int × Int)) : AH := match r with
  | o0 => ⟨sB [(0, (some (.cells (layT [(Value.slice (some ⟨2, 0, none⟩) (o0).length (Nat.add big 2))]) 32))), (1, (some (.cells (layT (rows rw_ii a0)) 27))), (2, (some (.cells (layT (rows rw_ii o0)) 27)))], 3, 0⟩
noncomputable abbrev G_viewportref23HeapPutq2 (a0 : List (Int × Int)) (a1 : Int) (a2 : Int) (r : List (Int × Int)) : Prop := Gv P (.func 12) (A_viewportref23HeapPutq2 a0 a1 a2) (H_viewportref23HeapPutq2 a0 a1 a2) (V_viewportref23HeapPutq2 a0 a1 a2 r) (R_viewportref23HeapPutq2 a0 a1 a2 r)
def m_viewportref23HeapPutq2 (n : Nat) (a0 : List (Int × Int)) (a1 : Int) (a2 : Int) : Option (List (Int × Int)) :=
  (m_viewportref23HeapPutq2_1 n a0 a1 a2 (((a0).length : Nat) : Int)).bind fun c1_ =>
  if 0 ≤ c1_ ∧ c1_ ≤ (((a0).length : Nat) : Int) then
    if 0 < (c1_).toNat then
      if 0 + (c1_).toNat ≤ (a0).length then
        if (0 + (c1_).toNat) * 16 ≤ 140737488355328 then
          if 0 < 0 + (c1_).toNat then
            if (((([] : List (Int × Int)) ++ (List.take (c1_).toNat (List.drop 0 a0)))).length + 1) * 16 ≤ 140737488355328 then
              if 0 < ((a0).length - (c1_).toNat) then
                if (c1_).toNat + ((a0).length - (c1_).toNat) ≤ (a0).length then
                  if ((((([] : List (Int × Int)) ++ (List.take (c1_).toNat (List.drop 0 a0))) ++ [(a1, a2)])).length + ((a0).length - (c1_).toNat)) * 16 ≤ 140737488355328 then
                    some (((([] : List (Int × Int)) ++ (List.take (c1_).toNat (List.drop 0 a0))) ++ [(a1, a2)]) ++ (List.take ((a0).length - (c1_).toNat) (List.drop (c1_).toNat a0)))
                  else none
                else none
              else
                if (((([] : List (Int × Int)) ++ (List.take (c1_).toNat (List.drop 0 a0))) ++ [(a1, a2)])).length * 16 ≤ 140737488355328 then
                  some ((([] : List (Int × Int)) ++ (List.take (c1_).toNat (List.drop 0 a0))) ++ [(a1, a2)])
                else none
            else none
          else none
        else none
      else none
    else
      if 0 < ((a0).length - (c1_).toNat) then
        if (c1_).toNat + ((a0).length - (c1_).toNat) ≤ (a0).length then
          if (1 + ((a0).length - (c1_).toNat)) * 16 ≤ 140737488355328 then
            some ([(a1, a2)] ++ (List.take ((a0).length - (c1_).toNat) (List.drop (c1_).toNat a0)))
          else none
        else none
      else
        if 1 * 16 ≤ 140737488355328 then
          some [(a1, a2)]
        else none
  else none
set_option maxRecDepth 100000 in
theorem p_viewportref23HeapPutq2_0 (n : Nat) (a0 : List (Int × Int)) (a1 : Int) (a2 : Int) (c1_ : Int) (hc1 : m_viewportref23HeapPutq2_1 n a0 a1 a2 (((a0).length : Nat) : Int) = some c1_) (hc2 : 0 ≤ c1_ ∧ c1_ ≤ (((a0).length : Nat) : Int)) (hc3 : 0 < (c1_).toNat) (hc4 : 0 + (c1_).toNat ≤ (a0).length) (hc5 : (0 + (c1_).toNat) * 16 ≤ 140737488355328) (hc6 : 0 < 0 + (c1_).toNat) (hc7 : (((([] : List (Int × Int)) ++ (List.take (c1_).toNat (List.drop 0 a0)))).length + 1) * 16 ≤ 140737488355328) (hc8 : 0 < ((a0).length - (c1_).toNat)) (hc9 : (c1_).toNat + ((a0).length - (c1_).toNat) ≤ (a0).length) (hc10 : ((((([] : List (Int × Int)) ++ (List.take (c1_).toNat (List.drop 0 a0))) ++ [(a1, a2)])).length + ((a0).length - (c1_).toNat)) * 16 ≤ 140737488355328) : G_viewportref23HeapPutq2 a0 a1 a2 (((([] : List (Int × Int)) ++ (List.take (c1_).toNat (List.drop 0 a0))) ++ [(a1, a2)]) ++ (List.take ((a0).length - (c1_).toNat) (List.drop (c1_).toNat a0))) :=
  runF_ok hm (A := aT [(19, .pur (Value.slice (some ⟨1, 0, none⟩) (c1_).toNat (Nat.add big 2))), (20, .app ⟨some ((c1_).toNat, (rows rw_ii (List.take (c1_).toNat (List.drop 0 a0)))), ([] : List Value), (rows rw_ii (([] : List (Int × Int)) ++ (List.take (c1_).toNat (List.drop 0 a0)))), ((([] : List (Int × Int)) ++ (List.take (c1_).toNat (List.drop 0 a0)))).length, true⟩), (23, .app ⟨none, rows rw_ii (([] : List (Int × Int)) ++ (List.take (c1_).toNat (List.drop 0 a0))), (rows rw_ii ((([] : List (Int × Int)) ++ (List.take (c1_).toNat (List.drop 0 a0))) ++ [(a1, a2)])), (((([] : List (Int × Int)) ++ (List.take (c1_).toNat (List.drop 0 a0))) ++ [(a1, a2)])).length, false⟩), (29, .pur (Value.slice (some ⟨1, ((c1_).toNat * 2), none⟩) ((a0).length - (c1_).toNat) (Nat.add big 2))), (30, .app ⟨some (((a0).length - (c1_).toNat), (rows rw_ii (List.take ((a0).length - (c1_).toNat) (List.drop (c1_).toNat a0)))), rows rw_ii ((([] : List (Int × Int)) ++ (List.take (c1_).toNat (List.drop 0 a0))) ++ [(a1, a2)]), (rows rw_ii (((([] : List (Int × Int)) ++ (List.take (c1_).toNat (List.drop 0 a0))) ++ [(a1, a2)]) ++ (List.take ((a0).length - (c1_).toNat) (List.drop (c1_).toNat a0)))), ((((([] : List (Int × Int)) ++ (List.take (c1_).toNat (List.drop 0 a0))) ++ [(a1, a2)]) ++ (List.take ((a0).length - (c1_).toNat) (List.drop (c1_).toNat a0)))).length, false⟩)]) (L := lT [(11, ⟨⟨[0, 3, 4], [(0, 0, false), (1, 1, true), (2, 2, false)], 3, 2⟩, (X_viewportref23HeapPutq2_1 a0 a1 a2 c1_).1, (X_viewportref23HeapPutq2_1 a0 a1 a2 c1_).2⟩)]) (wk := ⟨[], [(0, 0, false), (1, 1, true), (2, 16, true)], 3, 0⟩)
    (ps := [CG P none (fnN P 12) 2 (codeOf P 12 [false, false, true, true]) (S_viewportref23HeapPutq2_1 a0 a1 a2 (((a0).length : Nat) : Int)) (X_viewportref23HeapPutq2_1 a0 a1 a2 c1_),
    FlatB (.cells (layT (rows rw_ii a0)) 27),
    opSlice P 30 (Value.slice (some ⟨1, 0, none⟩) (a0).length (Nat.add big 2)) none (some (Value.int .i64 c1_)) none Ax.h0 = some ((Value.slice (some ⟨1, 0, none⟩) (c1_).toNat (Nat.add big 2)), Ax.h0),
    (c1_).toNat = (c1_).toNat,
    rdT (layT (rows rw_ii a0)) (Nat.mul (c1_).toNat 2) 0 = some (rows rw_ii (List.take (c1_).toNat (List.drop 0 a0))),
    0 < (c1_).toNat,
    0 < big,
    0 < Nat.add 0 (c1_).toNat,
    rdT (layT ([] : List Value)) (Nat.mul 0 2) 0 = some (([] : List Value)),
    fits (Nat.add 0 (c1_).toNat) 16 = true,
    ([] : List Value) ++ (rows rw_ii (List.take (c1_).toNat (List.drop 0 a0))) = (rows rw_ii (([] : List (Int × Int)) ++ (List.take (c1_).toNat (List.drop 0 a0)))),
    Nat.add 0 (c1_).toNat = ((([] : List (Int × Int)) ++ (List.take (c1_).toNat (List.drop 0 a0)))).length,
    0 < 1,
    rdT (layT (rows rw_ii (([] : List (Int × Int)) ++ (List.take (c1_).toNat (List.drop 0 a0))))) (Nat.mul ((([] : List (Int × Int)) ++ (List.take (c1_).toNat (List.drop 0 a0)))).length 2) 0 = some (rows rw_ii (([] : List (Int × Int)) ++ (List.take (c1_).toNat (List.drop 0 a0)))),
    fits (Nat.add ((([] : List (Int × Int)) ++ (List.take (c1_).toNat (List.drop 0 a0)))).length 1) 16 = true,
    allCells [(Value.int .i64 a1), (Value.int .i64 a2)] = true,
    allCells (rows rw_ii (([] : List (Int × Int)) ++ (List.take (c1_).toNat (List.drop 0 a0)))) = true,
    rows rw_ii (([] : List (Int × Int)) ++ (List.take (c1_).toNat (List.drop 0 a0))) ++ [(Value.int .i64 a1), (Value.int .i64 a2)] = (rows rw_ii ((([] : List (Int × Int)) ++ (List.take (c1_).toNat (List.drop 0 a0))) ++ [(a1, a2)])),
    Nat.add ((([] : List (Int × Int)) ++ (List.take (c1_).toNat (List.drop 0 a0)))).length 1 = (((([] : List (Int × Int)) ++ (List.take (c1_).toNat (List.drop 0 a0))) ++ [(a1, a2)])).length,
    opSlice P 30 (Value.slice (some ⟨1, 0, none⟩) (a0).length (Nat.add big 2)) (some (Value.int .i64 c1_)) none none Ax.h0 = some ((Value.slice (some ⟨1, ((c1_).toNat * 2), none⟩) ((a0).length - (c1_).toNat) (Nat.add big 2)), Ax.h0),
    ((a0).length - (c1_).toNat) = ((a0).length - (c1_).toNat),
    rdT (layT (rows rw_ii a0)) (Nat.mul ((a0).length - (c1_).toNat) 2) ((c1_).toNat * 2) = some (rows rw_ii (List.take ((a0).length - (c1_).toNat) (List.drop (c1_).toNat a0))),
    0 < ((a0).length - (c1_).toNat),
    rdT (layT (rows rw_ii ((([] : List (Int × Int)) ++ (List.take (c1_).toNat (List.drop 0 a0))) ++ [(a1, a2)]))) (Nat.mul (((([] : List (Int × Int)) ++ (List.take (c1_).toNat (List.drop 0 a0))) ++ [(a1, a2)])).length 2) 0 = some (rows rw_ii ((([] : List (Int × Int)) ++ (List.take (c1_).toNat (List.drop 0 a0))) ++ [(a1, a2)])),
    fits (Nat.add (((([] : List (Int × Int)) ++ (List.take (c1_).toNat (List.drop 0 a0))) ++ [(a1, a2)])).length ((a0).length - (c1_).toNat)) 16 = true,
    allCells (rows rw_ii (List.take ((a0).length - (c1_).toNat) (List.drop (c1_).toNat a0))) = true,
    allCells (rows rw_ii ((([] : List (Int × Int)) ++ (List.take (c1_).toNat (List.drop 0 a0))) ++ [(a1, a2)])) = true,
    rows rw_ii ((([] : List (Int × Int)) ++ (List.take (c1_).toNat (List.drop 0 a0))) ++ [(a1, a2)]) ++ (rows rw_ii (List.take ((a0).length - (c1_).toNat) (List.drop (c1_).toNat a0))) = (rows rw_ii (((([] : List (Int × Int)) ++ (List.take (c1_).toNat (List.drop 0 a0))) ++ [(a1, a2)]) ++ (List.take ((a0).length - (c1_).toNat) (List.drop (c1_).toNat a0)))),
    Nat.add (((([] : List (Int × Int)) ++ (List.take (c1_).toNat (List.drop 0 a0))) ++ [(a1, a2)])).length ((a0).length - (c1_).toNat) = ((((([] : List (Int × Int)) ++ (List.take (c1_).toNat (List.drop 0 a0))) ++ [(a1, a2)]) ++ (List.take ((a0).length - (c1_).toNat) (List.drop (c1_).toNat a0)))).length,
    FlatB (.cells (layT (rows rw_ii a0)) 27),
    FlatB (.cells (layT (rows rw_ii (((([] : List (Int × Int)) ++ (List.take (c1_).toNat (List.drop 0 a0))) ++ [(a1, a2)]) ++ (List.take ((a0).length - (c1_).toNat) (List.drop (c1_).toNat a0))))) 27)]) (by kernel_rfl) ⟨(m_viewportref23HeapPutq2_1_ok n a0 a1 a2 (((a0).length : Nat) : Int) c1_ hc1), (rows_flat rwf_ii _ _), (slRowHi (e := 27) (es := 2) (by kernel_rfl) (by kernel_rfl) rfl rfl hc2), (rfl), ((Nat.zero_mul 2 ▸ rows_rdSub rwf_ii _ 0 _ hc4)), (hc3), ((by decide)), (hc6), (rfl), (fits_ok hc5 (by have := hc5; show (_ : Nat) + _ ≤ _; omega)), (rows_app rw_ii ([] : List (Int × Int)) (List.take (c1_).toNat (List.drop 0 a0))), (by simp <;> omega), ((by decide)), (rows_rd rwf_ii _ _ rfl), (fits_ok hc7 (by have := hc7; show (_ : Nat) + _ ≤ _; omega)), (rfl), (rows_cells rwf_ii _), (rows_app rw_ii (([] : List (Int × Int)) ++ (List.take (c1_).toNat (List.drop 0 a0))) [(a1, a2)]), (by simp), (slRow (e := 27) (es := 2) (by kernel_rfl) (by kernel_rfl) rfl rfl hc2), (rfl), (rows_rdSub rwf_ii _ ((c1_).toNat) _ hc9), (hc8), (rows_rd rwf_ii _ _ rfl), (fits_ok hc10 (by have := hc10; show (_ : Nat) + _ ≤ _; omega)), (rows_cells rwf_ii _), (rows_cells rwf_ii _), (rows_app rw_ii ((([] : List (Int × Int)) ++ (List.take (c1_).toNat (List.drop 0 a0))) ++ [(a1, a2)]) (List.take ((a0).length - (c1_).toNat) (List.drop (c1_).toNat a0))), (by simp <;> omega), (rows_flat rwf_ii _ _), (rows_flat rwf_ii _ _), trivial⟩
set_option maxRecDepth 100000 in
theorem p_viewportref23HeapPutq2_1 (n : Nat) (a0 : List (Int × Int)) (a1 : Int) (a2 : Int) (c1_ : Int) (hc1 : m_viewportref23HeapPutq2_1 n a0 a1 a2 (((a0).length : Nat) : Int) = some c1_) (hc2 : 0 ≤ c1_ ∧ c1_ ≤ (((a0).length : Nat) : Int)) (hc3 : 0 < (c1_).toNat) (hc4 : 0 + (c1_).toNat ≤ (a0).length) (hc5 : (0 + (c1_).toNat) * 16 ≤ 140737488355328) (hc6 : 0 < 0 + (c1_).toNat) (hc7 : (((([] : List (Int × Int)) ++ (List.take (c1_).toNat (List.drop 0 a0)))).length + 1) * 16 ≤ 140737488355328) (hc8 : ¬ (0 < ((a0).length - (c1_).toNat))) (hc9 : (((([] : List (Int × Int)) ++ (List.take (c1_).toNat (List.drop 0 a0))) ++ [(a1, a2)])).length * 16 ≤ 140737488355328) : G_viewportref23HeapPutq2 a0 a1 a2 ((([] : List (Int × Int)) ++ (List.take (c1_).toNat (List.drop 0 a0))) ++ [(a1, a2)]) :=
  runF_ok hm (A := aT [(19, .pur (Value.slice (some ⟨1, 0, none⟩) (c1_).toNat (Nat.add big 2))), (20, .app ⟨some ((c1_).toNat, (rows rw_ii (List.take (c1_).toNat (List.drop 0 a0)))), ([] : List Value), (rows rw_ii (([] : List (Int × Int)) ++ (List.take (c1_).toNat (List.drop 0 a0)))), ((([] : List (Int × Int)) ++ (List.take (c1_).toNat (List.drop 0 a0)))).length, true⟩), (23, .app ⟨none, rows rw_ii (([] : List (Int × Int)) ++ (List.take (c1_).toNat (List.drop 0 a0))), (rows rw_ii ((([] : List (Int × Int)) ++ (List.take (c1_).toNat (List.drop 0 a0))) ++ [(a1, a2)])), (((([] : List (Int × Int)) ++ (List.take (c1_).toNat (List.drop 0 a0))) ++ [(a1, a2)])).length, false⟩), (29, .pur (Value.slice (some ⟨1, ((c1_).toNat * 2), none⟩) ((a0).length - (c1_).toNat) (Nat.add big 2))), (30, .app0)]) (L := lT [(11, ⟨⟨[0, 3, 4], [(0, 0, false), (1, 1, true), (2, 2, false)], 3, 2⟩, (X_viewportref23HeapPutq2_1 a0 a1 a2 c1_).1, (X_viewportref23HeapPutq2_1 a0 a1 a2 c1_).2⟩)]) (wk := ⟨[], [(0, 0, false), (1, 1, true), (2, 15, true)], 3, 0⟩)
    (ps := [CG P none (fnN P 12) 2 (codeOf P 12 [false, false, true, true]) (S_viewportref23HeapPutq2_1 a0 a1 a2 (((a0).length : Nat) : Int)) (X_viewportref23HeapPutq2_1 a0 a1 a2 c1_),
    FlatB (.cells (layT (rows rw_ii a0)) 27),
    opSlice P 30 (Value.slice (some ⟨1, 0, none⟩) (a0).length (Nat.add big 2)) none (some (Value.int .i64 c1_)) none Ax.h0 = some ((Value.slice (some ⟨1, 0, none⟩) (c1_).toNat (Nat.add big 2)), Ax.h0),
    (c1_).toNat = (c1_).toNat,
    rdT (layT (rows rw_ii a0)) (Nat.mul (c1_).toNat 2) 0 = some (rows rw_ii (List.take (c1_).toNat (List.drop 0 a0))),
    0 < (c1_).toNat,
    0 < big,
    0 < Nat.add 0 (c1_).toNat,
    rdT (layT ([] : List Value)) (Nat.mul 0 2) 0 = some (([] : List Value)),
    fits (Nat.add 0 (c1_).toNat) 16 = true,
    ([] : List Value) ++ (rows rw_ii (List.take (c1_).toNat (List.drop 0 a0))) = (rows rw_ii (([] : List (Int × Int)) ++ (List.take (c1_).toNat (List.drop 0 a0)))),
    Nat.add 0 (c1_).toNat = ((([] : List (Int × Int)) ++ (List.take (c1_).toNat (List.drop 0 a0)))).length,
    0 < 1,
    rdT (layT (rows rw_ii (([] : List (Int × Int)) ++ (List.take (c1_).toNat (List.drop 0 a0))))) (Nat.mul ((([] : List (Int × Int)) ++ (List.take (c1_).toNat (List.drop 0 a0)))).length 2) 0 = some (rows rw_ii (([] : List (Int × Int)) ++ (List.take (c1_).toNat (List.drop 0 a0)))),
    fits (Nat.add ((([] : List (Int × Int)) ++ (List.take (c1_).toNat (List.drop 0 a0)))).length 1) 16 = true,
    allCells [(Value.int .i64 a1), (Value.int .i64 a2)] = true,
    allCells (rows rw_ii (([] : List (Int × Int)) ++ (List.take (c1_).toNat (List.drop 0 a0)))) = true,
    rows rw_ii (([] : List (Int × Int)) ++ (List.take (c1_).toNat (List.drop 0 a0))) ++ [(Value.int .i64 a1), (Value.int .i64 a2)] = (rows rw_ii ((([] : List (Int × Int)) ++ (List.take (c1_).toNat (List.drop 0 a0))) ++ [(a1, a2)])),
    Nat.add ((([] : List (Int × Int)) ++ (List.take (c1_).toNat (List.drop 0 a0)))).length 1 = (((([] : List (Int × Int)) ++ (List.take (c1_).toNat (List.drop 0 a0))) ++ [(a1, a2)])).length,
    opSlice P 30 (Value.slice (some ⟨1, 0, none⟩) (a0).length (Nat.add big 2)) (some (Value.int .i64 c1_)) none none Ax.h0 = some ((Value.slice (some ⟨1, ((c1_).toNat * 2), none⟩) ((a0).length - (c1_).toNat) (Nat.add big 2)), Ax.h0),
    0 = ((a0).length - (c1_).toNat),
    rdT (layT (rows rw_ii a0)) (Nat.mul ((a0).length - (c1_).toNat) 2) ((c1_).toNat * 2) = some [],
    ∀ H : AH, appTop H 2 27 16 (0, []) (Value.slice (some ⟨15, 0, none⟩) (((([] : List (Int × Int)) ++ (List.take (c1_).toNat (List.drop 0 a0))) ++ [(a1, a2)])).length (Nat.add big 2)) = some ((Value.slice (some ⟨15, 0, none⟩) (((([] : List (Int × Int)) ++ (List.take (c1_).toNat (List.drop 0 a0))) ++ [(a1, a2)])).length (Nat.add big 2)), H),
    FlatB (.cells (layT (rows rw_ii a0)) 27),
    FlatB (.cells (layT (rows rw_ii ((([] : List (Int × Int)) ++ (List.take (c1_).toNat (List.drop 0 a0))) ++ [(a1, a2)]))) 27)]) (by kernel_rfl) ⟨(m_viewportref23HeapPutq2_1_ok n a0 a1 a2 (((a0).length : Nat) : Int) c1_ hc1), (rows_flat rwf_ii _ _), (slRowHi (e := 27) (es := 2) (by kernel_rfl) (by kernel_rfl) rfl rfl hc2), (rfl), ((Nat.zero_mul 2 ▸ rows_rdSub rwf_ii _ 0 _ hc4)), (hc3), ((by decide)), (hc6), (rfl), (fits_ok hc5 (by have := hc5; show (_ : Nat) + _ ≤ _; omega)), (rows_app rw_ii ([] : List (Int × Int)) (List.take (c1_).toNat (List.drop 0 a0))), (by simp <;> omega), ((by decide)), (rows_rd rwf_ii _ _ rfl), (fits_ok hc7 (by have := hc7; show (_ : Nat) + _ ≤ _; omega)), (rfl), (rows_cells rwf_ii _), (rows_app rw_ii (([] : List (Int × Int)) ++ (List.take (c1_).toNat (List.drop 0 a0))) [(a1, a2)]), (by simp), (slRow (e := 27) (es := 2) (by kernel_rfl) (by kernel_rfl) rfl rfl hc2), ((by have := hc8; omega)), (rdT_zero (by have := hc8; omega)), (fun H => top0 (by decide) (by have := hc9; show (_ : Nat) ≤ 1180591620717411303424 + 2; omega) H), (rows_flat rwf_ii _ _), (rows_flat rwf_ii _ _), trivial⟩
set_option maxRecDepth 100000 in
theorem p_viewportref23HeapPutq2_2 (n : Nat) (a0 : List (Int × Int)) (a1 : Int) (a2 : Int) (c1_ : Int) (hc1 : m_viewportref23HeapPutq2_1 n a0 a1 a2 (((a0).length : Nat) : Int) = some c1_) (hc2 : 0 ≤ c1_ ∧ c1_ ≤ (((a0).length : Nat) : Int)) (hc3 : ¬ (0 < (c1_).toNat)) (hc4 : 0 < ((a0).length - (c1_).toNat)) (hc5 : (c1_).toNat + ((a0).length - (c1_).toNat) ≤ (a0).length) (hc6 : (1 + ((a0).length - (c1_).toNat)) * 16 ≤ 140737488355328) : G_viewportref23HeapPutq2 a0 a1 a2 ([(a1, a2)] ++ (List.take ((a0).length - (c1_).toNat) (List.drop (c1_).toNat a0))) :=
  runF_ok hm (A := aT [(19, .pur (Value.slice (some ⟨1, 0, none⟩) (c1_).toNat (Nat.add big 2))), (20, .app0), (29, .pur (Value.slice (some ⟨1, ((c1_).toNat * 2), none⟩) ((a0).length - (c1_).toNat) (Nat.add big 2))), (30, .app ⟨some (((a0).length - (c1_).toNat), (rows rw_ii (List.take ((a0).length - (c1_).toNat) (List.drop (c1_).toNat a0)))), [(Value.int .i64 a1), (Value.int .i64 a2)], (rows rw_ii ([(a1, a2)] ++ (List.take ((a0).length - (c1_).toNat) (List.drop (c1_).toNat a0)))), (([(a1, a2)] ++ (List.take ((a0).length - (c1_).toNat) (List.drop (c1_).toNat a0)))).length, false⟩)]) (L := lT [(11, ⟨⟨[0, 3, 4], [(0, 0, false), (1, 1, true), (2, 2, false)], 3, 2⟩, (X_viewportref23HeapPutq2_1 a0 a1 a2 c1_).1, (X_viewportref23HeapPutq2_1 a0 a1 a2 c1_).2⟩)]) (wk := ⟨[], [(0, 0, false), (1, 1, true), (2, 15, true)], 3, 0⟩)
    (ps := [CG P none (fnN P 12) 2 (codeOf P 12 [false, false, true, true]) (S_viewportref23HeapPutq2_1 a0 a1 a2 (((a0).length : Nat) : Int)) (X_viewportref23HeapPutq2_1 a0 a1 a2 c1_),
    FlatB (.cells (layT (rows rw_ii a0)) 27),
    opSlice P 30 (Value.slice (some ⟨1, 0, none⟩) (a0).length (Nat.add big 2)) none (some (Value.int .i64 c1_)) none Ax.h0 = some ((Value.slice (some ⟨1, 0, none⟩) (c1_).toNat (Nat.add big 2)), Ax.h0),
    0 = (c1_).toNat,
    rdT (layT (rows rw_ii a0)) (Nat.mul (c1_).toNat 2) 0 = some [],
    ∀ H : AH, appTop H 2 27 16 (0, []) (Value.slice (some ⟨4, 0, none⟩) 0 0) = some ((Value.slice (some ⟨4, 0, none⟩) 0 0), H),
    opSlice P 30 (Value.slice (some ⟨1, 0, none⟩) (a0).length (Nat.add big 2)) (some (Value.int .i64 c1_)) none none Ax.h0 = some ((Value.slice (some ⟨1, ((c1_).toNat * 2), none⟩) ((a0).length - (c1_).toNat) (Nat.add big 2)), Ax.h0),
    ((a0).length - (c1_).toNat) = ((a0).length - (c1_).toNat),
    rdT (layT (rows rw_ii a0)) (Nat.mul ((a0).length - (c1_).toNat) 2) ((c1_).toNat * 2) = some (rows rw_ii (List.take ((a0).length - (c1_).toNat) (List.drop (c1_).toNat a0))),
    0 < ((a0).length - (c1_).toNat),
    rdT (layT [(Value.int .i64 a1), (Value.int .i64 a2)]) (Nat.mul 1 2) 0 = some ([(Value.int .i64 a1), (Value.int .i64 a2)]),
    fits (Nat.add 1 ((a0).length - (c1_).toNat)) 16 = true,
    allCells (rows rw_ii (List.take ((a0).length - (c1_).toNat) (List.drop (c1_).toNat a0))) = true,
    allCells ([(Value.int .i64 a1), (Value.int .i64 a2)]) = true,
    [(Value.int .i64 a1), (Value.int .i64 a2)] ++ (rows rw_ii (List.take ((a0).length - (c1_).toNat) (List.drop (c1_).toNat a0))) = (rows rw_ii ([(a1, a2)] ++ (List.take ((a0).length - (c1_).toNat) (List.drop (c1_).toNat a0)))),
    Nat.add 1 ((a0).length - (c1_).toNat) = (([(a1, a2)] ++ (List.take ((a0).length - (c1_).toNat) (List.drop (c1_).toNat a0)))).length,
    FlatB (.cells (layT (rows rw_ii a0)) 27),
    FlatB (.cells (layT (rows rw_ii ([(a1, a2)] ++ (List.take ((a0).length - (c1_).toNat) (List.drop (c1_).toNat a0))))) 27)]) (by kernel_rfl) ⟨(m_viewportref23HeapPutq2_1_ok n a0 a1 a2 (((a0).length : Nat) : Int) c1_ hc1), (rows_flat rwf_ii _ _), (slRowHi (e := 27) (es := 2) (by kernel_rfl) (by kernel_rfl) rfl rfl hc2), ((by have := hc3; omega)), (rdT_zero (by have := hc3; omega)), (fun _ => rfl), (slRow (e := 27) (es := 2) (by kernel_rfl) (by kernel_rfl) rfl rfl hc2), (rfl), (rows_rdSub rwf_ii _ ((c1_).toNat) _ hc5), (hc4), (rfl), (fits_ok hc6 (by have := hc6; show (_ : Nat) + _ ≤ _; omega)), (rows_cells rwf_ii _), (rfl), (rows_app rw_ii [(a1, a2)] (List.take ((a0).length - (c1_).toNat) (List.drop (c1_).toNat a0))), (by simp <;> omega), (rows_flat rwf_ii _ _), (rows_flat rwf_ii _ _), trivial⟩
set_option maxRecDepth 100000 in
theorem p_viewportref23HeapPutq2_3 (n : Nat) (a0 : List (Int × Int)) (a1 : Int) (a2 : Int) (c1_ : Int) (hc1 : m_viewportref23HeapPutq2_1 n a0 a1 a2 (((a0).length : Nat) : Int) = some c1_) (hc2 : 0 ≤ c1_ ∧ c1_ ≤ (((a0).length : Nat) : Int)) (hc3 : ¬ (0 < (c1_).toNat)) (hc4 : ¬ (0 < ((a0).length - (c1_).toNat))) (hc5 : 1 * 16 ≤ 140737488355328) : G_viewportref23HeapPutq2 a0 a1 a2 [(a1, a2)] :=
  runF_ok hm (A := aT [(19, .pur (Value.slice (some ⟨1, 0, none⟩) (c1_).toNat (Nat.add big 2))), (20, .app0), (29, .pur (Value.slice (some ⟨1, ((c1_).toNat * 2), none⟩) ((a0).length - (c1_).toNat) (Nat.add big 2))), (30, .app0)]) (L := lT [(11, ⟨⟨[0, 3, 4], [(0, 0, false), (1, 1, true), (2, 2, false)], 3, 2⟩, (X_viewportref23HeapPutq2_1 a0 a1 a2 c1_).1, (X_viewportref23HeapPutq2_1 a0 a1 a2 c1_).2⟩)]) (wk := ⟨[], [(0, 0, false), (1, 1, true), (2, 14, false)], 3, 0⟩)
    (ps := [CG P none (fnN P 12) 2 (codeOf P 12 [false, false, true, true]) (S_viewportref23HeapPutq2_1 a0 a1 a2 (((a0).length : Nat) : Int)) (X_viewportref23HeapPutq2_1 a0 a1 a2 c1_),
    FlatB (.cells (layT (rows rw_ii a0)) 27),
    opSlice P 30 (Value.slice (some ⟨1, 0, none⟩) (a0).length (Nat.add big 2)) none (some (Value.int .i64 c1_)) none Ax.h0 = some ((Value.slice (some ⟨1, 0, none⟩) (c1_).toNat (Nat.add big 2)), Ax.h0),
    0 = (c1_).toNat,
    rdT (layT (rows rw_ii a0)) (Nat.mul (c1_).toNat 2) 0 = some [],
    ∀ H : AH, appTop H 2 27 16 (0, []) (Value.slice (some ⟨4, 0, none⟩) 0 0) = some ((Value.slice (some ⟨4, 0, none⟩) 0 0), H),
    opSlice P 30 (Value.slice (some ⟨1, 0, none⟩) (a0).length (Nat.add big 2)) (some (Value.int .i64 c1_)) none none Ax.h0 = some ((Value.slice (some ⟨1, ((c1_).toNat * 2), none⟩) ((a0).length - (c1_).toNat) (Nat.add big 2)), Ax.h0),
    0 = ((a0).length - (c1_).toNat),
    rdT (layT (rows rw_ii a0)) (Nat.mul ((a0).length - (c1_).toNat) 2) ((c1_).toNat * 2) = some [],
    ∀ H : AH, appTop H 2 27 16 (0, []) (Value.slice (some ⟨14, 0, none⟩) 1 (Nat.add big 2)) = some ((Value.slice (some ⟨14, 0, none⟩) 1 (Nat.add big 2)), H),
    FlatB (.cells (layT (rows rw_ii a0)) 27)]) (by kernel_rfl) ⟨(m_viewportref23HeapPutq2_1_ok n a0 a1 a2 (((a0).length : Nat) : Int) c1_ hc1), (rows_flat rwf_ii _ _), (slRowHi (e := 27) (es := 2) (by kernel_rfl) (by kernel_rfl) rfl rfl hc2), ((by have := hc3; omega)), (rdT_zero (by have := hc3; omega)), (fun _ => rfl), (slRow (e := 27) (es := 2) (by kernel_rfl) (by kernel_rfl) rfl rfl hc2), ((by have := hc4; omega)), (rdT_zero (by have := hc4; omega)), (fun H => top0 (by decide) (by have := hc5; show (_ : Nat) ≤ 1180591620717411303424 + 2; omega) H), (rows_flat rwf_ii _ _), trivial⟩
theorem m_viewportref23HeapPutq2_ok (n : Nat) (a0 : List (Int × Int)) (a1 : Int) (a2 : Int) (r : List (Int × Int)) (h : m_viewportref23HeapPutq2 n a0 a1 a2 = some r) : G_viewportref23HeapPutq2 a0 a1 a2 r := by
  unfold m_viewportref23HeapPutq2 at h
  obtain ⟨c1_, hc1, h⟩ := Option.bind_eq_some_iff.1 h
  by_cases hc2 : 0 ≤ c1_ ∧ c1_ ≤ (((a0).length : Nat) : Int)
  · rw [if_pos hc2] at h
    by_cases hc3 : 0 < (c1_).toNat
    · rw [if_pos hc3] at h
      by_cases hc4 : 0 + (c1_).toNat ≤ (a0).length
      · rw [if_pos hc4] at h
        by_cases hc5 : (0 + (c1_).toNat) * 16 ≤ 140737488355328
        · rw [if_pos hc5] at h
          by_cases hc6 : 0 < 0 + (c1_).toNat
          · rw [if_pos hc6] at h
            by_cases hc7 : (((([] : List (Int × Int)) ++ (List.take (c1_).toNat (List.drop 0 a0)))).length + 1) * 16 ≤ 140737488355328
            · rw [if_pos hc7] at h
              by_cases hc8 : 0 < ((a0).length - (c1_).toNat)
              · rw [if_pos hc8] at h
                by_cases hc9 : (c1_).toNat + ((a0).length - (c1_).toNat) ≤ (a0).length
                · rw [if_pos hc9] at h
                  by_cases hc10 : ((((([] : List (Int × Int)) ++ (List.take (c1_).toNat (List.drop 0 a0))) ++ [(a1, a2)])).length + ((a0).length - (c1_).toNat)) * 16 ≤ 140737488355328
                  · rw [if_pos hc10] at h
                    obtain rfl := Option.some.inj h; exact p_viewportref23HeapPutq2_0 n a0 a1 a2 c1_ hc1 hc2 hc3 hc4 hc5 hc6 hc7 hc8 hc9 hc10
                  · rw [if_neg hc10] at h; cases h
                · rw [if_neg hc9] at h; cases h
              · rw [if_neg hc8] at h
                by_cases hc9 : (((([] : List (Int × Int)) ++ (List.take (c1_).toNat (List.drop 0 a0))) ++ [(a1, a2)])).length * 16 ≤ 140737488355328
                · rw [if_pos hc9] at h
                  obtain rfl := Option.some.inj h; exact p_viewportref23HeapPutq2_1 n a0 a1 a2 c1_ hc1 hc2 hc3 hc4 hc5 hc6 hc7 hc8 hc9
                · rw [if_neg hc9] at h; cases h
            · rw [if_neg hc7] at h; cases h
          · rw [if_neg hc6] at h; cases h
        · rw [if_neg hc5] at h; cases h
      · rw [if_neg hc4] at h; cases h
    · rw [if_neg hc3] at h
      by_cases hc4 : 0 < ((a0).length - (c1_).toNat)
      · rw [if_pos hc4] at h
        by_cases hc5 : (c1_).toNat + ((a0).length - (c1_).toNat) ≤ (a0).length
        · rw [if_pos hc5] at h
          by_cases hc6 : (1 + ((a0).length - (c1_).toNat)) * 16 ≤ 140737488355328
          · rw [if_pos hc6] at h
            obtain rfl := Option.some.inj h; exact p_viewportref23HeapPutq2_2 n a0 a1 a2 c1_ hc1 hc2 hc3 hc4 hc5 hc6
          · rw [if_neg hc6] at h; cases h
        · rw [if_neg hc5] at h; cases h
      · rw [if_neg hc4] at h
        by_cases hc5 : 1 * 16 ≤ 140737488355328
        · rw [if_pos hc5] at h
          obtain rfl := Option.some.inj h; exact p_viewportref23HeapPutq2_3 n a0 a1 a2 c1_ hc1 hc2 hc3 hc4 hc5
        · rw [if_neg hc5] at h; cases h
  · rw [if_neg hc2] at h; cases h

noncomputable def A_heapHeapviewportlaw23itemvalidq4 (a0 : List (Int × Int × Int)) (a1 : Nat) (a2 : Int) : List Value := [(Value.pointer (some ⟨0, 0, none⟩))]
noncomputable def H_heapHeapviewportlaw23itemvalidq4 (a0 : List (Int × Int × Int)) (a1 : Nat) (a2 : Int) : AH := ⟨sB [(0, (some (.cells (layT [(Value.pointer (some ⟨0, 0, none⟩)), (Value.func (.func 8) #[] #[]), (Value.slice (some ⟨1, 0, none⟩) a1 (Nat.add big 3)), (Value.int .i64 a2)]) 51))), (1, (some (.cells (layT (rows rw_iii a0)) 55)))], 2, 2⟩
noncomputable def V_heapHeapviewportlaw23itemvalidq4 (a0 : List (Int × Int × Int)) (a1 : Nat) (a2 : Int) (r : Unit) : Value := match r with
  | _ => (Value.bool true)
noncomputable def R_heapHeapviewportlaw23itemvalidq4 (a0 : List (Int × Int × Int)) (a1 : Nat) (a2 : Int) (r : Unit) : AH := match r with
  | _ => ⟨sB [], 2, 2⟩
noncomputable abbrev G_heapHeapviewportlaw23itemvalidq4 (a0 : List (Int × Int × Int)) (a1 : Nat) (a2 : Int) (r : Unit) : Prop := Gv P (.func 20) (A_heapHeapviewportlaw23itemvalidq4 a0 a1 a2) (H_heapHeapviewportlaw23itemvalidq4 a0 a1 a2) (V_heapHeapviewportlaw23itemvalidq4 a0 a1 a2 r) (R_heapHeapviewportlaw23itemvalidq4 a0 a1 a2 r)
def m_heapHeapviewportlaw23itemvalidq4 (n : Nat) (a0 : List (Int × Int × Int)) (a1 : Nat) (a2 : Int) : Option (Unit) :=
  some ()
set_option maxRecDepth 100000 in
theorem p_heapHeapviewportlaw23itemvalidq4_0 (n : Nat) (a0 : List (Int × Int × Int)) (a1 : Nat) (a2 : Int) : G_heapHeapviewportlaw23itemvalidq4 a0 a1 a2 () :=
  runF_ok hm (A := aT []) (L := lT []) (wk := ⟨[2], [], 2, 2⟩)
    (ps := []) (by kernel_rfl) trivial
theorem m_heapHeapviewportlaw23itemvalidq4_ok (n : Nat) (a0 : List (Int × Int × Int)) (a1 : Nat) (a2 : Int) (r : Unit) (h : m_heapHeapviewportlaw23itemvalidq4 n a0 a1 a2 = some r) : G_heapHeapviewportlaw23itemvalidq4 a0 a1 a2 r := by
  unfold m_heapHeapviewportlaw23itemvalidq4 at h
  obtain rfl := Option.some.inj h; exact p_heapHeapviewportlaw23itemvalidq4_0 n a0 a1 a2

noncomputable def A_heapHeapviewportlaw23itemLenq3 (a0 : List (Int × Int × Int)) (a1 : Nat) (a2 : Int) : List Value := [(Value.pointer (some ⟨0, 0, none⟩))]
noncomputable def H_heapHeapviewportlaw23itemLenq3 (a0 : List (Int × Int × Int)) (a1 : Nat) (a2 : Int) : AH := ⟨sB [(0, (some (.cells (layT [(Value.pointer (some ⟨0, 0, none⟩)), (Value.func (.func 8) #[] #[]), (Value.slice (some ⟨1, 0, none⟩) a1 (Nat.add big 3)), (Value.int .i64 a2)]) 51))), (1, (some (.cells (layT (rows rw_iii a0)) 55)))], 2, 2⟩
noncomputable def V_heapHeapviewportlaw23itemLenq3 (a0 : List (Int × Int × Int)) (a1 : Nat) (a2 : Int) (r : Unit) : Value := match r with
  | _ => (Value.int .i64 ((a1 : Nat) : Int))
noncomputable def R_heapHeapviewportlaw23itemLenq3 (a0 : List (Int × Int × Int)) (a1 : Nat) (a2 : Int) (r : Unit) : AH := match r with
  | _ => ⟨sB [], 2, 2⟩
noncomputable abbrev G_heapHeapviewportlaw23itemLenq3 (a0 : List (Int × Int × Int)) (a1 : Nat) (a2 : Int) (r : Unit) : Prop := Gv P (.func 17) (A_heapHeapviewportlaw23itemLenq3 a0 a1 a2) (H_heapHeapviewportlaw23itemLenq3 a0 a1 a2) (V_heapHeapviewportlaw23itemLenq3 a0 a1 a2 r) (R_heapHeapviewportlaw23itemLenq3 a0 a1 a2 r)
def m_heapHeapviewportlaw23itemLenq3 (n : Nat) (a0 : List (Int × Int × Int)) (a1 : Nat) (a2 : Int) : Option (Unit) :=
  (m_heapHeapviewportlaw23itemvalidq4 n a0 a1 a2).bind fun _ =>
  some ()
set_option maxRecDepth 100000 in
theorem p_heapHeapviewportlaw23itemLenq3_0 (n : Nat) (a0 : List (Int × Int × Int)) (a1 : Nat) (a2 : Int) (hc1 : m_heapHeapviewportlaw23itemvalidq4 n a0 a1 a2 = some ()) : G_heapHeapviewportlaw23itemLenq3 a0 a1 a2 () :=
  runF_ok hm (A := aT [(5, .call ⟨2, [(0, 0, false), (1, 1, true)], (V_heapHeapviewportlaw23itemvalidq4 a0 a1 a2 ()), (R_heapHeapviewportlaw23itemvalidq4 a0 a1 a2 ()), []⟩)]) (L := lT []) (wk := ⟨[2], [], 2, 2⟩)
    (ps := [G_heapHeapviewportlaw23itemvalidq4 a0 a1 a2 (),
    FlatB (.cells (layT (rows rw_iii a0)) 55)]) (by kernel_rfl) ⟨(m_heapHeapviewportlaw23itemvalidq4_ok n a0 a1 a2 () hc1), (rows_flat rwf_iii _ _), trivial⟩
theorem m_heapHeapviewportlaw23itemLenq3_ok (n : Nat) (a0 : List (Int × Int × Int)) (a1 : Nat) (a2 : Int) (r : Unit) (h : m_heapHeapviewportlaw23itemLenq3 n a0 a1 a2 = some r) : G_heapHeapviewportlaw23itemLenq3 a0 a1 a2 r := by
  unfold m_heapHeapviewportlaw23itemLenq3 at h
  obtain ⟨_, hc1, h⟩ := Option.bind_eq_some_iff.1 h
  obtain rfl := Option.some.inj h; exact p_heapHeapviewportlaw23itemLenq3_0 n a0 a1 a2 hc1

noncomputable def A_heapHeapviewportlaw23itemLeastq2 (a0 : List (Int × Int × Int)) (a1 : Int) : List Value := [(Value.pointer (some ⟨0, 0, none⟩))]
noncomputable def H_heapHeapviewportlaw23itemLeastq2 (a0 : List (Int × Int × Int)) (a1 : Int) : AH := ⟨sB [(0, (some (.cells (layT [(Value.pointer (some ⟨0, 0, none⟩)), (Value.func (.func 8) #[] #[]), (Value.slice (some ⟨1, 0, none⟩) (a0).length (Nat.add big 3)), (Value.int .i64 a1)]) 51))), (1, (some (.cells (layT (rows rw_iii a0)) 55)))], 2, 2⟩
noncomputable def V_heapHeapviewportlaw23itemLeastq2 (a0 : List (Int × Int × Int)) (a1 : Int) (r : Int × Int × Bool) : Value := match r with
  | (o0, o1, o2) => (Value.tuple #[(Value.agg #[(Value.int .i64 o0), (Value.int .i64 o1)]), (Value.bool o2)])
noncomputable def R_heapHeapviewportlaw23itemLeastq2 (a0 : List (Int × Int × Int)) (a1 : Int) (r : Int × Int × Bool) : AH := match r with
  | (o0, o1, o2) => ⟨sB [(2, (some (.cells (layT [(Value.int .i64 o0), (Value.int .i64 o1)]) 27)))], 3, 2⟩
noncomputable abbrev G_heapHeapviewportlaw23itemLeastq2 (a0 : List (Int × Int × Int)) (a1 : Int) (r : Int × Int × Bool) : Prop := Gv P (.func 15) (A_heapHeapviewportlaw23itemLeastq2 a0 a1) (H_heapHeapviewportlaw23itemLeastq2 a0 a1) (V_heapHeapviewportlaw23itemLeastq2 a0 a1 r) (R_heapHeapviewportlaw23itemLeastq2 a0 a1 r)
def m_heapHeapviewportlaw23itemLeastq2 (n : Nat) (a0 : List (Int × Int × Int)) (a1 : Int) : Option (Int × Int × Bool) :=
  (m_heapHeapviewportlaw23itemLenq3 n a0 ((a0).length) a1).bind fun _ =>
  if ((((a0).length) : Nat) : Int) = (0 : Int) then
    some (0, 0, false)
  else
    if 0 ≤ (0 : Int) ∧ (0 : Int) < (((a0).length : Nat) : Int) then
      some ((((a0).getD ((0 : Int)).toNat (0, 0, 0)).2.1), (((a0).getD ((0 : Int)).toNat (0, 0, 0)).2.2), true)
    else none
set_option maxRecDepth 100000 in
theorem p_heapHeapviewportlaw23itemLeastq2_0 (n : Nat) (a0 : List (Int × Int × Int)) (a1 : Int) (hc1 : m_heapHeapviewportlaw23itemLenq3 n a0 ((a0).length) a1 = some ()) (hc2 : ((((a0).length) : Nat) : Int) = (0 : Int)) : G_heapHeapviewportlaw23itemLeastq2 a0 a1 (0, 0, false) :=
  runF_ok hm (A := aT [(6, .call ⟨2, [(0, 0, false), (1, 1, true)], (V_heapHeapviewportlaw23itemLenq3 a0 ((a0).length) a1 ()), (R_heapHeapviewportlaw23itemLenq3 a0 ((a0).length) a1 ()), []⟩), (7, .val (.bool true))]) (L := lT []) (wk := ⟨[2, 3], [(2, 2, false)], 3, 2⟩)
    (ps := [G_heapHeapviewportlaw23itemLenq3 a0 ((a0).length) a1 (),
    FlatB (.cells (layT (rows rw_iii a0)) 55),
    (Value.bool (((((a0).length) : Nat) : Int) == (0 : Int))) = (Value.bool true)]) (by kernel_rfl) ⟨(m_heapHeapviewportlaw23itemLenq3_ok n a0 ((a0).length) a1 () hc1), (rows_flat rwf_iii _ _), (veT hc2), trivial⟩
set_option maxRecDepth 100000 in
theorem p_heapHeapviewportlaw23itemLeastq2_1 (n : Nat) (a0 : List (Int × Int × Int)) (a1 : Int) (hc1 : m_heapHeapviewportlaw23itemLenq3 n a0 ((a0).length) a1 = some ()) (hc2 : ¬ (((((a0).length) : Nat) : Int) = (0 : Int))) (hc3 : 0 ≤ (0 : Int) ∧ (0 : Int) < (((a0).length : Nat) : Int)) : G_heapHeapviewportlaw23itemLeastq2 a0 a1 ((((a0).getD ((0 : Int)).toNat (0, 0, 0)).2.1), (((a0).getD ((0 : Int)).toNat (0, 0, 0)).2.2), true) :=
  runF_ok hm (A := aT [(6, .call ⟨2, [(0, 0, false), (1, 1, true)], (V_heapHeapviewportlaw23itemLenq3 a0 ((a0).length) a1 ()), (R_heapHeapviewportlaw23itemLenq3 a0 ((a0).length) a1 ()), []⟩), (7, .val (.bool false)), (14, .pur (Value.pointer (some ⟨1, (((0 : Int)).toNat * 3), none⟩))), (16, .ld (Value.agg #[(Value.int .i64 (((a0).getD ((0 : Int)).toNat (0, 0, 0)).2.1)), (Value.int .i64 (((a0).getD ((0 : Int)).toNat (0, 0, 0)).2.2))]))]) (L := lT []) (wk := ⟨[2, 3], [(2, 2, false)], 3, 2⟩)
    (ps := [G_heapHeapviewportlaw23itemLenq3 a0 ((a0).length) a1 (),
    FlatB (.cells (layT (rows rw_iii a0)) 55),
    (Value.bool (((((a0).length) : Nat) : Int) == (0 : Int))) = (Value.bool false),
    opIndexAddr P 49 (Value.slice (some ⟨1, 0, none⟩) (a0).length (Nat.add big 3)) (Value.int .i64 (0 : Int)) Ax.h0 = some ((Value.pointer (some ⟨1, (((0 : Int)).toNat * 3), none⟩)), Ax.h0),
    rdT (layT (rows rw_iii a0)) 2 (Nat.add (((0 : Int)).toNat * 3) 1) = some [(Value.int .i64 (((a0).getD ((0 : Int)).toNat (0, 0, 0)).2.1)), (Value.int .i64 (((a0).getD ((0 : Int)).toNat (0, 0, 0)).2.2))]]) (by kernel_rfl) ⟨(m_heapHeapviewportlaw23itemLenq3_ok n a0 ((a0).length) a1 () hc1), (rows_flat rwf_iii _ _), (veF hc2), (ixS (e := 55) (by kernel_rfl) (by kernel_rfl) (hc3).1 (hc3).2), (rows_rdp rwf_iii (0, 0, 0) (i := ((0 : Int)).toNat) (j := 1) (Nat.add (((0 : Int)).toNat * 3) 1) rfl (toNatLt hc3) (by decide) rfl), trivial⟩
theorem m_heapHeapviewportlaw23itemLeastq2_ok (n : Nat) (a0 : List (Int × Int × Int)) (a1 : Int) (r : Int × Int × Bool) (h : m_heapHeapviewportlaw23itemLeastq2 n a0 a1 = some r) : G_heapHeapviewportlaw23itemLeastq2 a0 a1 r := by
  unfold m_heapHeapviewportlaw23itemLeastq2 at h
  obtain ⟨_, hc1, h⟩ := Option.bind_eq_some_iff.1 h
  by_cases hc2 : ((((a0).length) : Nat) : Int) = (0 : Int)
  · rw [if_pos hc2] at h
    obtain rfl := Option.some.inj h; exact p_heapHeapviewportlaw23itemLeastq2_0 n a0 a1 hc1 hc2
  · rw [if_neg hc2] at h
    by_cases hc3 : 0 ≤ (0 : Int) ∧ (0 : Int) < (((a0).length : Nat) : Int)
    · rw [if_pos hc3] at h
      obtain rfl := Option.some.inj h; exact p_heapHeapviewportlaw23itemLeastq2_1 n a0 a1 hc1 hc2 hc3
    · rw [if_neg hc3] at h; cases h

noncomputable def S_heapHeapviewportlaw23itemdownq1_2 (x2_0 : List (Int × Int × Int)) (x2_1 : Nat) (x2_2 : Int) (x2_3 : Int) (st : Int × Int) : XSt := match st with
  | (x2_4, x2_5) => (sT 61 [(0, (Value.pointer (some ⟨0, 0, none⟩))), (1, (Value.int .i64 x2_3)), (4, (Value.int .i64 x2_4)), (5, (Value.int .i64 x2_5))], [], ⟨sB [(0, (some (.cells (layT [(Value.pointer (some ⟨0, 0, none⟩)), (Value.func (.func 8) #[] #[]), (Value.slice (some ⟨1, 0, none⟩) x2_1 (Nat.add big 3)), (Value.int .i64 x2_2)]) 51))), (1, (some (.cells (layT (rows rw_iii x2_0)) 55)))], 2, 1⟩)
noncomputable def X_heapHeapviewportlaw23itemdownq1_2 (x2_0 : List (Int × Int × Int)) (x2_1 : Nat) (x2_2 : Int) (x2_3 : Int) (r : Int) : Ex × XSt := match r with
  | z2_0 => (.exit 2, (sT 61 [(0, (Value.pointer (some ⟨0, 0, none⟩))), (1, (Value.int .i64 x2_3)), (4, (Value.int .i64 z2_0))], [], ⟨sB [(0, (some (.cells (layT [(Value.pointer (some ⟨0, 0, none⟩)), (Value.func (.func 8) #[] #[]), (Value.slice (some ⟨1, 0, none⟩) x2_1 (Nat.add big 3)), (Value.int .i64 x2_2)]) 51))), (1, (some (.cells (layT (rows rw_iii x2_0)) 55)))], 2, 1⟩))
def B_heapHeapviewportlaw23itemdownq1_2 (n : Nat) (x2_0 : List (Int × Int × Int)) (x2_1 : Nat) (x2_2 : Int) (x2_3 : Int) (st : Int × Int) : Option ((Int × Int) ⊕ (Int)) := match st with
  | (x2_4, x2_5) =>
    if x2_5 ≤ (w64 ((w64 (x2_3 * (2 : Int))) + (2 : Int))) then
      if x2_5 < ((x2_1 : Nat) : Int) then
        (m_heapHeapviewportlaw23itembeforeq2 n x2_0 x2_1 x2_2 x2_5 x2_4).bind fun y2_3_ =>
        if y2_3_ = true then
          some (.inl (x2_5, (w64 (x2_5 + (1 : Int)))))
        else
          some (.inl (x2_4, (w64 (x2_5 + (1 : Int)))))
      else
        some (.inr x2_4)
    else
      some (.inr x2_4)
def m_heapHeapviewportlaw23itemdownq1_2 (n : Nat) (x2_0 : List (Int × Int × Int)) (x2_1 : Nat) (x2_2 : Int) (x2_3 : Int) (st : Int × Int) : Option (Int) := iterM (B_heapHeapviewportlaw23itemdownq1_2 n x2_0 x2_1 x2_2 x2_3) n st
set_option maxRecDepth 100000 in
theorem q_heapHeapviewportlaw23itemdownq1_2_0 (n : Nat) {rnd : Option Nat} (x2_0 : List (Int × Int × Int)) (x2_1 : Nat) (x2_2 : Int) (x2_3 : Int) (x2_4 : Int) (x2_5 : Int) (hy2_1 : x2_5 ≤ (w64 ((w64 (x2_3 * (2 : Int))) + (2 : Int)))) (hy2_2 : x2_5 < ((x2_1 : Nat) : Int)) (y2_3_ : Bool) (hy2_3 : m_heapHeapviewportlaw23itembeforeq2 n x2_0 x2_1 x2_2 x2_5 x2_4 = some y2_3_) (hy2_4 : y2_3_ = true) : CG P rnd (fnN P 22) 2 (codeOf P 22 [false, false, true, false, true, false, false, false]) (S_heapHeapviewportlaw23itemdownq1_2 x2_0 x2_1 x2_2 x2_3 (x2_4, x2_5)) (.normal, S_heapHeapviewportlaw23itemdownq1_2 x2_0 x2_1 x2_2 x2_3 (x2_5, (w64 (x2_5 + (1 : Int))))) :=
  runC_ok hm (A := aT [(6, .val (.bool true)), (14, .val (.bool true)), (23, .call ⟨2, [(0, 0, false), (1, 1, true)], (V_heapHeapviewportlaw23itembeforeq2 x2_0 x2_1 x2_2 x2_5 x2_4 y2_3_), (R_heapHeapviewportlaw23itembeforeq2 x2_0 x2_1 x2_2 x2_5 x2_4 y2_3_), []⟩), (24, .val (.bool true))]) (L := lT []) (wk := ⟨[0, 1, 4, 5], [(0, 0, false), (1, 1, true)], 2, 1⟩)
    (ps := [(Value.bool (decide (x2_5 ≤ (w64 ((w64 (x2_3 * (2 : Int))) + (2 : Int)))))) = (Value.bool true),
    (Value.bool (decide (x2_5 < ((x2_1 : Nat) : Int)))) = (Value.bool true),
    G_heapHeapviewportlaw23itembeforeq2 x2_0 x2_1 x2_2 x2_5 x2_4 y2_3_,
    FlatB (.cells (layT (rows rw_iii x2_0)) 55),
    (Value.bool y2_3_) = (Value.bool true),
    FlatB (.cells (layT (rows rw_iii x2_0)) 55)]) (by kernel_rfl) ⟨(vbT hy2_1), (vbT hy2_2), (m_heapHeapviewportlaw23itembeforeq2_ok n x2_0 x2_1 x2_2 x2_5 x2_4 y2_3_ hy2_3), (rows_flat rwf_iii _ _), (vB hy2_4), (rows_flat rwf_iii _ _), trivial⟩
set_option maxRecDepth 100000 in
theorem q_heapHeapviewportlaw23itemdownq1_2_1 (n : Nat) {rnd : Option Nat} (x2_0 : List (Int × Int × Int)) (x2_1 : Nat) (x2_2 : Int) (x2_3 : Int) (x2_4 : Int) (x2_5 : Int) (hy2_1 : x2_5 ≤ (w64 ((w64 (x2_3 * (2 : Int))) + (2 : Int)))) (hy2_2 : x2_5 < ((x2_1 : Nat) : Int)) (y2_3_ : Bool) (hy2_3 : m_heapHeapviewportlaw23itembeforeq2 n x2_0 x2_1 x2_2 x2_5 x2_4 = some y2_3_) (hy2_4 : ¬ (y2_3_ = true)) : CG P rnd (fnN P 22) 2 (codeOf P 22 [false, false, true, false, true, false, false, false]) (S_heapHeapviewportlaw23itemdownq1_2 x2_0 x2_1 x2_2 x2_3 (x2_4, x2_5)) (.normal, S_heapHeapviewportlaw23itemdownq1_2 x2_0 x2_1 x2_2 x2_3 (x2_4, (w64 (x2_5 + (1 : Int))))) :=
  runC_ok hm (A := aT [(6, .val (.bool true)), (14, .val (.bool true)), (23, .call ⟨2, [(0, 0, false), (1, 1, true)], (V_heapHeapviewportlaw23itembeforeq2 x2_0 x2_1 x2_2 x2_5 x2_4 y2_3_), (R_heapHeapviewportlaw23itembeforeq2 x2_0 x2_1 x2_2 x2_5 x2_4 y2_3_), []⟩), (24, .val (.bool false))]) (L := lT []) (wk := ⟨[0, 1, 4, 5], [(0, 0, false), (1, 1, true)], 2, 1⟩)
    (ps := [(Value.bool (decide (x2_5 ≤ (w64 ((w64 (x2_3 * (2 : Int))) + (2 : Int)))))) = (Value.bool true),
    (Value.bool (decide (x2_5 < ((x2_1 : Nat) : Int)))) = (Value.bool true),
    G_heapHeapviewportlaw23itembeforeq2 x2_0 x2_1 x2_2 x2_5 x2_4 y2_3_,
    FlatB (.cells (layT (rows rw_iii x2_0)) 55),
    (Value.bool y2_3_) = (Value.bool false),
    FlatB (.cells (layT (rows rw_iii x2_0)) 55)]) (by kernel_rfl) ⟨(vbT hy2_1), (vbT hy2_2), (m_heapHeapviewportlaw23itembeforeq2_ok n x2_0 x2_1 x2_2 x2_5 x2_4 y2_3_ hy2_3), (rows_flat rwf_iii _ _), (vB (Bool.eq_false_iff.2 hy2_4)), (rows_flat rwf_iii _ _), trivial⟩
set_option maxRecDepth 100000 in
theorem q_heapHeapviewportlaw23itemdownq1_2_2 (n : Nat) {rnd : Option Nat} (x2_0 : List (Int × Int × Int)) (x2_1 : Nat) (x2_2 : Int) (x2_3 : Int) (x2_4 : Int) (x2_5 : Int) (hy2_1 : x2_5 ≤ (w64 ((w64 (x2_3 * (2 : Int))) + (2 : Int)))) (hy2_2 : ¬ (x2_5 < ((x2_1 : Nat) : Int))) : CG P rnd (fnN P 22) 2 (codeOf P 22 [false, false, true, false, true, false, false, false]) (S_heapHeapviewportlaw23itemdownq1_2 x2_0 x2_1 x2_2 x2_3 (x2_4, x2_5)) (X_heapHeapviewportlaw23itemdownq1_2 x2_0 x2_1 x2_2 x2_3 x2_4) :=
  runC_ok hm (A := aT [(6, .val (.bool true)), (14, .val (.bool false))]) (L := lT []) (wk := ⟨[0, 1, 4], [(0, 0, false), (1, 1, true)], 2, 1⟩)
    (ps := [(Value.bool (decide (x2_5 ≤ (w64 ((w64 (x2_3 * (2 : Int))) + (2 : Int)))))) = (Value.bool true),
    (Value.bool (decide (x2_5 < ((x2_1 : Nat) : Int)))) = (Value.bool false),
    FlatB (.cells (layT (rows rw_iii x2_0)) 55)]) (by kernel_rfl) ⟨(vbT hy2_1), (vbF hy2_2), (rows_flat rwf_iii _ _), trivial⟩
set_option maxRecDepth 100000 in
theorem q_heapHeapviewportlaw23itemdownq1_2_3 (n : Nat) {rnd : Option Nat} (x2_0 : List (Int × Int × Int)) (x2_1 : Nat) (x2_2 : Int) (x2_3 : Int) (x2_4 : Int) (x2_5 : Int) (hy2_1 : ¬ (x2_5 ≤ (w64 ((w64 (x2_3 * (2 : Int))) + (2 : Int))))) : CG P rnd (fnN P 22) 2 (codeOf P 22 [false, false, true, false, true, false, false, false]) (S_heapHeapviewportlaw23itemdownq1_2 x2_0 x2_1 x2_2 x2_3 (x2_4, x2_5)) (X_heapHeapviewportlaw23itemdownq1_2 x2_0 x2_1 x2_2 x2_3 x2_4) :=
  runC_ok hm (A := aT [(6, .val (.bool false))]) (L := lT []) (wk := ⟨[0, 1, 4], [(0, 0, false), (1, 1, true)], 2, 1⟩)
    (ps := [(Value.bool (decide (x2_5 ≤ (w64 ((w64 (x2_3 * (2 : Int))) + (2 : Int)))))) = (Value.bool false),
    FlatB (.cells (layT (rows rw_iii x2_0)) 55)]) (by kernel_rfl) ⟨(vbF hy2_1), (rows_flat rwf_iii _ _), trivial⟩
theorem m_heapHeapviewportlaw23itemdownq1_2_ok (n : Nat) {rnd : Option Nat} (x2_0 : List (Int × Int × Int)) (x2_1 : Nat) (x2_2 : Int) (x2_3 : Int) (st : Int × Int) (r : Int) (h : m_heapHeapviewportlaw23itemdownq1_2 n x2_0 x2_1 x2_2 x2_3 st = some r) : CG P rnd (fnN P 22) 2 (codeOf P 22 [false, true, false, true, false, false, false]) (S_heapHeapviewportlaw23itemdownq1_2 x2_0 x2_1 x2_2 x2_3 st) (X_heapHeapviewportlaw23itemdownq1_2 x2_0 x2_1 x2_2 x2_3 r) :=
  CG.iter (b := codeOf P 22 [false, false, true, false, true, false, false, false]) (by kernel_rfl) (body := B_heapHeapviewportlaw23itemdownq1_2 n x2_0 x2_1 x2_2 x2_3) (S := S_heapHeapviewportlaw23itemdownq1_2 x2_0 x2_1 x2_2 x2_3) (X := X_heapHeapviewportlaw23itemdownq1_2 x2_0 x2_1 x2_2 x2_3)
    (fun s s' h => by
    obtain ⟨x2_4, x2_5⟩ := s
    unfold B_heapHeapviewportlaw23itemdownq1_2 at h
    dsimp only at h
    by_cases hy2_1 : x2_5 ≤ (w64 ((w64 (x2_3 * (2 : Int))) + (2 : Int)))
    · rw [if_pos hy2_1] at h
      by_cases hy2_2 : x2_5 < ((x2_1 : Nat) : Int)
      · rw [if_pos hy2_2] at h
        obtain ⟨y2_3_, hy2_3, h⟩ := Option.bind_eq_some_iff.1 h
        by_cases hy2_4 : y2_3_ = true
        · rw [if_pos hy2_4] at h
          obtain rfl := Sum.inl.inj (Option.some.inj h); exact q_heapHeapviewportlaw23itemdownq1_2_0 n x2_0 x2_1 x2_2 x2_3 x2_4 x2_5 hy2_1 hy2_2 y2_3_ hy2_3 hy2_4
        · rw [if_neg hy2_4] at h
          obtain rfl := Sum.inl.inj (Option.some.inj h); exact q_heapHeapviewportlaw23itemdownq1_2_1 n x2_0 x2_1 x2_2 x2_3 x2_4 x2_5 hy2_1 hy2_2 y2_3_ hy2_3 hy2_4
      · rw [if_neg hy2_2] at h
        cases h
    · rw [if_neg hy2_1] at h
      cases h)
    (fun s r h => by
    obtain ⟨x2_4, x2_5⟩ := s
    unfold B_heapHeapviewportlaw23itemdownq1_2 at h
    dsimp only at h
    by_cases hy2_1 : x2_5 ≤ (w64 ((w64 (x2_3 * (2 : Int))) + (2 : Int)))
    · rw [if_pos hy2_1] at h
      by_cases hy2_2 : x2_5 < ((x2_1 : Nat) : Int)
      · rw [if_pos hy2_2] at h
        obtain ⟨y2_3_, hy2_3, h⟩ := Option.bind_eq_some_iff.1 h
        by_cases hy2_4 : y2_3_ = true
        · rw [if_pos hy2_4] at h
          cases h
        · rw [if_neg hy2_4] at h
          cases h
      · rw [if_neg hy2_2] at h
        obtain rfl := Sum.inr.inj (Option.some.inj h); exact q_heapHeapviewportlaw23itemdownq1_2_2 n x2_0 x2_1 x2_2 x2_3 x2_4 x2_5 hy2_1 hy2_2
    · rw [if_neg hy2_1] at h
      obtain rfl := Sum.inr.inj (Option.some.inj h); exact q_heapHeapviewportlaw23itemdownq1_2_3 n x2_0 x2_1 x2_2 x2_3 x2_4 x2_5 hy2_1)
    (fun r => by intro hx; cases hx) h
noncomputable def S_heapHeapviewportlaw23itemdownq1_1 (x1_1 : Nat) (x1_2 : Int) (st : List (Int × Int × Int) × Int) : XSt := match st with
  | (x1_0, x1_3) => (sT 61 [(0, (Value.pointer (some ⟨0, 0, none⟩))), (1, (Value.int .i64 x1_3))], [], ⟨sB [(0, (some (.cells (layT [(Value.pointer (some ⟨0, 0, none⟩)), (Value.func (.func 8) #[] #[]), (Value.slice (some ⟨1, 0, none⟩) x1_1 (Nat.add big 3)), (Value.int .i64 x1_2)]) 51))), (1, (some (.cells (layT (rows rw_iii x1_0)) 55)))], 2, 1⟩)
noncomputable def X_heapHeapviewportlaw23itemdownq1_1 (x1_1 : Nat) (x1_2 : Int) (r : List (Int × Int × Int)) : Ex × XSt := match r with
  | z1_0 => (.ret, (sT 61 [], [], ⟨sB [(0, (some (.cells (layT [(Value.pointer (some ⟨0, 0, none⟩)), (Value.func (.func 8) #[] #[]), (Value.slice (some ⟨1, 0, none⟩) x1_1 (Nat.add big 3)), (Value.int .i64 x1_2)]) 51))), (1, (some (.cells (layT (rows rw_iii z1_0)) 55)))], 2, 1⟩))
def B_heapHeapviewportlaw23itemdownq1_1 (n : Nat) (x1_1 : Nat) (x1_2 : Int) (st : List (Int × Int × Int) × Int) : Option ((List (Int × Int × Int) × Int) ⊕ (List (Int × Int × Int))) := match st with
  | (x1_0, x1_3) =>
    (m_heapHeapviewportlaw23itemdownq1_2 n x1_0 x1_1 x1_2 x1_3 (x1_3, (w64 ((w64 (x1_3 * (2 : Int))) + (1 : Int))))).bind fun y1_1_ =>
    if y1_1_ = x1_3 then
      some (.inr x1_0)
    else
      if 0 ≤ y1_1_ ∧ y1_1_ < ((x1_1 : Nat) : Int) then
        if (y1_1_).toNat < (x1_0).length then
          if 0 ≤ x1_3 ∧ x1_3 < ((x1_1 : Nat) : Int) then
            if (x1_3).toNat < (x1_0).length then
              if (y1_1_).toNat < (((x1_0).set (x1_3).toNat ((((x1_0).getD (y1_1_).toNat (0, 0, 0)).1), (((x1_0).getD (y1_1_).toNat (0, 0, 0)).2.1), (((x1_0).getD (y1_1_).toNat (0, 0, 0)).2.2)))).length then
                some (.inl (((((x1_0).set (x1_3).toNat ((((x1_0).getD (y1_1_).toNat (0, 0, 0)).1), (((x1_0).getD (y1_1_).toNat (0, 0, 0)).2.1), (((x1_0).getD (y1_1_).toNat (0, 0, 0)).2.2)))).set (y1_1_).toNat ((((x1_0).getD (x1_3).toNat (0, 0, 0)).1), (((x1_0).getD (x1_3).toNat (0, 0, 0)).2.1), (((x1_0).getD (x1_3).toNat (0, 0, 0)).2.2))), y1_1_))
              else none
            else none
          else none
        else none
      else none
def m_heapHeapviewportlaw23itemdownq1_1 (n : Nat) (x1_1 : Nat) (x1_2 : Int) (st : List (Int × Int × Int) × Int) : Option (List (Int × Int × Int)) := iterM (B_heapHeapviewportlaw23itemdownq1_1 n x1_1 x1_2) n st
set_option maxRecDepth 100000 in
theorem q_heapHeapviewportlaw23itemdownq1_1_0 (n : Nat) {rnd : Option Nat} (x1_0 : List (Int × Int × Int)) (x1_1 : Nat) (x1_2 : Int) (x1_3 : Int) (y1_1_ : Int) (hy1_1 : m_heapHeapviewportlaw23itemdownq1_2 n x1_0 x1_1 x1_2 x1_3 (x1_3, (w64 ((w64 (x1_3 * (2 : Int))) + (1 : Int)))) = some y1_1_) (hy1_2 : y1_1_ = x1_3) : CG P rnd (fnN P 22) 2 (codeOf P 22 [false, false]) (S_heapHeapviewportlaw23itemdownq1_1 x1_1 x1_2 (x1_0, x1_3)) (X_heapHeapviewportlaw23itemdownq1_1 x1_1 x1_2 x1_0) :=
  runC_ok hm (A := aT [(16, .val (.bool true))]) (L := lT [(11, ⟨⟨[0, 1, 4, 5], [(0, 0, false), (1, 1, true)], 2, 1⟩, (X_heapHeapviewportlaw23itemdownq1_2 x1_0 x1_1 x1_2 x1_3 y1_1_).1, (X_heapHeapviewportlaw23itemdownq1_2 x1_0 x1_1 x1_2 x1_3 y1_1_).2⟩)]) (wk := ⟨[], [(0, 0, false), (1, 1, true)], 2, 1⟩)
    (ps := [CG P rnd (fnN P 22) 2 (codeOf P 22 [false, true, false, true, false, false, false]) (S_heapHeapviewportlaw23itemdownq1_2 x1_0 x1_1 x1_2 x1_3 (x1_3, (w64 ((w64 (x1_3 * (2 : Int))) + (1 : Int))))) (X_heapHeapviewportlaw23itemdownq1_2 x1_0 x1_1 x1_2 x1_3 y1_1_),
    FlatB (.cells (layT (rows rw_iii x1_0)) 55),
    (Value.bool (y1_1_ == x1_3)) = (Value.bool true),
    FlatB (.cells (layT (rows rw_iii x1_0)) 55)]) (by kernel_rfl) ⟨(m_heapHeapviewportlaw23itemdownq1_2_ok n x1_0 x1_1 x1_2 x1_3 (x1_3, (w64 ((w64 (x1_3 * (2 : Int))) + (1 : Int)))) y1_1_ hy1_1), (rows_flat rwf_iii _ _), (veT hy1_2), (rows_flat rwf_iii _ _), trivial⟩
set_option maxRecDepth 100000 in
theorem q_heapHeapviewportlaw23itemdownq1_1_1 (n : Nat) {rnd : Option Nat} (x1_0 : List (Int × Int × Int)) (x1_1 : Nat) (x1_2 : Int) (x1_3 : Int) (y1_1_ : Int) (hy1_1 : m_heapHeapviewportlaw23itemdownq1_2 n x1_0 x1_1 x1_2 x1_3 (x1_3, (w64 ((w64 (x1_3 * (2 : Int))) + (1 : Int)))) = some y1_1_) (hy1_2 : ¬ (y1_1_ = x1_3)) (hy1_3 : 0 ≤ y1_1_ ∧ y1_1_ < ((x1_1 : Nat) : Int)) (hy1_4 : (y1_1_).toNat < (x1_0).length) (hy1_5 : 0 ≤ x1_3 ∧ x1_3 < ((x1_1 : Nat) : Int)) (hy1_6 : (x1_3).toNat < (x1_0).length) (hy1_7 : (y1_1_).toNat < (((x1_0).set (x1_3).toNat ((((x1_0).getD (y1_1_).toNat (0, 0, 0)).1), (((x1_0).getD (y1_1_).toNat (0, 0, 0)).2.1), (((x1_0).getD (y1_1_).toNat (0, 0, 0)).2.2)))).length) : CG P rnd (fnN P 22) 2 (codeOf P 22 [false, false]) (S_heapHeapviewportlaw23itemdownq1_1 x1_1 x1_2 (x1_0, x1_3)) (.normal, S_heapHeapviewportlaw23itemdownq1_1 x1_1 x1_2 (((((x1_0).set (x1_3).toNat ((((x1_0).getD (y1_1_).toNat (0, 0, 0)).1), (((x1_0).getD (y1_1_).toNat (0, 0, 0)).2.1), (((x1_0).getD (y1_1_).toNat (0, 0, 0)).2.2)))).set (y1_1_).toNat ((((x1_0).getD (x1_3).toNat (0, 0, 0)).1), (((x1_0).getD (x1_3).toNat (0, 0, 0)).2.1), (((x1_0).getD (x1_3).toNat (0, 0, 0)).2.2))), y1_1_)) :=
  runC_ok hm (A := aT [(16, .val (.bool false)), (34, .pur (Value.pointer (some ⟨1, ((y1_1_).toNat * 3), none⟩))), (35, .ld (Value.agg #[(Value.int .i64 (((x1_0).getD (y1_1_).toNat (0, 0, 0)).1)), (Value.int .i64 (((x1_0).getD (y1_1_).toNat (0, 0, 0)).2.1)), (Value.int .i64 (((x1_0).getD (y1_1_).toNat (0, 0, 0)).2.2))])), (41, .pur (Value.pointer (some ⟨1, ((x1_3).toNat * 3), none⟩))), (42, .ld (Value.agg #[(Value.int .i64 (((x1_0).getD (x1_3).toNat (0, 0, 0)).1)), (Value.int .i64 (((x1_0).getD (x1_3).toNat (0, 0, 0)).2.1)), (Value.int .i64 (((x1_0).getD (x1_3).toNat (0, 0, 0)).2.2))])), (43, .pur (Value.pointer (some ⟨1, ((x1_3).toNat * 3), none⟩))), (44, .sto (layT (rows rw_iii ((x1_0).set (x1_3).toNat ((((x1_0).getD (y1_1_).toNat (0, 0, 0)).1), (((x1_0).getD (y1_1_).toNat (0, 0, 0)).2.1), (((x1_0).getD (y1_1_).toNat (0, 0, 0)).2.2)))))), (45, .pur (Value.pointer (some ⟨1, ((y1_1_).toNat * 3), none⟩))), (46, .sto (layT (rows rw_iii ((((x1_0).set (x1_3).toNat ((((x1_0).getD (y1_1_).toNat (0, 0, 0)).1), (((x1_0).getD (y1_1_).toNat (0, 0, 0)).2.1), (((x1_0).getD (y1_1_).toNat (0, 0, 0)).2.2)))).set (y1_1_).toNat ((((x1_0).getD (x1_3).toNat (0, 0, 0)).1), (((x1_0).getD (x1_3).toNat (0, 0, 0)).2.1), (((x1_0).getD (x1_3).toNat (0, 0, 0)).2.2))))))]) (L := lT [(11, ⟨⟨[0, 1, 4, 5], [(0, 0, false), (1, 1, true)], 2, 1⟩, (X_heapHeapviewportlaw23itemdownq1_2 x1_0 x1_1 x1_2 x1_3 y1_1_).1, (X_heapHeapviewportlaw23itemdownq1_2 x1_0 x1_1 x1_2 x1_3 y1_1_).2⟩)]) (wk := ⟨[0, 1], [(0, 0, false), (1, 1, true)], 2, 1⟩)
    (ps := [CG P rnd (fnN P 22) 2 (codeOf P 22 [false, true, false, true, false, false, false]) (S_heapHeapviewportlaw23itemdownq1_2 x1_0 x1_1 x1_2 x1_3 (x1_3, (w64 ((w64 (x1_3 * (2 : Int))) + (1 : Int))))) (X_heapHeapviewportlaw23itemdownq1_2 x1_0 x1_1 x1_2 x1_3 y1_1_),
    FlatB (.cells (layT (rows rw_iii x1_0)) 55),
    (Value.bool (y1_1_ == x1_3)) = (Value.bool false),
    opIndexAddr P 49 (Value.slice (some ⟨1, 0, none⟩) x1_1 (Nat.add big 3)) (Value.int .i64 y1_1_) Ax.h0 = some ((Value.pointer (some ⟨1, ((y1_1_).toNat * 3), none⟩)), Ax.h0),
    rdT (layT (rows rw_iii x1_0)) 3 ((y1_1_).toNat * 3) = some [(Value.int .i64 (((x1_0).getD (y1_1_).toNat (0, 0, 0)).1)), (Value.int .i64 (((x1_0).getD (y1_1_).toNat (0, 0, 0)).2.1)), (Value.int .i64 (((x1_0).getD (y1_1_).toNat (0, 0, 0)).2.2))],
    opIndexAddr P 49 (Value.slice (some ⟨1, 0, none⟩) x1_1 (Nat.add big 3)) (Value.int .i64 x1_3) Ax.h0 = some ((Value.pointer (some ⟨1, ((x1_3).toNat * 3), none⟩)), Ax.h0),
    rdT (layT (rows rw_iii x1_0)) 3 ((x1_3).toNat * 3) = some [(Value.int .i64 (((x1_0).getD (x1_3).toNat (0, 0, 0)).1)), (Value.int .i64 (((x1_0).getD (x1_3).toNat (0, 0, 0)).2.1)), (Value.int .i64 (((x1_0).getD (x1_3).toNat (0, 0, 0)).2.2))],
    opIndexAddr P 49 (Value.slice (some ⟨1, 0, none⟩) x1_1 (Nat.add big 3)) (Value.int .i64 x1_3) Ax.h0 = some ((Value.pointer (some ⟨1, ((x1_3).toNat * 3), none⟩)), Ax.h0),
    ∃ old, rdT (layT (rows rw_iii x1_0)) 3 ((x1_3).toNat * 3) = some old,
    layL [(Value.int .i64 (((x1_0).getD (y1_1_).toNat (0, 0, 0)).1)), (Value.int .i64 (((x1_0).getD (y1_1_).toNat (0, 0, 0)).2.1)), (Value.int .i64 (((x1_0).getD (y1_1_).toNat (0, 0, 0)).2.2))] ((x1_3).toNat * 3) (layT (rows rw_iii x1_0)) = layT (rows rw_iii ((x1_0).set (x1_3).toNat ((((x1_0).getD (y1_1_).toNat (0, 0, 0)).1), (((x1_0).getD (y1_1_).toNat (0, 0, 0)).2.1), (((x1_0).getD (y1_1_).toNat (0, 0, 0)).2.2)))),
    opIndexAddr P 49 (Value.slice (some ⟨1, 0, none⟩) x1_1 (Nat.add big 3)) (Value.int .i64 y1_1_) Ax.h0 = some ((Value.pointer (some ⟨1, ((y1_1_).toNat * 3), none⟩)), Ax.h0),
    ∃ old, rdT (layT (rows rw_iii ((x1_0).set (x1_3).toNat ((((x1_0).getD (y1_1_).toNat (0, 0, 0)).1), (((x1_0).getD (y1_1_).toNat (0, 0, 0)).2.1), (((x1_0).getD (y1_1_).toNat (0, 0, 0)).2.2))))) 3 ((y1_1_).toNat * 3) = some old,
    layL [(Value.int .i64 (((x1_0).getD (x1_3).toNat (0, 0, 0)).1)), (Value.int .i64 (((x1_0).getD (x1_3).toNat (0, 0, 0)).2.1)), (Value.int .i64 (((x1_0).getD (x1_3).toNat (0, 0, 0)).2.2))] ((y1_1_).toNat * 3) (layT (rows rw_iii ((x1_0).set (x1_3).toNat ((((x1_0).getD (y1_1_).toNat (0, 0, 0)).1), (((x1_0).getD (y1_1_).toNat (0, 0, 0)).2.1), (((x1_0).getD (y1_1_).toNat (0, 0, 0)).2.2))))) = layT (rows rw_iii ((((x1_0).set (x1_3).toNat ((((x1_0).getD (y1_1_).toNat (0, 0, 0)).1), (((x1_0).getD (y1_1_).toNat (0, 0, 0)).2.1), (((x1_0).getD (y1_1_).toNat (0, 0, 0)).2.2)))).set (y1_1_).toNat ((((x1_0).getD (x1_3).toNat (0, 0, 0)).1), (((x1_0).getD (x1_3).toNat (0, 0, 0)).2.1), (((x1_0).getD (x1_3).toNat (0, 0, 0)).2.2)))),
    FlatB (.cells (layT (rows rw_iii ((((x1_0).set (x1_3).toNat ((((x1_0).getD (y1_1_).toNat (0, 0, 0)).1), (((x1_0).getD (y1_1_).toNat (0, 0, 0)).2.1), (((x1_0).getD (y1_1_).toNat (0, 0, 0)).2.2)))).set (y1_1_).toNat ((((x1_0).getD (x1_3).toNat (0, 0, 0)).1), (((x1_0).getD (x1_3).toNat (0, 0, 0)).2.1), (((x1_0).getD (x1_3).toNat (0, 0, 0)).2.2))))) 55)]) (by kernel_rfl) ⟨(m_heapHeapviewportlaw23itemdownq1_2_ok n x1_0 x1_1 x1_2 x1_3 (x1_3, (w64 ((w64 (x1_3 * (2 : Int))) + (1 : Int)))) y1_1_ hy1_1), (rows_flat rwf_iii _ _), (veF hy1_2), (ixS (e := 55) (by kernel_rfl) (by kernel_rfl) (hy1_3).1 (hy1_3).2), (rows_rdp rwf_iii (0, 0, 0) (i := (y1_1_).toNat) (j := 0) ((y1_1_).toNat * 3) rfl (hy1_4) (by decide) rfl), (ixS (e := 55) (by kernel_rfl) (by kernel_rfl) (hy1_5).1 (hy1_5).2), (rows_rdp rwf_iii (0, 0, 0) (i := (x1_3).toNat) (j := 0) ((x1_3).toNat * 3) rfl (hy1_6) (by decide) rfl), (ixS (e := 55) (by kernel_rfl) (by kernel_rfl) (hy1_5).1 (hy1_5).2), (Exists.elim (rows_st rwf_iii (0, 0, 0) (i := (x1_3).toNat) (j := 0) (l := [(Value.int .i64 (((x1_0).getD (y1_1_).toNat (0, 0, 0)).1)), (Value.int .i64 (((x1_0).getD (y1_1_).toNat (0, 0, 0)).2.1)), (Value.int .i64 (((x1_0).getD (y1_1_).toNat (0, 0, 0)).2.2))]) ((((x1_0).getD (y1_1_).toNat (0, 0, 0)).1), (((x1_0).getD (y1_1_).toNat (0, 0, 0)).2.1), (((x1_0).getD (y1_1_).toNat (0, 0, 0)).2.2)) ((x1_3).toNat * 3) rfl (hy1_6) (Nat.le_of_ble_eq_true rfl) rfl) fun o h => ⟨o, h.1⟩), (Exists.elim (rows_st rwf_iii (0, 0, 0) (i := (x1_3).toNat) (j := 0) (l := [(Value.int .i64 (((x1_0).getD (y1_1_).toNat (0, 0, 0)).1)), (Value.int .i64 (((x1_0).getD (y1_1_).toNat (0, 0, 0)).2.1)), (Value.int .i64 (((x1_0).getD (y1_1_).toNat (0, 0, 0)).2.2))]) ((((x1_0).getD (y1_1_).toNat (0, 0, 0)).1), (((x1_0).getD (y1_1_).toNat (0, 0, 0)).2.1), (((x1_0).getD (y1_1_).toNat (0, 0, 0)).2.2)) ((x1_3).toNat * 3) rfl (hy1_6) (Nat.le_of_ble_eq_true rfl) rfl) fun o h => h.2), (ixS (e := 55) (by kernel_rfl) (by kernel_rfl) (hy1_3).1 (hy1_3).2), (Exists.elim (rows_st rwf_iii (0, 0, 0) (i := (y1_1_).toNat) (j := 0) (l := [(Value.int .i64 (((x1_0).getD (x1_3).toNat (0, 0, 0)).1)), (Value.int .i64 (((x1_0).getD (x1_3).toNat (0, 0, 0)).2.1)), (Value.int .i64 (((x1_0).getD (x1_3).toNat (0, 0, 0)).2.2))]) ((((x1_0).getD (x1_3).toNat (0, 0, 0)).1), (((x1_0).getD (x1_3).toNat (0, 0, 0)).2.1), (((x1_0).getD (x1_3).toNat (0, 0, 0)).2.2)) ((y1_1_).toNat * 3) rfl (hy1_7) (Nat.le_of_ble_eq_true rfl) rfl) fun o h => ⟨o, h.1⟩), (Exists.elim (rows_st rwf_iii (0, 0, 0) (i := (y1_1_).toNat) (j := 0) (l := [(Value.int .i64 (((x1_0).getD (x1_3).toNat (0, 0, 0)).1)), (Value.int .i64 (((x1_0).getD (x1_3).toNat (0, 0, 0)).2.1)), (Value.int .i64 (((x1_0).getD (x1_3).toNat (0, 0, 0)).2.2))]) ((((x1_0).getD (x1_3).toNat (0, 0, 0)).1), (((x1_0).getD (x1_3).toNat (0, 0, 0)).2.1), (((x1_0).getD (x1_3).toNat (0, 0, 0)).2.2)) ((y1_1_).toNat * 3) rfl (hy1_7) (Nat.le_of_ble_eq_true rfl) rfl) fun o h => h.2), (rows_flat rwf_iii _ _), trivial⟩
theorem m_heapHeapviewportlaw23itemdownq1_1_ok (n : Nat) {rnd : Option Nat} (x1_1 : Nat) (x1_2 : Int) (st : List (Int × Int × Int) × Int) (r : List (Int × Int × Int)) (h : m_heapHeapviewportlaw23itemdownq1_1 n x1_1 x1_2 st = some r) : CG P rnd (fnN P 22) 2 (codeOf P 22 [false]) (S_heapHeapviewportlaw23itemdownq1_1 x1_1 x1_2 st) (X_heapHeapviewportlaw23itemdownq1_1 x1_1 x1_2 r) :=
  CG.iter (b := codeOf P 22 [false, false]) (by kernel_rfl) (body := B_heapHeapviewportlaw23itemdownq1_1 n x1_1 x1_2) (S := S_heapHeapviewportlaw23itemdownq1_1 x1_1 x1_2) (X := X_heapHeapviewportlaw23itemdownq1_1 x1_1 x1_2)
    (fun s s' h => by
    obtain ⟨x1_0, x1_3⟩ := s
    unfold B_heapHeapviewportlaw23itemdownq1_1 at h
    dsimp only at h
    obtain ⟨y1_1_, hy1_1, h⟩ := Option.bind_eq_some_iff.1 h
    by_cases hy1_2 : y1_1_ = x1_3
    · rw [if_pos hy1_2] at h
      cases h
    · rw [if_neg hy1_2] at h
      by_cases hy1_3 : 0 ≤ y1_1_ ∧ y1_1_ < ((x1_1 : Nat) : Int)
      · rw [if_pos hy1_3] at h
        by_cases hy1_4 : (y1_1_).toNat < (x1_0).length
        · rw [if_pos hy1_4] at h
          by_cases hy1_5 : 0 ≤ x1_3 ∧ x1_3 < ((x1_1 : Nat) : Int)
          · rw [if_pos hy1_5] at h
            by_cases hy1_6 : (x1_3).toNat < (x1_0).length
            · rw [if_pos hy1_6] at h
              by_cases hy1_7 : (y1_1_).toNat < (((x1_0).set (x1_3).toNat ((((x1_0).getD (y1_1_).toNat (0, 0, 0)).1), (((x1_0).getD (y1_1_).toNat (0, 0, 0)).2.1), (((x1_0).getD (y1_1_).toNat (0, 0, 0)).2.2)))).length
              · rw [if_pos hy1_7] at h
                obtain rfl := Sum.inl.inj (Option.some.inj h); exact q_heapHeapviewportlaw23itemdownq1_1_1 n x1_0 x1_1 x1_2 x1_3 y1_1_ hy1_1 hy1_2 hy1_3 hy1_4 hy1_5 hy1_6 hy1_7
              · rw [if_neg hy1_7] at h; cases h
            · rw [if_neg hy1_6] at h; cases h
          · rw [if_neg hy1_5] at h; cases h
        · rw [if_neg hy1_4] at h; cases h
      · rw [if_neg hy1_3] at h; cases h)
    (fun s r h => by
    obtain ⟨x1_0, x1_3⟩ := s
    unfold B_heapHeapviewportlaw23itemdownq1_1 at h
    dsimp only at h
    obtain ⟨y1_1_, hy1_1, h⟩ := Option.bind_eq_some_iff.1 h
    by_cases hy1_2 : y1_1_ = x1_3
    · rw [if_pos hy1_2] at h
      obtain rfl := Sum.inr.inj (Option.some.inj h); exact q_heapHeapviewportlaw23itemdownq1_1_0 n x1_0 x1_1 x1_2 x1_3 y1_1_ hy1_1 hy1_2
    · rw [if_neg hy1_2] at h
      by_cases hy1_3 : 0 ≤ y1_1_ ∧ y1_1_ < ((x1_1 : Nat) : Int)
      · rw [if_pos hy1_3] at h
        by_cases hy1_4 : (y1_1_).toNat < (x1_0).length
        · rw [if_pos hy1_4] at h
          by_cases hy1_5 : 0 ≤ x1_3 ∧ x1_3 < ((x1_1 : Nat) : Int)
          · rw [if_pos hy1_5] at h
            by_cases hy1_6 : (x1_3).toNat < (x1_0).length
            · rw [if_pos hy1_6] at h
              by_cases hy1_7 : (y1_1_).toNat < (((x1_0).set (x1_3).toNat ((((x1_0).getD (y1_1_).toNat (0, 0, 0)).1), (((x1_0).getD (y1_1_).toNat (0, 0, 0)).2.1), (((x1_0).getD (y1_1_).toNat (0, 0, 0)).2.2)))).length
              · rw [if_pos hy1_7] at h
                cases h
              · rw [if_neg hy1_7] at h; cases h
            · rw [if_neg hy1_6] at h; cases h
          · rw [if_neg hy1_5] at h; cases h
        · rw [if_neg hy1_4] at h; cases h
      · rw [if_neg hy1_3] at h; cases h)
    (fun r => by intro hx; cases hx) h
noncomputable def A_heapHeapviewportlaw23itemdownq1 (a0 : List (Int × Int × Int)) (a1 : Nat) (a2 : Int) (a3 : Int) : List Value := [(Value.pointer (some ⟨0, 0, none⟩)), (Value.int .i64 a3)]
noncomputable def H_heapHeapviewportlaw23itemdownq1 (a0 : List (Int × Int × Int)) (a1 : Nat) (a2 : Int) (a3 : Int) : AH := ⟨sB [(0, (some (.cells (layT [(Value.pointer (some ⟨0, 0, none⟩)), (Value.func (.func 8) #[] #[]), (Value.slice (some ⟨1, 0, none⟩) a1 (Nat.add big 3)), (Value.int .i64 a2)]) 51))), (1, (some (.cells (layT (rows rw_iii a0)) 55)))], 2, 2⟩
noncomputable def V_heapHeapviewportlaw23itemdownq1 (a0 : List (Int × Int × Int)) (a1 : Nat) (a2 : Int) (a3 : Int) (r : List (Int × Int × Int)) : Value := match r with
  | o0 => (Value.tuple #[])
noncomputable def R_heapHeapviewportlaw23itemdownq1 (a0 : List (Int × Int × Int)) (a1 : Nat) (a2 : Int) (a3 : Int) (r : List (Int × Int × Int)) : AH := match r with
  | o0 => ⟨sB [(1, (some (.cells (layT (rows rw_iii o0)) 55)))], 2, 1⟩
noncomputable abbrev G_heapHeapviewportlaw23itemdownq1 (a0 : List (Int × Int × Int)) (a1 : Nat) (a2 : Int) (a3 : Int) (r : List (Int × Int × Int)) : Prop := Gv P (.func 22) (A_heapHeapviewportlaw23itemdownq1 a0 a1 a2 a3) (H_heapHeapviewportlaw23itemdownq1 a0 a1 a2 a3) (V_heapHeapviewportlaw23itemdownq1 a0 a1 a2 a3 r) (R_heapHeapviewportlaw23itemdownq1 a0 a1 a2 a3 r)
def m_heapHeapviewportlaw23itemdownq1 (n : Nat) (a0 : List (Int × Int × Int)) (a1 : Nat) (a2 : Int) (a3 : Int) : Option (List (Int × Int × Int)) :=
  (m_heapHeapviewportlaw23itemdownq1_1 n a1 a2 (a0, a3)).bind fun c1_ =>
  some c1_
set_option maxRecDepth 100000 in
theorem p_heapHeapviewportlaw23itemdownq1_0 (n : Nat) (a0 : List (Int × Int × Int)) (a1 : Nat) (a2 : Int) (a3 : Int) (c1_ : List (Int × Int × Int)) (hc1 : m_heapHeapviewportlaw23itemdownq1_1 n a1 a2 (a0, a3) = some c1_) : G_heapHeapviewportlaw23itemdownq1 a0 a1 a2 a3 c1_ :=
  runF_ok hm (A := aT []) (L := lT [(1, ⟨⟨[0, 1], [(0, 0, false), (1, 1, true)], 2, 1⟩, (X_heapHeapviewportlaw23itemdownq1_1 a1 a2 c1_).1, (X_heapHeapviewportlaw23itemdownq1_1 a1 a2 c1_).2⟩)]) (wk := ⟨[], [(1, 1, true)], 2, 1⟩)
    (ps := [CG P none (fnN P 22) 2 (codeOf P 22 [false]) (S_heapHeapviewportlaw23itemdownq1_1 a1 a2 (a0, a3)) (X_heapHeapviewportlaw23itemdownq1_1 a1 a2 c1_),
    FlatB (.cells (layT (rows rw_iii a0)) 55),
    FlatB (.cells (layT (rows rw_iii c1_)) 55)]) (by kernel_rfl) ⟨(m_heapHeapviewportlaw23itemdownq1_1_ok n a1 a2 (a0, a3) c1_ hc1), (rows_flat rwf_iii _ _), (rows_flat rwf_iii _ _), trivial⟩
theorem m_heapHeapviewportlaw23itemdownq1_ok (n : Nat) (a0 : List (Int × Int × Int)) (a1 : Nat) (a2 : Int) (a3 : Int) (r : List (Int × Int × Int)) (h : m_heapHeapviewportlaw23itemdownq1 n a0 a1 a2 a3 = some r) : G_heapHeapviewportlaw23itemdownq1 a0 a1 a2 a3 r := by
  unfold m_heapHeapviewportlaw23itemdownq1 at h
  obtain ⟨c1_, hc1, h⟩ := Option.bind_eq_some_iff.1 h
  obtain rfl := Option.some.inj h; exact p_heapHeapviewportlaw23itemdownq1_0 n a0 a1 a2 a3 c1_ hc1

noncomputable def A_heapHeapviewportlaw23itemTakeq2 (a0 : List (Int × Int × Int)) (a1 : Int) : List Value := [(Value.pointer (some ⟨0, 0, none⟩))]
noncomputable def H_heapHeapviewportlaw23itemTakeq2 (a0 : List (Int × Int × Int)) (a1 : Int) : AH := ⟨sB [(0, (some (.cells (layT [(Value.pointer (some ⟨0, 0, none⟩)), (Value.func (.func 8) #[] #[]), (Value.slice (some ⟨1, 0, none⟩) (a0).length (Nat.add big 3)), (Value.int .i64 a1)]) 51))), (1, (some (.cells (layT (rows rw_iii a0)) 55)))], 2, 2⟩
noncomputable def V_heapHeapviewportlaw23itemTakeq2 (a0 : List (Int × Int × Int)) (a1 : Int) (r : List (Int × Int × Int) × Nat × Int × Int × Bool) : Value := match r with
  | (o0, o1, o2, o3, o4) => (Value.tuple #[(Value.agg #[(Value.int .i64 o2), (Value.int .i64 o3)]), (Value.bool o4)])
noncomputable def R_heapHeapviewportlaw23itemTakeq2 (a0 : List (Int × Int × Int)) (a1 : Int) (r : List (Int × Int × Int) × Nat × Int × Int × Bool) : AH := match r with
  | (o0, o1, o2, o3, o4) => ⟨sB [(0, (some (.cells (layT [(Value.pointer (some ⟨0, 0, none⟩)), (Value.func (.func 8) #[] #[]), (Value.slice (some ⟨1, 0, none⟩) o1 (Nat.add big 3)), (Value.int .i64 a1)]) 51))), (1, (some (.cells (layT (rows rw_iii o0)) 55))), (2, (some (.cells (layT [(Value.int .i64 o2), (Value.int .i64 o3)]) 27)))], 3, 0⟩
noncomputable abbrev G_heapHeapviewportlaw23itemTakeq2 (a0 : List (Int × Int × Int)) (a1 : Int) (r : List (Int × Int × Int) × Nat × Int × Int × Bool) : Prop := Gv P (.func 13) (A_heapHeapviewportlaw23itemTakeq2 a0 a1) (H_heapHeapviewportlaw23itemTakeq2 a0 a1) (V_heapHeapviewportlaw23itemTakeq2 a0 a1 r) (R_heapHeapviewportlaw23itemTakeq2 a0 a1 r)
def m_heapHeapviewportlaw23itemTakeq2 (n : Nat) (a0 : List (Int × Int × Int)) (a1 : Int) : Option (List (Int × Int × Int) × Nat × Int × Int × Bool) :=
  (m_heapHeapviewportlaw23itemLeastq2 n a0 a1).bind fun t => match t with
  | (c1_0, c1_1, c1_2) =>
    if c1_2 = true then
      if 0 ≤ (w64 ((((a0).length : Nat) : Int) - (1 : Int))) ∧ (w64 ((((a0).length : Nat) : Int) - (1 : Int))) < (((a0).length : Nat) : Int) then
        if 0 ≤ (0 : Int) ∧ (0 : Int) < (((a0).length : Nat) : Int) then
          if ((w64 ((((a0).length : Nat) : Int) - (1 : Int)))).toNat < (((a0).set ((0 : Int)).toNat ((((a0).getD ((w64 ((((a0).length : Nat) : Int) - (1 : Int)))).toNat (0, 0, 0)).1), (((a0).getD ((w64 ((((a0).length : Nat) : Int) - (1 : Int)))).toNat (0, 0, 0)).2.1), (((a0).getD ((w64 ((((a0).length : Nat) : Int) - (1 : Int)))).toNat (0, 0, 0)).2.2)))).length then
            if 0 ≤ (w64 ((((a0).length : Nat) : Int) - (1 : Int))) ∧ (w64 ((((a0).length : Nat) : Int) - (1 : Int))) ≤ (((a0).length : Nat) : Int) then
              (m_heapHeapviewportlaw23itemdownq1 n ((((a0).set ((0 : Int)).toNat ((((a0).getD ((w64 ((((a0).length : Nat) : Int) - (1 : Int)))).toNat (0, 0, 0)).1), (((a0).getD ((w64 ((((a0).length : Nat) : Int) - (1 : Int)))).toNat (0, 0, 0)).2.1), (((a0).getD ((w64 ((((a0).length : Nat) : Int) - (1 : Int)))).toNat (0, 0, 0)).2.2)))).set ((w64 ((((a0).length : Nat) : Int) - (1 : Int)))).toNat ((0 : Int), (0 : Int), (0 : Int))) (((w64 ((((a0).length : Nat) : Int) - (1 : Int)))).toNat) a1 0).bind fun c7_ =>
              some (c7_, (((w64 ((((a0).length : Nat) : Int) - (1 : Int)))).toNat), c1_0, c1_1, true)
            else none
          else none
        else none
      else none
    else
      some (a0, ((a0).length), c1_0, c1_1, false)
set_option maxRecDepth 100000 in
theorem p_heapHeapviewportlaw23itemTakeq2_0 (n : Nat) (a0 : List (Int × Int × Int)) (a1 : Int) (c1_0 : Int) (c1_1 : Int) (c1_2 : Bool) (hc1 : m_heapHeapviewportlaw23itemLeastq2 n a0 a1 = some (c1_0, c1_1, c1_2)) (hc2 : c1_2 = true) (hc3 : 0 ≤ (w64 ((((a0).length : Nat) : Int) - (1 : Int))) ∧ (w64 ((((a0).length : Nat) : Int) - (1 : Int))) < (((a0).length : Nat) : Int)) (hc4 : 0 ≤ (0 : Int) ∧ (0 : Int) < (((a0).length : Nat) : Int)) (hc5 : ((w64 ((((a0).length : Nat) : Int) - (1 : Int)))).toNat < (((a0).set ((0 : Int)).toNat ((((a0).getD ((w64 ((((a0).length : Nat) : Int) - (1 : Int)))).toNat (0, 0, 0)).1), (((a0).getD ((w64 ((((a0).length : Nat) : Int) - (1 : Int)))).toNat (0, 0, 0)).2.1), (((a0).getD ((w64 ((((a0).length : Nat) : Int) - (1 : Int)))).toNat (0, 0, 0)).2.2)))).length) (hc6 : 0 ≤ (w64 ((((a0).length : Nat) : Int) - (1 : Int))) ∧ (w64 ((((a0).length : Nat) : Int) - (1 : Int))) ≤ (((a0).length : Nat) : Int)) (c7_ : List (Int × Int × Int)) (hc7 : m_heapHeapviewportlaw23itemdownq1 n ((((a0).set ((0 : Int)).toNat ((((a0).getD ((w64 ((((a0).length : Nat) : Int) - (1 : Int)))).toNat (0, 0, 0)).1), (((a0).getD ((w64 ((((a0).length : Nat) : Int) - (1 : Int)))).toNat (0, 0, 0)).2.1), (((a0).getD ((w64 ((((a0).length : Nat) : Int) - (1 : Int)))).toNat (0, 0, 0)).2.2)))).set ((w64 ((((a0).length : Nat) : Int) - (1 : Int)))).toNat ((0 : Int), (0 : Int), (0 : Int))) (((w64 ((((a0).length : Nat) : Int) - (1 : Int)))).toNat) a1 0 = some c7_) : G_heapHeapviewportlaw23itemTakeq2 a0 a1 (c7_, (((w64 ((((a0).length : Nat) : Int) - (1 : Int)))).toNat), c1_0, c1_1, true) :=
  runF_ok hm (A := aT [(5, .call ⟨2, [(0, 0, false), (1, 1, true)], (V_heapHeapviewportlaw23itemLeastq2 a0 a1 (c1_0, c1_1, c1_2)), (R_heapHeapviewportlaw23itemLeastq2 a0 a1 (c1_0, c1_1, c1_2)), [(3, 2, false)]⟩), (15, .val (.bool false)), (35, .pur (Value.pointer (some ⟨1, (((w64 ((((a0).length : Nat) : Int) - (1 : Int)))).toNat * 3), none⟩))), (36, .ld (Value.agg #[(Value.int .i64 (((a0).getD ((w64 ((((a0).length : Nat) : Int) - (1 : Int)))).toNat (0, 0, 0)).1)), (Value.int .i64 (((a0).getD ((w64 ((((a0).length : Nat) : Int) - (1 : Int)))).toNat (0, 0, 0)).2.1)), (Value.int .i64 (((a0).getD ((w64 ((((a0).length : Nat) : Int) - (1 : Int)))).toNat (0, 0, 0)).2.2))])), (37, .pur (Value.pointer (some ⟨1, (((0 : Int)).toNat * 3), none⟩))), (38, .sto (layT (rows rw_iii ((a0).set ((0 : Int)).toNat ((((a0).getD ((w64 ((((a0).length : Nat) : Int) - (1 : Int)))).toNat (0, 0, 0)).1), (((a0).getD ((w64 ((((a0).length : Nat) : Int) - (1 : Int)))).toNat (0, 0, 0)).2.1), (((a0).getD ((w64 ((((a0).length : Nat) : Int) - (1 : Int)))).toNat (0, 0, 0)).2.2)))))), (46, .pur (Value.pointer (some ⟨1, (((w64 ((((a0).length : Nat) : Int) - (1 : Int)))).toNat * 3), none⟩))), (47, .sto (layT (rows rw_iii ((((a0).set ((0 : Int)).toNat ((((a0).getD ((w64 ((((a0).length : Nat) : Int) - (1 : Int)))).toNat (0, 0, 0)).1), (((a0).getD ((w64 ((((a0).length : Nat) : Int) - (1 : Int)))).toNat (0, 0, 0)).2.1), (((a0).getD ((w64 ((((a0).length : Nat) : Int) - (1 : Int)))).toNat (0, 0, 0)).2.2)))).set ((w64 ((((a0).length : Nat) : Int) - (1 : Int)))).toNat ((0 : Int), (0 : Int), (0 : Int)))))), (55, .pur (Value.slice (some ⟨1, 0, none⟩) ((w64 ((((a0).length : Nat) : Int) - (1 : Int)))).toNat (Nat.add big 3))), (61, .call ⟨2, [(0, 0, false), (1, 1, true)], (V_heapHeapviewportlaw23itemdownq1 ((((a0).set ((0 : Int)).toNat ((((a0).getD ((w64 ((((a0).length : Nat) : Int) - (1 : Int)))).toNat (0, 0, 0)).1), (((a0).getD ((w64 ((((a0).length : Nat) : Int) - (1 : Int)))).toNat (0, 0, 0)).2.1), (((a0).getD ((w64 ((((a0).length : Nat) : Int) - (1 : Int)))).toNat (0, 0, 0)).2.2)))).set ((w64 ((((a0).length : Nat) : Int) - (1 : Int)))).toNat ((0 : Int), (0 : Int), (0 : Int))) (((w64 ((((a0).length : Nat) : Int) - (1 : Int)))).toNat) a1 0 c7_), (R_heapHeapviewportlaw23itemdownq1 ((((a0).set ((0 : Int)).toNat ((((a0).getD ((w64 ((((a0).length : Nat) : Int) - (1 : Int)))).toNat (0, 0, 0)).1), (((a0).getD ((w64 ((((a0).length : Nat) : Int) - (1 : Int)))).toNat (0, 0, 0)).2.1), (((a0).getD ((w64 ((((a0).length : Nat) : Int) - (1 : Int)))).toNat (0, 0, 0)).2.2)))).set ((w64 ((((a0).length : Nat) : Int) - (1 : Int)))).toNat ((0 : Int), (0 : Int), (0 : Int))) (((w64 ((((a0).length : Nat) : Int) - (1 : Int)))).toNat) a1 0 c7_), [(1, 1, true)]⟩)]) (L := lT []) (wk := ⟨[2, 3], [(0, 0, false), (1, 1, true), (2, 2, false)], 3, 0⟩)
    (ps := [G_heapHeapviewportlaw23itemLeastq2 a0 a1 (c1_0, c1_1, c1_2),
    FlatB (.cells (layT (rows rw_iii a0)) 55),
    (Value.bool (!c1_2)) = (Value.bool false),
    opIndexAddr P 49 (Value.slice (some ⟨1, 0, none⟩) (a0).length (Nat.add big 3)) (Value.int .i64 (w64 ((((a0).length : Nat) : Int) - (1 : Int)))) Ax.h0 = some ((Value.pointer (some ⟨1, (((w64 ((((a0).length : Nat) : Int) - (1 : Int)))).toNat * 3), none⟩)), Ax.h0),
    rdT (layT (rows rw_iii a0)) 3 (((w64 ((((a0).length : Nat) : Int) - (1 : Int)))).toNat * 3) = some [(Value.int .i64 (((a0).getD ((w64 ((((a0).length : Nat) : Int) - (1 : Int)))).toNat (0, 0, 0)).1)), (Value.int .i64 (((a0).getD ((w64 ((((a0).length : Nat) : Int) - (1 : Int)))).toNat (0, 0, 0)).2.1)), (Value.int .i64 (((a0).getD ((w64 ((((a0).length : Nat) : Int) - (1 : Int)))).toNat (0, 0, 0)).2.2))],
    opIndexAddr P 49 (Value.slice (some ⟨1, 0, none⟩) (a0).length (Nat.add big 3)) (Value.int .i64 (0 : Int)) Ax.h0 = some ((Value.pointer (some ⟨1, (((0 : Int)).toNat * 3), none⟩)), Ax.h0),
    ∃ old, rdT (layT (rows rw_iii a0)) 3 (((0 : Int)).toNat * 3) = some old,
    layL [(Value.int .i64 (((a0).getD ((w64 ((((a0).length : Nat) : Int) - (1 : Int)))).toNat (0, 0, 0)).1)), (Value.int .i64 (((a0).getD ((w64 ((((a0).length : Nat) : Int) - (1 : Int)))).toNat (0, 0, 0)).2.1)), (Value.int .i64 (((a0).getD ((w64 ((((a0).length : Nat) : Int) - (1 : Int)))).toNat (0, 0, 0)).2.2))] (((0 : Int)).toNat * 3) (layT (rows rw_iii a0)) = layT (rows rw_iii ((a0).set ((0 : Int)).toNat ((((a0).getD ((w64 ((((a0).length : Nat) : Int) - (1 : Int)))).toNat (0, 0, 0)).1), (((a0).getD ((w64 ((((a0).length : Nat) : Int) - (1 : Int)))).toNat (0, 0, 0)).2.1), (((a0).getD ((w64 ((((a0).length : Nat) : Int) - (1 : Int)))).toNat (0, 0, 0)).2.2)))),
    opIndexAddr P 49 (Value.slice (some ⟨1, 0, none⟩) (a0).length (Nat.add big 3)) (Value.int .i64 (w64 ((((a0).length : Nat) : Int) - (1 : Int)))) Ax.h0 = some ((Value.pointer (some ⟨1, (((w64 ((((a0).length : Nat) : Int) - (1 : Int)))).toNat * 3), none⟩)), Ax.h0),
    ∃ old, rdT (layT (rows rw_iii ((a0).set ((0 : Int)).toNat ((((a0).getD ((w64 ((((a0).length : Nat) : Int) - (1 : Int)))).toNat (0, 0, 0)).1), (((a0).getD ((w64 ((((a0).length : Nat) : Int) - (1 : Int)))).toNat (0, 0, 0)).2.1), (((a0).getD ((w64 ((((a0).length : Nat) : Int) - (1 : Int)))).toNat (0, 0, 0)).2.2))))) 3 (((w64 ((((a0).length : Nat) : Int) - (1 : Int)))).toNat * 3) = some old,
    layL [(Value.int .i64 (0 : Int)), (Value.int .i64 (0 : Int)), (Value.int .i64 (0 : Int))] (((w64 ((((a0).length : Nat) : Int) - (1 : Int)))).toNat * 3) (layT (rows rw_iii ((a0).set ((0 : Int)).toNat ((((a0).getD ((w64 ((((a0).length : Nat) : Int) - (1 : Int)))).toNat (0, 0, 0)).1), (((a0).getD ((w64 ((((a0).length : Nat) : Int) - (1 : Int)))).toNat (0, 0, 0)).2.1), (((a0).getD ((w64 ((((a0).length : Nat) : Int) - (1 : Int)))).toNat (0, 0, 0)).2.2))))) = layT (rows rw_iii ((((a0).set ((0 : Int)).toNat ((((a0).getD ((w64 ((((a0).length : Nat) : Int) - (1 : Int)))).toNat (0, 0, 0)).1), (((a0).getD ((w64 ((((a0).length : Nat) : Int) - (1 : Int)))).toNat (0, 0, 0)).2.1), (((a0).getD ((w64 ((((a0).length : Nat) : Int) - (1 : Int)))).toNat (0, 0, 0)).2.2)))).set ((w64 ((((a0).length : Nat) : Int) - (1 : Int)))).toNat ((0 : Int), (0 : Int), (0 : Int)))),
    opSlice P 49 (Value.slice (some ⟨1, 0, none⟩) (a0).length (Nat.add big 3)) none (some (Value.int .i64 (w64 ((((a0).length : Nat) : Int) - (1 : Int))))) none Ax.h0 = some ((Value.slice (some ⟨1, 0, none⟩) ((w64 ((((a0).length : Nat) : Int) - (1 : Int)))).toNat (Nat.add big 3)), Ax.h0),
    G_heapHeapviewportlaw23itemdownq1 ((((a0).set ((0 : Int)).toNat ((((a0).getD ((w64 ((((a0).length : Nat) : Int) - (1 : Int)))).toNat (0, 0, 0)).1), (((a0).getD ((w64 ((((a0).length : Nat) : Int) - (1 : Int)))).toNat (0, 0, 0)).2.1), (((a0).getD ((w64 ((((a0).length : Nat) : Int) - (1 : Int)))).toNat (0, 0, 0)).2.2)))).set ((w64 ((((a0).length : Nat) : Int) - (1 : Int)))).toNat ((0 : Int), (0 : Int), (0 : Int))) (((w64 ((((a0).length : Nat) : Int) - (1 : Int)))).toNat) a1 0 c7_,
    FlatB (.cells (layT (rows rw_iii ((((a0).set ((0 : Int)).toNat ((((a0).getD ((w64 ((((a0).length : Nat) : Int) - (1 : Int)))).toNat (0, 0, 0)).1), (((a0).getD ((w64 ((((a0).length : Nat) : Int) - (1 : Int)))).toNat (0, 0, 0)).2.1), (((a0).getD ((w64 ((((a0).length : Nat) : Int) - (1 : Int)))).toNat (0, 0, 0)).2.2)))).set ((w64 ((((a0).length : Nat) : Int) - (1 : Int)))).toNat ((0 : Int), (0 : Int), (0 : Int))))) 55),
    FlatB (.cells (layT (rows rw_iii c7_)) 55),
    FlatB (.cells (layT (rows rw_iii c7_)) 55)]) (by kernel_rfl) ⟨(m_heapHeapviewportlaw23itemLeastq2_ok n a0 a1 (c1_0, c1_1, c1_2) hc1), (rows_flat rwf_iii _ _), (vBn hc2), (ixS (e := 55) (by kernel_rfl) (by kernel_rfl) (hc3).1 (hc3).2), (rows_rdp rwf_iii (0, 0, 0) (i := ((w64 ((((a0).length : Nat) : Int) - (1 : Int)))).toNat) (j := 0) (((w64 ((((a0).length : Nat) : Int) - (1 : Int)))).toNat * 3) rfl (toNatLt hc3) (by decide) rfl), (ixS (e := 55) (by kernel_rfl) (by kernel_rfl) (hc4).1 (hc4).2), (Exists.elim (rows_st rwf_iii (0, 0, 0) (i := ((0 : Int)).toNat) (j := 0) (l := [(Value.int .i64 (((a0).getD ((w64 ((((a0).length : Nat) : Int) - (1 : Int)))).toNat (0, 0, 0)).1)), (Value.int .i64 (((a0).getD ((w64 ((((a0).length : Nat) : Int) - (1 : Int)))).toNat (0, 0, 0)).2.1)), (Value.int .i64 (((a0).getD ((w64 ((((a0).length : Nat) : Int) - (1 : Int)))).toNat (0, 0, 0)).2.2))]) ((((a0).getD ((w64 ((((a0).length : Nat) : Int) - (1 : Int)))).toNat (0, 0, 0)).1), (((a0).getD ((w64 ((((a0).length : Nat) : Int) - (1 : Int)))).toNat (0, 0, 0)).2.1), (((a0).getD ((w64 ((((a0).length : Nat) : Int) - (1 : Int)))).toNat (0, 0, 0)).2.2)) (((0 : Int)).toNat * 3) rfl (toNatLt hc4) (Nat.le_of_ble_eq_true rfl) rfl) fun o h => ⟨o, h.1⟩), (Exists.elim (rows_st rwf_iii (0, 0, 0) (i := ((0 : Int)).toNat) (j := 0) (l := [(Value.int .i64 (((a0).getD ((w64 ((((a0).length : Nat) : Int) - (1 : Int)))).toNat (0, 0, 0)).1)), (Value.int .i64 (((a0).getD ((w64 ((((a0).length : Nat) : Int) - (1 : Int)))).toNat (0, 0, 0)).2.1)), (Value.int .i64 (((a0).getD ((w64 ((((a0).length : Nat) : Int) - (1 : Int)))).toNat (0, 0, 0)).2.2))]) ((((a0).getD ((w64 ((((a0).length : Nat) : Int) - (1 : Int)))).toNat (0, 0, 0)).1), (((a0).getD ((w64 ((((a0).length : Nat) : Int) - (1 : Int)))).toNat (0, 0, 0)).2.1), (((a0).getD ((w64 ((((a0).length : Nat) : Int) - (1 : Int)))).toNat (0, 0, 0)).2.2)) (((0 : Int)).toNat * 3) rfl (toNatLt hc4) (Nat.le_of_ble_eq_true rfl) rfl) fun o h => h.2), (ixS (e := 55) (by kernel_rfl) (by kernel_rfl) (hc3).1 (hc3).2), (Exists.elim (rows_st rwf_iii (0, 0, 0) (i := ((w64 ((((a0).length : Nat) : Int) - (1 : Int)))).toNat) (j := 0) (l := [(Value.int .i64 (0 : Int)), (Value.int .i64 (0 : Int)), (Value.int .i64 (0 : Int))]) ((0 : Int), (0 : Int), (0 : Int)) (((w64 ((((a0).length : Nat) : Int) - (1 : Int)))).toNat * 3) rfl (hc5) (Nat.le_of_ble_eq_true rfl) rfl) fun o h => ⟨o, h.1⟩), (Exists.elim (rows_st rwf_iii (0, 0, 0) (i := ((w64 ((((a0).length : Nat) : Int) - (1 : Int)))).toNat) (j := 0) (l := [(Value.int .i64 (0 : Int)), (Value.int .i64 (0 : Int)), (Value.int .i64 (0 : Int))]) ((0 : Int), (0 : Int), (0 : Int)) (((w64 ((((a0).length : Nat) : Int) - (1 : Int)))).toNat * 3) rfl (hc5) (Nat.le_of_ble_eq_true rfl) rfl) fun o h => h.2), (slRowHi (e := 55) (es := 3) (by kernel_rfl) (by kernel_rfl) rfl rfl hc6), (m_heapHeapviewportlaw23itemdownq1_ok n ((((a0).set ((0 : Int)).toNat ((((a0).getD ((w64 ((((a0).length : Nat) : Int) - (1 : Int)))).toNat (0, 0, 0)).1), (((a0).getD ((w64 ((((a0).length : Nat) : Int) - (1 : Int)))).toNat (0, 0, 0)).2.1), (((a0).getD ((w64 ((((a0).length : Nat) : Int) - (1 : Int)))).toNat (0, 0, 0)).2.2)))).set ((w64 ((((a0).length : Nat) : Int) - (1 : Int)))).toNat ((0 : Int), (0 : Int), (0 : Int))) (((w64 ((((a0).length : Nat) : Int) - (1 : Int)))).toNat) a1 0 c7_ hc7), (rows_flat rwf_iii _ _), (rows_flat rwf_iii _ _), (rows_flat rwf_iii _ _), trivial⟩
set_option maxRecDepth 100000 in
theorem p_heapHeapviewportlaw23itemTakeq2_1 (n : Nat) (a0 : List (Int × Int × Int)) (a1 : Int) (c1_0 : Int) (c1_1 : Int) (c1_2 : Bool) (hc1 : m_heapHeapviewportlaw23itemLeastq2 n a0 a1 = some (c1_0, c1_1, c1_2)) (hc2 : ¬ (c1_2 = true)) : G_heapHeapviewportlaw23itemTakeq2 a0 a1 (a0, ((a0).length), c1_0, c1_1, false) :=
  runF_ok hm (A := aT [(5, .call ⟨2, [(0, 0, false), (1, 1, true)], (V_heapHeapviewportlaw23itemLeastq2 a0 a1 (c1_0, c1_1, c1_2)), (R_heapHeapviewportlaw23itemLeastq2 a0 a1 (c1_0, c1_1, c1_2)), [(3, 2, false)]⟩), (15, .val (.bool true))]) (L := lT []) (wk := ⟨[2, 3], [(0, 0, false), (1, 1, true), (2, 2, false)], 3, 0⟩)
    (ps := [G_heapHeapviewportlaw23itemLeastq2 a0 a1 (c1_0, c1_1, c1_2),
    FlatB (.cells (layT (rows rw_iii a0)) 55),
    (Value.bool (!c1_2)) = (Value.bool true),
    FlatB (.cells (layT (rows rw_iii a0)) 55)]) (by kernel_rfl) ⟨(m_heapHeapviewportlaw23itemLeastq2_ok n a0 a1 (c1_0, c1_1, c1_2) hc1), (rows_flat rwf_iii _ _), (vBn (Bool.eq_false_iff.2 hc2)), (rows_flat rwf_iii _ _), trivial⟩
theorem m_heapHeapviewportlaw23itemTakeq2_ok (n : Nat) (a0 : List (Int × Int × Int)) (a1 : Int) (r : List (Int × Int × Int) × Nat × Int × Int × Bool) (h : m_heapHeapviewportlaw23itemTakeq2 n a0 a1 = some r) : G_heapHeapviewportlaw23itemTakeq2 a0 a1 r := by
  unfold m_heapHeapviewportlaw23itemTakeq2 at h
  obtain ⟨⟨c1_0, c1_1, c1_2⟩, hc1, h⟩ := Option.bind_eq_some_iff.1 h
  dsimp only at h
  by_cases hc2 : c1_2 = true
  · rw [if_pos hc2] at h
    by_cases hc3 : 0 ≤ (w64 ((((a0).length : Nat) : Int) - (1 : Int))) ∧ (w64 ((((a0).length : Nat) : Int) - (1 : Int))) < (((a0).length : Nat) : Int)
    · rw [if_pos hc3] at h
      by_cases hc4 : 0 ≤ (0 : Int) ∧ (0 : Int) < (((a0).length : Nat) : Int)
      · rw [if_pos hc4] at h
        by_cases hc5 : ((w64 ((((a0).length : Nat) : Int) - (1 : Int)))).toNat < (((a0).set ((0 : Int)).toNat ((((a0).getD ((w64 ((((a0).length : Nat) : Int) - (1 : Int)))).toNat (0, 0, 0)).1), (((a0).getD ((w64 ((((a0).length : Nat) : Int) - (1 : Int)))).toNat (0, 0, 0)).2.1), (((a0).getD ((w64 ((((a0).length : Nat) : Int) - (1 : Int)))).toNat (0, 0, 0)).2.2)))).length
        · rw [if_pos hc5] at h
          by_cases hc6 : 0 ≤ (w64 ((((a0).length : Nat) : Int) - (1 : Int))) ∧ (w64 ((((a0).length : Nat) : Int) - (1 : Int))) ≤ (((a0).length : Nat) : Int)
          · rw [if_pos hc6] at h
            obtain ⟨c7_, hc7, h⟩ := Option.bind_eq_some_iff.1 h
            obtain rfl := Option.some.inj h; exact p_heapHeapviewportlaw23itemTakeq2_0 n a0 a1 c1_0 c1_1 c1_2 hc1 hc2 hc3 hc4 hc5 hc6 c7_ hc7
          · rw [if_neg hc6] at h; cases h
        · rw [if_neg hc5] at h; cases h
      · rw [if_neg hc4] at h; cases h
    · rw [if_neg hc3] at h; cases h
  · rw [if_neg hc2] at h
    obtain rfl := Option.some.inj h; exact p_heapHeapviewportlaw23itemTakeq2_1 n a0 a1 c1_0 c1_1 c1_2 hc1 hc2

noncomputable def A_viewportref23HeapLeastq2 (a0 : List (Int × Int)) : List Value := [(Value.pointer (some ⟨0, 0, none⟩))]
noncomputable def H_viewportref23HeapLeastq2 (a0 : List (Int × Int)) : AH := ⟨sB [(0, (some (.cells (layT [(Value.slice (some ⟨1, 0, none⟩) (a0).length (Nat.add big 2))]) 32))), (1, (some (.cells (layT (rows rw_ii a0)) 27)))], 2, 2⟩
noncomputable def V_viewportref23HeapLeastq2 (a0 : List (Int × Int)) (r : Int × Int × Bool) : Value := match r with
  | (o0, o1, o2) => (Value.tuple #[(Value.agg #[(Value.int .i64 o0), (Value.int .i64 o1)]), (Value.bool o2)])
noncomputable def R_viewportref23HeapLeastq2 (a0 : List (Int × Int)) (r : Int × Int × Bool) : AH := match r with
  | (o0, o1, o2) => ⟨sB [(2, (some (.cells (layT [(Value.int .i64 o0), (Value.int .i64 o1)]) 27)))], 3, 2⟩
noncomputable abbrev G_viewportref23HeapLeastq2 (a0 : List (Int × Int)) (r : Int × Int × Bool) : Prop := Gv P (.func 16) (A_viewportref23HeapLeastq2 a0) (H_viewportref23HeapLeastq2 a0) (V_viewportref23HeapLeastq2 a0 r) (R_viewportref23HeapLeastq2 a0 r)
def m_viewportref23HeapLeastq2 (n : Nat) (a0 : List (Int × Int)) : Option (Int × Int × Bool) :=
  if (((a0).length : Nat) : Int) = (0 : Int) then
    some (0, 0, false)
  else
    if 0 ≤ (0 : Int) ∧ (0 : Int) < (((a0).length : Nat) : Int) then
      some ((((a0).getD ((0 : Int)).toNat (0, 0)).1), (((a0).getD ((0 : Int)).toNat (0, 0)).2), true)
    else none
set_option maxRecDepth 100000 in
theorem p_viewportref23HeapLeastq2_0 (n : Nat) (a0 : List (Int × Int)) (hc1 : (((a0).length : Nat) : Int) = (0 : Int)) : G_viewportref23HeapLeastq2 a0 (0, 0, false) :=
  runF_ok hm (A := aT [(10, .val (.bool true))]) (L := lT []) (wk := ⟨[2, 3], [(2, 2, false)], 3, 2⟩)
    (ps := [(Value.bool ((((a0).length : Nat) : Int) == (0 : Int))) = (Value.bool true)]) (by kernel_rfl) ⟨(veT hc1), trivial⟩
set_option maxRecDepth 100000 in
theorem p_viewportref23HeapLeastq2_1 (n : Nat) (a0 : List (Int × Int)) (hc1 : ¬ ((((a0).length : Nat) : Int) = (0 : Int))) (hc2 : 0 ≤ (0 : Int) ∧ (0 : Int) < (((a0).length : Nat) : Int)) : G_viewportref23HeapLeastq2 a0 ((((a0).getD ((0 : Int)).toNat (0, 0)).1), (((a0).getD ((0 : Int)).toNat (0, 0)).2), true) :=
  runF_ok hm (A := aT [(10, .val (.bool false)), (17, .pur (Value.pointer (some ⟨1, (((0 : Int)).toNat * 2), none⟩))), (18, .ld (Value.agg #[(Value.int .i64 (((a0).getD ((0 : Int)).toNat (0, 0)).1)), (Value.int .i64 (((a0).getD ((0 : Int)).toNat (0, 0)).2))]))]) (L := lT []) (wk := ⟨[2, 3], [(2, 2, false)], 3, 2⟩)
    (ps := [(Value.bool ((((a0).length : Nat) : Int) == (0 : Int))) = (Value.bool false),
    opIndexAddr P 30 (Value.slice (some ⟨1, 0, none⟩) (a0).length (Nat.add big 2)) (Value.int .i64 (0 : Int)) Ax.h0 = some ((Value.pointer (some ⟨1, (((0 : Int)).toNat * 2), none⟩)), Ax.h0),
    rdT (layT (rows rw_ii a0)) 2 (((0 : Int)).toNat * 2) = some [(Value.int .i64 (((a0).getD ((0 : Int)).toNat (0, 0)).1)), (Value.int .i64 (((a0).getD ((0 : Int)).toNat (0, 0)).2))]]) (by kernel_rfl) ⟨(veF hc1), (ixS (e := 27) (by kernel_rfl) (by kernel_rfl) (hc2).1 (hc2).2), (rows_rdp rwf_ii (0, 0) (i := ((0 : Int)).toNat) (j := 0) (((0 : Int)).toNat * 2) rfl (toNatLt hc2) (by decide) rfl), trivial⟩
theorem m_viewportref23HeapLeastq2_ok (n : Nat) (a0 : List (Int × Int)) (r : Int × Int × Bool) (h : m_viewportref23HeapLeastq2 n a0 = some r) : G_viewportref23HeapLeastq2 a0 r := by
  unfold m_viewportref23HeapLeastq2 at h
  by_cases hc1 : (((a0).length : Nat) : Int) = (0 : Int)
  · rw [if_pos hc1] at h
    obtain rfl := Option.some.inj h; exact p_viewportref23HeapLeastq2_0 n a0 hc1
  · rw [if_neg hc1] at h
    by_cases hc2 : 0 ≤ (0 : Int) ∧ (0 : Int) < (((a0).length : Nat) : Int)
    · rw [if_pos hc2] at h
      obtain rfl := Option.some.inj h; exact p_viewportref23HeapLeastq2_1 n a0 hc1 hc2
    · rw [if_neg hc2] at h; cases h

noncomputable def A_viewportref23HeapTakeq2 (a0 : List (Int × Int)) : List Value := [(Value.pointer (some ⟨0, 0, none⟩))]
noncomputable def H_viewportref23HeapTakeq2 (a0 : List (Int × Int)) : AH := ⟨sB [(0, (some (.cells (layT [(Value.slice (some ⟨1, 0, none⟩) (a0).length (Nat.add big 2))]) 32))), (1, (some (.cells (layT (rows rw_ii a0)) 27)))], 2, 2⟩
noncomputable def V_viewportref23HeapTakeq2 (a0 : List (Int × Int)) (r : Nat × Nat × Int × Int × Bool) : Value := match r with
  | (o0, o1, o2, o3, o4) => (Value.tuple #[(Value.agg #[(Value.int .i64 o2), (Value.int .i64 o3)]), (Value.bool o4)])
noncomputable def R_viewportref23HeapTakeq2 (a0 : List (Int × Int)) (r : Nat × Nat × Int × Int × Bool) : AH := match r with
  | (o0, o1, o2, o3, o4) => ⟨sB [(0, (some (.cells (layT [(Value.slice (some ⟨1, (o0 * 2), none⟩) o1 (Nat.add big 2))]) 32))), (1, (some (.cells (layT (rows rw_ii a0)) 27))), (2, (some (.cells (layT [(Value.int .i64 o2), (Value.int .i64 o3)]) 27)))], 3, 0⟩
noncomputable abbrev G_viewportref23HeapTakeq2 (a0 : List (Int × Int)) (r : Nat × Nat × Int × Int × Bool) : Prop := Gv P (.func 14) (A_viewportref23HeapTakeq2 a0) (H_viewportref23HeapTakeq2 a0) (V_viewportref23HeapTakeq2 a0 r) (R_viewportref23HeapTakeq2 a0 r)
def m_viewportref23HeapTakeq2 (n : Nat) (a0 : List (Int × Int)) : Option (Nat × Nat × Int × Int × Bool) :=
  (m_viewportref23HeapLeastq2 n a0).bind fun t => match t with
  | (c1_0, c1_1, c1_2) =>
    if c1_2 = true then
      if 0 ≤ (1 : Int) ∧ (1 : Int) ≤ (((a0).length : Nat) : Int) then
        some ((((1 : Int)).toNat), ((a0).length - ((1 : Int)).toNat), c1_0, c1_1, c1_2)
      else none
    else
      some (0, ((a0).length), c1_0, c1_1, c1_2)
set_option maxRecDepth 100000 in
theorem p_viewportref23HeapTakeq2_0 (n : Nat) (a0 : List (Int × Int)) (c1_0 : Int) (c1_1 : Int) (c1_2 : Bool) (hc1 : m_viewportref23HeapLeastq2 n a0 = some (c1_0, c1_1, c1_2)) (hc2 : c1_2 = true) (hc3 : 0 ≤ (1 : Int) ∧ (1 : Int) ≤ (((a0).length : Nat) : Int)) : G_viewportref23HeapTakeq2 a0 ((((1 : Int)).toNat), ((a0).length - ((1 : Int)).toNat), c1_0, c1_1, c1_2) :=
  runF_ok hm (A := aT [(5, .call ⟨2, [(0, 0, false), (1, 1, true)], (V_viewportref23HeapLeastq2 a0 (c1_0, c1_1, c1_2)), (R_viewportref23HeapLeastq2 a0 (c1_0, c1_1, c1_2)), [(3, 2, false)]⟩), (15, .val (.bool true)), (21, .pur (Value.slice (some ⟨1, (((1 : Int)).toNat * 2), none⟩) ((a0).length - ((1 : Int)).toNat) (Nat.add big 2)))]) (L := lT []) (wk := ⟨[2, 3], [(0, 0, false), (1, 1, true), (2, 2, false)], 3, 0⟩)
    (ps := [G_viewportref23HeapLeastq2 a0 (c1_0, c1_1, c1_2),
    FlatB (.cells (layT (rows rw_ii a0)) 27),
    (Value.bool c1_2) = (Value.bool true),
    opSlice P 30 (Value.slice (some ⟨1, 0, none⟩) (a0).length (Nat.add big 2)) (some (Value.int .i64 (1 : Int))) none none Ax.h0 = some ((Value.slice (some ⟨1, (((1 : Int)).toNat * 2), none⟩) ((a0).length - ((1 : Int)).toNat) (Nat.add big 2)), Ax.h0),
    FlatB (.cells (layT (rows rw_ii a0)) 27)]) (by kernel_rfl) ⟨(m_viewportref23HeapLeastq2_ok n a0 (c1_0, c1_1, c1_2) hc1), (rows_flat rwf_ii _ _), (vB hc2), (slRow (e := 27) (es := 2) (by kernel_rfl) (by kernel_rfl) rfl rfl hc3), (rows_flat rwf_ii _ _), trivial⟩
set_option maxRecDepth 100000 in
theorem p_viewportref23HeapTakeq2_1 (n : Nat) (a0 : List (Int × Int)) (c1_0 : Int) (c1_1 : Int) (c1_2 : Bool) (hc1 : m_viewportref23HeapLeastq2 n a0 = some (c1_0, c1_1, c1_2)) (hc2 : ¬ (c1_2 = true)) : G_viewportref23HeapTakeq2 a0 (0, ((a0).length), c1_0, c1_1, c1_2) :=
  runF_ok hm (A := aT [(5, .call ⟨2, [(0, 0, false), (1, 1, true)], (V_viewportref23HeapLeastq2 a0 (c1_0, c1_1, c1_2)), (R_viewportref23HeapLeastq2 a0 (c1_0, c1_1, c1_2)), [(3, 2, false)]⟩), (15, .val (.bool false))]) (L := lT []) (wk := ⟨[2, 3], [(0, 0, false), (1, 1, true), (2, 2, false)], 3, 0⟩)
    (ps := [G_viewportref23HeapLeastq2 a0 (c1_0, c1_1, c1_2),
    FlatB (.cells (layT (rows rw_ii a0)) 27),
    (Value.bool c1_2) = (Value.bool false),
    FlatB (.cells (layT (rows rw_ii a0)) 27)]) (by kernel_rfl) ⟨(m_viewportref23HeapLeastq2_ok n a0 (c1_0, c1_1, c1_2) hc1), (rows_flat rwf_ii _ _), (vB (Bool.eq_false_iff.2 hc2)), (rows_flat rwf_ii _ _), trivial⟩
theorem m_viewportref23HeapTakeq2_ok (n : Nat) (a0 : List (Int × Int)) (r : Nat × Nat × Int × Int × Bool) (h : m_viewportref23HeapTakeq2 n a0 = some r) : G_viewportref23HeapTakeq2 a0 r := by
  unfold m_viewportref23HeapTakeq2 at h
  obtain ⟨⟨c1_0, c1_1, c1_2⟩, hc1, h⟩ := Option.bind_eq_some_iff.1 h
  dsimp only at h
  by_cases hc2 : c1_2 = true
  · rw [if_pos hc2] at h
    by_cases hc3 : 0 ≤ (1 : Int) ∧ (1 : Int) ≤ (((a0).length : Nat) : Int)
    · rw [if_pos hc3] at h
      obtain rfl := Option.some.inj h; exact p_viewportref23HeapTakeq2_0 n a0 c1_0 c1_1 c1_2 hc1 hc2 hc3
    · rw [if_neg hc3] at h; cases h
  · rw [if_neg hc2] at h
    obtain rfl := Option.some.inj h; exact p_viewportref23HeapTakeq2_1 n a0 c1_0 c1_1 c1_2 hc1 hc2

noncomputable def A_heapHeapviewportlaw23itemPutq3 (a0 : List (Int × Int × Int)) (a1 : Nat) (a2 : Int) (a3 : Int) (a4 : Int) : List Value := [(Value.pointer (some ⟨0, 0, none⟩)), (Value.agg #[(Value.int .i64 a3), (Value.int .i64 a4)])]
noncomputable def H_heapHeapviewportlaw23itemPutq3 (a0 : List (Int × Int × Int)) (a1 : Nat) (a2 : Int) (a3 : Int) (a4 : Int) : AH := ⟨sB [(0, (some (.cells (layT [(Value.pointer (some ⟨0, 0, none⟩)), (Value.func (.func 8) #[] #[]), (Value.slice (some ⟨1, 0, none⟩) a1 (Nat.add big 3)), (Value.int .i64 a2)]) 51))), (1, (some (.cells (layT (rows rw_iii a0)) 55)))], 2, 2⟩
noncomputable def V_heapHeapviewportlaw23itemPutq3 (a0 : List (Int × Int × Int)) (a1 : Nat) (a2 : Int) (a3 : Int) (a4 : Int) (r : List (Int × Int × Int) × Nat) : Value := match r with
  | (o0, o1) => (Value.tuple #[])
noncomputable def R_heapHeapviewportlaw23itemPutq3 (a0 : List (Int × Int × Int)) (a1 : Nat) (a2 : Int) (a3 : Int) (a4 : Int) (r : List (Int × Int × Int) × Nat) : AH := match r with
  | (o0, o1) => ⟨sB [(0, (some (.cells (layT [(Value.pointer (some ⟨0, 0, none⟩)), (Value.func (.func 8) #[] #[]), (Value.slice (some ⟨2, 0, none⟩) o1 (Nat.add big 3)), (Value.int .i64 (w64 (a2 + (1 : Int))))]) 51))), (2, (some (.cells (layT (rows rw_iii o0)) 55)))], 3, 0⟩
noncomputable abbrev G_heapHeapviewportlaw23itemPutq3 (a0 : List (Int × Int × Int)) (a1 : Nat) (a2 : Int) (a3 : Int) (a4 : Int) (r : List (Int × Int × Int) × Nat) : Prop := Gv P (.func 10) (A_heapHeapviewportlaw23itemPutq3 a0 a1 a2 a3 a4) (H_heapHeapviewportlaw23itemPutq3 a0 a1 a2 a3 a4) (V_heapHeapviewportlaw23itemPutq3 a0 a1 a2 a3 a4 r) (R_heapHeapviewportlaw23itemPutq3 a0 a1 a2 a3 a4 r)
def m_heapHeapviewportlaw23itemPutq3 (n : Nat) (a0 : List (Int × Int × Int)) (a1 : Nat) (a2 : Int) (a3 : Int) (a4 : Int) : Option (List (Int × Int × Int) × Nat) :=
  (m_heapHeapviewportlaw23itemvalidq4 n a0 a1 a2).bind fun _ =>
  if a1 ≤ (a0).length then
    if (a1 + 1) * 24 ≤ 140737488355328 then
      (m_heapHeapviewportlaw23itemupq1 n ((List.take a1 a0) ++ [(a2, a3, a4)]) (w64 (a2 + (1 : Int))) (w64 ((((((List.take a1 a0) ++ [(a2, a3, a4)])).length : Nat) : Int) - (1 : Int)))).bind fun c4_ =>
      some (c4_, ((((List.take a1 a0) ++ [(a2, a3, a4)])).length))
    else none
  else none
set_option maxRecDepth 100000 in
theorem p_heapHeapviewportlaw23itemPutq3_0 (n : Nat) (a0 : List (Int × Int × Int)) (a1 : Nat) (a2 : Int) (a3 : Int) (a4 : Int) (hc1 : m_heapHeapviewportlaw23itemvalidq4 n a0 a1 a2 = some ()) (hc2 : a1 ≤ (a0).length) (hc3 : (a1 + 1) * 24 ≤ 140737488355328) (c4_ : List (Int × Int × Int)) (hc4 : m_heapHeapviewportlaw23itemupq1 n ((List.take a1 a0) ++ [(a2, a3, a4)]) (w64 (a2 + (1 : Int))) (w64 ((((((List.take a1 a0) ++ [(a2, a3, a4)])).length : Nat) : Int) - (1 : Int))) = some c4_) : G_heapHeapviewportlaw23itemPutq3 a0 a1 a2 a3 a4 (c4_, ((((List.take a1 a0) ++ [(a2, a3, a4)])).length)) :=
  runF_ok hm (A := aT [(5, .call ⟨2, [(0, 0, false), (1, 1, true)], (V_heapHeapviewportlaw23itemvalidq4 a0 a1 a2 ()), (R_heapHeapviewportlaw23itemvalidq4 a0 a1 a2 ()), []⟩), (22, .app ⟨none, rows rw_iii (List.take a1 a0), (rows rw_iii ((List.take a1 a0) ++ [(a2, a3, a4)])), (((List.take a1 a0) ++ [(a2, a3, a4)])).length, false⟩), (42, .call ⟨2, [(0, 0, false), (1, 16, true)], (V_heapHeapviewportlaw23itemupq1 ((List.take a1 a0) ++ [(a2, a3, a4)]) (w64 (a2 + (1 : Int))) (w64 ((((((List.take a1 a0) ++ [(a2, a3, a4)])).length : Nat) : Int) - (1 : Int))) c4_), (R_heapHeapviewportlaw23itemupq1 ((List.take a1 a0) ++ [(a2, a3, a4)]) (w64 (a2 + (1 : Int))) (w64 ((((((List.take a1 a0) ++ [(a2, a3, a4)])).length : Nat) : Int) - (1 : Int))) c4_), [(16, 1, true)]⟩)]) (L := lT []) (wk := ⟨[], [(0, 0, false), (2, 16, true)], 3, 0⟩)
    (ps := [G_heapHeapviewportlaw23itemvalidq4 a0 a1 a2 (),
    FlatB (.cells (layT (rows rw_iii a0)) 55),
    0 < 1,
    rdT (layT (rows rw_iii a0)) (Nat.mul a1 3) 0 = some (rows rw_iii (List.take a1 a0)),
    fits (Nat.add a1 1) 24 = true,
    allCells [(Value.int .i64 a2), (Value.int .i64 a3), (Value.int .i64 a4)] = true,
    allCells (rows rw_iii (List.take a1 a0)) = true,
    rows rw_iii (List.take a1 a0) ++ [(Value.int .i64 a2), (Value.int .i64 a3), (Value.int .i64 a4)] = (rows rw_iii ((List.take a1 a0) ++ [(a2, a3, a4)])),
    Nat.add a1 1 = (((List.take a1 a0) ++ [(a2, a3, a4)])).length,
    G_heapHeapviewportlaw23itemupq1 ((List.take a1 a0) ++ [(a2, a3, a4)]) (w64 (a2 + (1 : Int))) (w64 ((((((List.take a1 a0) ++ [(a2, a3, a4)])).length : Nat) : Int) - (1 : Int))) c4_,
    FlatB (.cells (layT (rows rw_iii ((List.take a1 a0) ++ [(a2, a3, a4)]))) 55),
    FlatB (.cells (layT (rows rw_iii c4_)) 55),
    FlatB (.cells (layT (rows rw_iii c4_)) 55)]) (by kernel_rfl) ⟨(m_heapHeapviewportlaw23itemvalidq4_ok n a0 a1 a2 () hc1), (rows_flat rwf_iii _ _), ((by decide)), (rows_rdTake rwf_iii _ _ hc2), (fits_ok hc3 (by have := hc3; show (_ : Nat) + _ ≤ _; omega)), (rfl), (rows_cells rwf_iii _), (rows_app rw_iii (List.take a1 a0) [(a2, a3, a4)]), (take_len hc2 rfl), (m_heapHeapviewportlaw23itemupq1_ok n ((List.take a1 a0) ++ [(a2, a3, a4)]) (w64 (a2 + (1 : Int))) (w64 ((((((List.take a1 a0) ++ [(a2, a3, a4)])).length : Nat) : Int) - (1 : Int))) c4_ hc4), (rows_flat rwf_iii _ _), (rows_flat rwf_iii _ _), (rows_flat rwf_iii _ _), trivial⟩
theorem m_heapHeapviewportlaw23itemPutq3_ok (n : Nat) (a0 : List (Int × Int × Int)) (a1 : Nat) (a2 : Int) (a3 : Int) (a4 : Int) (r : List (Int × Int × Int) × Nat) (h : m_heapHeapviewportlaw23itemPutq3 n a0 a1 a2 a3 a4 = some r) : G_heapHeapviewportlaw23itemPutq3 a0 a1 a2 a3 a4 r := by
  unfold m_heapHeapviewportlaw23itemPutq3 at h
  obtain ⟨_, hc1, h⟩ := Option.bind_eq_some_iff.1 h
  by_cases hc2 : a1 ≤ (a0).length
  · rw [if_pos hc2] at h
    by_cases hc3 : (a1 + 1) * 24 ≤ 140737488355328
    · rw [if_pos hc3] at h
      obtain ⟨c4_, hc4, h⟩ := Option.bind_eq_some_iff.1 h
      obtain rfl := Option.some.inj h; exact p_heapHeapviewportlaw23itemPutq3_0 n a0 a1 a2 a3 a4 hc1 hc2 hc3 c4_ hc4
    · rw [if_neg hc3] at h; cases h
  · rw [if_neg hc2] at h; cases h

noncomputable def S_viewportref23HeapPutq3_1 (x1_0 : List (Int × Int)) (x1_1 : Nat) (x1_2 : Nat) (x1_3 : Int) (x1_4 : Int) (st : Int) : XSt := match st with
  | x1_5 => (sT 49 [(0, (Value.pointer (some ⟨0, 0, none⟩))), (3, (Value.pointer (some ⟨2, 0, none⟩))), (4, (Value.int .i64 x1_5))], [], ⟨sB [(0, (some (.cells (layT [(Value.slice (some ⟨1, (x1_1 * 2), none⟩) x1_2 (Nat.add big 2))]) 32))), (1, (some (.cells (layT (rows rw_ii x1_0)) 27))), (2, (some (.cells (layT [(Value.int .i64 x1_3), (Value.int .i64 x1_4)]) 27)))], 3, 2⟩)
noncomputable def X_viewportref23HeapPutq3_1 (x1_0 : List (Int × Int)) (x1_1 : Nat) (x1_2 : Nat) (x1_3 : Int) (x1_4 : Int) (r : Int) : Ex × XSt := match r with
  | z1_0 => (.exit 0, (sT 49 [(0, (Value.pointer (some ⟨0, 0, none⟩))), (3, (Value.pointer (some ⟨2, 0, none⟩))), (4, (Value.int .i64 z1_0))], [], ⟨sB [(0, (some (.cells (layT [(Value.slice (some ⟨1, (x1_1 * 2), none⟩) x1_2 (Nat.add big 2))]) 32))), (1, (some (.cells (layT (rows rw_ii x1_0)) 27))), (2, (some (.cells (layT [(Value.int .i64 x1_3), (Value.int .i64 x1_4)]) 27)))], 3, 2⟩))
def B_viewportref23HeapPutq3_1 (n : Nat) (x1_0 : List (Int × Int)) (x1_1 : Nat) (x1_2 : Nat) (x1_3 : Int) (x1_4 : Int) (st : Int) : Option ((Int) ⊕ (Int)) := match st with
  | x1_5 =>
    if x1_5 > (0 : Int) then
      if 0 ≤ (w64 (x1_5 - (1 : Int))) ∧ (w64 (x1_5 - (1 : Int))) < ((x1_2 : Nat) : Int) then
        if (x1_1 + ((w64 (x1_5 - (1 : Int)))).toNat) < (x1_0).length then
          if (((x1_0).getD (x1_1 + ((w64 (x1_5 - (1 : Int)))).toNat) (0, 0)).1) > x1_3 then
            some (.inl (w64 (x1_5 - (1 : Int))))
          else
            some (.inr x1_5)
        else none
      else none
    else
      some (.inr x1_5)
def m_viewportref23HeapPutq3_1 (n : Nat) (x1_0 : List (Int × Int)) (x1_1 : Nat) (x1_2 : Nat) (x1_3 : Int) (x1_4 : Int) (st : Int) : Option (Int) := iterM (B_viewportref23HeapPutq3_1 n x1_0 x1_1 x1_2 x1_3 x1_4) n st
set_option maxRecDepth 100000 in
theorem q_viewportref23HeapPutq3_1_0 (n : Nat) {rnd : Option Nat} (x1_0 : List (Int × Int)) (x1_1 : Nat) (x1_2 : Nat) (x1_3 : Int) (x1_4 : Int) (x1_5 : Int) (hy1_1 : x1_5 > (0 : Int)) (hy1_2 : 0 ≤ (w64 (x1_5 - (1 : Int))) ∧ (w64 (x1_5 - (1 : Int))) < ((x1_2 : Nat) : Int)) (hy1_3 : (x1_1 + ((w64 (x1_5 - (1 : Int)))).toNat) < (x1_0).length) (hy1_4 : (((x1_0).getD (x1_1 + ((w64 (x1_5 - (1 : Int)))).toNat) (0, 0)).1) > x1_3) : CG P rnd (fnN P 12) 2 (codeOf P 12 [false, false, false, true, true]) (S_viewportref23HeapPutq3_1 x1_0 x1_1 x1_2 x1_3 x1_4 x1_5) (.normal, S_viewportref23HeapPutq3_1 x1_0 x1_1 x1_2 x1_3 x1_4 (w64 (x1_5 - (1 : Int)))) :=
  runC_ok hm (A := aT [(3, .val (.bool true)), (11, .pur (Value.pointer (some ⟨1, ((x1_1 + ((w64 (x1_5 - (1 : Int)))).toNat) * 2), none⟩))), (13, .ld (Value.int .i64 (((x1_0).getD (x1_1 + ((w64 (x1_5 - (1 : Int)))).toNat) (0, 0)).1))), (16, .val (.bool true))]) (L := lT []) (wk := ⟨[0, 3, 4], [(0, 0, false), (1, 1, true), (2, 2, false)], 3, 2⟩)
    (ps := [(Value.bool (decide (x1_5 > (0 : Int)))) = (Value.bool true),
    opIndexAddr P 30 (Value.slice (some ⟨1, (x1_1 * 2), none⟩) x1_2 (Nat.add big 2)) (Value.int .i64 (w64 (x1_5 - (1 : Int)))) Ax.h0 = some ((Value.pointer (some ⟨1, ((x1_1 + ((w64 (x1_5 - (1 : Int)))).toNat) * 2), none⟩)), Ax.h0),
    (layT (rows rw_ii x1_0)).get (Nat.add ((x1_1 + ((w64 (x1_5 - (1 : Int)))).toNat) * 2) 0) = some (Value.int .i64 (((x1_0).getD (x1_1 + ((w64 (x1_5 - (1 : Int)))).toNat) (0, 0)).1)),
    (Value.bool (decide ((((x1_0).getD (x1_1 + ((w64 (x1_5 - (1 : Int)))).toNat) (0, 0)).1) > x1_3))) = (Value.bool true),
    FlatB (.cells (layT (rows rw_ii x1_0)) 27)]) (by kernel_rfl) ⟨(vbT hy1_1), (ixSO (e := 27) (es := 2) x1_1 (by kernel_rfl) (by kernel_rfl) hy1_2), (rows_ld rwf_ii (0, 0) (i := (x1_1 + ((w64 (x1_5 - (1 : Int)))).toNat)) (j := 0) (Nat.add ((x1_1 + ((w64 (x1_5 - (1 : Int)))).toNat) * 2) 0) rfl (hy1_3) (by decide) rfl), (vbT hy1_4), (rows_flat rwf_ii _ _), trivial⟩
set_option maxRecDepth 100000 in
theorem q_viewportref23HeapPutq3_1_1 (n : Nat) {rnd : Option Nat} (x1_0 : List (Int × Int)) (x1_1 : Nat) (x1_2 : Nat) (x1_3 : Int) (x1_4 : Int) (x1_5 : Int) (hy1_1 : x1_5 > (0 : Int)) (hy1_2 : 0 ≤ (w64 (x1_5 - (1 : Int))) ∧ (w64 (x1_5 - (1 : Int))) < ((x1_2 : Nat) : Int)) (hy1_3 : (x1_1 + ((w64 (x1_5 - (1 : Int)))).toNat) < (x1_0).length) (hy1_4 : ¬ ((((x1_0).getD (x1_1 + ((w64 (x1_5 - (1 : Int)))).toNat) (0, 0)).1) > x1_3)) : CG P rnd (fnN P 12) 2 (codeOf P 12 [false, false, false, true, true]) (S_viewportref23HeapPutq3_1 x1_0 x1_1 x1_2 x1_3 x1_4 x1_5) (X_viewportref23HeapPutq3_1 x1_0 x1_1 x1_2 x1_3 x1_4 x1_5) :=
  runC_ok hm (A := aT [(3, .val (.bool true)), (11, .pur (Value.pointer (some ⟨1, ((x1_1 + ((w64 (x1_5 - (1 : Int)))).toNat) * 2), none⟩))), (13, .ld (Value.int .i64 (((x1_0).getD (x1_1 + ((w64 (x1_5 - (1 : Int)))).toNat) (0, 0)).1))), (16, .val (.bool false))]) (L := lT []) (wk := ⟨[0, 3, 4], [(0, 0, false), (1, 1, true), (2, 2, false)], 3, 2⟩)
    (ps := [(Value.bool (decide (x1_5 > (0 : Int)))) = (Value.bool true),
    opIndexAddr P 30 (Value.slice (some ⟨1, (x1_1 * 2), none⟩) x1_2 (Nat.add big 2)) (Value.int .i64 (w64 (x1_5 - (1 : Int)))) Ax.h0 = some ((Value.pointer (some ⟨1, ((x1_1 + ((w64 (x1_5 - (1 : Int)))).toNat) * 2), none⟩)), Ax.h0),
    (layT (rows rw_ii x1_0)).get (Nat.add ((x1_1 + ((w64 (x1_5 - (1 : Int)))).toNat) * 2) 0) = some (Value.int .i64 (((x1_0).getD (x1_1 + ((w64 (x1_5 - (1 : Int)))).toNat) (0, 0)).1)),
    (Value.bool (decide ((((x1_0).getD (x1_1 + ((w64 (x1_5 - (1 : Int)))).toNat) (0, 0)).1) > x1_3))) = (Value.bool false),
    FlatB (.cells (layT (rows rw_ii x1_0)) 27)]) (by kernel_rfl) ⟨(vbT hy1_1), (ixSO (e := 27) (es := 2) x1_1 (by kernel_rfl) (by kernel_rfl) hy1_2), (rows_ld rwf_ii (0, 0) (i := (x1_1 + ((w64 (x1_5 - (1 : Int)))).toNat)) (j := 0) (Nat.add ((x1_1 + ((w64 (x1_5 - (1 : Int)))).toNat) * 2) 0) rfl (hy1_3) (by decide) rfl), (vbF hy1_4), (rows_flat rwf_ii _ _), trivial⟩
set_option maxRecDepth 100000 in
theorem q_viewportref23HeapPutq3_1_2 (n : Nat) {rnd : Option Nat} (x1_0 : List (Int × Int)) (x1_1 : Nat) (x1_2 : Nat) (x1_3 : Int) (x1_4 : Int) (x1_5 : Int) (hy1_1 : ¬ (x1_5 > (0 : Int))) : CG P rnd (fnN P 12) 2 (codeOf P 12 [false, false, false, true, true]) (S_viewportref23HeapPutq3_1 x1_0 x1_1 x1_2 x1_3 x1_4 x1_5) (X_viewportref23HeapPutq3_1 x1_0 x1_1 x1_2 x1_3 x1_4 x1_5) :=
  runC_ok hm (A := aT [(3, .val (.bool false))]) (L := lT []) (wk := ⟨[0, 3, 4], [(0, 0, false), (1, 1, true), (2, 2, false)], 3, 2⟩)
    (ps := [(Value.bool (decide (x1_5 > (0 : Int)))) = (Value.bool false),
    FlatB (.cells (layT (rows rw_ii x1_0)) 27)]) (by kernel_rfl) ⟨(vbF hy1_1), (rows_flat rwf_ii _ _), trivial⟩
theorem m_viewportref23HeapPutq3_1_ok (n : Nat) {rnd : Option Nat} (x1_0 : List (Int × Int)) (x1_1 : Nat) (x1_2 : Nat) (x1_3 : Int) (x1_4 : Int) (st : Int) (r : Int) (h : m_viewportref23HeapPutq3_1 n x1_0 x1_1 x1_2 x1_3 x1_4 st = some r) : CG P rnd (fnN P 12) 2 (codeOf P 12 [false, false, true, true]) (S_viewportref23HeapPutq3_1 x1_0 x1_1 x1_2 x1_3 x1_4 st) (X_viewportref23HeapPutq3_1 x1_0 x1_1 x1_2 x1_3 x1_4 r) :=
  CG.iter (b := codeOf P 12 [false, false, false, true, true]) (by kernel_rfl) (body := B_viewportref23HeapPutq3_1 n x1_0 x1_1 x1_2 x1_3 x1_4) (S := S_viewportref23HeapPutq3_1 x1_0 x1_1 x1_2 x1_3 x1_4) (X := X_viewportref23HeapPutq3_1 x1_0 x1_1 x1_2 x1_3 x1_4)
    (fun x1_5 s' h => by
    unfold B_viewportref23HeapPutq3_1 at h
    dsimp only at h
    by_cases hy1_1 : x1_5 > (0 : Int)
    · rw [if_pos hy1_1] at h
      by_cases hy1_2 : 0 ≤ (w64 (x1_5 - (1 : Int))) ∧ (w64 (x1_5 - (1 : Int))) < ((x1_2 : Nat) : Int)
      · rw [if_pos hy1_2] at h
        by_cases hy1_3 : (x1_1 + ((w64 (x1_5 - (1 : Int)))).toNat) < (x1_0).length
        · rw [if_pos hy1_3] at h
          by_cases hy1_4 : (((x1_0).getD (x1_1 + ((w64 (x1_5 - (1 : Int)))).toNat) (0, 0)).1) > x1_3
          · rw [if_pos hy1_4] at h
            obtain rfl := Sum.inl.inj (Option.some.inj h); exact q_viewportref23HeapPutq3_1_0 n x1_0 x1_1 x1_2 x1_3 x1_4 x1_5 hy1_1 hy1_2 hy1_3 hy1_4
          · rw [if_neg hy1_4] at h
            cases h
        · rw [if_neg hy1_3] at h; cases h
      · rw [if_neg hy1_2] at h; cases h
    · rw [if_neg hy1_1] at h
      cases h)
    (fun x1_5 r h => by
    unfold B_viewportref23HeapPutq3_1 at h
    dsimp only at h
    by_cases hy1_1 : x1_5 > (0 : Int)
    · rw [if_pos hy1_1] at h
      by_cases hy1_2 : 0 ≤ (w64 (x1_5 - (1 : Int))) ∧ (w64 (x1_5 - (1 : Int))) < ((x1_2 : Nat) : Int)
      · rw [if_pos hy1_2] at h
        by_cases hy1_3 : (x1_1 + ((w64 (x1_5 - (1 : Int)))).toNat) < (x1_0).length
        · rw [if_pos hy1_3] at h
          by_cases hy1_4 : (((x1_0).getD (x1_1 + ((w64 (x1_5 - (1 : Int)))).toNat) (0, 0)).1) > x1_3
          · rw [if_pos hy1_4] at h
            cases h
          · rw [if_neg hy1_4] at h
            obtain rfl := Sum.inr.inj (Option.some.inj h); exact q_viewportref23HeapPutq3_1_1 n x1_0 x1_1 x1_2 x1_3 x1_4 x1_5 hy1_1 hy1_2 hy1_3 hy1_4
        · rw [if_neg hy1_3] at h; cases h
      · rw [if_neg hy1_2] at h; cases h
    · rw [if_neg hy1_1] at h
      obtain rfl := Sum.inr.inj (Option.some.inj h); exact q_viewportref23HeapPutq3_1_2 n x1_0 x1_1 x1_2 x1_3 x1_4 x1_5 hy1_1)
    (fun r => by intro hx; cases hx) h
noncomputable def A_viewportref23HeapPutq3 (a0 : List (Int × Int)) (a1 : Nat) (a2 : Nat) (a3 : Int) (a4 : Int) : List Value := [(Value.pointer (some ⟨0, 0, none⟩)), (Value.agg #[(Value.int .i64 a3), (Value.int .i64 a4)])]
noncomputable def H_viewportref23HeapPutq3 (a0 : List (Int × Int)) (a1 : Nat) (a2 : Nat) (a3 : Int) (a4 : Int) : AH := ⟨sB [(0, (some (.cells (layT [(Value.slice (some ⟨1, (a1 * 2), none⟩) a2 (Nat.add big 2))]) 32))), (1, (some (.cells (layT (rows rw_ii a0)) 27)))], 2, 2⟩
noncomputable def V_viewportref23HeapPutq3 (a0 : List (Int × Int)) (a1 : Nat) (a2 : Nat) (a3 : Int) (a4 : Int) (r : List (Int × Int)) : Value := match r with
  | o0 => (Value.tuple #[])
noncomputable def R_viewportref23HeapPutq3 (a0 : List (Int × Int)) (a1 : Nat) (a2 : Nat) (a3 : Int) (a4 : Int) (r : List (Int × Int)) : AH := match r with
  | o0 => ⟨sB [(0, (some (.cells (layT [(Value.slice (some ⟨2, 0, none⟩) (o0).length (Nat.add big 2))]) 32))), (1, (some (.cells (layT (rows rw_ii a0)) 27))), (2, (some (.cells (layT (rows rw_ii o0)) 27)))], 3, 0⟩
noncomputable abbrev G_viewportref23HeapPutq3 (a0 : List (Int × Int)) (a1 : Nat) (a2 : Nat) (a3 : Int) (a4 : Int) (r : List (Int × Int)) : Prop := Gv P (.func 12) (A_viewportref23HeapPutq3 a0 a1 a2 a3 a4) (H_viewportref23HeapPutq3 a0 a1 a2 a3 a4) (V_viewportref23HeapPutq3 a0 a1 a2 a3 a4 r) (R_viewportref23HeapPutq3 a0 a1 a2 a3 a4 r)
def m_viewportref23HeapPutq3 (n : Nat) (a0 : List (Int × Int)) (a1 : Nat) (a2 : Nat) (a3 : Int) (a4 : Int) : Option (List (Int × Int)) :=
  (m_viewportref23HeapPutq3_1 n a0 a1 a2 a3 a4 ((a2 : Nat) : Int)).bind fun c1_ =>
  if 0 ≤ c1_ ∧ c1_ ≤ ((a2 : Nat) : Int) then
    if 0 < (c1_).toNat then
      if a1 + (c1_).toNat ≤ (a0).length then
        if (0 + (c1_).toNat) * 16 ≤ 140737488355328 then
          if 0 < 0 + (c1_).toNat then
            if (((([] : List (Int × Int)) ++ (List.take (c1_).toNat (List.drop a1 a0)))).length + 1) * 16 ≤ 140737488355328 then
              if 0 < (a2 - (c1_).toNat) then
                if (a1 + (c1_).toNat) + (a2 - (c1_).toNat) ≤ (a0).length then
                  if ((((([] : List (Int × Int)) ++ (List.take (c1_).toNat (List.drop a1 a0))) ++ [(a3, a4)])).length + (a2 - (c1_).toNat)) * 16 ≤ 140737488355328 then
                    some (((([] : List (Int × Int)) ++ (List.take (c1_).toNat (List.drop a1 a0))) ++ [(a3, a4)]) ++ (List.take (a2 - (c1_).toNat) (List.drop (a1 + (c1_).toNat) a0)))
                  else none
                else none
              else
                if (((([] : List (Int × Int)) ++ (List.take (c1_).toNat (List.drop a1 a0))) ++ [(a3, a4)])).length * 16 ≤ 140737488355328 then
                  some ((([] : List (Int × Int)) ++ (List.take (c1_).toNat (List.drop a1 a0))) ++ [(a3, a4)])
                else none
            else none
          else none
        else none
      else none
    else
      if 0 < (a2 - (c1_).toNat) then
        if (a1 + (c1_).toNat) + (a2 - (c1_).toNat) ≤ (a0).length then
          if (1 + (a2 - (c1_).toNat)) * 16 ≤ 140737488355328 then
            some ([(a3, a4)] ++ (List.take (a2 - (c1_).toNat) (List.drop (a1 + (c1_).toNat) a0)))
          else none
        else none
      else
        if 1 * 16 ≤ 140737488355328 then
          some [(a3, a4)]
        else none
  else none
set_option maxRecDepth 100000 in
theorem p_viewportref23HeapPutq3_0 (n : Nat) (a0 : List (Int × Int)) (a1 : Nat) (a2 : Nat) (a3 : Int) (a4 : Int) (c1_ : Int) (hc1 : m_viewportref23HeapPutq3_1 n a0 a1 a2 a3 a4 ((a2 : Nat) : Int) = some c1_) (hc2 : 0 ≤ c1_ ∧ c1_ ≤ ((a2 : Nat) : Int)) (hc3 : 0 < (c1_).toNat) (hc4 : a1 + (c1_).toNat ≤ (a0).length) (hc5 : (0 + (c1_).toNat) * 16 ≤ 140737488355328) (hc6 : 0 < 0 + (c1_).toNat) (hc7 : (((([] : List (Int × Int)) ++ (List.take (c1_).toNat (List.drop a1 a0)))).length + 1) * 16 ≤ 140737488355328) (hc8 : 0 < (a2 - (c1_).toNat)) (hc9 : (a1 + (c1_).toNat) + (a2 - (c1_).toNat) ≤ (a0).length) (hc10 : ((((([] : List (Int × Int)) ++ (List.take (c1_).toNat (List.drop a1 a0))) ++ [(a3, a4)])).length + (a2 - (c1_).toNat)) * 16 ≤ 140737488355328) : G_viewportref23HeapPutq3 a0 a1 a2 a3 a4 (((([] : List (Int × Int)) ++ (List.take (c1_).toNat (List.drop a1 a0))) ++ [(a3, a4)]) ++ (List.take (a2 - (c1_).toNat) (List.drop (a1 + (c1_).toNat) a0))) :=
  runF_ok hm (A := aT [(19, .pur (Value.slice (some ⟨1, (a1 * 2), none⟩) (c1_).toNat (Nat.add big 2))), (20, .app ⟨some ((c1_).toNat, (rows rw_ii (List.take (c1_).toNat (List.drop a1 a0)))), ([] : List Value), (rows rw_ii (([] : List (Int × Int)) ++ (List.take (c1_).toNat (List.drop a1 a0)))), ((([] : List (Int × Int)) ++ (List.take (c1_).toNat (List.drop a1 a0)))).length, true⟩), (23, .app ⟨none, rows rw_ii (([] : List (Int × Int)) ++ (List.take (c1_).toNat (List.drop a1 a0))), (rows rw_ii ((([] : List (Int × Int)) ++ (List.take (c1_).toNat (List.drop a1 a0))) ++ [(a3, a4)])), (((([] : List (Int × Int)) ++ (List.take (c1_).toNat (List.drop a1 a0))) ++ [(a3, a4)])).length, false⟩), (29, .pur (Value.slice (some ⟨1, ((a1 + (c1_).toNat) * 2), none⟩) (a2 - (c1_).toNat) (Nat.add big 2))), (30, .app ⟨some ((a2 - (c1_).toNat), (rows rw_ii (List.take (a2 - (c1_).toNat) (List.drop (a1 + (c1_).toNat) a0)))), rows rw_ii ((([] : List (Int × Int)) ++ (List.take (c1_).toNat (List.drop a1 a0))) ++ [(a3, a4)]), (rows rw_ii (((([] : List (Int × Int)) ++ (List.take (c1_).toNat (List.drop a1 a0))) ++ [(a3, a4)]) ++ (List.take (a2 - (c1_).toNat) (List.drop (a1 + (c1_).toNat) a0)))), ((((([] : List (Int × Int)) ++ (List.take (c1_).toNat (List.drop a1 a0))) ++ [(a3, a4)]) ++ (List.take (a2 - (c1_).toNat) (List.drop (a1 + (c1_).toNat) a0)))).length, false⟩)]) (L := lT [(11, ⟨⟨[0, 3, 4], [(0, 0, false), (1, 1, true), (2, 2, false)], 3, 2⟩, (X_viewportref23HeapPutq3_1 a0 a1 a2 a3 a4 c1_).1, (X_viewportref23HeapPutq3_1 a0 a1 a2 a3 a4 c1_).2⟩)]) (wk := ⟨[], [(0, 0, false), (1, 1, true), (2, 16, true)], 3, 0⟩)
    (ps := [CG P none (fnN P 12) 2 (codeOf P 12 [false, false, true, true]) (S_viewportref23HeapPutq3_1 a0 a1 a2 a3 a4 ((a2 : Nat) : Int)) (X_viewportref23HeapPutq3_1 a0 a1 a2 a3 a4 c1_),
    FlatB (.cells (layT (rows rw_ii a0)) 27),
    opSlice P 30 (Value.slice (some ⟨1, (a1 * 2), none⟩) a2 (Nat.add big 2)) none (some (Value.int .i64 c1_)) none Ax.h0 = some ((Value.slice (some ⟨1, (a1 * 2), none⟩) (c1_).toNat (Nat.add big 2)), Ax.h0),
    (c1_).toNat = (c1_).toNat,
    rdT (layT (rows rw_ii a0)) (Nat.mul (c1_).toNat 2) (a1 * 2) = some (rows rw_ii (List.take (c1_).toNat (List.drop a1 a0))),
    0 < (c1_).toNat,
    0 < big,
    0 < Nat.add 0 (c1_).toNat,
    rdT (layT ([] : List Value)) (Nat.mul 0 2) 0 = some (([] : List Value)),
    fits (Nat.add 0 (c1_).toNat) 16 = true,
    ([] : List Value) ++ (rows rw_ii (List.take (c1_).toNat (List.drop a1 a0))) = (rows rw_ii (([] : List (Int × Int)) ++ (List.take (c1_).toNat (List.drop a1 a0)))),
    Nat.add 0 (c1_).toNat = ((([] : List (Int × Int)) ++ (List.take (c1_).toNat (List.drop a1 a0)))).length,
    0 < 1,
    rdT (layT (rows rw_ii (([] : List (Int × Int)) ++ (List.take (c1_).toNat (List.drop a1 a0))))) (Nat.mul ((([] : List (Int × Int)) ++ (List.take (c1_).toNat (List.drop a1 a0)))).length 2) 0 = some (rows rw_ii (([] : List (Int × Int)) ++ (List.take (c1_).toNat (List.drop a1 a0)))),
    fits (Nat.add ((([] : List (Int × Int)) ++ (List.take (c1_).toNat (List.drop a1 a0)))).length 1) 16 = true,
    allCells [(Value.int .i64 a3), (Value.int .i64 a4)] = true,
    allCells (rows rw_ii (([] : List (Int × Int)) ++ (List.take (c1_).toNat (List.drop a1 a0)))) = true,
    rows rw_ii (([] : List (Int × Int)) ++ (List.take (c1_).toNat (List.drop a1 a0))) ++ [(Value.int .i64 a3), (Value.int .i64 a4)] = (rows rw_ii ((([] : List (Int × Int)) ++ (List.take (c1_).toNat (List.drop a1 a0))) ++ [(a3, a4)])),
    Nat.add ((([] : List (Int × Int)) ++ (List.take (c1_).toNat (List.drop a1 a0)))).length 1 = (((([] : List (Int × Int)) ++ (List.take (c1_).toNat (List.drop a1 a0))) ++ [(a3, a4)])).length,
    opSlice P 30 (Value.slice (some ⟨1, (a1 * 2), none⟩) a2 (Nat.add big 2)) (some (Value.int .i64 c1_)) none none Ax.h0 = some ((Value.slice (some ⟨1, ((a1 + (c1_).toNat) * 2), none⟩) (a2 - (c1_).toNat) (Nat.add big 2)), Ax.h0),
    (a2 - (c1_).toNat) = (a2 - (c1_).toNat),
    rdT (layT (rows rw_ii a0)) (Nat.mul (a2 - (c1_).toNat) 2) ((a1 + (c1_).toNat) * 2) = some (rows rw_ii (List.take (a2 - (c1_).toNat) (List.drop (a1 + (c1_).toNat) a0))),
    0 < (a2 - (c1_).toNat),
    rdT (layT (rows rw_ii ((([] : List (Int × Int)) ++ (List.take (c1_).toNat (List.drop a1 a0))) ++ [(a3, a4)]))) (Nat.mul (((([] : List (Int × Int)) ++ (List.take (c1_).toNat (List.drop a1 a0))) ++ [(a3, a4)])).length 2) 0 = some (rows rw_ii ((([] : List (Int × Int)) ++ (List.take (c1_).toNat (List.drop a1 a0))) ++ [(a3, a4)])),
    fits (Nat.add (((([] : List (Int × Int)) ++ (List.take (c1_).toNat (List.drop a1 a0))) ++ [(a3, a4)])).length (a2 - (c1_).toNat)) 16 = true,
    allCells (rows rw_ii (List.take (a2 - (c1_).toNat) (List.drop (a1 + (c1_).toNat) a0))) = true,
    allCells (rows rw_ii ((([] : List (Int × Int)) ++ (List.take (c1_).toNat (List.drop a1 a0))) ++ [(a3, a4)])) = true,
    rows rw_ii ((([] : List (Int × Int)) ++ (List.take (c1_).toNat (List.drop a1 a0))) ++ [(a3, a4)]) ++ (rows rw_ii (List.take (a2 - (c1_).toNat) (List.drop (a1 + (c1_).toNat) a0))) = (rows rw_ii (((([] : List (Int × Int)) ++ (List.take (c1_).toNat (List.drop a1 a0))) ++ [(a3, a4)]) ++ (List.take (a2 - (c1_).toNat) (List.drop (a1 + (c1_).toNat) a0)))),
    Nat.add (((([] : List (Int × Int)) ++ (List.take (c1_).toNat (List.drop a1 a0))) ++ [(a3, a4)])).length (a2 - (c1_).toNat) = ((((([] : List (Int × Int)) ++ (List.take (c1_).toNat (List.drop a1 a0))) ++ [(a3, a4)]) ++ (List.take (a2 - (c1_).toNat) (List.drop (a1 + (c1_).toNat) a0)))).length,
    FlatB (.cells (layT (rows rw_ii a0)) 27),
    FlatB (.cells (layT (rows rw_ii (((([] : List (Int × Int)) ++ (List.take (c1_).toNat (List.drop a1 a0))) ++ [(a3, a4)]) ++ (List.take (a2 - (c1_).toNat) (List.drop (a1 + (c1_).toNat) a0))))) 27)]) (by kernel_rfl) ⟨(m_viewportref23HeapPutq3_1_ok n a0 a1 a2 a3 a4 ((a2 : Nat) : Int) c1_ hc1), (rows_flat rwf_ii _ _), (slRowHiO (e := 27) (es := 2) a1 (by kernel_rfl) (by kernel_rfl) rfl rfl hc2), (rfl), (rows_rdSub rwf_ii _ a1 _ hc4), (hc3), ((by decide)), (hc6), (rfl), (fits_ok hc5 (by have := hc5; show (_ : Nat) + _ ≤ _; omega)), (rows_app rw_ii ([] : List (Int × Int)) (List.take (c1_).toNat (List.drop a1 a0))), (by simp <;> omega), ((by decide)), (rows_rd rwf_ii _ _ rfl), (fits_ok hc7 (by have := hc7; show (_ : Nat) + _ ≤ _; omega)), (rfl), (rows_cells rwf_ii _), (rows_app rw_ii (([] : List (Int × Int)) ++ (List.take (c1_).toNat (List.drop a1 a0))) [(a3, a4)]), (by simp), (slRowO (e := 27) (es := 2) a1 (by kernel_rfl) (by kernel_rfl) rfl rfl hc2), (rfl), (rows_rdSub rwf_ii _ (a1 + (c1_).toNat) _ hc9), (hc8), (rows_rd rwf_ii _ _ rfl), (fits_ok hc10 (by have := hc10; show (_ : Nat) + _ ≤ _; omega)), (rows_cells rwf_ii _), (rows_cells rwf_ii _), (rows_app rw_ii ((([] : List (Int × Int)) ++ (List.take (c1_).toNat (List.drop a1 a0))) ++ [(a3, a4)]) (List.take (a2 - (c1_).toNat) (List.drop (a1 + (c1_).toNat) a0))), (by simp <;> omega), (rows_flat rwf_ii _ _), (rows_flat rwf_ii _ _), trivial⟩
set_option maxRecDepth 100000 in
theorem p_viewportref23HeapPutq3_1 (n : Nat) (a0 : List (Int × Int)) (a1 : Nat) (a2 : Nat) (a3 : Int) (a4 : Int) (c1_ : Int) (hc1 : m_viewportref23HeapPutq3_1 n a0 a1 a2 a3 a4 ((a2 : Nat) : Int) = some c1_) (hc2 : 0 ≤ c1_ ∧ c1_ ≤ ((a2 : Nat) : Int)) (hc3 : 0 < (c1_).toNat) (hc4 : a1 + (c1_).toNat ≤ (a0).length) (hc5 : (0 + (c1_).toNat) * 16 ≤ 140737488355328) (hc6 : 0 < 0 + (c1_).toNat) (hc7 : (((([] : List (Int × Int)) ++ (List.take (c1_).toNat (List.drop a1 a0)))).length + 1) * 16 ≤ 140737488355328) (hc8 : ¬ (0 < (a2 - (c1_).toNat))) (hc9 : (((([] : List (Int × Int)) ++ (List.take (c1_).toNat (List.drop a1 a0))) ++ [(a3, a4)])).length * 16 ≤ 140737488355328) : G_viewportref23HeapPutq3 a0 a1 a2 a3 a4 ((([] : List (Int × Int)) ++ (List.take (c1_).toNat (List.drop a1 a0))) ++ [(a3, a4)]) :=
  runF_ok hm (A := aT [(19, .pur (Value.slice (some ⟨1, (a1 * 2), none⟩) (c1_).toNat (Nat.add big 2))), (20, .app ⟨some ((c1_).toNat, (rows rw_ii (List.take (c1_).toNat (List.drop a1 a0)))), ([] : List Value), (rows rw_ii (([] : List (Int × Int)) ++ (List.take (c1_).toNat (List.drop a1 a0)))), ((([] : List (Int × Int)) ++ (List.take (c1_).toNat (List.drop a1 a0)))).length, true⟩), (23, .app ⟨none, rows rw_ii (([] : List (Int × Int)) ++ (List.take (c1_).toNat (List.drop a1 a0))), (rows rw_ii ((([] : List (Int × Int)) ++ (List.take (c1_).toNat (List.drop a1 a0))) ++ [(a3, a4)])), (((([] : List (Int × Int)) ++ (List.take (c1_).toNat (List.drop a1 a0))) ++ [(a3, a4)])).length, false⟩), (29, .pur (Value.slice (some ⟨1, ((a1 + (c1_).toNat) * 2), none⟩) (a2 - (c1_).toNat) (Nat.add big 2))), (30, .app0)]) (L := lT [(11, ⟨⟨[0, 3, 4], [(0, 0, false), (1, 1, true), (2, 2, false)], 3, 2⟩, (X_viewportref23HeapPutq3_1 a0 a1 a2 a3 a4 c1_).1, (X_viewportref23HeapPutq3_1 a0 a1 a2 a3 a4 c1_).2⟩)]) (wk := ⟨[], [(0, 0, false), (1, 1, true), (2, 15, true)], 3, 0⟩)
    (ps := [CG P none (fnN P 12) 2 (codeOf P 12 [false, false, true, true]) (S_viewportref23HeapPutq3_1 a0 a1 a2 a3 a4 ((a2 : Nat) : Int)) (X_viewportref23HeapPutq3_1 a0 a1 a2 a3 a4 c1_),
    FlatB (.cells (layT (rows rw_ii a0)) 27),
    opSlice P 30 (Value.slice (some ⟨1, (a1 * 2), none⟩) a2 (Nat.add big 2)) none (some (Value.int .i64 c1_)) none Ax.h0 = some ((Value.slice (some ⟨1, (a1 * 2), none⟩) (c1_).toNat (Nat.add big 2)), Ax.h0),
    (c1_).toNat = (c1_).toNat,
    rdT (layT (rows rw_ii a0)) (Nat.mul (c1_).toNat 2) (a1 * 2) = some (rows rw_ii (List.take (c1_).toNat (List.drop a1 a0))),
    0 < (c1_).toNat,
    0 < big,
    0 < Nat.add 0 (c1_).toNat,
    rdT (layT ([] : List Value)) (Nat.mul 0 2) 0 = some (([] : List Value)),
    fits (Nat.add 0 (c1_).toNat) 16 = true,
    ([] : List Value) ++ (rows rw_ii (List.take (c1_).toNat (List.drop a1 a0))) = (rows rw_ii (([] : List (Int × Int)) ++ (List.take (c1_).toNat (List.drop a1 a0)))),
    Nat.add 0 (c1_).toNat = ((([] : List (Int × Int)) ++ (List.take (c1_).toNat (List.drop a1 a0)))).length,
    0 < 1,
    rdT (layT (rows rw_ii (([] : List (Int × Int)) ++ (List.take (c1_).toNat (List.drop a1 a0))))) (Nat.mul ((([] : List (Int × Int)) ++ (List.take (c1_).toNat (List.drop a1 a0)))).length 2) 0 = some (rows rw_ii (([] : List (Int × Int)) ++ (List.take (c1_).toNat (List.drop a1 a0)))),
    fits (Nat.add ((([] : List (Int × Int)) ++ (List.take (c1_).toNat (List.drop a1 a0)))).length 1) 16 = true,
    allCells [(Value.int .i64 a3), (Value.int .i64 a4)] = true,
    allCells (rows rw_ii (([] : List (Int × Int)) ++ (List.take (c1_).toNat (List.drop a1 a0)))) = true,
    rows rw_ii (([] : List (Int × Int)) ++ (List.take (c1_).toNat (List.drop a1 a0))) ++ [(Value.int .i64 a3), (Value.int .i64 a4)] = (rows rw_ii ((([] : List (Int × Int)) ++ (List.take (c1_).toNat (List.drop a1 a0))) ++ [(a3, a4)])),
    Nat.add ((([] : List (Int × Int)) ++ (List.take (c1_).toNat (List.drop a1 a0)))).length 1 = (((([] : List (Int × Int)) ++ (List.take (c1_).toNat (List.drop a1 a0))) ++ [(a3, a4)])).length,
    opSlice P 30 (Value.slice (some ⟨1, (a1 * 2), none⟩) a2 (Nat.add big 2)) (some (Value.int .i64 c1_)) none none Ax.h0 = some ((Value.slice (some ⟨1, ((a1 + (c1_).toNat) * 2), none⟩) (a2 - (c1_).toNat) (Nat.add big 2)), Ax.h0),
    0 = (a2 - (c1_).toNat),
    rdT (layT (rows rw_ii a0)) (Nat.mul (a2 - (c1_).toNat) 2) ((a1 + (c1_).toNat) * 2) = some [],
    ∀ H : AH, appTop H 2 27 16 (0, []) (Value.slice (some ⟨15, 0, none⟩) (((([] : List (Int × Int)) ++ (List.take (c1_).toNat (List.drop a1 a0))) ++ [(a3, a4)])).length (Nat.add big 2)) = some ((Value.slice (some ⟨15, 0, none⟩) (((([] : List (Int × Int)) ++ (List.take (c1_).toNat (List.drop a1 a0))) ++ [(a3, a4)])).length (Nat.add big 2)), H),
    FlatB (.cells (layT (rows rw_ii a0)) 27),
    FlatB (.cells (layT (rows rw_ii ((([] : List (Int × Int)) ++ (List.take (c1_).toNat (List.drop a1 a0))) ++ [(a3, a4)]))) 27)]) (by kernel_rfl) ⟨(m_viewportref23HeapPutq3_1_ok n a0 a1 a2 a3 a4 ((a2 : Nat) : Int) c1_ hc1), (rows_flat rwf_ii _ _), (slRowHiO (e := 27) (es := 2) a1 (by kernel_rfl) (by kernel_rfl) rfl rfl hc2), (rfl), (rows_rdSub rwf_ii _ a1 _ hc4), (hc3), ((by decide)), (hc6), (rfl), (fits_ok hc5 (by have := hc5; show (_ : Nat) + _ ≤ _; omega)), (rows_app rw_ii ([] : List (Int × Int)) (List.take (c1_).toNat (List.drop a1 a0))), (by simp <;> omega), ((by decide)), (rows_rd rwf_ii _ _ rfl), (fits_ok hc7 (by have := hc7; show (_ : Nat) + _ ≤ _; omega)), (rfl), (rows_cells rwf_ii _), (rows_app rw_ii (([] : List (Int × Int)) ++ (List.take (c1_).toNat (List.drop a1 a0))) [(a3, a4)]), (by simp), (slRowO (e := 27) (es := 2) a1 (by kernel_rfl) (by kernel_rfl) rfl rfl hc2), ((by have := hc8; omega)), (rdT_zero (by have := hc8; omega)), (fun H => top0 (by decide) (by have := hc9; show (_ : Nat) ≤ 1180591620717411303424 + 2; omega) H), (rows_flat rwf_ii _ _), (rows_flat rwf_ii _ _), trivial⟩
set_option maxRecDepth 100000 in
theorem p_viewportref23HeapPutq3_2 (n : Nat) (a0 : List (Int × Int)) (a1 : Nat) (a2 : Nat) (a3 : Int) (a4 : Int) (c1_ : Int) (hc1 : m_viewportref23HeapPutq3_1 n a0 a1 a2 a3 a4 ((a2 : Nat) : Int) = some c1_) (hc2 : 0 ≤ c1_ ∧ c1_ ≤ ((a2 : Nat) : Int)) (hc3 : ¬ (0 < (c1_).toNat)) (hc4 : 0 < (a2 - (c1_).toNat)) (hc5 : (a1 + (c1_).toNat) + (a2 - (c1_).toNat) ≤ (a0).length) (hc6 : (1 + (a2 - (c1_).toNat)) * 16 ≤ 140737488355328) : G_viewportref23HeapPutq3 a0 a1 a2 a3 a4 ([(a3, a4)] ++ (List.take (a2 - (c1_).toNat) (List.drop (a1 + (c1_).toNat) a0))) :=
  runF_ok hm (A := aT [(19, .pur (Value.slice (some ⟨1, (a1 * 2), none⟩) (c1_).toNat (Nat.add big 2))), (20, .app0), (29, .pur (Value.slice (some ⟨1, ((a1 + (c1_).toNat) * 2), none⟩) (a2 - (c1_).toNat) (Nat.add big 2))), (30, .app ⟨some ((a2 - (c1_).toNat), (rows rw_ii (List.take (a2 - (c1_).toNat) (List.drop (a1 + (c1_).toNat) a0)))), [(Value.int .i64 a3), (Value.int .i64 a4)], (rows rw_ii ([(a3, a4)] ++ (List.take (a2 - (c1_).toNat) (List.drop (a1 + (c1_).toNat) a0)))), (([(a3, a4)] ++ (List.take (a2 - (c1_).toNat) (List.drop (a1 + (c1_).toNat) a0)))).length, false⟩)]) (L := lT [(11, ⟨⟨[0, 3, 4], [(0, 0, false), (1, 1, true), (2, 2, false)], 3, 2⟩, (X_viewportref23HeapPutq3_1 a0 a1 a2 a3 a4 c1_).1, (X_viewportref23HeapPutq3_1 a0 a1 a2 a3 a4 c1_).2⟩)]) (wk := ⟨[], [(0, 0, false), (1, 1, true), (2, 15, true)], 3, 0⟩)
    (ps := [CG P none (fnN P 12) 2 (codeOf P 12 [false, false, true, true]) (S_viewportref23HeapPutq3_1 a0 a1 a2 a3 a4 ((a2 : Nat) : Int)) (X_viewportref23HeapPutq3_1 a0 a1 a2 a3 a4 c1_),
    FlatB (.cells (layT (rows rw_ii a0)) 27),
    opSlice P 30 (Value.slice (some ⟨1, (a1 * 2), none⟩) a2 (Nat.add big 2)) none (some (Value.int .i64 c1_)) none Ax.h0 = some ((Value.slice (some ⟨1, (a1 * 2), none⟩) (c1_).toNat (Nat.add big 2)), Ax.h0),
    0 = (c1_).toNat,
    rdT (layT (rows rw_ii a0)) (Nat.mul (c1_).toNat 2) (a1 * 2) = some [],
    ∀ H : AH, appTop H 2 27 16 (0, []) (Value.slice (some ⟨4, 0, none⟩) 0 0) = some ((Value.slice (some ⟨4, 0, none⟩) 0 0), H),
    opSlice P 30 (Value.slice (some ⟨1, (a1 * 2), none⟩) a2 (Nat.add big 2)) (some (Value.int .i64 c1_)) none none Ax.h0 = some ((Value.slice (some ⟨1, ((a1 + (c1_).toNat) * 2), none⟩) (a2 - (c1_).toNat) (Nat.add big 2)), Ax.h0),
    (a2 - (c1_).toNat) = (a2 - (c1_).toNat),
    rdT (layT (rows rw_ii a0)) (Nat.mul (a2 - (c1_).toNat) 2) ((a1 + (c1_).toNat) * 2) = some (rows rw_ii (List.take (a2 - (c1_).toNat) (List.drop (a1 + (c1_).toNat) a0))),
    0 < (a2 - (c1_).toNat),
    rdT (layT [(Value.int .i64 a3), (Value.int .i64 a4)]) (Nat.mul 1 2) 0 = some ([(Value.int .i64 a3), (Value.int .i64 a4)]),
    fits (Nat.add 1 (a2 - (c1_).toNat)) 16 = true,
    allCells (rows rw_ii (List.take (a2 - (c1_).toNat) (List.drop (a1 + (c1_).toNat) a0))) = true,
    allCells ([(Value.int .i64 a3), (Value.int .i64 a4)]) = true,
    [(Value.int .i64 a3), (Value.int .i64 a4)] ++ (rows rw_ii (List.take (a2 - (c1_).toNat) (List.drop (a1 + (c1_).toNat) a0))) = (rows rw_ii ([(a3, a4)] ++ (List.take (a2 - (c1_).toNat) (List.drop (a1 + (c1_).toNat) a0)))),
    Nat.add 1 (a2 - (c1_).toNat) = (([(a3, a4)] ++ (List.take (a2 - (c1_).toNat) (List.drop (a1 + (c1_).toNat) a0)))).length,
    FlatB (.cells (layT (rows rw_ii a0)) 27),
    FlatB (.cells (layT (rows rw_ii ([(a3, a4)] ++ (List.take (a2 - (c1_).toNat) (List.drop (a1 + (c1_).toNat) a0))))) 27)]) (by kernel_rfl) ⟨(m_viewportref23HeapPutq3_1_ok n a0 a1 a2 a3 a4 ((a2 : Nat) : Int) c1_ hc1), (rows_flat rwf_ii _ _), (slRowHiO (e := 27) (es := 2) a1 (by kernel_rfl) (by kernel_rfl) rfl rfl hc2), ((by have := hc3; omega)), (rdT_zero (by have := hc3; omega)), (fun _ => rfl), (slRowO (e := 27) (es := 2) a1 (by kernel_rfl) (by kernel_rfl) rfl rfl hc2), (rfl), (rows_rdSub rwf_ii _ (a1 + (c1_).toNat) _ hc5), (hc4), (rfl), (fits_ok hc6 (by have := hc6; show (_ : Nat) + _ ≤ _; omega)), (rows_cells rwf_ii _), (rfl), (rows_app rw_ii [(a3, a4)] (List.take (a2 - (c1_).toNat) (List.drop (a1 + (c1_).toNat) a0))), (by simp <;> omega), (rows_flat rwf_ii _ _), (rows_flat rwf_ii _ _), trivial⟩
set_option maxRecDepth 100000 in
theorem p_viewportref23HeapPutq3_3 (n : Nat) (a0 : List (Int × Int)) (a1 : Nat) (a2 : Nat) (a3 : Int) (a4 : Int) (c1_ : Int) (hc1 : m_viewportref23HeapPutq3_1 n a0 a1 a2 a3 a4 ((a2 : Nat) : Int) = some c1_) (hc2 : 0 ≤ c1_ ∧ c1_ ≤ ((a2 : Nat) : Int)) (hc3 : ¬ (0 < (c1_).toNat)) (hc4 : ¬ (0 < (a2 - (c1_).toNat))) (hc5 : 1 * 16 ≤ 140737488355328) : G_viewportref23HeapPutq3 a0 a1 a2 a3 a4 [(a3, a4)] :=
  runF_ok hm (A := aT [(19, .pur (Value.slice (some ⟨1, (a1 * 2), none⟩) (c1_).toNat (Nat.add big 2))), (20, .app0), (29, .pur (Value.slice (some ⟨1, ((a1 + (c1_).toNat) * 2), none⟩) (a2 - (c1_).toNat) (Nat.add big 2))), (30, .app0)]) (L := lT [(11, ⟨⟨[0, 3, 4], [(0, 0, false), (1, 1, true), (2, 2, false)], 3, 2⟩, (X_viewportref23HeapPutq3_1 a0 a1 a2 a3 a4 c1_).1, (X_viewportref23HeapPutq3_1 a0 a1 a2 a3 a4 c1_).2⟩)]) (wk := ⟨[], [(0, 0, false), (1, 1, true), (2, 14, false)], 3, 0⟩)
    (ps := [CG P none (fnN P 12) 2 (codeOf P 12 [false, false, true, true]) (S_viewportref23HeapPutq3_1 a0 a1 a2 a3 a4 ((a2 : Nat) : Int)) (X_viewportref23HeapPutq3_1 a0 a1 a2 a3 a4 c1_),
    FlatB (.cells (layT (rows rw_ii a0)) 27),
    opSlice P 30 (Value.slice (some ⟨1, (a1 * 2), none⟩) a2 (Nat.add big 2)) none (some (Value.int .i64 c1_)) none Ax.h0 = some ((Value.slice (some ⟨1, (a1 * 2), none⟩) (c1_).toNat (Nat.add big 2)), Ax.h0),
    0 = (c1_).toNat,
    rdT (layT (rows rw_ii a0)) (Nat.mul (c1_).toNat 2) (a1 * 2) = some [],
    ∀ H : AH, appTop H 2 27 16 (0, []) (Value.slice (some ⟨4, 0, none⟩) 0 0) = some ((Value.slice (some ⟨4, 0, none⟩) 0 0), H),
    opSlice P 30 (Value.slice (some ⟨1, (a1 * 2), none⟩) a2 (Nat.add big 2)) (some (Value.int .i64 c1_)) none none Ax.h0 = some ((Value.slice (some ⟨1, ((a1 + (c1_).toNat) * 2), none⟩) (a2 - (c1_).toNat) (Nat.add big 2)), Ax.h0),
    0 = (a2 - (c1_).toNat),
    rdT (layT (rows rw_ii a0)) (Nat.mul (a2 - (c1_).toNat) 2) ((a1 + (c1_).toNat) * 2) = some [],
    ∀ H : AH, appTop H 2 27 16 (0, []) (Value.slice (some ⟨14, 0, none⟩) 1 (Nat.add big 2)) = some ((Value.slice (some ⟨14, 0, none⟩) 1 (Nat.add big 2)), H),
    FlatB (.cells (layT (rows rw_ii a0)) 27)]) (by kernel_rfl) ⟨(m_viewportref23HeapPutq3_1_ok n a0 a1 a2 a3 a4 ((a2 : Nat) : Int) c1_ hc1), (rows_flat rwf_ii _ _), (slRowHiO (e := 27) (es := 2) a1 (by kernel_rfl) (by kernel_rfl) rfl rfl hc2), ((by have := hc3; omega)), (rdT_zero (by have := hc3; omega)), (fun _ => rfl), (slRowO (e := 27) (es := 2) a1 (by kernel_rfl) (by kernel_rfl) rfl rfl hc2), ((by have := hc4; omega)), (rdT_zero (by have := hc4; omega)), (fun H => top0 (by decide) (by have := hc5; show (_ : Nat) ≤ 1180591620717411303424 + 2; omega) H), (rows_flat rwf_ii _ _), trivial⟩
theorem m_viewportref23HeapPutq3_ok (n : Nat) (a0 : List (Int × Int)) (a1 : Nat) (a2 : Nat) (a3 : Int) (a4 : Int) (r : List (Int × Int)) (h : m_viewportref23HeapPutq3 n a0 a1 a2 a3 a4 = some r) : G_viewportref23HeapPutq3 a0 a1 a2 a3 a4 r := by
  unfold m_viewportref23HeapPutq3 at h
  obtain ⟨c1_, hc1, h⟩ := Option.bind_eq_some_iff.1 h
  by_cases hc2 : 0 ≤ c1_ ∧ c1_ ≤ ((a2 : Nat) : Int)
  · rw [if_pos hc2] at h
    by_cases hc3 : 0 < (c1_).toNat
    · rw [if_pos hc3] at h
      by_cases hc4 : a1 + (c1_).toNat ≤ (a0).length
      · rw [if_pos hc4] at h
        by_cases hc5 : (0 + (c1_).toNat) * 16 ≤ 140737488355328
        · rw [if_pos hc5] at h
          by_cases hc6 : 0 < 0 + (c1_).toNat
          · rw [if_pos hc6] at h
            by_cases hc7 : (((([] : List (Int × Int)) ++ (List.take (c1_).toNat (List.drop a1 a0)))).length + 1) * 16 ≤ 140737488355328
            · rw [if_pos hc7] at h
              by_cases hc8 : 0 < (a2 - (c1_).toNat)
              · rw [if_pos hc8] at h
                by_cases hc9 : (a1 + (c1_).toNat) + (a2 - (c1_).toNat) ≤ (a0).length
                · rw [if_pos hc9] at h
                  by_cases hc10 : ((((([] : List (Int × Int)) ++ (List.take (c1_).toNat (List.drop a1 a0))) ++ [(a3, a4)])).length + (a2 - (c1_).toNat)) * 16 ≤ 140737488355328
                  · rw [if_pos hc10] at h
                    obtain rfl := Option.some.inj h; exact p_viewportref23HeapPutq3_0 n a0 a1 a2 a3 a4 c1_ hc1 hc2 hc3 hc4 hc5 hc6 hc7 hc8 hc9 hc10
                  · rw [if_neg hc10] at h; cases h
                · rw [if_neg hc9] at h; cases h
              · rw [if_neg hc8] at h
                by_cases hc9 : (((([] : List (Int × Int)) ++ (List.take (c1_).toNat (List.drop a1 a0))) ++ [(a3, a4)])).length * 16 ≤ 140737488355328
                · rw [if_pos hc9] at h
                  obtain rfl := Option.some.inj h; exact p_viewportref23HeapPutq3_1 n a0 a1 a2 a3 a4 c1_ hc1 hc2 hc3 hc4 hc5 hc6 hc7 hc8 hc9
                · rw [if_neg hc9] at h; cases h
            · rw [if_neg hc7] at h; cases h
          · rw [if_neg hc6] at h; cases h
        · rw [if_neg hc5] at h; cases h
      · rw [if_neg hc4] at h; cases h
    · rw [if_neg hc3] at h
      by_cases hc4 : 0 < (a2 - (c1_).toNat)
      · rw [if_pos hc4] at h
        by_cases hc5 : (a1 + (c1_).toNat) + (a2 - (c1_).toNat) ≤ (a0).length
        · rw [if_pos hc5] at h
          by_cases hc6 : (1 + (a2 - (c1_).toNat)) * 16 ≤ 140737488355328
          · rw [if_pos hc6] at h
            obtain rfl := Option.some.inj h; exact p_viewportref23HeapPutq3_2 n a0 a1 a2 a3 a4 c1_ hc1 hc2 hc3 hc4 hc5 hc6
          · rw [if_neg hc6] at h; cases h
        · rw [if_neg hc5] at h; cases h
      · rw [if_neg hc4] at h
        by_cases hc5 : 1 * 16 ≤ 140737488355328
        · rw [if_pos hc5] at h
          obtain rfl := Option.some.inj h; exact p_viewportref23HeapPutq3_3 n a0 a1 a2 a3 a4 c1_ hc1 hc2 hc3 hc4 hc5
        · rw [if_neg hc5] at h; cases h
  · rw [if_neg hc2] at h; cases h

noncomputable def A_heapHeapviewportlaw23itemLeastq3 (a0 : List (Int × Int × Int)) (a1 : Nat) (a2 : Int) : List Value := [(Value.pointer (some ⟨0, 0, none⟩))]
noncomputable def H_heapHeapviewportlaw23itemLeastq3 (a0 : List (Int × Int × Int)) (a1 : Nat) (a2 : Int) : AH := ⟨sB [(0, (some (.cells (layT [(Value.pointer (some ⟨0, 0, none⟩)), (Value.func (.func 8) #[] #[]), (Value.slice (some ⟨1, 0, none⟩) a1 (Nat.add big 3)), (Value.int .i64 a2)]) 51))), (1, (some (.cells (layT (rows rw_iii a0)) 55)))], 2, 2⟩
noncomputable def V_heapHeapviewportlaw23itemLeastq3 (a0 : List (Int × Int × Int)) (a1 : Nat) (a2 : Int) (r : Int × Int × Bool) : Value := match r with
  | (o0, o1, o2) => (Value.tuple #[(Value.agg #[(Value.int .i64 o0), (Value.int .i64 o1)]), (Value.bool o2)])
noncomputable def R_heapHeapviewportlaw23itemLeastq3 (a0 : List (Int × Int × Int)) (a1 : Nat) (a2 : Int) (r : Int × Int × Bool) : AH := match r with
  | (o0, o1, o2) => ⟨sB [(2, (some (.cells (layT [(Value.int .i64 o0), (Value.int .i64 o1)]) 27)))], 3, 2⟩
noncomputable abbrev G_heapHeapviewportlaw23itemLeastq3 (a0 : List (Int × Int × Int)) (a1 : Nat) (a2 : Int) (r : Int × Int × Bool) : Prop := Gv P (.func 15) (A_heapHeapviewportlaw23itemLeastq3 a0 a1 a2) (H_heapHeapviewportlaw23itemLeastq3 a0 a1 a2) (V_heapHeapviewportlaw23itemLeastq3 a0 a1 a2 r) (R_heapHeapviewportlaw23itemLeastq3 a0 a1 a2 r)
def m_heapHeapviewportlaw23itemLeastq3 (n : Nat) (a0 : List (Int × Int × Int)) (a1 : Nat) (a2 : Int) : Option (Int × Int × Bool) :=
  (m_heapHeapviewportlaw23itemLenq3 n a0 a1 a2).bind fun _ =>
  if ((a1 : Nat) : Int) = (0 : Int) then
    some (0, 0, false)
  else
    if 0 ≤ (0 : Int) ∧ (0 : Int) < ((a1 : Nat) : Int) then
      if ((0 : Int)).toNat < (a0).length then
        some ((((a0).getD ((0 : Int)).toNat (0, 0, 0)).2.1), (((a0).getD ((0 : Int)).toNat (0, 0, 0)).2.2), true)
      else none
    else none
set_option maxRecDepth 100000 in
theorem p_heapHeapviewportlaw23itemLeastq3_0 (n : Nat) (a0 : List (Int × Int × Int)) (a1 : Nat) (a2 : Int) (hc1 : m_heapHeapviewportlaw23itemLenq3 n a0 a1 a2 = some ()) (hc2 : ((a1 : Nat) : Int) = (0 : Int)) : G_heapHeapviewportlaw23itemLeastq3 a0 a1 a2 (0, 0, false) :=
  runF_ok hm (A := aT [(6, .call ⟨2, [(0, 0, false), (1, 1, true)], (V_heapHeapviewportlaw23itemLenq3 a0 a1 a2 ()), (R_heapHeapviewportlaw23itemLenq3 a0 a1 a2 ()), []⟩), (7, .val (.bool true))]) (L := lT []) (wk := ⟨[2, 3], [(2, 2, false)], 3, 2⟩)
    (ps := [G_heapHeapviewportlaw23itemLenq3 a0 a1 a2 (),
    FlatB (.cells (layT (rows rw_iii a0)) 55),
    (Value.bool (((a1 : Nat) : Int) == (0 : Int))) = (Value.bool true)]) (by kernel_rfl) ⟨(m_heapHeapviewportlaw23itemLenq3_ok n a0 a1 a2 () hc1), (rows_flat rwf_iii _ _), (veT hc2), trivial⟩
set_option maxRecDepth 100000 in
theorem p_heapHeapviewportlaw23itemLeastq3_1 (n : Nat) (a0 : List (Int × Int × Int)) (a1 : Nat) (a2 : Int) (hc1 : m_heapHeapviewportlaw23itemLenq3 n a0 a1 a2 = some ()) (hc2 : ¬ (((a1 : Nat) : Int) = (0 : Int))) (hc3 : 0 ≤ (0 : Int) ∧ (0 : Int) < ((a1 : Nat) : Int)) (hc4 : ((0 : Int)).toNat < (a0).length) : G_heapHeapviewportlaw23itemLeastq3 a0 a1 a2 ((((a0).getD ((0 : Int)).toNat (0, 0, 0)).2.1), (((a0).getD ((0 : Int)).toNat (0, 0, 0)).2.2), true) :=
  runF_ok hm (A := aT [(6, .call ⟨2, [(0, 0, false), (1, 1, true)], (V_heapHeapviewportlaw23itemLenq3 a0 a1 a2 ()), (R_heapHeapviewportlaw23itemLenq3 a0 a1 a2 ()), []⟩), (7, .val (.bool false)), (14, .pur (Value.pointer (some ⟨1, (((0 : Int)).toNat * 3), none⟩))), (16, .ld (Value.agg #[(Value.int .i64 (((a0).getD ((0 : Int)).toNat (0, 0, 0)).2.1)), (Value.int .i64 (((a0).getD ((0 : Int)).toNat (0, 0, 0)).2.2))]))]) (L := lT []) (wk := ⟨[2, 3], [(2, 2, false)], 3, 2⟩)
    (ps := [G_heapHeapviewportlaw23itemLenq3 a0 a1 a2 (),
    FlatB (.cells (layT (rows rw_iii a0)) 55),
    (Value.bool (((a1 : Nat) : Int) == (0 : Int))) = (Value.bool false),
    opIndexAddr P 49 (Value.slice (some ⟨1, 0, none⟩) a1 (Nat.add big 3)) (Value.int .i64 (0 : Int)) Ax.h0 = some ((Value.pointer (some ⟨1, (((0 : Int)).toNat * 3), none⟩)), Ax.h0),
    rdT (layT (rows rw_iii a0)) 2 (Nat.add (((0 : Int)).toNat * 3) 1) = some [(Value.int .i64 (((a0).getD ((0 : Int)).toNat (0, 0, 0)).2.1)), (Value.int .i64 (((a0).getD ((0 : Int)).toNat (0, 0, 0)).2.2))]]) (by kernel_rfl) ⟨(m_heapHeapviewportlaw23itemLenq3_ok n a0 a1 a2 () hc1), (rows_flat rwf_iii _ _), (veF hc2), (ixS (e := 55) (by kernel_rfl) (by kernel_rfl) (hc3).1 (hc3).2), (rows_rdp rwf_iii (0, 0, 0) (i := ((0 : Int)).toNat) (j := 1) (Nat.add (((0 : Int)).toNat * 3) 1) rfl (hc4) (by decide) rfl), trivial⟩
theorem m_heapHeapviewportlaw23itemLeastq3_ok (n : Nat) (a0 : List (Int × Int × Int)) (a1 : Nat) (a2 : Int) (r : Int × Int × Bool) (h : m_heapHeapviewportlaw23itemLeastq3 n a0 a1 a2 = some r) : G_heapHeapviewportlaw23itemLeastq3 a0 a1 a2 r := by
  unfold m_heapHeapviewportlaw23itemLeastq3 at h
  obtain ⟨_, hc1, h⟩ := Option.bind_eq_some_iff.1 h
  by_cases hc2 : ((a1 : Nat) : Int) = (0 : Int)
  · rw [if_pos hc2] at h
    obtain rfl := Option.some.inj h; exact p_heapHeapviewportlaw23itemLeastq3_0 n a0 a1 a2 hc1 hc2
  · rw [if_neg hc2] at h
    by_cases hc3 : 0 ≤ (0 : Int) ∧ (0 : Int) < ((a1 : Nat) : Int)
    · rw [if_pos hc3] at h
      by_cases hc4 : ((0 : Int)).toNat < (a0).length
      · rw [if_pos hc4] at h
        obtain rfl := Option.some.inj h; exact p_heapHeapviewportlaw23itemLeastq3_1 n a0 a1 a2 hc1 hc2 hc3 hc4
      · rw [if_neg hc4] at h; cases h
    · rw [if_neg hc3] at h; cases h


end Go.Proofs.Ytnfndhblfpaphaa.hsw
