/-
  What functions do, told by pure functions. No condition.
-/
import Derived.Test.YtpbcnplpaibjnaaHsoLives
set_option linter.unusedSimpArgs false
set_option linter.unusedVariables false
set_option linter.unusedSectionVars false
set_option linter.unnecessarySimpa false
namespace Go.Proofs.Ytpbcnplpaibjnaa.hsow
open Go Go.Proofs.Ytpbcnplpaibjnaa Ax
variable [Args]
def rw_ii (x : Int × Int) : List Value := [Value.int .i64 (x.1), Value.int .i64 (x.2)]
theorem rwf_ii : RowF rw_ii 2 := ⟨fun _ => rfl, fun a v h => by
  simp only [rw_ii, List.mem_cons, List.not_mem_nil, or_false] at h
  rcases h with rfl | rfl <;> rfl, fun _ => rfl⟩
def rw_iii (x : Int × Int × Int) : List Value := [Value.int .i64 (x.1), Value.int .i64 (x.2.1), Value.int .i64 (x.2.2)]
theorem rwf_iii : RowF rw_iii 3 := ⟨fun _ => rfl, fun a v h => by
  simp only [rw_iii, List.mem_cons, List.not_mem_nil, or_false] at h
  rcases h with rfl | rfl | rfl <;> rfl, fun _ => rfl⟩
abbrev xp1 (b n k : Nat) (i : Int) : Prop := IA P 22 (sW b 0 n k) i (pW b i.toNat)
theorem xk1 (b k : Nat) {n : Nat} {i : Int} (h : 0 ≤ i ∧ i < (n : Int)) : OB (.pur (pW b i.toNat)) (xp1 b n k i) := ⟨ixW1 (e := 3) (by kernel_rfl) (by kernel_rfl) h⟩
abbrev xp2 (b n k : Nat) (i : Int) : Prop := IA P 38 (sN b 0 n k) i (pN b (i.toNat * 3))
theorem xk2 (b k : Nat) {n : Nat} {i : Int} (h : 0 ≤ i ∧ i < (n : Int)) : OB (.pur (pN b (i.toNat * 3))) (xp2 b n k i) := ⟨ixS (e := 44) (by kernel_rfl) (by kernel_rfl) h.1 h.2⟩
abbrev xp3 (b n k : Nat) (i : Int) : Prop := IA P 32 (sN b 0 n k) i (pN b (i.toNat * 2))
theorem xk3 (b k : Nat) {n : Nat} {i : Int} (h : 0 ≤ i ∧ i < (n : Int)) : OB (.pur (pN b (i.toNat * 2))) (xp3 b n k i) := ⟨ixS (e := 27) (by kernel_rfl) (by kernel_rfl) h.1 h.2⟩

def m_viewportlaw23lives (n : Nat) : Option Unit := some ()
theorem m_viewportlaw23lives_ok (n : Nat) (r : Unit) (h : m_viewportlaw23lives n = some r) : Gv P (.func 4) [] Ax.h0 (.bool true) Ax.h0 := lives_gv

noncomputable def A_heapNewviewportref23Itemq1 : List Value := [(Value.func (.func 6) #[] #[])]
noncomputable def H_heapNewviewportref23Itemq1 : AH := ⟨sB [], 0, 0⟩
noncomputable def V_heapNewviewportref23Itemq1 (r : Unit) : Value := match r with
  | _ => (pN 0 0)
noncomputable def R_heapNewviewportref23Itemq1 (r : Unit) : AH := match r with
  | _ => ⟨sB [(0, (some (.cells (layT [(pN 0 0), (Value.func (.func 6) #[] #[]), (Value.slice none 0 0), (i6 (0 : Int))]) 40)))], 1, 0⟩
noncomputable abbrev G_heapNewviewportref23Itemq1 (r : Unit) : Prop := Gv P (.func 5) A_heapNewviewportref23Itemq1 H_heapNewviewportref23Itemq1 (V_heapNewviewportref23Itemq1  r) (R_heapNewviewportref23Itemq1  r)
noncomputable abbrev C_heapNewviewportref23Itemq1 (r : Unit) (ins outs : BL) : CallA := ⟨0, ins, V_heapNewviewportref23Itemq1  r, R_heapNewviewportref23Itemq1  r, outs⟩
def m_heapNewviewportref23Itemq1 (n : Nat) : Option (Unit) :=
  some ()
set_option maxRecDepth 100000 in
theorem p_heapNewviewportref23Itemq1_0 (n : Nat)  : G_heapNewviewportref23Itemq1  () :=
  runF2 hm (L := lT []) ⟨[2], [(0, 0, false)], 1, 0⟩ (ee) (by kernel_rfl)
theorem m_heapNewviewportref23Itemq1_ok (n : Nat) (r : Unit) (h : m_heapNewviewportref23Itemq1 n = some r) : Gv P (.func 5) A_heapNewviewportref23Itemq1 H_heapNewviewportref23Itemq1 (V_heapNewviewportref23Itemq1  r) (R_heapNewviewportref23Itemq1  r) := by
  unfold m_heapNewviewportref23Itemq1 at h
  obtain rfl := Option.some.inj h; exact p_heapNewviewportref23Itemq1_0 n

noncomputable def A_viewportlaw23oneq1 (a0 : Int) (a1 : Int) : List Value := [(i6 a0), (i6 a1)]
noncomputable def H_viewportlaw23oneq1 (a0 : Int) (a1 : Int) : AH := ⟨sB [], 0, 0⟩
noncomputable def V_viewportlaw23oneq1 (a0 : Int) (a1 : Int) (r : Unit) : Value := match r with
  | _ => (Value.agg #[(i6 a0), (i6 a1)])
noncomputable def R_viewportlaw23oneq1 (a0 : Int) (a1 : Int) (r : Unit) : AH := match r with
  | _ => ⟨sB [(0, (some (.cells (layT [(i6 a0), (i6 a1)]) 27)))], 1, 0⟩
noncomputable abbrev G_viewportlaw23oneq1 (a0 : Int) (a1 : Int) (r : Unit) : Prop := Gv P (.func 8) (A_viewportlaw23oneq1 a0 a1) (H_viewportlaw23oneq1 a0 a1) (V_viewportlaw23oneq1 a0 a1 r) (R_viewportlaw23oneq1 a0 a1 r)
noncomputable abbrev C_viewportlaw23oneq1 (a0 : Int) (a1 : Int) (r : Unit) (ins outs : BL) : CallA := ⟨0, ins, V_viewportlaw23oneq1 a0 a1 r, R_viewportlaw23oneq1 a0 a1 r, outs⟩
def m_viewportlaw23oneq1 (n : Nat) (a0 : Int) (a1 : Int) : Option (Unit) :=
  some ()
set_option maxRecDepth 100000 in
theorem p_viewportlaw23oneq1_0 (n : Nat) (a0 a1 : Int) : G_viewportlaw23oneq1 a0 a1 () :=
  runF2 hm (L := lT []) ⟨[4], [(0, 0, false)], 1, 0⟩ (ee) (by kernel_rfl)
theorem m_viewportlaw23oneq1_ok (n : Nat) (a0 : Int) (a1 : Int) (r : Unit) (h : m_viewportlaw23oneq1 n a0 a1 = some r) : Gv P (.func 8) (A_viewportlaw23oneq1 a0 a1) (H_viewportlaw23oneq1 a0 a1) (V_viewportlaw23oneq1 a0 a1 r) (R_viewportlaw23oneq1 a0 a1 r) := by
  unfold m_viewportlaw23oneq1 at h
  obtain rfl := Option.some.inj h; exact p_viewportlaw23oneq1_0 n a0 a1

noncomputable def A_heapHeapviewportlaw23itemvalidq1 (a0 : Int) : List Value := [(pN 0 0)]
noncomputable def H_heapHeapviewportlaw23itemvalidq1 (a0 : Int) : AH := ⟨sB [(0, (some (.cells (layT [(pN 0 0), (Value.func (.func 6) #[] #[]), (Value.slice none 0 0), (i6 a0)]) 40)))], 1, 1⟩
noncomputable def V_heapHeapviewportlaw23itemvalidq1 (a0 : Int) (r : Unit) : Value := match r with
  | _ => (bO true)
noncomputable def R_heapHeapviewportlaw23itemvalidq1 (a0 : Int) (r : Unit) : AH := match r with
  | _ => ⟨sB [], 1, 1⟩
noncomputable abbrev G_heapHeapviewportlaw23itemvalidq1 (a0 : Int) (r : Unit) : Prop := Gv P (.func 12) (A_heapHeapviewportlaw23itemvalidq1 a0) (H_heapHeapviewportlaw23itemvalidq1 a0) (V_heapHeapviewportlaw23itemvalidq1 a0 r) (R_heapHeapviewportlaw23itemvalidq1 a0 r)
noncomputable abbrev C_heapHeapviewportlaw23itemvalidq1 (a0 : Int) (r : Unit) (ins outs : BL) : CallA := ⟨1, ins, V_heapHeapviewportlaw23itemvalidq1 a0 r, R_heapHeapviewportlaw23itemvalidq1 a0 r, outs⟩
def m_heapHeapviewportlaw23itemvalidq1 (n : Nat) (a0 : Int) : Option (Unit) :=
  some ()
set_option maxRecDepth 100000 in
theorem p_heapHeapviewportlaw23itemvalidq1_0 (n : Nat) (a0 : Int) : G_heapHeapviewportlaw23itemvalidq1 a0 () :=
  runF2 hm (L := lT []) ⟨[2], [], 1, 1⟩ (ee) (by kernel_rfl)
theorem m_heapHeapviewportlaw23itemvalidq1_ok (n : Nat) (a0 : Int) (r : Unit) (h : m_heapHeapviewportlaw23itemvalidq1 n a0 = some r) : Gv P (.func 12) (A_heapHeapviewportlaw23itemvalidq1 a0) (H_heapHeapviewportlaw23itemvalidq1 a0) (V_heapHeapviewportlaw23itemvalidq1 a0 r) (R_heapHeapviewportlaw23itemvalidq1 a0 r) := by
  unfold m_heapHeapviewportlaw23itemvalidq1 at h
  obtain rfl := Option.some.inj h; exact p_heapHeapviewportlaw23itemvalidq1_0 n a0

noncomputable def A_viewportlaw23byKeyq1 (a0 : Int) (a1 : Int) (a2 : Int) (a3 : Int) : List Value := [(Value.agg #[(i6 a0), (i6 a1)]), (Value.agg #[(i6 a2), (i6 a3)])]
noncomputable def H_viewportlaw23byKeyq1 (a0 : Int) (a1 : Int) (a2 : Int) (a3 : Int) : AH := ⟨sB [], 0, 0⟩
noncomputable def V_viewportlaw23byKeyq1 (a0 : Int) (a1 : Int) (a2 : Int) (a3 : Int) (r : Int) : Value := match r with
  | o0 => (i6 o0)
noncomputable def R_viewportlaw23byKeyq1 (a0 : Int) (a1 : Int) (a2 : Int) (a3 : Int) (r : Int) : AH := match r with
  | o0 => ⟨sB [], 0, 0⟩
noncomputable abbrev G_viewportlaw23byKeyq1 (a0 : Int) (a1 : Int) (a2 : Int) (a3 : Int) (r : Int) : Prop := Gv P (.func 6) (A_viewportlaw23byKeyq1 a0 a1 a2 a3) (H_viewportlaw23byKeyq1 a0 a1 a2 a3) (V_viewportlaw23byKeyq1 a0 a1 a2 a3 r) (R_viewportlaw23byKeyq1 a0 a1 a2 a3 r)
noncomputable abbrev C_viewportlaw23byKeyq1 (a0 : Int) (a1 : Int) (a2 : Int) (a3 : Int) (r : Int) (ins outs : BL) : CallA := ⟨0, ins, V_viewportlaw23byKeyq1 a0 a1 a2 a3 r, R_viewportlaw23byKeyq1 a0 a1 a2 a3 r, outs⟩
def m_viewportlaw23byKeyq1 (n : Nat) (a0 : Int) (a1 : Int) (a2 : Int) (a3 : Int) : Option (Int) :=
  if a0 < a2 then
    some (-1)
  else
    if a0 > a2 then
      some 1
    else
      some 0
set_option maxRecDepth 100000 in
theorem p_viewportlaw23byKeyq1_0 (n : Nat) (a0 a1 a2 a3 : Int) (hc1 : a0 < a2) : G_viewportlaw23byKeyq1 a0 a1 a2 a3 (-1) :=
  runF2 hm (L := lT []) ⟨[4], [], 0, 0⟩ (zz 11 (xdT hc1) <|
ee) (by kernel_rfl)
set_option maxRecDepth 100000 in
theorem p_viewportlaw23byKeyq1_1 (n : Nat) (a0 a1 a2 a3 : Int) (hc1 : ¬ (a0 < a2)) (hc2 : a0 > a2) : G_viewportlaw23byKeyq1 a0 a1 a2 a3 1 :=
  runF2 hm (L := lT []) ⟨[4], [], 0, 0⟩ (zz 11 (xdF hc1) <|
zz 19 (xdT hc2) <|
ee) (by kernel_rfl)
set_option maxRecDepth 100000 in
theorem p_viewportlaw23byKeyq1_2 (n : Nat) (a0 a1 a2 a3 : Int) (hc1 : ¬ (a0 < a2)) (hc2 : ¬ (a0 > a2)) : G_viewportlaw23byKeyq1 a0 a1 a2 a3 0 :=
  runF2 hm (L := lT []) ⟨[4], [], 0, 0⟩ (zz 11 (xdF hc1) <|
zz 19 (xdF hc2) <|
ee) (by kernel_rfl)
theorem m_viewportlaw23byKeyq1_ok (n : Nat) (a0 : Int) (a1 : Int) (a2 : Int) (a3 : Int) (r : Int) (h : m_viewportlaw23byKeyq1 n a0 a1 a2 a3 = some r) : Gv P (.func 6) (A_viewportlaw23byKeyq1 a0 a1 a2 a3) (H_viewportlaw23byKeyq1 a0 a1 a2 a3) (V_viewportlaw23byKeyq1 a0 a1 a2 a3 r) (R_viewportlaw23byKeyq1 a0 a1 a2 a3 r) := by
  unfold m_viewportlaw23byKeyq1 at h
  by_cases hc1 : a0 < a2
  · rw [if_pos hc1] at h
    obtain rfl := Option.some.inj h; exact p_viewportlaw23byKeyq1_0 n a0 a1 a2 a3 hc1
  · rw [if_neg hc1] at h
    by_cases hc2 : a0 > a2
    · rw [if_pos hc2] at h
      obtain rfl := Option.some.inj h; exact p_viewportlaw23byKeyq1_1 n a0 a1 a2 a3 hc1 hc2
    · rw [if_neg hc2] at h
      obtain rfl := Option.some.inj h; exact p_viewportlaw23byKeyq1_2 n a0 a1 a2 a3 hc1 hc2

noncomputable def A_heapHeapviewportlaw23itembeforeq1 (a0 : List (Int × Int × Int)) (a1 : Int) (a2 : Int) (a3 : Int) : List Value := [(pN 0 0), (i6 a2), (i6 a3)]
noncomputable def H_heapHeapviewportlaw23itembeforeq1 (a0 : List (Int × Int × Int)) (a1 : Int) (a2 : Int) (a3 : Int) : AH := ⟨sB [(0, (some (.cells (layT [(pN 0 0), (Value.func (.func 6) #[] #[]), (sN 1 0 (a0).length (Nat.add big 3)), (i6 a1)]) 40))), (1, (some (.cells (layT (rows rw_iii a0)) 44)))], 2, 2⟩
noncomputable def V_heapHeapviewportlaw23itembeforeq1 (a0 : List (Int × Int × Int)) (a1 : Int) (a2 : Int) (a3 : Int) (r : Bool) : Value := match r with
  | o0 => (bO o0)
noncomputable def R_heapHeapviewportlaw23itembeforeq1 (a0 : List (Int × Int × Int)) (a1 : Int) (a2 : Int) (a3 : Int) (r : Bool) : AH := match r with
  | o0 => ⟨sB [], 2, 2⟩
noncomputable abbrev G_heapHeapviewportlaw23itembeforeq1 (a0 : List (Int × Int × Int)) (a1 : Int) (a2 : Int) (a3 : Int) (r : Bool) : Prop := Gv P (.func 16) (A_heapHeapviewportlaw23itembeforeq1 a0 a1 a2 a3) (H_heapHeapviewportlaw23itembeforeq1 a0 a1 a2 a3) (V_heapHeapviewportlaw23itembeforeq1 a0 a1 a2 a3 r) (R_heapHeapviewportlaw23itembeforeq1 a0 a1 a2 a3 r)
noncomputable abbrev C_heapHeapviewportlaw23itembeforeq1 (a0 : List (Int × Int × Int)) (a1 : Int) (a2 : Int) (a3 : Int) (r : Bool) (ins outs : BL) : CallA := ⟨2, ins, V_heapHeapviewportlaw23itembeforeq1 a0 a1 a2 a3 r, R_heapHeapviewportlaw23itembeforeq1 a0 a1 a2 a3 r, outs⟩
def m_heapHeapviewportlaw23itembeforeq1 (n : Nat) (a0 : List (Int × Int × Int)) (a1 : Int) (a2 : Int) (a3 : Int) : Option (Bool) :=
  if 0 ≤ a2 ∧ a2 < (((a0).length : Nat) : Int) then
    if 0 ≤ a3 ∧ a3 < (((a0).length : Nat) : Int) then
      (m_viewportlaw23byKeyq1 n (((a0).getD (a2).toNat (0, 0, 0)).2.1) (((a0).getD (a2).toNat (0, 0, 0)).2.2) (((a0).getD (a3).toNat (0, 0, 0)).2.1) (((a0).getD (a3).toNat (0, 0, 0)).2.2)).bind fun c3_ =>
      if c3_ = (0 : Int) then
        if (((a0).getD (a2).toNat (0, 0, 0)).1) < (((a0).getD (a3).toNat (0, 0, 0)).1) then
          some true
        else
          some false
      else
        if c3_ < (0 : Int) then
          some true
        else
          some false
    else none
  else none
set_option maxRecDepth 100000 in
theorem p_heapHeapviewportlaw23itembeforeq1_0 (n : Nat) (a0 : List (Int × Int × Int)) (a1 a2 a3 : Int) (hc1 : 0 ≤ a2 ∧ a2 < (((a0).length : Nat) : Int)) (hc2 : 0 ≤ a3 ∧ a3 < (((a0).length : Nat) : Int)) (c3_ : Int) (hc3 : m_viewportlaw23byKeyq1 n (((a0).getD (a2).toNat (0, 0, 0)).2.1) (((a0).getD (a2).toNat (0, 0, 0)).2.2) (((a0).getD (a3).toNat (0, 0, 0)).2.1) (((a0).getD (a3).toNat (0, 0, 0)).2.2) = some c3_) (hc4 : c3_ = (0 : Int)) (hc5 : (((a0).getD (a2).toNat (0, 0, 0)).1) < (((a0).getD (a3).toNat (0, 0, 0)).1)) : G_heapHeapviewportlaw23itembeforeq1 a0 a1 a2 a3 true :=
  runF2 hm (L := lT []) ⟨[6], [], 2, 2⟩ (zz 8 (xk2 1 U3 hc1) <|
yy 9 (.ld (Value.agg #[(i6 (((a0).getD (a2).toNat (0, 0, 0)).1)), (i6 (((a0).getD (a2).toNat (0, 0, 0)).2.1)), (i6 (((a0).getD (a2).toNat (0, 0, 0)).2.2))])) <|
ww (p := rdT (layT (rows rw_iii a0)) 3 ((a2).toNat * 3) = some [(i6 (((a0).getD (a2).toNat (0, 0, 0)).1)), (i6 (((a0).getD (a2).toNat (0, 0, 0)).2.1)), (i6 (((a0).getD (a2).toNat (0, 0, 0)).2.2))]) (rows_rdp rwf_iii (0, 0, 0) (i := (a2).toNat) (j := 0) ((a2).toNat * 3) rfl (toNatLt hc1) (by decide) rfl) <|
zz 15 (xk2 1 U3 hc2) <|
yy 16 (.ld (Value.agg #[(i6 (((a0).getD (a3).toNat (0, 0, 0)).1)), (i6 (((a0).getD (a3).toNat (0, 0, 0)).2.1)), (i6 (((a0).getD (a3).toNat (0, 0, 0)).2.2))])) <|
ww (p := rdT (layT (rows rw_iii a0)) 3 ((a3).toNat * 3) = some [(i6 (((a0).getD (a3).toNat (0, 0, 0)).1)), (i6 (((a0).getD (a3).toNat (0, 0, 0)).2.1)), (i6 (((a0).getD (a3).toNat (0, 0, 0)).2.2))]) (rows_rdp rwf_iii (0, 0, 0) (i := (a3).toNat) (j := 0) ((a3).toNat * 3) rfl (toNatLt hc2) (by decide) rfl) <|
yy 31 (.call (C_viewportlaw23byKeyq1 (((a0).getD (a2).toNat (0, 0, 0)).2.1) (((a0).getD (a2).toNat (0, 0, 0)).2.2) (((a0).getD (a3).toNat (0, 0, 0)).2.1) (((a0).getD (a3).toNat (0, 0, 0)).2.2) c3_ [] [])) <|
ww (m_viewportlaw23byKeyq1_ok n (((a0).getD (a2).toNat (0, 0, 0)).2.1) (((a0).getD (a2).toNat (0, 0, 0)).2.2) (((a0).getD (a3).toNat (0, 0, 0)).2.1) (((a0).getD (a3).toNat (0, 0, 0)).2.2) c3_ hc3) <|
zz 35 (xnF hc4) <|
zz 44 (xdT hc5) <|
ee) (by kernel_rfl)
set_option maxRecDepth 100000 in
theorem p_heapHeapviewportlaw23itembeforeq1_1 (n : Nat) (a0 : List (Int × Int × Int)) (a1 a2 a3 : Int) (hc1 : 0 ≤ a2 ∧ a2 < (((a0).length : Nat) : Int)) (hc2 : 0 ≤ a3 ∧ a3 < (((a0).length : Nat) : Int)) (c3_ : Int) (hc3 : m_viewportlaw23byKeyq1 n (((a0).getD (a2).toNat (0, 0, 0)).2.1) (((a0).getD (a2).toNat (0, 0, 0)).2.2) (((a0).getD (a3).toNat (0, 0, 0)).2.1) (((a0).getD (a3).toNat (0, 0, 0)).2.2) = some c3_) (hc4 : c3_ = (0 : Int)) (hc5 : ¬ ((((a0).getD (a2).toNat (0, 0, 0)).1) < (((a0).getD (a3).toNat (0, 0, 0)).1))) : G_heapHeapviewportlaw23itembeforeq1 a0 a1 a2 a3 false :=
  runF2 hm (L := lT []) ⟨[6], [], 2, 2⟩ (zz 8 (xk2 1 U3 hc1) <|
yy 9 (.ld (Value.agg #[(i6 (((a0).getD (a2).toNat (0, 0, 0)).1)), (i6 (((a0).getD (a2).toNat (0, 0, 0)).2.1)), (i6 (((a0).getD (a2).toNat (0, 0, 0)).2.2))])) <|
ww (p := rdT (layT (rows rw_iii a0)) 3 ((a2).toNat * 3) = some [(i6 (((a0).getD (a2).toNat (0, 0, 0)).1)), (i6 (((a0).getD (a2).toNat (0, 0, 0)).2.1)), (i6 (((a0).getD (a2).toNat (0, 0, 0)).2.2))]) (rows_rdp rwf_iii (0, 0, 0) (i := (a2).toNat) (j := 0) ((a2).toNat * 3) rfl (toNatLt hc1) (by decide) rfl) <|
zz 15 (xk2 1 U3 hc2) <|
yy 16 (.ld (Value.agg #[(i6 (((a0).getD (a3).toNat (0, 0, 0)).1)), (i6 (((a0).getD (a3).toNat (0, 0, 0)).2.1)), (i6 (((a0).getD (a3).toNat (0, 0, 0)).2.2))])) <|
ww (p := rdT (layT (rows rw_iii a0)) 3 ((a3).toNat * 3) = some [(i6 (((a0).getD (a3).toNat (0, 0, 0)).1)), (i6 (((a0).getD (a3).toNat (0, 0, 0)).2.1)), (i6 (((a0).getD (a3).toNat (0, 0, 0)).2.2))]) (rows_rdp rwf_iii (0, 0, 0) (i := (a3).toNat) (j := 0) ((a3).toNat * 3) rfl (toNatLt hc2) (by decide) rfl) <|
yy 31 (.call (C_viewportlaw23byKeyq1 (((a0).getD (a2).toNat (0, 0, 0)).2.1) (((a0).getD (a2).toNat (0, 0, 0)).2.2) (((a0).getD (a3).toNat (0, 0, 0)).2.1) (((a0).getD (a3).toNat (0, 0, 0)).2.2) c3_ [] [])) <|
ww (m_viewportlaw23byKeyq1_ok n (((a0).getD (a2).toNat (0, 0, 0)).2.1) (((a0).getD (a2).toNat (0, 0, 0)).2.2) (((a0).getD (a3).toNat (0, 0, 0)).2.1) (((a0).getD (a3).toNat (0, 0, 0)).2.2) c3_ hc3) <|
zz 35 (xnF hc4) <|
zz 44 (xdF hc5) <|
ee) (by kernel_rfl)
set_option maxRecDepth 100000 in
theorem p_heapHeapviewportlaw23itembeforeq1_2 (n : Nat) (a0 : List (Int × Int × Int)) (a1 a2 a3 : Int) (hc1 : 0 ≤ a2 ∧ a2 < (((a0).length : Nat) : Int)) (hc2 : 0 ≤ a3 ∧ a3 < (((a0).length : Nat) : Int)) (c3_ : Int) (hc3 : m_viewportlaw23byKeyq1 n (((a0).getD (a2).toNat (0, 0, 0)).2.1) (((a0).getD (a2).toNat (0, 0, 0)).2.2) (((a0).getD (a3).toNat (0, 0, 0)).2.1) (((a0).getD (a3).toNat (0, 0, 0)).2.2) = some c3_) (hc4 : ¬ (c3_ = (0 : Int))) (hc5 : c3_ < (0 : Int)) : G_heapHeapviewportlaw23itembeforeq1 a0 a1 a2 a3 true :=
  runF2 hm (L := lT []) ⟨[6], [], 2, 2⟩ (zz 8 (xk2 1 U3 hc1) <|
yy 9 (.ld (Value.agg #[(i6 (((a0).getD (a2).toNat (0, 0, 0)).1)), (i6 (((a0).getD (a2).toNat (0, 0, 0)).2.1)), (i6 (((a0).getD (a2).toNat (0, 0, 0)).2.2))])) <|
ww (p := rdT (layT (rows rw_iii a0)) 3 ((a2).toNat * 3) = some [(i6 (((a0).getD (a2).toNat (0, 0, 0)).1)), (i6 (((a0).getD (a2).toNat (0, 0, 0)).2.1)), (i6 (((a0).getD (a2).toNat (0, 0, 0)).2.2))]) (rows_rdp rwf_iii (0, 0, 0) (i := (a2).toNat) (j := 0) ((a2).toNat * 3) rfl (toNatLt hc1) (by decide) rfl) <|
zz 15 (xk2 1 U3 hc2) <|
yy 16 (.ld (Value.agg #[(i6 (((a0).getD (a3).toNat (0, 0, 0)).1)), (i6 (((a0).getD (a3).toNat (0, 0, 0)).2.1)), (i6 (((a0).getD (a3).toNat (0, 0, 0)).2.2))])) <|
ww (p := rdT (layT (rows rw_iii a0)) 3 ((a3).toNat * 3) = some [(i6 (((a0).getD (a3).toNat (0, 0, 0)).1)), (i6 (((a0).getD (a3).toNat (0, 0, 0)).2.1)), (i6 (((a0).getD (a3).toNat (0, 0, 0)).2.2))]) (rows_rdp rwf_iii (0, 0, 0) (i := (a3).toNat) (j := 0) ((a3).toNat * 3) rfl (toNatLt hc2) (by decide) rfl) <|
yy 31 (.call (C_viewportlaw23byKeyq1 (((a0).getD (a2).toNat (0, 0, 0)).2.1) (((a0).getD (a2).toNat (0, 0, 0)).2.2) (((a0).getD (a3).toNat (0, 0, 0)).2.1) (((a0).getD (a3).toNat (0, 0, 0)).2.2) c3_ [] [])) <|
ww (m_viewportlaw23byKeyq1_ok n (((a0).getD (a2).toNat (0, 0, 0)).2.1) (((a0).getD (a2).toNat (0, 0, 0)).2.2) (((a0).getD (a3).toNat (0, 0, 0)).2.1) (((a0).getD (a3).toNat (0, 0, 0)).2.2) c3_ hc3) <|
zz 35 (xnT hc4) <|
zz 39 (xdT hc5) <|
ee) (by kernel_rfl)
set_option maxRecDepth 100000 in
theorem p_heapHeapviewportlaw23itembeforeq1_3 (n : Nat) (a0 : List (Int × Int × Int)) (a1 a2 a3 : Int) (hc1 : 0 ≤ a2 ∧ a2 < (((a0).length : Nat) : Int)) (hc2 : 0 ≤ a3 ∧ a3 < (((a0).length : Nat) : Int)) (c3_ : Int) (hc3 : m_viewportlaw23byKeyq1 n (((a0).getD (a2).toNat (0, 0, 0)).2.1) (((a0).getD (a2).toNat (0, 0, 0)).2.2) (((a0).getD (a3).toNat (0, 0, 0)).2.1) (((a0).getD (a3).toNat (0, 0, 0)).2.2) = some c3_) (hc4 : ¬ (c3_ = (0 : Int))) (hc5 : ¬ (c3_ < (0 : Int))) : G_heapHeapviewportlaw23itembeforeq1 a0 a1 a2 a3 false :=
  runF2 hm (L := lT []) ⟨[6], [], 2, 2⟩ (zz 8 (xk2 1 U3 hc1) <|
yy 9 (.ld (Value.agg #[(i6 (((a0).getD (a2).toNat (0, 0, 0)).1)), (i6 (((a0).getD (a2).toNat (0, 0, 0)).2.1)), (i6 (((a0).getD (a2).toNat (0, 0, 0)).2.2))])) <|
ww (p := rdT (layT (rows rw_iii a0)) 3 ((a2).toNat * 3) = some [(i6 (((a0).getD (a2).toNat (0, 0, 0)).1)), (i6 (((a0).getD (a2).toNat (0, 0, 0)).2.1)), (i6 (((a0).getD (a2).toNat (0, 0, 0)).2.2))]) (rows_rdp rwf_iii (0, 0, 0) (i := (a2).toNat) (j := 0) ((a2).toNat * 3) rfl (toNatLt hc1) (by decide) rfl) <|
zz 15 (xk2 1 U3 hc2) <|
yy 16 (.ld (Value.agg #[(i6 (((a0).getD (a3).toNat (0, 0, 0)).1)), (i6 (((a0).getD (a3).toNat (0, 0, 0)).2.1)), (i6 (((a0).getD (a3).toNat (0, 0, 0)).2.2))])) <|
ww (p := rdT (layT (rows rw_iii a0)) 3 ((a3).toNat * 3) = some [(i6 (((a0).getD (a3).toNat (0, 0, 0)).1)), (i6 (((a0).getD (a3).toNat (0, 0, 0)).2.1)), (i6 (((a0).getD (a3).toNat (0, 0, 0)).2.2))]) (rows_rdp rwf_iii (0, 0, 0) (i := (a3).toNat) (j := 0) ((a3).toNat * 3) rfl (toNatLt hc2) (by decide) rfl) <|
yy 31 (.call (C_viewportlaw23byKeyq1 (((a0).getD (a2).toNat (0, 0, 0)).2.1) (((a0).getD (a2).toNat (0, 0, 0)).2.2) (((a0).getD (a3).toNat (0, 0, 0)).2.1) (((a0).getD (a3).toNat (0, 0, 0)).2.2) c3_ [] [])) <|
ww (m_viewportlaw23byKeyq1_ok n (((a0).getD (a2).toNat (0, 0, 0)).2.1) (((a0).getD (a2).toNat (0, 0, 0)).2.2) (((a0).getD (a3).toNat (0, 0, 0)).2.1) (((a0).getD (a3).toNat (0, 0, 0)).2.2) c3_ hc3) <|
zz 35 (xnT hc4) <|
zz 39 (xdF hc5) <|
ee) (by kernel_rfl)
theorem m_heapHeapviewportlaw23itembeforeq1_ok (n : Nat) (a0 : List (Int × Int × Int)) (a1 : Int) (a2 : Int) (a3 : Int) (r : Bool) (h : m_heapHeapviewportlaw23itembeforeq1 n a0 a1 a2 a3 = some r) : Gv P (.func 16) (A_heapHeapviewportlaw23itembeforeq1 a0 a1 a2 a3) (H_heapHeapviewportlaw23itembeforeq1 a0 a1 a2 a3) (V_heapHeapviewportlaw23itembeforeq1 a0 a1 a2 a3 r) (R_heapHeapviewportlaw23itembeforeq1 a0 a1 a2 a3 r) := by
  unfold m_heapHeapviewportlaw23itembeforeq1 at h
  by_cases hc1 : 0 ≤ a2 ∧ a2 < (((a0).length : Nat) : Int)
  · rw [if_pos hc1] at h
    by_cases hc2 : 0 ≤ a3 ∧ a3 < (((a0).length : Nat) : Int)
    · rw [if_pos hc2] at h
      obtain ⟨c3_, hc3, h⟩ := Option.bind_eq_some_iff.1 h
      by_cases hc4 : c3_ = (0 : Int)
      · rw [if_pos hc4] at h
        by_cases hc5 : (((a0).getD (a2).toNat (0, 0, 0)).1) < (((a0).getD (a3).toNat (0, 0, 0)).1)
        · rw [if_pos hc5] at h
          obtain rfl := Option.some.inj h; exact p_heapHeapviewportlaw23itembeforeq1_0 n a0 a1 a2 a3 hc1 hc2 c3_ hc3 hc4 hc5
        · rw [if_neg hc5] at h
          obtain rfl := Option.some.inj h; exact p_heapHeapviewportlaw23itembeforeq1_1 n a0 a1 a2 a3 hc1 hc2 c3_ hc3 hc4 hc5
      · rw [if_neg hc4] at h
        by_cases hc5 : c3_ < (0 : Int)
        · rw [if_pos hc5] at h
          obtain rfl := Option.some.inj h; exact p_heapHeapviewportlaw23itembeforeq1_2 n a0 a1 a2 a3 hc1 hc2 c3_ hc3 hc4 hc5
        · rw [if_neg hc5] at h
          obtain rfl := Option.some.inj h; exact p_heapHeapviewportlaw23itembeforeq1_3 n a0 a1 a2 a3 hc1 hc2 c3_ hc3 hc4 hc5
    · rw [if_neg hc2] at h; cases h
  · rw [if_neg hc1] at h; cases h

noncomputable def A_heapHeapviewportlaw23itembeforeq2 (a0 : List (Int × Int × Int)) (a1 : Nat) (a2 : Int) (a3 : Int) (a4 : Int) : List Value := [(pN 0 0), (i6 a3), (i6 a4)]
noncomputable def H_heapHeapviewportlaw23itembeforeq2 (a0 : List (Int × Int × Int)) (a1 : Nat) (a2 : Int) (a3 : Int) (a4 : Int) : AH := ⟨sB [(0, (some (.cells (layT [(pN 0 0), (Value.func (.func 6) #[] #[]), (sN 1 0 a1 (Nat.add big 3)), (i6 a2)]) 40))), (1, (some (.cells (layT (rows rw_iii a0)) 44)))], 2, 2⟩
noncomputable def V_heapHeapviewportlaw23itembeforeq2 (a0 : List (Int × Int × Int)) (a1 : Nat) (a2 : Int) (a3 : Int) (a4 : Int) (r : Bool) : Value := match r with
  | o0 => (bO o0)
noncomputable def R_heapHeapviewportlaw23itembeforeq2 (a0 : List (Int × Int × Int)) (a1 : Nat) (a2 : Int) (a3 : Int) (a4 : Int) (r : Bool) : AH := match r with
  | o0 => ⟨sB [], 2, 2⟩
noncomputable abbrev G_heapHeapviewportlaw23itembeforeq2 (a0 : List (Int × Int × Int)) (a1 : Nat) (a2 : Int) (a3 : Int) (a4 : Int) (r : Bool) : Prop := Gv P (.func 16) (A_heapHeapviewportlaw23itembeforeq2 a0 a1 a2 a3 a4) (H_heapHeapviewportlaw23itembeforeq2 a0 a1 a2 a3 a4) (V_heapHeapviewportlaw23itembeforeq2 a0 a1 a2 a3 a4 r) (R_heapHeapviewportlaw23itembeforeq2 a0 a1 a2 a3 a4 r)
noncomputable abbrev C_heapHeapviewportlaw23itembeforeq2 (a0 : List (Int × Int × Int)) (a1 : Nat) (a2 : Int) (a3 : Int) (a4 : Int) (r : Bool) (ins outs : BL) : CallA := ⟨2, ins, V_heapHeapviewportlaw23itembeforeq2 a0 a1 a2 a3 a4 r, R_heapHeapviewportlaw23itembeforeq2 a0 a1 a2 a3 a4 r, outs⟩
def m_heapHeapviewportlaw23itembeforeq2 (n : Nat) (a0 : List (Int × Int × Int)) (a1 : Nat) (a2 : Int) (a3 : Int) (a4 : Int) : Option (Bool) :=
  if 0 ≤ a3 ∧ a3 < ((a1 : Nat) : Int) then
    if (a3).toNat < (a0).length then
      if 0 ≤ a4 ∧ a4 < ((a1 : Nat) : Int) then
        if (a4).toNat < (a0).length then
          (m_viewportlaw23byKeyq1 n (((a0).getD (a3).toNat (0, 0, 0)).2.1) (((a0).getD (a3).toNat (0, 0, 0)).2.2) (((a0).getD (a4).toNat (0, 0, 0)).2.1) (((a0).getD (a4).toNat (0, 0, 0)).2.2)).bind fun c5_ =>
          if c5_ = (0 : Int) then
            if (((a0).getD (a3).toNat (0, 0, 0)).1) < (((a0).getD (a4).toNat (0, 0, 0)).1) then
              some true
            else
              some false
          else
            if c5_ < (0 : Int) then
              some true
            else
              some false
        else none
      else none
    else none
  else none
set_option maxRecDepth 100000 in
theorem p_heapHeapviewportlaw23itembeforeq2_0 (n : Nat) (a0 : List (Int × Int × Int)) (a1 : Nat) (a2 a3 a4 : Int) (hc1 : 0 ≤ a3 ∧ a3 < ((a1 : Nat) : Int)) (hc2 : (a3).toNat < (a0).length) (hc3 : 0 ≤ a4 ∧ a4 < ((a1 : Nat) : Int)) (hc4 : (a4).toNat < (a0).length) (c5_ : Int) (hc5 : m_viewportlaw23byKeyq1 n (((a0).getD (a3).toNat (0, 0, 0)).2.1) (((a0).getD (a3).toNat (0, 0, 0)).2.2) (((a0).getD (a4).toNat (0, 0, 0)).2.1) (((a0).getD (a4).toNat (0, 0, 0)).2.2) = some c5_) (hc6 : c5_ = (0 : Int)) (hc7 : (((a0).getD (a3).toNat (0, 0, 0)).1) < (((a0).getD (a4).toNat (0, 0, 0)).1)) : G_heapHeapviewportlaw23itembeforeq2 a0 a1 a2 a3 a4 true :=
  runF2 hm (L := lT []) ⟨[6], [], 2, 2⟩ (zz 8 (xk2 1 U3 hc1) <|
yy 9 (.ld (Value.agg #[(i6 (((a0).getD (a3).toNat (0, 0, 0)).1)), (i6 (((a0).getD (a3).toNat (0, 0, 0)).2.1)), (i6 (((a0).getD (a3).toNat (0, 0, 0)).2.2))])) <|
ww (p := rdT (layT (rows rw_iii a0)) 3 ((a3).toNat * 3) = some [(i6 (((a0).getD (a3).toNat (0, 0, 0)).1)), (i6 (((a0).getD (a3).toNat (0, 0, 0)).2.1)), (i6 (((a0).getD (a3).toNat (0, 0, 0)).2.2))]) (rows_rdp rwf_iii (0, 0, 0) (i := (a3).toNat) (j := 0) ((a3).toNat * 3) rfl (hc2) (by decide) rfl) <|
zz 15 (xk2 1 U3 hc3) <|
yy 16 (.ld (Value.agg #[(i6 (((a0).getD (a4).toNat (0, 0, 0)).1)), (i6 (((a0).getD (a4).toNat (0, 0, 0)).2.1)), (i6 (((a0).getD (a4).toNat (0, 0, 0)).2.2))])) <|
ww (p := rdT (layT (rows rw_iii a0)) 3 ((a4).toNat * 3) = some [(i6 (((a0).getD (a4).toNat (0, 0, 0)).1)), (i6 (((a0).getD (a4).toNat (0, 0, 0)).2.1)), (i6 (((a0).getD (a4).toNat (0, 0, 0)).2.2))]) (rows_rdp rwf_iii (0, 0, 0) (i := (a4).toNat) (j := 0) ((a4).toNat * 3) rfl (hc4) (by decide) rfl) <|
yy 31 (.call (C_viewportlaw23byKeyq1 (((a0).getD (a3).toNat (0, 0, 0)).2.1) (((a0).getD (a3).toNat (0, 0, 0)).2.2) (((a0).getD (a4).toNat (0, 0, 0)).2.1) (((a0).getD (a4).toNat (0, 0, 0)).2.2) c5_ [] [])) <|
ww (m_viewportlaw23byKeyq1_ok n (((a0).getD (a3).toNat (0, 0, 0)).2.1) (((a0).getD (a3).toNat (0, 0, 0)).2.2) (((a0).getD (a4).toNat (0, 0, 0)).2.1) (((a0).getD (a4).toNat (0, 0, 0)).2.2) c5_ hc5) <|
zz 35 (xnF hc6) <|
zz 44 (xdT hc7) <|
ee) (by kernel_rfl)
set_option maxRecDepth 100000 in
theorem p_heapHeapviewportlaw23itembeforeq2_1 (n : Nat) (a0 : List (Int × Int × Int)) (a1 : Nat) (a2 a3 a4 : Int) (hc1 : 0 ≤ a3 ∧ a3 < ((a1 : Nat) : Int)) (hc2 : (a3).toNat < (a0).length) (hc3 : 0 ≤ a4 ∧ a4 < ((a1 : Nat) : Int)) (hc4 : (a4).toNat < (a0).length) (c5_ : Int) (hc5 : m_viewportlaw23byKeyq1 n (((a0).getD (a3).toNat (0, 0, 0)).2.1) (((a0).getD (a3).toNat (0, 0, 0)).2.2) (((a0).getD (a4).toNat (0, 0, 0)).2.1) (((a0).getD (a4).toNat (0, 0, 0)).2.2) = some c5_) (hc6 : c5_ = (0 : Int)) (hc7 : ¬ ((((a0).getD (a3).toNat (0, 0, 0)).1) < (((a0).getD (a4).toNat (0, 0, 0)).1))) : G_heapHeapviewportlaw23itembeforeq2 a0 a1 a2 a3 a4 false :=
  runF2 hm (L := lT []) ⟨[6], [], 2, 2⟩ (zz 8 (xk2 1 U3 hc1) <|
yy 9 (.ld (Value.agg #[(i6 (((a0).getD (a3).toNat (0, 0, 0)).1)), (i6 (((a0).getD (a3).toNat (0, 0, 0)).2.1)), (i6 (((a0).getD (a3).toNat (0, 0, 0)).2.2))])) <|
ww (p := rdT (layT (rows rw_iii a0)) 3 ((a3).toNat * 3) = some [(i6 (((a0).getD (a3).toNat (0, 0, 0)).1)), (i6 (((a0).getD (a3).toNat (0, 0, 0)).2.1)), (i6 (((a0).getD (a3).toNat (0, 0, 0)).2.2))]) (rows_rdp rwf_iii (0, 0, 0) (i := (a3).toNat) (j := 0) ((a3).toNat * 3) rfl (hc2) (by decide) rfl) <|
zz 15 (xk2 1 U3 hc3) <|
yy 16 (.ld (Value.agg #[(i6 (((a0).getD (a4).toNat (0, 0, 0)).1)), (i6 (((a0).getD (a4).toNat (0, 0, 0)).2.1)), (i6 (((a0).getD (a4).toNat (0, 0, 0)).2.2))])) <|
ww (p := rdT (layT (rows rw_iii a0)) 3 ((a4).toNat * 3) = some [(i6 (((a0).getD (a4).toNat (0, 0, 0)).1)), (i6 (((a0).getD (a4).toNat (0, 0, 0)).2.1)), (i6 (((a0).getD (a4).toNat (0, 0, 0)).2.2))]) (rows_rdp rwf_iii (0, 0, 0) (i := (a4).toNat) (j := 0) ((a4).toNat * 3) rfl (hc4) (by decide) rfl) <|
yy 31 (.call (C_viewportlaw23byKeyq1 (((a0).getD (a3).toNat (0, 0, 0)).2.1) (((a0).getD (a3).toNat (0, 0, 0)).2.2) (((a0).getD (a4).toNat (0, 0, 0)).2.1) (((a0).getD (a4).toNat (0, 0, 0)).2.2) c5_ [] [])) <|
ww (m_viewportlaw23byKeyq1_ok n (((a0).getD (a3).toNat (0, 0, 0)).2.1) (((a0).getD (a3).toNat (0, 0, 0)).2.2) (((a0).getD (a4).toNat (0, 0, 0)).2.1) (((a0).getD (a4).toNat (0, 0, 0)).2.2) c5_ hc5) <|
zz 35 (xnF hc6) <|
zz 44 (xdF hc7) <|
ee) (by kernel_rfl)
set_option maxRecDepth 100000 in
theorem p_heapHeapviewportlaw23itembeforeq2_2 (n : Nat) (a0 : List (Int × Int × Int)) (a1 : Nat) (a2 a3 a4 : Int) (hc1 : 0 ≤ a3 ∧ a3 < ((a1 : Nat) : Int)) (hc2 : (a3).toNat < (a0).length) (hc3 : 0 ≤ a4 ∧ a4 < ((a1 : Nat) : Int)) (hc4 : (a4).toNat < (a0).length) (c5_ : Int) (hc5 : m_viewportlaw23byKeyq1 n (((a0).getD (a3).toNat (0, 0, 0)).2.1) (((a0).getD (a3).toNat (0, 0, 0)).2.2) (((a0).getD (a4).toNat (0, 0, 0)).2.1) (((a0).getD (a4).toNat (0, 0, 0)).2.2) = some c5_) (hc6 : ¬ (c5_ = (0 : Int))) (hc7 : c5_ < (0 : Int)) : G_heapHeapviewportlaw23itembeforeq2 a0 a1 a2 a3 a4 true :=
  runF2 hm (L := lT []) ⟨[6], [], 2, 2⟩ (zz 8 (xk2 1 U3 hc1) <|
yy 9 (.ld (Value.agg #[(i6 (((a0).getD (a3).toNat (0, 0, 0)).1)), (i6 (((a0).getD (a3).toNat (0, 0, 0)).2.1)), (i6 (((a0).getD (a3).toNat (0, 0, 0)).2.2))])) <|
ww (p := rdT (layT (rows rw_iii a0)) 3 ((a3).toNat * 3) = some [(i6 (((a0).getD (a3).toNat (0, 0, 0)).1)), (i6 (((a0).getD (a3).toNat (0, 0, 0)).2.1)), (i6 (((a0).getD (a3).toNat (0, 0, 0)).2.2))]) (rows_rdp rwf_iii (0, 0, 0) (i := (a3).toNat) (j := 0) ((a3).toNat * 3) rfl (hc2) (by decide) rfl) <|
zz 15 (xk2 1 U3 hc3) <|
yy 16 (.ld (Value.agg #[(i6 (((a0).getD (a4).toNat (0, 0, 0)).1)), (i6 (((a0).getD (a4).toNat (0, 0, 0)).2.1)), (i6 (((a0).getD (a4).toNat (0, 0, 0)).2.2))])) <|
ww (p := rdT (layT (rows rw_iii a0)) 3 ((a4).toNat * 3) = some [(i6 (((a0).getD (a4).toNat (0, 0, 0)).1)), (i6 (((a0).getD (a4).toNat (0, 0, 0)).2.1)), (i6 (((a0).getD (a4).toNat (0, 0, 0)).2.2))]) (rows_rdp rwf_iii (0, 0, 0) (i := (a4).toNat) (j := 0) ((a4).toNat * 3) rfl (hc4) (by decide) rfl) <|
yy 31 (.call (C_viewportlaw23byKeyq1 (((a0).getD (a3).toNat (0, 0, 0)).2.1) (((a0).getD (a3).toNat (0, 0, 0)).2.2) (((a0).getD (a4).toNat (0, 0, 0)).2.1) (((a0).getD (a4).toNat (0, 0, 0)).2.2) c5_ [] [])) <|
ww (m_viewportlaw23byKeyq1_ok n (((a0).getD (a3).toNat (0, 0, 0)).2.1) (((a0).getD (a3).toNat (0, 0, 0)).2.2) (((a0).getD (a4).toNat (0, 0, 0)).2.1) (((a0).getD (a4).toNat (0, 0, 0)).2.2) c5_ hc5) <|
zz 35 (xnT hc6) <|
zz 39 (xdT hc7) <|
ee) (by kernel_rfl)
set_option maxRecDepth 100000 in
theorem p_heapHeapviewportlaw23itembeforeq2_3 (n : Nat) (a0 : List (Int × Int × Int)) (a1 : Nat) (a2 a3 a4 : Int) (hc1 : 0 ≤ a3 ∧ a3 < ((a1 : Nat) : Int)) (hc2 : (a3).toNat < (a0).length) (hc3 : 0 ≤ a4 ∧ a4 < ((a1 : Nat) : Int)) (hc4 : (a4).toNat < (a0).length) (c5_ : Int) (hc5 : m_viewportlaw23byKeyq1 n (((a0).getD (a3).toNat (0, 0, 0)).2.1) (((a0).getD (a3).toNat (0, 0, 0)).2.2) (((a0).getD (a4).toNat (0, 0, 0)).2.1) (((a0).getD (a4).toNat (0, 0, 0)).2.2) = some c5_) (hc6 : ¬ (c5_ = (0 : Int))) (hc7 : ¬ (c5_ < (0 : Int))) : G_heapHeapviewportlaw23itembeforeq2 a0 a1 a2 a3 a4 false :=
  runF2 hm (L := lT []) ⟨[6], [], 2, 2⟩ (zz 8 (xk2 1 U3 hc1) <|
yy 9 (.ld (Value.agg #[(i6 (((a0).getD (a3).toNat (0, 0, 0)).1)), (i6 (((a0).getD (a3).toNat (0, 0, 0)).2.1)), (i6 (((a0).getD (a3).toNat (0, 0, 0)).2.2))])) <|
ww (p := rdT (layT (rows rw_iii a0)) 3 ((a3).toNat * 3) = some [(i6 (((a0).getD (a3).toNat (0, 0, 0)).1)), (i6 (((a0).getD (a3).toNat (0, 0, 0)).2.1)), (i6 (((a0).getD (a3).toNat (0, 0, 0)).2.2))]) (rows_rdp rwf_iii (0, 0, 0) (i := (a3).toNat) (j := 0) ((a3).toNat * 3) rfl (hc2) (by decide) rfl) <|
zz 15 (xk2 1 U3 hc3) <|
yy 16 (.ld (Value.agg #[(i6 (((a0).getD (a4).toNat (0, 0, 0)).1)), (i6 (((a0).getD (a4).toNat (0, 0, 0)).2.1)), (i6 (((a0).getD (a4).toNat (0, 0, 0)).2.2))])) <|
ww (p := rdT (layT (rows rw_iii a0)) 3 ((a4).toNat * 3) = some [(i6 (((a0).getD (a4).toNat (0, 0, 0)).1)), (i6 (((a0).getD (a4).toNat (0, 0, 0)).2.1)), (i6 (((a0).getD (a4).toNat (0, 0, 0)).2.2))]) (rows_rdp rwf_iii (0, 0, 0) (i := (a4).toNat) (j := 0) ((a4).toNat * 3) rfl (hc4) (by decide) rfl) <|
yy 31 (.call (C_viewportlaw23byKeyq1 (((a0).getD (a3).toNat (0, 0, 0)).2.1) (((a0).getD (a3).toNat (0, 0, 0)).2.2) (((a0).getD (a4).toNat (0, 0, 0)).2.1) (((a0).getD (a4).toNat (0, 0, 0)).2.2) c5_ [] [])) <|
ww (m_viewportlaw23byKeyq1_ok n (((a0).getD (a3).toNat (0, 0, 0)).2.1) (((a0).getD (a3).toNat (0, 0, 0)).2.2) (((a0).getD (a4).toNat (0, 0, 0)).2.1) (((a0).getD (a4).toNat (0, 0, 0)).2.2) c5_ hc5) <|
zz 35 (xnT hc6) <|
zz 39 (xdF hc7) <|
ee) (by kernel_rfl)
theorem m_heapHeapviewportlaw23itembeforeq2_ok (n : Nat) (a0 : List (Int × Int × Int)) (a1 : Nat) (a2 : Int) (a3 : Int) (a4 : Int) (r : Bool) (h : m_heapHeapviewportlaw23itembeforeq2 n a0 a1 a2 a3 a4 = some r) : Gv P (.func 16) (A_heapHeapviewportlaw23itembeforeq2 a0 a1 a2 a3 a4) (H_heapHeapviewportlaw23itembeforeq2 a0 a1 a2 a3 a4) (V_heapHeapviewportlaw23itembeforeq2 a0 a1 a2 a3 a4 r) (R_heapHeapviewportlaw23itembeforeq2 a0 a1 a2 a3 a4 r) := by
  unfold m_heapHeapviewportlaw23itembeforeq2 at h
  by_cases hc1 : 0 ≤ a3 ∧ a3 < ((a1 : Nat) : Int)
  · rw [if_pos hc1] at h
    by_cases hc2 : (a3).toNat < (a0).length
    · rw [if_pos hc2] at h
      by_cases hc3 : 0 ≤ a4 ∧ a4 < ((a1 : Nat) : Int)
      · rw [if_pos hc3] at h
        by_cases hc4 : (a4).toNat < (a0).length
        · rw [if_pos hc4] at h
          obtain ⟨c5_, hc5, h⟩ := Option.bind_eq_some_iff.1 h
          by_cases hc6 : c5_ = (0 : Int)
          · rw [if_pos hc6] at h
            by_cases hc7 : (((a0).getD (a3).toNat (0, 0, 0)).1) < (((a0).getD (a4).toNat (0, 0, 0)).1)
            · rw [if_pos hc7] at h
              obtain rfl := Option.some.inj h; exact p_heapHeapviewportlaw23itembeforeq2_0 n a0 a1 a2 a3 a4 hc1 hc2 hc3 hc4 c5_ hc5 hc6 hc7
            · rw [if_neg hc7] at h
              obtain rfl := Option.some.inj h; exact p_heapHeapviewportlaw23itembeforeq2_1 n a0 a1 a2 a3 a4 hc1 hc2 hc3 hc4 c5_ hc5 hc6 hc7
          · rw [if_neg hc6] at h
            by_cases hc7 : c5_ < (0 : Int)
            · rw [if_pos hc7] at h
              obtain rfl := Option.some.inj h; exact p_heapHeapviewportlaw23itembeforeq2_2 n a0 a1 a2 a3 a4 hc1 hc2 hc3 hc4 c5_ hc5 hc6 hc7
            · rw [if_neg hc7] at h
              obtain rfl := Option.some.inj h; exact p_heapHeapviewportlaw23itembeforeq2_3 n a0 a1 a2 a3 a4 hc1 hc2 hc3 hc4 c5_ hc5 hc6 hc7
        · rw [if_neg hc4] at h; cases h
      · rw [if_neg hc3] at h; cases h
    · rw [if_neg hc2] at h; cases h
  · rw [if_neg hc1] at h; cases h

noncomputable def A_heapHeapviewportlaw23itemupq1 (a0 : List (Int × Int × Int)) (a1 : Int) (a2 : Int) : List Value := [(pN 0 0), (i6 a2)]
noncomputable def H_heapHeapviewportlaw23itemupq1 (a0 : List (Int × Int × Int)) (a1 : Int) (a2 : Int) : AH := ⟨sB [(0, (some (.cells (layT [(pN 0 0), (Value.func (.func 6) #[] #[]), (sN 1 0 (a0).length (Nat.add big 3)), (i6 a1)]) 40))), (1, (some (.cells (layT (rows rw_iii a0)) 44)))], 2, 2⟩
noncomputable def V_heapHeapviewportlaw23itemupq1 (a0 : List (Int × Int × Int)) (a1 : Int) (a2 : Int) (r : List (Int × Int × Int)) : Value := match r with
  | o0 => (Value.tuple #[])
noncomputable def R_heapHeapviewportlaw23itemupq1 (a0 : List (Int × Int × Int)) (a1 : Int) (a2 : Int) (r : List (Int × Int × Int)) : AH := match r with
  | o0 => ⟨sB [(1, (some (.cells (layT (rows rw_iii o0)) 44)))], 2, 1⟩
noncomputable abbrev G_heapHeapviewportlaw23itemupq1 (a0 : List (Int × Int × Int)) (a1 : Int) (a2 : Int) (r : List (Int × Int × Int)) : Prop := Gv P (.func 13) (A_heapHeapviewportlaw23itemupq1 a0 a1 a2) (H_heapHeapviewportlaw23itemupq1 a0 a1 a2) (V_heapHeapviewportlaw23itemupq1 a0 a1 a2 r) (R_heapHeapviewportlaw23itemupq1 a0 a1 a2 r)
noncomputable abbrev C_heapHeapviewportlaw23itemupq1 (a0 : List (Int × Int × Int)) (a1 : Int) (a2 : Int) (r : List (Int × Int × Int)) (ins outs : BL) : CallA := ⟨2, ins, V_heapHeapviewportlaw23itemupq1 a0 a1 a2 r, R_heapHeapviewportlaw23itemupq1 a0 a1 a2 r, outs⟩
noncomputable def S_heapHeapviewportlaw23itemupq1_1 (x1_1 : Nat) (x1_2 : Int) (st : List (Int × Int × Int) × Int × Int) : XSt := match st with
  | (x1_0, x1_3, x1_4) => (sT 46 [(0, (pN 0 0)), (1, (i6 x1_3)), (4, (i6 x1_4))], [], ⟨sB [(0, (some (.cells (layT [(pN 0 0), (Value.func (.func 6) #[] #[]), (sN 1 0 x1_1 (Nat.add big 3)), (i6 x1_2)]) 40))), (1, (some (.cells (layT (rows rw_iii x1_0)) 44)))], 2, 1⟩)
noncomputable def X_heapHeapviewportlaw23itemupq1_1 (x1_1 : Nat) (x1_2 : Int) (r : List (Int × Int × Int)) : Ex × XSt := match r with
  | z1_0 => (.exit 0, (sT 46 [], [], ⟨sB [(0, (some (.cells (layT [(pN 0 0), (Value.func (.func 6) #[] #[]), (sN 1 0 x1_1 (Nat.add big 3)), (i6 x1_2)]) 40))), (1, (some (.cells (layT (rows rw_iii z1_0)) 44)))], 2, 1⟩))
noncomputable abbrev Q_heapHeapviewportlaw23itemupq1_1 (rnd : Option Nat) (x1_1 : Nat) (x1_2 : Int) (st : List (Int × Int × Int) × Int × Int) (c : Ex × XSt) : Prop := CG P rnd (fnN P 13) 2 (codeOf P 13 [false, false, true]) (S_heapHeapviewportlaw23itemupq1_1 x1_1 x1_2 st) c
noncomputable abbrev U_heapHeapviewportlaw23itemupq1_1 (rd : Option Nat) (x1_1 : Nat) (x1_2 : Int) (st : List (Int × Int × Int) × Int × Int) (r : List (Int × Int × Int)) : Prop := CG P rd (fnN P 13) 2 (codeOf P 13 [false, true]) (S_heapHeapviewportlaw23itemupq1_1 x1_1 x1_2 st) (X_heapHeapviewportlaw23itemupq1_1 x1_1 x1_2 r)
def B_heapHeapviewportlaw23itemupq1_1 (n : Nat) (x1_1 : Nat) (x1_2 : Int) (st : List (Int × Int × Int) × Int × Int) : Option ((List (Int × Int × Int) × Int × Int) ⊕ (List (Int × Int × Int))) := match st with
  | (x1_0, x1_3, x1_4) =>
    if x1_3 > (0 : Int) then
      (m_heapHeapviewportlaw23itembeforeq2 n x1_0 x1_1 x1_2 x1_3 x1_4).bind fun y1_2_ =>
      if y1_2_ = true then
        if 0 ≤ x1_4 ∧ x1_4 < ((x1_1 : Nat) : Int) then
          if (x1_4).toNat < (x1_0).length then
            if 0 ≤ x1_3 ∧ x1_3 < ((x1_1 : Nat) : Int) then
              if (x1_3).toNat < (x1_0).length then
                if (x1_4).toNat < (((x1_0).set (x1_3).toNat ((((x1_0).getD (x1_4).toNat (0, 0, 0)).1), (((x1_0).getD (x1_4).toNat (0, 0, 0)).2.1), (((x1_0).getD (x1_4).toNat (0, 0, 0)).2.2)))).length then
                  some (.inl (((((x1_0).set (x1_3).toNat ((((x1_0).getD (x1_4).toNat (0, 0, 0)).1), (((x1_0).getD (x1_4).toNat (0, 0, 0)).2.1), (((x1_0).getD (x1_4).toNat (0, 0, 0)).2.2)))).set (x1_4).toNat ((((x1_0).getD (x1_3).toNat (0, 0, 0)).1), (((x1_0).getD (x1_3).toNat (0, 0, 0)).2.1), (((x1_0).getD (x1_3).toNat (0, 0, 0)).2.2))), x1_4, (Int.fdiv (w64 (x1_4 - (1 : Int))) 2)))
                else none
              else none
            else none
          else none
        else none
      else
        some (.inr x1_0)
    else
      some (.inr x1_0)
def m_heapHeapviewportlaw23itemupq1_1 (n : Nat) (x1_1 : Nat) (x1_2 : Int) (st : List (Int × Int × Int) × Int × Int) : Option (List (Int × Int × Int)) := iterM (B_heapHeapviewportlaw23itemupq1_1 n x1_1 x1_2) n st
set_option maxRecDepth 100000 in
theorem q_heapHeapviewportlaw23itemupq1_1_0 (n : Nat) {rnd : Option Nat} (x1_0 : List (Int × Int × Int)) (x1_1 : Nat) (x1_2 x1_3 x1_4 : Int) (hy1_1 : x1_3 > (0 : Int)) (y1_2_ : Bool) (hy1_2 : m_heapHeapviewportlaw23itembeforeq2 n x1_0 x1_1 x1_2 x1_3 x1_4 = some y1_2_) (hy1_3 : y1_2_ = true) (hy1_4 : 0 ≤ x1_4 ∧ x1_4 < ((x1_1 : Nat) : Int)) (hy1_5 : (x1_4).toNat < (x1_0).length) (hy1_6 : 0 ≤ x1_3 ∧ x1_3 < ((x1_1 : Nat) : Int)) (hy1_7 : (x1_3).toNat < (x1_0).length) (hy1_8 : (x1_4).toNat < (((x1_0).set (x1_3).toNat ((((x1_0).getD (x1_4).toNat (0, 0, 0)).1), (((x1_0).getD (x1_4).toNat (0, 0, 0)).2.1), (((x1_0).getD (x1_4).toNat (0, 0, 0)).2.2)))).length) : Q_heapHeapviewportlaw23itemupq1_1 rnd x1_1 x1_2 (x1_0, x1_3, x1_4) (.normal, S_heapHeapviewportlaw23itemupq1_1 x1_1 x1_2 (((((x1_0).set (x1_3).toNat ((((x1_0).getD (x1_4).toNat (0, 0, 0)).1), (((x1_0).getD (x1_4).toNat (0, 0, 0)).2.1), (((x1_0).getD (x1_4).toNat (0, 0, 0)).2.2)))).set (x1_4).toNat ((((x1_0).getD (x1_3).toNat (0, 0, 0)).1), (((x1_0).getD (x1_3).toNat (0, 0, 0)).2.1), (((x1_0).getD (x1_3).toNat (0, 0, 0)).2.2))), x1_4, (Int.fdiv (w64 (x1_4 - (1 : Int))) 2))) :=
  runC2 hm (L := lT []) ⟨[0, 1, 4], [(0, 0, false), (1, 1, true)], 2, 1⟩ (zz 3 (xdT hy1_1) <|
yy 8 (.call (C_heapHeapviewportlaw23itembeforeq2 x1_0 x1_1 x1_2 x1_3 x1_4 y1_2_ [(0, 0, false), (1, 1, true)] [])) <|
ww (m_heapHeapviewportlaw23itembeforeq2_ok n x1_0 x1_1 x1_2 x1_3 x1_4 y1_2_ hy1_2) <|
ww (rows_flat rwf_iii x1_0 44) <|
zz 10 (xbT hy1_3) <|
zz 29 (xk2 1 U3 hy1_4) <|
yy 30 (.ld (Value.agg #[(i6 (((x1_0).getD (x1_4).toNat (0, 0, 0)).1)), (i6 (((x1_0).getD (x1_4).toNat (0, 0, 0)).2.1)), (i6 (((x1_0).getD (x1_4).toNat (0, 0, 0)).2.2))])) <|
ww (p := rdT (layT (rows rw_iii x1_0)) 3 ((x1_4).toNat * 3) = some [(i6 (((x1_0).getD (x1_4).toNat (0, 0, 0)).1)), (i6 (((x1_0).getD (x1_4).toNat (0, 0, 0)).2.1)), (i6 (((x1_0).getD (x1_4).toNat (0, 0, 0)).2.2))]) (rows_rdp rwf_iii (0, 0, 0) (i := (x1_4).toNat) (j := 0) ((x1_4).toNat * 3) rfl (hy1_5) (by decide) rfl) <|
zz 36 (xk2 1 U3 hy1_6) <|
yy 37 (.ld (Value.agg #[(i6 (((x1_0).getD (x1_3).toNat (0, 0, 0)).1)), (i6 (((x1_0).getD (x1_3).toNat (0, 0, 0)).2.1)), (i6 (((x1_0).getD (x1_3).toNat (0, 0, 0)).2.2))])) <|
ww (p := rdT (layT (rows rw_iii x1_0)) 3 ((x1_3).toNat * 3) = some [(i6 (((x1_0).getD (x1_3).toNat (0, 0, 0)).1)), (i6 (((x1_0).getD (x1_3).toNat (0, 0, 0)).2.1)), (i6 (((x1_0).getD (x1_3).toNat (0, 0, 0)).2.2))]) (rows_rdp rwf_iii (0, 0, 0) (i := (x1_3).toNat) (j := 0) ((x1_3).toNat * 3) rfl (hy1_7) (by decide) rfl) <|
zz 38 (xk2 1 U3 hy1_6) <|
yy 39 (.sto (layT (rows rw_iii ((x1_0).set (x1_3).toNat ((((x1_0).getD (x1_4).toNat (0, 0, 0)).1), (((x1_0).getD (x1_4).toNat (0, 0, 0)).2.1), (((x1_0).getD (x1_4).toNat (0, 0, 0)).2.2)))))) <|
ww (p := ∃ old, rdT (layT (rows rw_iii x1_0)) 3 ((x1_3).toNat * 3) = some old) (Exists.elim (rows_st rwf_iii (0, 0, 0) (i := (x1_3).toNat) (j := 0) (l := [(i6 (((x1_0).getD (x1_4).toNat (0, 0, 0)).1)), (i6 (((x1_0).getD (x1_4).toNat (0, 0, 0)).2.1)), (i6 (((x1_0).getD (x1_4).toNat (0, 0, 0)).2.2))]) ((((x1_0).getD (x1_4).toNat (0, 0, 0)).1), (((x1_0).getD (x1_4).toNat (0, 0, 0)).2.1), (((x1_0).getD (x1_4).toNat (0, 0, 0)).2.2)) ((x1_3).toNat * 3) rfl (hy1_7) (Nat.le_of_ble_eq_true rfl) rfl) fun o h => ⟨o, h.1⟩) <|
ww (p := layL [(i6 (((x1_0).getD (x1_4).toNat (0, 0, 0)).1)), (i6 (((x1_0).getD (x1_4).toNat (0, 0, 0)).2.1)), (i6 (((x1_0).getD (x1_4).toNat (0, 0, 0)).2.2))] ((x1_3).toNat * 3) (layT (rows rw_iii x1_0)) = layT (rows rw_iii ((x1_0).set (x1_3).toNat ((((x1_0).getD (x1_4).toNat (0, 0, 0)).1), (((x1_0).getD (x1_4).toNat (0, 0, 0)).2.1), (((x1_0).getD (x1_4).toNat (0, 0, 0)).2.2))))) (Exists.elim (rows_st rwf_iii (0, 0, 0) (i := (x1_3).toNat) (j := 0) (l := [(i6 (((x1_0).getD (x1_4).toNat (0, 0, 0)).1)), (i6 (((x1_0).getD (x1_4).toNat (0, 0, 0)).2.1)), (i6 (((x1_0).getD (x1_4).toNat (0, 0, 0)).2.2))]) ((((x1_0).getD (x1_4).toNat (0, 0, 0)).1), (((x1_0).getD (x1_4).toNat (0, 0, 0)).2.1), (((x1_0).getD (x1_4).toNat (0, 0, 0)).2.2)) ((x1_3).toNat * 3) rfl (hy1_7) (Nat.le_of_ble_eq_true rfl) rfl) fun o h => h.2) <|
zz 40 (xk2 1 U3 hy1_4) <|
yy 41 (.sto (layT (rows rw_iii ((((x1_0).set (x1_3).toNat ((((x1_0).getD (x1_4).toNat (0, 0, 0)).1), (((x1_0).getD (x1_4).toNat (0, 0, 0)).2.1), (((x1_0).getD (x1_4).toNat (0, 0, 0)).2.2)))).set (x1_4).toNat ((((x1_0).getD (x1_3).toNat (0, 0, 0)).1), (((x1_0).getD (x1_3).toNat (0, 0, 0)).2.1), (((x1_0).getD (x1_3).toNat (0, 0, 0)).2.2)))))) <|
ww (p := ∃ old, rdT (layT (rows rw_iii ((x1_0).set (x1_3).toNat ((((x1_0).getD (x1_4).toNat (0, 0, 0)).1), (((x1_0).getD (x1_4).toNat (0, 0, 0)).2.1), (((x1_0).getD (x1_4).toNat (0, 0, 0)).2.2))))) 3 ((x1_4).toNat * 3) = some old) (Exists.elim (rows_st rwf_iii (0, 0, 0) (i := (x1_4).toNat) (j := 0) (l := [(i6 (((x1_0).getD (x1_3).toNat (0, 0, 0)).1)), (i6 (((x1_0).getD (x1_3).toNat (0, 0, 0)).2.1)), (i6 (((x1_0).getD (x1_3).toNat (0, 0, 0)).2.2))]) ((((x1_0).getD (x1_3).toNat (0, 0, 0)).1), (((x1_0).getD (x1_3).toNat (0, 0, 0)).2.1), (((x1_0).getD (x1_3).toNat (0, 0, 0)).2.2)) ((x1_4).toNat * 3) rfl (hy1_8) (Nat.le_of_ble_eq_true rfl) rfl) fun o h => ⟨o, h.1⟩) <|
ww (p := layL [(i6 (((x1_0).getD (x1_3).toNat (0, 0, 0)).1)), (i6 (((x1_0).getD (x1_3).toNat (0, 0, 0)).2.1)), (i6 (((x1_0).getD (x1_3).toNat (0, 0, 0)).2.2))] ((x1_4).toNat * 3) (layT (rows rw_iii ((x1_0).set (x1_3).toNat ((((x1_0).getD (x1_4).toNat (0, 0, 0)).1), (((x1_0).getD (x1_4).toNat (0, 0, 0)).2.1), (((x1_0).getD (x1_4).toNat (0, 0, 0)).2.2))))) = layT (rows rw_iii ((((x1_0).set (x1_3).toNat ((((x1_0).getD (x1_4).toNat (0, 0, 0)).1), (((x1_0).getD (x1_4).toNat (0, 0, 0)).2.1), (((x1_0).getD (x1_4).toNat (0, 0, 0)).2.2)))).set (x1_4).toNat ((((x1_0).getD (x1_3).toNat (0, 0, 0)).1), (((x1_0).getD (x1_3).toNat (0, 0, 0)).2.1), (((x1_0).getD (x1_3).toNat (0, 0, 0)).2.2))))) (Exists.elim (rows_st rwf_iii (0, 0, 0) (i := (x1_4).toNat) (j := 0) (l := [(i6 (((x1_0).getD (x1_3).toNat (0, 0, 0)).1)), (i6 (((x1_0).getD (x1_3).toNat (0, 0, 0)).2.1)), (i6 (((x1_0).getD (x1_3).toNat (0, 0, 0)).2.2))]) ((((x1_0).getD (x1_3).toNat (0, 0, 0)).1), (((x1_0).getD (x1_3).toNat (0, 0, 0)).2.1), (((x1_0).getD (x1_3).toNat (0, 0, 0)).2.2)) ((x1_4).toNat * 3) rfl (hy1_8) (Nat.le_of_ble_eq_true rfl) rfl) fun o h => h.2) <|
ww (rows_flat rwf_iii ((((x1_0).set (x1_3).toNat ((((x1_0).getD (x1_4).toNat (0, 0, 0)).1), (((x1_0).getD (x1_4).toNat (0, 0, 0)).2.1), (((x1_0).getD (x1_4).toNat (0, 0, 0)).2.2)))).set (x1_4).toNat ((((x1_0).getD (x1_3).toNat (0, 0, 0)).1), (((x1_0).getD (x1_3).toNat (0, 0, 0)).2.1), (((x1_0).getD (x1_3).toNat (0, 0, 0)).2.2))) 44) <|
ee) (by kernel_rfl)
set_option maxRecDepth 100000 in
theorem q_heapHeapviewportlaw23itemupq1_1_1 (n : Nat) {rnd : Option Nat} (x1_0 : List (Int × Int × Int)) (x1_1 : Nat) (x1_2 x1_3 x1_4 : Int) (hy1_1 : x1_3 > (0 : Int)) (y1_2_ : Bool) (hy1_2 : m_heapHeapviewportlaw23itembeforeq2 n x1_0 x1_1 x1_2 x1_3 x1_4 = some y1_2_) (hy1_3 : ¬ (y1_2_ = true)) : Q_heapHeapviewportlaw23itemupq1_1 rnd x1_1 x1_2 (x1_0, x1_3, x1_4) (X_heapHeapviewportlaw23itemupq1_1 x1_1 x1_2 x1_0) :=
  runC2 hm (L := lT []) ⟨[], [(0, 0, false), (1, 1, true)], 2, 1⟩ (zz 3 (xdT hy1_1) <|
yy 8 (.call (C_heapHeapviewportlaw23itembeforeq2 x1_0 x1_1 x1_2 x1_3 x1_4 y1_2_ [(0, 0, false), (1, 1, true)] [])) <|
ww (m_heapHeapviewportlaw23itembeforeq2_ok n x1_0 x1_1 x1_2 x1_3 x1_4 y1_2_ hy1_2) <|
ww (rows_flat rwf_iii x1_0 44) <|
zz 10 (xbF hy1_3) <|
ww (rows_flat rwf_iii x1_0 44) <|
ee) (by kernel_rfl)
set_option maxRecDepth 100000 in
theorem q_heapHeapviewportlaw23itemupq1_1_2 (n : Nat) {rnd : Option Nat} (x1_0 : List (Int × Int × Int)) (x1_1 : Nat) (x1_2 x1_3 x1_4 : Int) (hy1_1 : ¬ (x1_3 > (0 : Int))) : Q_heapHeapviewportlaw23itemupq1_1 rnd x1_1 x1_2 (x1_0, x1_3, x1_4) (X_heapHeapviewportlaw23itemupq1_1 x1_1 x1_2 x1_0) :=
  runC2 hm (L := lT []) ⟨[], [(0, 0, false), (1, 1, true)], 2, 1⟩ (zz 3 (xdF hy1_1) <|
ww (rows_flat rwf_iii x1_0 44) <|
ee) (by kernel_rfl)
theorem m_heapHeapviewportlaw23itemupq1_1_ok (n : Nat) {rnd : Option Nat} (x1_1 : Nat) (x1_2 : Int) (st : List (Int × Int × Int) × Int × Int) (r : List (Int × Int × Int)) (h : m_heapHeapviewportlaw23itemupq1_1 n x1_1 x1_2 st = some r) : CG P rnd (fnN P 13) 2 (codeOf P 13 [false, true]) (S_heapHeapviewportlaw23itemupq1_1 x1_1 x1_2 st) (X_heapHeapviewportlaw23itemupq1_1 x1_1 x1_2 r) :=
  CG.iter (b := codeOf P 13 [false, false, true]) (by kernel_rfl) (body := B_heapHeapviewportlaw23itemupq1_1 n x1_1 x1_2) (S := S_heapHeapviewportlaw23itemupq1_1 x1_1 x1_2) (X := X_heapHeapviewportlaw23itemupq1_1 x1_1 x1_2)
    (fun s s' h => by
    obtain ⟨x1_0, x1_3, x1_4⟩ := s
    unfold B_heapHeapviewportlaw23itemupq1_1 at h
    dsimp only at h
    by_cases hy1_1 : x1_3 > (0 : Int)
    · rw [if_pos hy1_1] at h
      obtain ⟨y1_2_, hy1_2, h⟩ := Option.bind_eq_some_iff.1 h
      by_cases hy1_3 : y1_2_ = true
      · rw [if_pos hy1_3] at h
        by_cases hy1_4 : 0 ≤ x1_4 ∧ x1_4 < ((x1_1 : Nat) : Int)
        · rw [if_pos hy1_4] at h
          by_cases hy1_5 : (x1_4).toNat < (x1_0).length
          · rw [if_pos hy1_5] at h
            by_cases hy1_6 : 0 ≤ x1_3 ∧ x1_3 < ((x1_1 : Nat) : Int)
            · rw [if_pos hy1_6] at h
              by_cases hy1_7 : (x1_3).toNat < (x1_0).length
              · rw [if_pos hy1_7] at h
                by_cases hy1_8 : (x1_4).toNat < (((x1_0).set (x1_3).toNat ((((x1_0).getD (x1_4).toNat (0, 0, 0)).1), (((x1_0).getD (x1_4).toNat (0, 0, 0)).2.1), (((x1_0).getD (x1_4).toNat (0, 0, 0)).2.2)))).length
                · rw [if_pos hy1_8] at h
                  obtain rfl := Sum.inl.inj (Option.some.inj h); exact q_heapHeapviewportlaw23itemupq1_1_0 n x1_0 x1_1 x1_2 x1_3 x1_4 hy1_1 y1_2_ hy1_2 hy1_3 hy1_4 hy1_5 hy1_6 hy1_7 hy1_8
                · rw [if_neg hy1_8] at h; cases h
              · rw [if_neg hy1_7] at h; cases h
            · rw [if_neg hy1_6] at h; cases h
          · rw [if_neg hy1_5] at h; cases h
        · rw [if_neg hy1_4] at h; cases h
      · rw [if_neg hy1_3] at h
        cases h
    · rw [if_neg hy1_1] at h
      cases h)
    (fun s r h => by
    obtain ⟨x1_0, x1_3, x1_4⟩ := s
    unfold B_heapHeapviewportlaw23itemupq1_1 at h
    dsimp only at h
    by_cases hy1_1 : x1_3 > (0 : Int)
    · rw [if_pos hy1_1] at h
      obtain ⟨y1_2_, hy1_2, h⟩ := Option.bind_eq_some_iff.1 h
      by_cases hy1_3 : y1_2_ = true
      · rw [if_pos hy1_3] at h
        by_cases hy1_4 : 0 ≤ x1_4 ∧ x1_4 < ((x1_1 : Nat) : Int)
        · rw [if_pos hy1_4] at h
          by_cases hy1_5 : (x1_4).toNat < (x1_0).length
          · rw [if_pos hy1_5] at h
            by_cases hy1_6 : 0 ≤ x1_3 ∧ x1_3 < ((x1_1 : Nat) : Int)
            · rw [if_pos hy1_6] at h
              by_cases hy1_7 : (x1_3).toNat < (x1_0).length
              · rw [if_pos hy1_7] at h
                by_cases hy1_8 : (x1_4).toNat < (((x1_0).set (x1_3).toNat ((((x1_0).getD (x1_4).toNat (0, 0, 0)).1), (((x1_0).getD (x1_4).toNat (0, 0, 0)).2.1), (((x1_0).getD (x1_4).toNat (0, 0, 0)).2.2)))).length
                · rw [if_pos hy1_8] at h
                  cases h
                · rw [if_neg hy1_8] at h; cases h
              · rw [if_neg hy1_7] at h; cases h
            · rw [if_neg hy1_6] at h; cases h
          · rw [if_neg hy1_5] at h; cases h
        · rw [if_neg hy1_4] at h; cases h
      · rw [if_neg hy1_3] at h
        obtain rfl := Sum.inr.inj (Option.some.inj h); exact q_heapHeapviewportlaw23itemupq1_1_1 n x1_0 x1_1 x1_2 x1_3 x1_4 hy1_1 y1_2_ hy1_2 hy1_3
    · rw [if_neg hy1_1] at h
      obtain rfl := Sum.inr.inj (Option.some.inj h); exact q_heapHeapviewportlaw23itemupq1_1_2 n x1_0 x1_1 x1_2 x1_3 x1_4 hy1_1)
    (fun r => by intro hx; cases hx) h
def m_heapHeapviewportlaw23itemupq1 (n : Nat) (a0 : List (Int × Int × Int)) (a1 : Int) (a2 : Int) : Option (List (Int × Int × Int)) :=
  (m_heapHeapviewportlaw23itemupq1_1 n ((a0).length) a1 (a0, a2, (Int.fdiv (w64 (a2 - (1 : Int))) 2))).bind fun c1_ =>
  some c1_
set_option maxRecDepth 100000 in
theorem p_heapHeapviewportlaw23itemupq1_0 (n : Nat) (a0 : List (Int × Int × Int)) (a1 a2 : Int) (c1_ : List (Int × Int × Int)) (hc1 : m_heapHeapviewportlaw23itemupq1_1 n ((a0).length) a1 (a0, a2, (Int.fdiv (w64 (a2 - (1 : Int))) 2)) = some c1_) : G_heapHeapviewportlaw23itemupq1 a0 a1 a2 c1_ :=
  runF2 hm (L := lT [(6, ⟨⟨[0, 1, 4], [(0, 0, false), (1, 1, true)], 2, 1⟩, (X_heapHeapviewportlaw23itemupq1_1 ((a0).length) a1 c1_).1, (X_heapHeapviewportlaw23itemupq1_1 ((a0).length) a1 c1_).2⟩)]) ⟨[], [(1, 1, true)], 2, 1⟩ (ww (p := U_heapHeapviewportlaw23itemupq1_1 none ((a0).length) a1 (a0, a2, (Int.fdiv (w64 (a2 - (1 : Int))) 2)) c1_) (m_heapHeapviewportlaw23itemupq1_1_ok n ((a0).length) a1 (a0, a2, (Int.fdiv (w64 (a2 - (1 : Int))) 2)) c1_ hc1) <|
ww (rows_flat rwf_iii a0 44) <|
ww (rows_flat rwf_iii c1_ 44) <|
ee) (by kernel_rfl)
theorem m_heapHeapviewportlaw23itemupq1_ok (n : Nat) (a0 : List (Int × Int × Int)) (a1 : Int) (a2 : Int) (r : List (Int × Int × Int)) (h : m_heapHeapviewportlaw23itemupq1 n a0 a1 a2 = some r) : Gv P (.func 13) (A_heapHeapviewportlaw23itemupq1 a0 a1 a2) (H_heapHeapviewportlaw23itemupq1 a0 a1 a2) (V_heapHeapviewportlaw23itemupq1 a0 a1 a2 r) (R_heapHeapviewportlaw23itemupq1 a0 a1 a2 r) := by
  unfold m_heapHeapviewportlaw23itemupq1 at h
  obtain ⟨c1_, hc1, h⟩ := Option.bind_eq_some_iff.1 h
  obtain rfl := Option.some.inj h; exact p_heapHeapviewportlaw23itemupq1_0 n a0 a1 a2 c1_ hc1

noncomputable def A_heapHeapviewportlaw23itemPutq1 (a0 : Int) (a1 : Int) (a2 : Int) : List Value := [(pN 0 0), (Value.agg #[(i6 a1), (i6 a2)])]
noncomputable def H_heapHeapviewportlaw23itemPutq1 (a0 : Int) (a1 : Int) (a2 : Int) : AH := ⟨sB [(0, (some (.cells (layT [(pN 0 0), (Value.func (.func 6) #[] #[]), (Value.slice none 0 0), (i6 a0)]) 40)))], 1, 1⟩
noncomputable def V_heapHeapviewportlaw23itemPutq1 (a0 : Int) (a1 : Int) (a2 : Int) (r : List (Int × Int × Int)) : Value := match r with
  | o0 => (Value.tuple #[])
noncomputable def R_heapHeapviewportlaw23itemPutq1 (a0 : Int) (a1 : Int) (a2 : Int) (r : List (Int × Int × Int)) : AH := match r with
  | o0 => ⟨sB [(0, (some (.cells (layT [(pN 0 0), (Value.func (.func 6) #[] #[]), (sN 1 0 1 (Nat.add big 3)), (i6 (w64 (a0 + (1 : Int))))]) 40))), (1, (some (.cells (layT (rows rw_iii o0)) 44)))], 2, 0⟩
noncomputable abbrev G_heapHeapviewportlaw23itemPutq1 (a0 : Int) (a1 : Int) (a2 : Int) (r : List (Int × Int × Int)) : Prop := Gv P (.func 7) (A_heapHeapviewportlaw23itemPutq1 a0 a1 a2) (H_heapHeapviewportlaw23itemPutq1 a0 a1 a2) (V_heapHeapviewportlaw23itemPutq1 a0 a1 a2 r) (R_heapHeapviewportlaw23itemPutq1 a0 a1 a2 r)
noncomputable abbrev C_heapHeapviewportlaw23itemPutq1 (a0 : Int) (a1 : Int) (a2 : Int) (r : List (Int × Int × Int)) (ins outs : BL) : CallA := ⟨1, ins, V_heapHeapviewportlaw23itemPutq1 a0 a1 a2 r, R_heapHeapviewportlaw23itemPutq1 a0 a1 a2 r, outs⟩
def m_heapHeapviewportlaw23itemPutq1 (n : Nat) (a0 : Int) (a1 : Int) (a2 : Int) : Option (List (Int × Int × Int)) :=
  (m_heapHeapviewportlaw23itemvalidq1 n a0).bind fun _ =>
  (m_heapHeapviewportlaw23itemupq1 n [(a0, a1, a2)] (w64 (a0 + (1 : Int))) 0).bind fun c2_ =>
  some c2_
set_option maxRecDepth 100000 in
theorem p_heapHeapviewportlaw23itemPutq1_0 (n : Nat) (a0 a1 a2 : Int) (hc1 : m_heapHeapviewportlaw23itemvalidq1 n a0 = some ()) (c2_ : List (Int × Int × Int)) (hc2 : m_heapHeapviewportlaw23itemupq1 n [(a0, a1, a2)] (w64 (a0 + (1 : Int))) 0 = some c2_) : G_heapHeapviewportlaw23itemPutq1 a0 a1 a2 c2_ :=
  runF2 hm (L := lT []) ⟨[], [(0, 0, false), (1, 15, true)], 2, 0⟩ (yy 5 (.call (C_heapHeapviewportlaw23itemvalidq1 a0 () [(0, 0, false)] [])) <|
ww (m_heapHeapviewportlaw23itemvalidq1_ok n a0 () hc1) <|
yy 42 (.call (C_heapHeapviewportlaw23itemupq1 [(a0, a1, a2)] (w64 (a0 + (1 : Int))) 0 c2_ [(0, 0, false), (1, 15, false)] [(15, 1, true)])) <|
ww (m_heapHeapviewportlaw23itemupq1_ok n [(a0, a1, a2)] (w64 (a0 + (1 : Int))) 0 c2_ hc2) <|
ww (rows_flat rwf_iii c2_ 44) <|
ww (rows_flat rwf_iii c2_ 44) <|
ee) (by kernel_rfl)
theorem m_heapHeapviewportlaw23itemPutq1_ok (n : Nat) (a0 : Int) (a1 : Int) (a2 : Int) (r : List (Int × Int × Int)) (h : m_heapHeapviewportlaw23itemPutq1 n a0 a1 a2 = some r) : Gv P (.func 7) (A_heapHeapviewportlaw23itemPutq1 a0 a1 a2) (H_heapHeapviewportlaw23itemPutq1 a0 a1 a2) (V_heapHeapviewportlaw23itemPutq1 a0 a1 a2 r) (R_heapHeapviewportlaw23itemPutq1 a0 a1 a2 r) := by
  unfold m_heapHeapviewportlaw23itemPutq1 at h
  obtain ⟨_, hc1, h⟩ := Option.bind_eq_some_iff.1 h
  obtain ⟨c2_, hc2, h⟩ := Option.bind_eq_some_iff.1 h
  obtain rfl := Option.some.inj h; exact p_heapHeapviewportlaw23itemPutq1_0 n a0 a1 a2 hc1 c2_ hc2

noncomputable def A_heapHeapviewportlaw23itemvalidq2 (a0 : List (Int × Int × Int)) (a1 : Int) : List Value := [(pN 0 0)]
noncomputable def H_heapHeapviewportlaw23itemvalidq2 (a0 : List (Int × Int × Int)) (a1 : Int) : AH := ⟨sB [(0, (some (.cells (layT [(pN 0 0), (Value.func (.func 6) #[] #[]), (sN 1 0 (a0).length (Nat.add big 3)), (i6 a1)]) 40))), (1, (some (.cells (layT (rows rw_iii a0)) 44)))], 2, 2⟩
noncomputable def V_heapHeapviewportlaw23itemvalidq2 (a0 : List (Int × Int × Int)) (a1 : Int) (r : Unit) : Value := match r with
  | _ => (bO true)
noncomputable def R_heapHeapviewportlaw23itemvalidq2 (a0 : List (Int × Int × Int)) (a1 : Int) (r : Unit) : AH := match r with
  | _ => ⟨sB [], 2, 2⟩
noncomputable abbrev G_heapHeapviewportlaw23itemvalidq2 (a0 : List (Int × Int × Int)) (a1 : Int) (r : Unit) : Prop := Gv P (.func 12) (A_heapHeapviewportlaw23itemvalidq2 a0 a1) (H_heapHeapviewportlaw23itemvalidq2 a0 a1) (V_heapHeapviewportlaw23itemvalidq2 a0 a1 r) (R_heapHeapviewportlaw23itemvalidq2 a0 a1 r)
noncomputable abbrev C_heapHeapviewportlaw23itemvalidq2 (a0 : List (Int × Int × Int)) (a1 : Int) (r : Unit) (ins outs : BL) : CallA := ⟨2, ins, V_heapHeapviewportlaw23itemvalidq2 a0 a1 r, R_heapHeapviewportlaw23itemvalidq2 a0 a1 r, outs⟩
def m_heapHeapviewportlaw23itemvalidq2 (n : Nat) (a0 : List (Int × Int × Int)) (a1 : Int) : Option (Unit) :=
  some ()
set_option maxRecDepth 100000 in
theorem p_heapHeapviewportlaw23itemvalidq2_0 (n : Nat) (a0 : List (Int × Int × Int)) (a1 : Int) : G_heapHeapviewportlaw23itemvalidq2 a0 a1 () :=
  runF2 hm (L := lT []) ⟨[2], [], 2, 2⟩ (ee) (by kernel_rfl)
theorem m_heapHeapviewportlaw23itemvalidq2_ok (n : Nat) (a0 : List (Int × Int × Int)) (a1 : Int) (r : Unit) (h : m_heapHeapviewportlaw23itemvalidq2 n a0 a1 = some r) : Gv P (.func 12) (A_heapHeapviewportlaw23itemvalidq2 a0 a1) (H_heapHeapviewportlaw23itemvalidq2 a0 a1) (V_heapHeapviewportlaw23itemvalidq2 a0 a1 r) (R_heapHeapviewportlaw23itemvalidq2 a0 a1 r) := by
  unfold m_heapHeapviewportlaw23itemvalidq2 at h
  obtain rfl := Option.some.inj h; exact p_heapHeapviewportlaw23itemvalidq2_0 n a0 a1

noncomputable def A_heapHeapviewportlaw23itemPutq2 (a0 : List (Int × Int × Int)) (a1 : Int) (a2 : Int) (a3 : Int) : List Value := [(pN 0 0), (Value.agg #[(i6 a2), (i6 a3)])]
noncomputable def H_heapHeapviewportlaw23itemPutq2 (a0 : List (Int × Int × Int)) (a1 : Int) (a2 : Int) (a3 : Int) : AH := ⟨sB [(0, (some (.cells (layT [(pN 0 0), (Value.func (.func 6) #[] #[]), (sN 1 0 (a0).length (Nat.add big 3)), (i6 a1)]) 40))), (1, (some (.cells (layT (rows rw_iii a0)) 44)))], 2, 2⟩
noncomputable def V_heapHeapviewportlaw23itemPutq2 (a0 : List (Int × Int × Int)) (a1 : Int) (a2 : Int) (a3 : Int) (r : List (Int × Int × Int)) : Value := match r with
  | o0 => (Value.tuple #[])
noncomputable def R_heapHeapviewportlaw23itemPutq2 (a0 : List (Int × Int × Int)) (a1 : Int) (a2 : Int) (a3 : Int) (r : List (Int × Int × Int)) : AH := match r with
  | o0 => ⟨sB [(0, (some (.cells (layT [(pN 0 0), (Value.func (.func 6) #[] #[]), (sN 2 0 ((a0 ++ [(a1, a2, a3)])).length (Nat.add big 3)), (i6 (w64 (a1 + (1 : Int))))]) 40))), (2, (some (.cells (layT (rows rw_iii o0)) 44)))], 3, 0⟩
noncomputable abbrev G_heapHeapviewportlaw23itemPutq2 (a0 : List (Int × Int × Int)) (a1 : Int) (a2 : Int) (a3 : Int) (r : List (Int × Int × Int)) : Prop := Gv P (.func 7) (A_heapHeapviewportlaw23itemPutq2 a0 a1 a2 a3) (H_heapHeapviewportlaw23itemPutq2 a0 a1 a2 a3) (V_heapHeapviewportlaw23itemPutq2 a0 a1 a2 a3 r) (R_heapHeapviewportlaw23itemPutq2 a0 a1 a2 a3 r)
noncomputable abbrev C_heapHeapviewportlaw23itemPutq2 (a0 : List (Int × Int × Int)) (a1 : Int) (a2 : Int) (a3 : Int) (r : List (Int × Int × Int)) (ins outs : BL) : CallA := ⟨2, ins, V_heapHeapviewportlaw23itemPutq2 a0 a1 a2 a3 r, R_heapHeapviewportlaw23itemPutq2 a0 a1 a2 a3 r, outs⟩
def m_heapHeapviewportlaw23itemPutq2 (n : Nat) (a0 : List (Int × Int × Int)) (a1 : Int) (a2 : Int) (a3 : Int) : Option (List (Int × Int × Int)) :=
  (m_heapHeapviewportlaw23itemvalidq2 n a0 a1).bind fun _ =>
  if ((a0).length + 1) * 24 ≤ 140737488355328 then
    (m_heapHeapviewportlaw23itemupq1 n (a0 ++ [(a1, a2, a3)]) (w64 (a1 + (1 : Int))) (w64 (((((a0 ++ [(a1, a2, a3)])).length : Nat) : Int) - (1 : Int)))).bind fun c3_ =>
    some c3_
  else none
set_option maxRecDepth 100000 in
theorem p_heapHeapviewportlaw23itemPutq2_0 (n : Nat) (a0 : List (Int × Int × Int)) (a1 a2 a3 : Int) (hc1 : m_heapHeapviewportlaw23itemvalidq2 n a0 a1 = some ()) (hc2 : ((a0).length + 1) * 24 ≤ 140737488355328) (c3_ : List (Int × Int × Int)) (hc3 : m_heapHeapviewportlaw23itemupq1 n (a0 ++ [(a1, a2, a3)]) (w64 (a1 + (1 : Int))) (w64 (((((a0 ++ [(a1, a2, a3)])).length : Nat) : Int) - (1 : Int))) = some c3_) : G_heapHeapviewportlaw23itemPutq2 a0 a1 a2 a3 c3_ :=
  runF2 hm (L := lT []) ⟨[], [(0, 0, false), (2, 16, true)], 3, 0⟩ (yy 5 (.call (C_heapHeapviewportlaw23itemvalidq2 a0 a1 () [(0, 0, false), (1, 1, true)] [])) <|
ww (m_heapHeapviewportlaw23itemvalidq2_ok n a0 a1 () hc1) <|
ww (rows_flat rwf_iii a0 44) <|
yy 22 (.app ⟨none, rows rw_iii a0, (rows rw_iii (a0 ++ [(a1, a2, a3)])), ((a0 ++ [(a1, a2, a3)])).length, false⟩) <|
ww (p := 0 < 1) ((by decide)) <|
ww (p := rdT (layT (rows rw_iii a0)) (Nat.mul (a0).length 3) 0 = some (rows rw_iii a0)) (rows_rd rwf_iii _ _ rfl) <|
ww (p := fits (Nat.add (a0).length 1) 24 = true) (fits_ok hc2 (by have := hc2; show (_ : Nat) + _ ≤ _; omega)) <|
ww (p := allCells [(i6 a1), (i6 a2), (i6 a3)] = true) (rfl) <|
ww (p := allCells (rows rw_iii a0) = true) (rows_cells rwf_iii _) <|
ww (p := rows rw_iii a0 ++ [(i6 a1), (i6 a2), (i6 a3)] = (rows rw_iii (a0 ++ [(a1, a2, a3)]))) (rows_app rw_iii a0 [(a1, a2, a3)]) <|
ww (p := Nat.add (a0).length 1 = ((a0 ++ [(a1, a2, a3)])).length) (by simp) <|
yy 42 (.call (C_heapHeapviewportlaw23itemupq1 (a0 ++ [(a1, a2, a3)]) (w64 (a1 + (1 : Int))) (w64 (((((a0 ++ [(a1, a2, a3)])).length : Nat) : Int) - (1 : Int))) c3_ [(0, 0, false), (1, 16, true)] [(16, 1, true)])) <|
ww (m_heapHeapviewportlaw23itemupq1_ok n (a0 ++ [(a1, a2, a3)]) (w64 (a1 + (1 : Int))) (w64 (((((a0 ++ [(a1, a2, a3)])).length : Nat) : Int) - (1 : Int))) c3_ hc3) <|
ww (rows_flat rwf_iii (a0 ++ [(a1, a2, a3)]) 44) <|
ww (rows_flat rwf_iii c3_ 44) <|
ww (rows_flat rwf_iii c3_ 44) <|
ee) (by kernel_rfl)
theorem m_heapHeapviewportlaw23itemPutq2_ok (n : Nat) (a0 : List (Int × Int × Int)) (a1 : Int) (a2 : Int) (a3 : Int) (r : List (Int × Int × Int)) (h : m_heapHeapviewportlaw23itemPutq2 n a0 a1 a2 a3 = some r) : Gv P (.func 7) (A_heapHeapviewportlaw23itemPutq2 a0 a1 a2 a3) (H_heapHeapviewportlaw23itemPutq2 a0 a1 a2 a3) (V_heapHeapviewportlaw23itemPutq2 a0 a1 a2 a3 r) (R_heapHeapviewportlaw23itemPutq2 a0 a1 a2 a3 r) := by
  unfold m_heapHeapviewportlaw23itemPutq2 at h
  obtain ⟨_, hc1, h⟩ := Option.bind_eq_some_iff.1 h
  by_cases hc2 : ((a0).length + 1) * 24 ≤ 140737488355328
  · rw [if_pos hc2] at h
    obtain ⟨c3_, hc3, h⟩ := Option.bind_eq_some_iff.1 h
    obtain rfl := Option.some.inj h; exact p_heapHeapviewportlaw23itemPutq2_0 n a0 a1 a2 a3 hc1 hc2 c3_ hc3
  · rw [if_neg hc2] at h; cases h

noncomputable def A_heapHeapviewportlaw23itemvalidq3 (a0 : List (Int × Int × Int)) (a1 : Nat) (a2 : Int) : List Value := [(pN 0 0)]
noncomputable def H_heapHeapviewportlaw23itemvalidq3 (a0 : List (Int × Int × Int)) (a1 : Nat) (a2 : Int) : AH := ⟨sB [(0, (some (.cells (layT [(pN 0 0), (Value.func (.func 6) #[] #[]), (sN 1 0 a1 (Nat.add big 3)), (i6 a2)]) 40))), (1, (some (.cells (layT (rows rw_iii a0)) 44)))], 2, 2⟩
noncomputable def V_heapHeapviewportlaw23itemvalidq3 (a0 : List (Int × Int × Int)) (a1 : Nat) (a2 : Int) (r : Unit) : Value := match r with
  | _ => (bO true)
noncomputable def R_heapHeapviewportlaw23itemvalidq3 (a0 : List (Int × Int × Int)) (a1 : Nat) (a2 : Int) (r : Unit) : AH := match r with
  | _ => ⟨sB [], 2, 2⟩
noncomputable abbrev G_heapHeapviewportlaw23itemvalidq3 (a0 : List (Int × Int × Int)) (a1 : Nat) (a2 : Int) (r : Unit) : Prop := Gv P (.func 12) (A_heapHeapviewportlaw23itemvalidq3 a0 a1 a2) (H_heapHeapviewportlaw23itemvalidq3 a0 a1 a2) (V_heapHeapviewportlaw23itemvalidq3 a0 a1 a2 r) (R_heapHeapviewportlaw23itemvalidq3 a0 a1 a2 r)
noncomputable abbrev C_heapHeapviewportlaw23itemvalidq3 (a0 : List (Int × Int × Int)) (a1 : Nat) (a2 : Int) (r : Unit) (ins outs : BL) : CallA := ⟨2, ins, V_heapHeapviewportlaw23itemvalidq3 a0 a1 a2 r, R_heapHeapviewportlaw23itemvalidq3 a0 a1 a2 r, outs⟩
def m_heapHeapviewportlaw23itemvalidq3 (n : Nat) (a0 : List (Int × Int × Int)) (a1 : Nat) (a2 : Int) : Option (Unit) :=
  some ()
set_option maxRecDepth 100000 in
theorem p_heapHeapviewportlaw23itemvalidq3_0 (n : Nat) (a0 : List (Int × Int × Int)) (a1 : Nat) (a2 : Int) : G_heapHeapviewportlaw23itemvalidq3 a0 a1 a2 () :=
  runF2 hm (L := lT []) ⟨[2], [], 2, 2⟩ (ee) (by kernel_rfl)
theorem m_heapHeapviewportlaw23itemvalidq3_ok (n : Nat) (a0 : List (Int × Int × Int)) (a1 : Nat) (a2 : Int) (r : Unit) (h : m_heapHeapviewportlaw23itemvalidq3 n a0 a1 a2 = some r) : Gv P (.func 12) (A_heapHeapviewportlaw23itemvalidq3 a0 a1 a2) (H_heapHeapviewportlaw23itemvalidq3 a0 a1 a2) (V_heapHeapviewportlaw23itemvalidq3 a0 a1 a2 r) (R_heapHeapviewportlaw23itemvalidq3 a0 a1 a2 r) := by
  unfold m_heapHeapviewportlaw23itemvalidq3 at h
  obtain rfl := Option.some.inj h; exact p_heapHeapviewportlaw23itemvalidq3_0 n a0 a1 a2

noncomputable def A_heapHeapviewportlaw23itemPutq3 (a0 : List (Int × Int × Int)) (a1 : Nat) (a2 : Int) (a3 : Int) (a4 : Int) : List Value := [(pN 0 0), (Value.agg #[(i6 a3), (i6 a4)])]
noncomputable def H_heapHeapviewportlaw23itemPutq3 (a0 : List (Int × Int × Int)) (a1 : Nat) (a2 : Int) (a3 : Int) (a4 : Int) : AH := ⟨sB [(0, (some (.cells (layT [(pN 0 0), (Value.func (.func 6) #[] #[]), (sN 1 0 a1 (Nat.add big 3)), (i6 a2)]) 40))), (1, (some (.cells (layT (rows rw_iii a0)) 44)))], 2, 2⟩
noncomputable def V_heapHeapviewportlaw23itemPutq3 (a0 : List (Int × Int × Int)) (a1 : Nat) (a2 : Int) (a3 : Int) (a4 : Int) (r : List (Int × Int × Int) × Nat) : Value := match r with
  | (o0, o1) => (Value.tuple #[])
noncomputable def R_heapHeapviewportlaw23itemPutq3 (a0 : List (Int × Int × Int)) (a1 : Nat) (a2 : Int) (a3 : Int) (a4 : Int) (r : List (Int × Int × Int) × Nat) : AH := match r with
  | (o0, o1) => ⟨sB [(0, (some (.cells (layT [(pN 0 0), (Value.func (.func 6) #[] #[]), (sN 2 0 o1 (Nat.add big 3)), (i6 (w64 (a2 + (1 : Int))))]) 40))), (2, (some (.cells (layT (rows rw_iii o0)) 44)))], 3, 0⟩
noncomputable abbrev G_heapHeapviewportlaw23itemPutq3 (a0 : List (Int × Int × Int)) (a1 : Nat) (a2 : Int) (a3 : Int) (a4 : Int) (r : List (Int × Int × Int) × Nat) : Prop := Gv P (.func 7) (A_heapHeapviewportlaw23itemPutq3 a0 a1 a2 a3 a4) (H_heapHeapviewportlaw23itemPutq3 a0 a1 a2 a3 a4) (V_heapHeapviewportlaw23itemPutq3 a0 a1 a2 a3 a4 r) (R_heapHeapviewportlaw23itemPutq3 a0 a1 a2 a3 a4 r)
noncomputable abbrev C_heapHeapviewportlaw23itemPutq3 (a0 : List (Int × Int × Int)) (a1 : Nat) (a2 : Int) (a3 : Int) (a4 : Int) (r : List (Int × Int × Int) × Nat) (ins outs : BL) : CallA := ⟨2, ins, V_heapHeapviewportlaw23itemPutq3 a0 a1 a2 a3 a4 r, R_heapHeapviewportlaw23itemPutq3 a0 a1 a2 a3 a4 r, outs⟩
def m_heapHeapviewportlaw23itemPutq3 (n : Nat) (a0 : List (Int × Int × Int)) (a1 : Nat) (a2 : Int) (a3 : Int) (a4 : Int) : Option (List (Int × Int × Int) × Nat) :=
  (m_heapHeapviewportlaw23itemvalidq3 n a0 a1 a2).bind fun _ =>
  if a1 ≤ (a0).length then
    if (a1 + 1) * 24 ≤ 140737488355328 then
      (m_heapHeapviewportlaw23itemupq1 n ((List.take a1 a0) ++ [(a2, a3, a4)]) (w64 (a2 + (1 : Int))) (w64 ((((((List.take a1 a0) ++ [(a2, a3, a4)])).length : Nat) : Int) - (1 : Int)))).bind fun c4_ =>
      some (c4_, ((((List.take a1 a0) ++ [(a2, a3, a4)])).length))
    else none
  else none
set_option maxRecDepth 100000 in
theorem p_heapHeapviewportlaw23itemPutq3_0 (n : Nat) (a0 : List (Int × Int × Int)) (a1 : Nat) (a2 a3 a4 : Int) (hc1 : m_heapHeapviewportlaw23itemvalidq3 n a0 a1 a2 = some ()) (hc2 : a1 ≤ (a0).length) (hc3 : (a1 + 1) * 24 ≤ 140737488355328) (c4_ : List (Int × Int × Int)) (hc4 : m_heapHeapviewportlaw23itemupq1 n ((List.take a1 a0) ++ [(a2, a3, a4)]) (w64 (a2 + (1 : Int))) (w64 ((((((List.take a1 a0) ++ [(a2, a3, a4)])).length : Nat) : Int) - (1 : Int))) = some c4_) : G_heapHeapviewportlaw23itemPutq3 a0 a1 a2 a3 a4 (c4_, ((((List.take a1 a0) ++ [(a2, a3, a4)])).length)) :=
  runF2 hm (L := lT []) ⟨[], [(0, 0, false), (2, 16, true)], 3, 0⟩ (yy 5 (.call (C_heapHeapviewportlaw23itemvalidq3 a0 a1 a2 () [(0, 0, false), (1, 1, true)] [])) <|
ww (m_heapHeapviewportlaw23itemvalidq3_ok n a0 a1 a2 () hc1) <|
ww (rows_flat rwf_iii a0 44) <|
yy 22 (.app ⟨none, rows rw_iii (List.take a1 a0), (rows rw_iii ((List.take a1 a0) ++ [(a2, a3, a4)])), (((List.take a1 a0) ++ [(a2, a3, a4)])).length, false⟩) <|
ww (p := 0 < 1) ((by decide)) <|
ww (p := rdT (layT (rows rw_iii a0)) (Nat.mul a1 3) 0 = some (rows rw_iii (List.take a1 a0))) (rows_rdTake rwf_iii _ _ hc2) <|
ww (p := fits (Nat.add a1 1) 24 = true) (fits_ok hc3 (by have := hc3; show (_ : Nat) + _ ≤ _; omega)) <|
ww (p := allCells [(i6 a2), (i6 a3), (i6 a4)] = true) (rfl) <|
ww (p := allCells (rows rw_iii (List.take a1 a0)) = true) (rows_cells rwf_iii _) <|
ww (p := rows rw_iii (List.take a1 a0) ++ [(i6 a2), (i6 a3), (i6 a4)] = (rows rw_iii ((List.take a1 a0) ++ [(a2, a3, a4)]))) (rows_app rw_iii (List.take a1 a0) [(a2, a3, a4)]) <|
ww (p := Nat.add a1 1 = (((List.take a1 a0) ++ [(a2, a3, a4)])).length) (take_len hc2 rfl) <|
yy 42 (.call (C_heapHeapviewportlaw23itemupq1 ((List.take a1 a0) ++ [(a2, a3, a4)]) (w64 (a2 + (1 : Int))) (w64 ((((((List.take a1 a0) ++ [(a2, a3, a4)])).length : Nat) : Int) - (1 : Int))) c4_ [(0, 0, false), (1, 16, true)] [(16, 1, true)])) <|
ww (m_heapHeapviewportlaw23itemupq1_ok n ((List.take a1 a0) ++ [(a2, a3, a4)]) (w64 (a2 + (1 : Int))) (w64 ((((((List.take a1 a0) ++ [(a2, a3, a4)])).length : Nat) : Int) - (1 : Int))) c4_ hc4) <|
ww (rows_flat rwf_iii ((List.take a1 a0) ++ [(a2, a3, a4)]) 44) <|
ww (rows_flat rwf_iii c4_ 44) <|
ww (rows_flat rwf_iii c4_ 44) <|
ee) (by kernel_rfl)
theorem m_heapHeapviewportlaw23itemPutq3_ok (n : Nat) (a0 : List (Int × Int × Int)) (a1 : Nat) (a2 : Int) (a3 : Int) (a4 : Int) (r : List (Int × Int × Int) × Nat) (h : m_heapHeapviewportlaw23itemPutq3 n a0 a1 a2 a3 a4 = some r) : Gv P (.func 7) (A_heapHeapviewportlaw23itemPutq3 a0 a1 a2 a3 a4) (H_heapHeapviewportlaw23itemPutq3 a0 a1 a2 a3 a4) (V_heapHeapviewportlaw23itemPutq3 a0 a1 a2 a3 a4 r) (R_heapHeapviewportlaw23itemPutq3 a0 a1 a2 a3 a4 r) := by
  unfold m_heapHeapviewportlaw23itemPutq3 at h
  obtain ⟨_, hc1, h⟩ := Option.bind_eq_some_iff.1 h
  by_cases hc2 : a1 ≤ (a0).length
  · rw [if_pos hc2] at h
    by_cases hc3 : (a1 + 1) * 24 ≤ 140737488355328
    · rw [if_pos hc3] at h
      obtain ⟨c4_, hc4, h⟩ := Option.bind_eq_some_iff.1 h
      obtain rfl := Option.some.inj h; exact p_heapHeapviewportlaw23itemPutq3_0 n a0 a1 a2 a3 a4 hc1 hc2 hc3 c4_ hc4
    · rw [if_neg hc3] at h; cases h
  · rw [if_neg hc2] at h; cases h

noncomputable def A_viewportkitPickq1 (a0 : Int) (a1 : Int) : List Value := [(i6 a0), (i6 a1)]
noncomputable def H_viewportkitPickq1 (a0 : Int) (a1 : Int) : AH := ⟨sB [], 0, 0⟩
noncomputable def V_viewportkitPickq1 (a0 : Int) (a1 : Int) (r : Int) : Value := match r with
  | o0 => (i6 o0)
noncomputable def R_viewportkitPickq1 (a0 : Int) (a1 : Int) (r : Int) : AH := match r with
  | o0 => ⟨sB [], 0, 0⟩
noncomputable abbrev G_viewportkitPickq1 (a0 : Int) (a1 : Int) (r : Int) : Prop := Gv P (.func 9) (A_viewportkitPickq1 a0 a1) (H_viewportkitPickq1 a0 a1) (V_viewportkitPickq1 a0 a1 r) (R_viewportkitPickq1 a0 a1 r)
noncomputable abbrev C_viewportkitPickq1 (a0 : Int) (a1 : Int) (r : Int) (ins outs : BL) : CallA := ⟨0, ins, V_viewportkitPickq1 a0 a1 r, R_viewportkitPickq1 a0 a1 r, outs⟩
def m_viewportkitPickq1 (n : Nat) (a0 : Int) (a1 : Int) : Option (Int) :=
  if a1 < (1 : Int) then
    some 0
  else
    if ¬ (a1 = 0) then
      if (Int.tmod a0 a1) < (0 : Int) then
        some (w64 ((Int.tmod a0 a1) + a1))
      else
        some (Int.tmod a0 a1)
    else none
set_option maxRecDepth 100000 in
theorem p_viewportkitPickq1_0 (n : Nat) (a0 a1 : Int) (hc1 : a1 < (1 : Int)) : G_viewportkitPickq1 a0 a1 0 :=
  runF2 hm (L := lT []) ⟨[4], [], 0, 0⟩ (zz 5 (xdT hc1) <|
ee) (by kernel_rfl)
set_option maxRecDepth 100000 in
theorem p_viewportkitPickq1_1 (n : Nat) (a0 a1 : Int) (hc1 : ¬ (a1 < (1 : Int))) (hc2 : ¬ (a1 = 0)) (hc3 : (Int.tmod a0 a1) < (0 : Int)) : G_viewportkitPickq1 a0 a1 (w64 ((Int.tmod a0 a1) + a1)) :=
  runF2 hm (L := lT []) ⟨[4], [], 0, 0⟩ (zz 5 (xdF hc1) <|
yy 10 (.pur (i6 (Int.tmod a0 a1))) <|
ww (p := opBin P .rem 3 (.tmp 8) (.tmp 9) (i6 a0) (i6 a1) Ax.h0 = some ((i6 (Int.tmod a0 a1)), Ax.h0)) (remI hc2) <|
zz 15 (xdT hc3) <|
ee) (by kernel_rfl)
set_option maxRecDepth 100000 in
theorem p_viewportkitPickq1_2 (n : Nat) (a0 a1 : Int) (hc1 : ¬ (a1 < (1 : Int))) (hc2 : ¬ (a1 = 0)) (hc3 : ¬ ((Int.tmod a0 a1) < (0 : Int))) : G_viewportkitPickq1 a0 a1 (Int.tmod a0 a1) :=
  runF2 hm (L := lT []) ⟨[4], [], 0, 0⟩ (zz 5 (xdF hc1) <|
yy 10 (.pur (i6 (Int.tmod a0 a1))) <|
ww (p := opBin P .rem 3 (.tmp 8) (.tmp 9) (i6 a0) (i6 a1) Ax.h0 = some ((i6 (Int.tmod a0 a1)), Ax.h0)) (remI hc2) <|
zz 15 (xdF hc3) <|
ee) (by kernel_rfl)
theorem m_viewportkitPickq1_ok (n : Nat) (a0 : Int) (a1 : Int) (r : Int) (h : m_viewportkitPickq1 n a0 a1 = some r) : Gv P (.func 9) (A_viewportkitPickq1 a0 a1) (H_viewportkitPickq1 a0 a1) (V_viewportkitPickq1 a0 a1 r) (R_viewportkitPickq1 a0 a1 r) := by
  unfold m_viewportkitPickq1 at h
  by_cases hc1 : a1 < (1 : Int)
  · rw [if_pos hc1] at h
    obtain rfl := Option.some.inj h; exact p_viewportkitPickq1_0 n a0 a1 hc1
  · rw [if_neg hc1] at h
    by_cases hc2 : ¬ (a1 = 0)
    · rw [if_pos hc2] at h
      by_cases hc3 : (Int.tmod a0 a1) < (0 : Int)
      · rw [if_pos hc3] at h
        obtain rfl := Option.some.inj h; exact p_viewportkitPickq1_1 n a0 a1 hc1 hc2 hc3
      · rw [if_neg hc3] at h
        obtain rfl := Option.some.inj h; exact p_viewportkitPickq1_2 n a0 a1 hc1 hc2 hc3
    · rw [if_neg hc2] at h; cases h

noncomputable def A_heapHeapviewportlaw23itemLenq1 (a0 : Int) : List Value := [(pN 0 0)]
noncomputable def H_heapHeapviewportlaw23itemLenq1 (a0 : Int) : AH := ⟨sB [(0, (some (.cells (layT [(pN 0 0), (Value.func (.func 6) #[] #[]), (Value.slice none 0 0), (i6 a0)]) 40)))], 1, 1⟩
noncomputable def V_heapHeapviewportlaw23itemLenq1 (a0 : Int) (r : Unit) : Value := match r with
  | _ => (i6 (0 : Int))
noncomputable def R_heapHeapviewportlaw23itemLenq1 (a0 : Int) (r : Unit) : AH := match r with
  | _ => ⟨sB [], 1, 1⟩
noncomputable abbrev G_heapHeapviewportlaw23itemLenq1 (a0 : Int) (r : Unit) : Prop := Gv P (.func 11) (A_heapHeapviewportlaw23itemLenq1 a0) (H_heapHeapviewportlaw23itemLenq1 a0) (V_heapHeapviewportlaw23itemLenq1 a0 r) (R_heapHeapviewportlaw23itemLenq1 a0 r)
noncomputable abbrev C_heapHeapviewportlaw23itemLenq1 (a0 : Int) (r : Unit) (ins outs : BL) : CallA := ⟨1, ins, V_heapHeapviewportlaw23itemLenq1 a0 r, R_heapHeapviewportlaw23itemLenq1 a0 r, outs⟩
def m_heapHeapviewportlaw23itemLenq1 (n : Nat) (a0 : Int) : Option (Unit) :=
  (m_heapHeapviewportlaw23itemvalidq1 n a0).bind fun _ =>
  some ()
set_option maxRecDepth 100000 in
theorem p_heapHeapviewportlaw23itemLenq1_0 (n : Nat) (a0 : Int) (hc1 : m_heapHeapviewportlaw23itemvalidq1 n a0 = some ()) : G_heapHeapviewportlaw23itemLenq1 a0 () :=
  runF2 hm (L := lT []) ⟨[2], [], 1, 1⟩ (yy 5 (.call (C_heapHeapviewportlaw23itemvalidq1 a0 () [(0, 0, false)] [])) <|
ww (m_heapHeapviewportlaw23itemvalidq1_ok n a0 () hc1) <|
ee) (by kernel_rfl)
theorem m_heapHeapviewportlaw23itemLenq1_ok (n : Nat) (a0 : Int) (r : Unit) (h : m_heapHeapviewportlaw23itemLenq1 n a0 = some r) : Gv P (.func 11) (A_heapHeapviewportlaw23itemLenq1 a0) (H_heapHeapviewportlaw23itemLenq1 a0) (V_heapHeapviewportlaw23itemLenq1 a0 r) (R_heapHeapviewportlaw23itemLenq1 a0 r) := by
  unfold m_heapHeapviewportlaw23itemLenq1 at h
  obtain ⟨_, hc1, h⟩ := Option.bind_eq_some_iff.1 h
  obtain rfl := Option.some.inj h; exact p_heapHeapviewportlaw23itemLenq1_0 n a0 hc1

noncomputable def A_heapHeapviewportlaw23itemLeastq1 (a0 : Int) : List Value := [(pN 0 0)]
noncomputable def H_heapHeapviewportlaw23itemLeastq1 (a0 : Int) : AH := ⟨sB [(0, (some (.cells (layT [(pN 0 0), (Value.func (.func 6) #[] #[]), (Value.slice none 0 0), (i6 a0)]) 40)))], 1, 1⟩
noncomputable def V_heapHeapviewportlaw23itemLeastq1 (a0 : Int) (r : Unit) : Value := match r with
  | _ => (Value.tuple #[(Value.agg #[(i6 (0 : Int)), (i6 (0 : Int))]), (bO false)])
noncomputable def R_heapHeapviewportlaw23itemLeastq1 (a0 : Int) (r : Unit) : AH := match r with
  | _ => ⟨sB [(1, (some (.cells (layT [(i6 (0 : Int)), (i6 (0 : Int))]) 27)))], 2, 1⟩
noncomputable abbrev G_heapHeapviewportlaw23itemLeastq1 (a0 : Int) (r : Unit) : Prop := Gv P (.func 14) (A_heapHeapviewportlaw23itemLeastq1 a0) (H_heapHeapviewportlaw23itemLeastq1 a0) (V_heapHeapviewportlaw23itemLeastq1 a0 r) (R_heapHeapviewportlaw23itemLeastq1 a0 r)
noncomputable abbrev C_heapHeapviewportlaw23itemLeastq1 (a0 : Int) (r : Unit) (ins outs : BL) : CallA := ⟨1, ins, V_heapHeapviewportlaw23itemLeastq1 a0 r, R_heapHeapviewportlaw23itemLeastq1 a0 r, outs⟩
def m_heapHeapviewportlaw23itemLeastq1 (n : Nat) (a0 : Int) : Option (Unit) :=
  (m_heapHeapviewportlaw23itemLenq1 n a0).bind fun _ =>
  some ()
set_option maxRecDepth 100000 in
theorem p_heapHeapviewportlaw23itemLeastq1_0 (n : Nat) (a0 : Int) (hc1 : m_heapHeapviewportlaw23itemLenq1 n a0 = some ()) : G_heapHeapviewportlaw23itemLeastq1 a0 () :=
  runF2 hm (L := lT []) ⟨[2, 3], [(1, 1, false)], 2, 1⟩ (yy 6 (.call (C_heapHeapviewportlaw23itemLenq1 a0 () [(0, 0, false)] [])) <|
ww (m_heapHeapviewportlaw23itemLenq1_ok n a0 () hc1) <|
ee) (by kernel_rfl)
theorem m_heapHeapviewportlaw23itemLeastq1_ok (n : Nat) (a0 : Int) (r : Unit) (h : m_heapHeapviewportlaw23itemLeastq1 n a0 = some r) : Gv P (.func 14) (A_heapHeapviewportlaw23itemLeastq1 a0) (H_heapHeapviewportlaw23itemLeastq1 a0) (V_heapHeapviewportlaw23itemLeastq1 a0 r) (R_heapHeapviewportlaw23itemLeastq1 a0 r) := by
  unfold m_heapHeapviewportlaw23itemLeastq1 at h
  obtain ⟨_, hc1, h⟩ := Option.bind_eq_some_iff.1 h
  obtain rfl := Option.some.inj h; exact p_heapHeapviewportlaw23itemLeastq1_0 n a0 hc1

noncomputable def A_heapHeapviewportlaw23itemTakeq1 (a0 : Int) : List Value := [(pN 0 0)]
noncomputable def H_heapHeapviewportlaw23itemTakeq1 (a0 : Int) : AH := ⟨sB [(0, (some (.cells (layT [(pN 0 0), (Value.func (.func 6) #[] #[]), (Value.slice none 0 0), (i6 a0)]) 40)))], 1, 1⟩
noncomputable def V_heapHeapviewportlaw23itemTakeq1 (a0 : Int) (r : Unit) : Value := match r with
  | _ => (Value.tuple #[(Value.agg #[(i6 (0 : Int)), (i6 (0 : Int))]), (bO false)])
noncomputable def R_heapHeapviewportlaw23itemTakeq1 (a0 : Int) (r : Unit) : AH := match r with
  | _ => ⟨sB [(1, (some (.cells (layT [(i6 (0 : Int)), (i6 (0 : Int))]) 27)))], 2, 1⟩
noncomputable abbrev G_heapHeapviewportlaw23itemTakeq1 (a0 : Int) (r : Unit) : Prop := Gv P (.func 10) (A_heapHeapviewportlaw23itemTakeq1 a0) (H_heapHeapviewportlaw23itemTakeq1 a0) (V_heapHeapviewportlaw23itemTakeq1 a0 r) (R_heapHeapviewportlaw23itemTakeq1 a0 r)
noncomputable abbrev C_heapHeapviewportlaw23itemTakeq1 (a0 : Int) (r : Unit) (ins outs : BL) : CallA := ⟨1, ins, V_heapHeapviewportlaw23itemTakeq1 a0 r, R_heapHeapviewportlaw23itemTakeq1 a0 r, outs⟩
def m_heapHeapviewportlaw23itemTakeq1 (n : Nat) (a0 : Int) : Option (Unit) :=
  (m_heapHeapviewportlaw23itemLeastq1 n a0).bind fun _ =>
  some ()
set_option maxRecDepth 100000 in
theorem p_heapHeapviewportlaw23itemTakeq1_0 (n : Nat) (a0 : Int) (hc1 : m_heapHeapviewportlaw23itemLeastq1 n a0 = some ()) : G_heapHeapviewportlaw23itemTakeq1 a0 () :=
  runF2 hm (L := lT []) ⟨[2, 3], [(1, 1, false)], 2, 1⟩ (yy 5 (.call (C_heapHeapviewportlaw23itemLeastq1 a0 () [(0, 0, false)] [(2, 1, false)])) <|
ww (m_heapHeapviewportlaw23itemLeastq1_ok n a0 () hc1) <|
ee) (by kernel_rfl)
theorem m_heapHeapviewportlaw23itemTakeq1_ok (n : Nat) (a0 : Int) (r : Unit) (h : m_heapHeapviewportlaw23itemTakeq1 n a0 = some r) : Gv P (.func 10) (A_heapHeapviewportlaw23itemTakeq1 a0) (H_heapHeapviewportlaw23itemTakeq1 a0) (V_heapHeapviewportlaw23itemTakeq1 a0 r) (R_heapHeapviewportlaw23itemTakeq1 a0 r) := by
  unfold m_heapHeapviewportlaw23itemTakeq1 at h
  obtain ⟨_, hc1, h⟩ := Option.bind_eq_some_iff.1 h
  obtain rfl := Option.some.inj h; exact p_heapHeapviewportlaw23itemTakeq1_0 n a0 hc1

noncomputable def A_heapHeapviewportlaw23itemLenq2 (a0 : List (Int × Int × Int)) (a1 : Nat) (a2 : Int) : List Value := [(pN 0 0)]
noncomputable def H_heapHeapviewportlaw23itemLenq2 (a0 : List (Int × Int × Int)) (a1 : Nat) (a2 : Int) : AH := ⟨sB [(0, (some (.cells (layT [(pN 0 0), (Value.func (.func 6) #[] #[]), (sN 1 0 a1 (Nat.add big 3)), (i6 a2)]) 40))), (1, (some (.cells (layT (rows rw_iii a0)) 44)))], 2, 2⟩
noncomputable def V_heapHeapviewportlaw23itemLenq2 (a0 : List (Int × Int × Int)) (a1 : Nat) (a2 : Int) (r : Unit) : Value := match r with
  | _ => (i6 ((a1 : Nat) : Int))
noncomputable def R_heapHeapviewportlaw23itemLenq2 (a0 : List (Int × Int × Int)) (a1 : Nat) (a2 : Int) (r : Unit) : AH := match r with
  | _ => ⟨sB [], 2, 2⟩
noncomputable abbrev G_heapHeapviewportlaw23itemLenq2 (a0 : List (Int × Int × Int)) (a1 : Nat) (a2 : Int) (r : Unit) : Prop := Gv P (.func 11) (A_heapHeapviewportlaw23itemLenq2 a0 a1 a2) (H_heapHeapviewportlaw23itemLenq2 a0 a1 a2) (V_heapHeapviewportlaw23itemLenq2 a0 a1 a2 r) (R_heapHeapviewportlaw23itemLenq2 a0 a1 a2 r)
noncomputable abbrev C_heapHeapviewportlaw23itemLenq2 (a0 : List (Int × Int × Int)) (a1 : Nat) (a2 : Int) (r : Unit) (ins outs : BL) : CallA := ⟨2, ins, V_heapHeapviewportlaw23itemLenq2 a0 a1 a2 r, R_heapHeapviewportlaw23itemLenq2 a0 a1 a2 r, outs⟩
def m_heapHeapviewportlaw23itemLenq2 (n : Nat) (a0 : List (Int × Int × Int)) (a1 : Nat) (a2 : Int) : Option (Unit) :=
  (m_heapHeapviewportlaw23itemvalidq3 n a0 a1 a2).bind fun _ =>
  some ()
set_option maxRecDepth 100000 in
theorem p_heapHeapviewportlaw23itemLenq2_0 (n : Nat) (a0 : List (Int × Int × Int)) (a1 : Nat) (a2 : Int) (hc1 : m_heapHeapviewportlaw23itemvalidq3 n a0 a1 a2 = some ()) : G_heapHeapviewportlaw23itemLenq2 a0 a1 a2 () :=
  runF2 hm (L := lT []) ⟨[2], [], 2, 2⟩ (yy 5 (.call (C_heapHeapviewportlaw23itemvalidq3 a0 a1 a2 () [(0, 0, false), (1, 1, true)] [])) <|
ww (m_heapHeapviewportlaw23itemvalidq3_ok n a0 a1 a2 () hc1) <|
ww (rows_flat rwf_iii a0 44) <|
ee) (by kernel_rfl)
theorem m_heapHeapviewportlaw23itemLenq2_ok (n : Nat) (a0 : List (Int × Int × Int)) (a1 : Nat) (a2 : Int) (r : Unit) (h : m_heapHeapviewportlaw23itemLenq2 n a0 a1 a2 = some r) : Gv P (.func 11) (A_heapHeapviewportlaw23itemLenq2 a0 a1 a2) (H_heapHeapviewportlaw23itemLenq2 a0 a1 a2) (V_heapHeapviewportlaw23itemLenq2 a0 a1 a2 r) (R_heapHeapviewportlaw23itemLenq2 a0 a1 a2 r) := by
  unfold m_heapHeapviewportlaw23itemLenq2 at h
  obtain ⟨_, hc1, h⟩ := Option.bind_eq_some_iff.1 h
  obtain rfl := Option.some.inj h; exact p_heapHeapviewportlaw23itemLenq2_0 n a0 a1 a2 hc1

noncomputable def A_heapHeapviewportlaw23itemLeastq2 (a0 : List (Int × Int × Int)) (a1 : Nat) (a2 : Int) : List Value := [(pN 0 0)]
noncomputable def H_heapHeapviewportlaw23itemLeastq2 (a0 : List (Int × Int × Int)) (a1 : Nat) (a2 : Int) : AH := ⟨sB [(0, (some (.cells (layT [(pN 0 0), (Value.func (.func 6) #[] #[]), (sN 1 0 a1 (Nat.add big 3)), (i6 a2)]) 40))), (1, (some (.cells (layT (rows rw_iii a0)) 44)))], 2, 2⟩
noncomputable def V_heapHeapviewportlaw23itemLeastq2 (a0 : List (Int × Int × Int)) (a1 : Nat) (a2 : Int) (r : Int × Int × Bool) : Value := match r with
  | (o0, o1, o2) => (Value.tuple #[(Value.agg #[(i6 o0), (i6 o1)]), (bO o2)])
noncomputable def R_heapHeapviewportlaw23itemLeastq2 (a0 : List (Int × Int × Int)) (a1 : Nat) (a2 : Int) (r : Int × Int × Bool) : AH := match r with
  | (o0, o1, o2) => ⟨sB [(2, (some (.cells (layT [(i6 o0), (i6 o1)]) 27)))], 3, 2⟩
noncomputable abbrev G_heapHeapviewportlaw23itemLeastq2 (a0 : List (Int × Int × Int)) (a1 : Nat) (a2 : Int) (r : Int × Int × Bool) : Prop := Gv P (.func 14) (A_heapHeapviewportlaw23itemLeastq2 a0 a1 a2) (H_heapHeapviewportlaw23itemLeastq2 a0 a1 a2) (V_heapHeapviewportlaw23itemLeastq2 a0 a1 a2 r) (R_heapHeapviewportlaw23itemLeastq2 a0 a1 a2 r)
noncomputable abbrev C_heapHeapviewportlaw23itemLeastq2 (a0 : List (Int × Int × Int)) (a1 : Nat) (a2 : Int) (r : Int × Int × Bool) (ins outs : BL) : CallA := ⟨2, ins, V_heapHeapviewportlaw23itemLeastq2 a0 a1 a2 r, R_heapHeapviewportlaw23itemLeastq2 a0 a1 a2 r, outs⟩
def m_heapHeapviewportlaw23itemLeastq2 (n : Nat) (a0 : List (Int × Int × Int)) (a1 : Nat) (a2 : Int) : Option (Int × Int × Bool) :=
  (m_heapHeapviewportlaw23itemLenq2 n a0 a1 a2).bind fun _ =>
  if ((a1 : Nat) : Int) = (0 : Int) then
    some (0, 0, false)
  else
    if 0 ≤ (0 : Int) ∧ (0 : Int) < ((a1 : Nat) : Int) then
      if ((0 : Int)).toNat < (a0).length then
        some ((((a0).getD ((0 : Int)).toNat (0, 0, 0)).2.1), (((a0).getD ((0 : Int)).toNat (0, 0, 0)).2.2), true)
      else none
    else none
set_option maxRecDepth 100000 in
theorem p_heapHeapviewportlaw23itemLeastq2_0 (n : Nat) (a0 : List (Int × Int × Int)) (a1 : Nat) (a2 : Int) (hc1 : m_heapHeapviewportlaw23itemLenq2 n a0 a1 a2 = some ()) (hc2 : ((a1 : Nat) : Int) = (0 : Int)) : G_heapHeapviewportlaw23itemLeastq2 a0 a1 a2 (0, 0, false) :=
  runF2 hm (L := lT []) ⟨[2, 3], [(2, 2, false)], 3, 2⟩ (yy 6 (.call (C_heapHeapviewportlaw23itemLenq2 a0 a1 a2 () [(0, 0, false), (1, 1, true)] [])) <|
ww (m_heapHeapviewportlaw23itemLenq2_ok n a0 a1 a2 () hc1) <|
ww (rows_flat rwf_iii a0 44) <|
zz 7 (xeT hc2) <|
ee) (by kernel_rfl)
set_option maxRecDepth 100000 in
theorem p_heapHeapviewportlaw23itemLeastq2_1 (n : Nat) (a0 : List (Int × Int × Int)) (a1 : Nat) (a2 : Int) (hc1 : m_heapHeapviewportlaw23itemLenq2 n a0 a1 a2 = some ()) (hc2 : ¬ (((a1 : Nat) : Int) = (0 : Int))) (hc3 : 0 ≤ (0 : Int) ∧ (0 : Int) < ((a1 : Nat) : Int)) (hc4 : ((0 : Int)).toNat < (a0).length) : G_heapHeapviewportlaw23itemLeastq2 a0 a1 a2 ((((a0).getD ((0 : Int)).toNat (0, 0, 0)).2.1), (((a0).getD ((0 : Int)).toNat (0, 0, 0)).2.2), true) :=
  runF2 hm (L := lT []) ⟨[2, 3], [(2, 2, false)], 3, 2⟩ (yy 6 (.call (C_heapHeapviewportlaw23itemLenq2 a0 a1 a2 () [(0, 0, false), (1, 1, true)] [])) <|
ww (m_heapHeapviewportlaw23itemLenq2_ok n a0 a1 a2 () hc1) <|
ww (rows_flat rwf_iii a0 44) <|
zz 7 (xeF hc2) <|
zz 14 (xk2 1 U3 hc3) <|
yy 16 (.ld (Value.agg #[(i6 (((a0).getD ((0 : Int)).toNat (0, 0, 0)).2.1)), (i6 (((a0).getD ((0 : Int)).toNat (0, 0, 0)).2.2))])) <|
ww (p := rdT (layT (rows rw_iii a0)) 2 (Nat.add (((0 : Int)).toNat * 3) 1) = some [(i6 (((a0).getD ((0 : Int)).toNat (0, 0, 0)).2.1)), (i6 (((a0).getD ((0 : Int)).toNat (0, 0, 0)).2.2))]) (rows_rdp rwf_iii (0, 0, 0) (i := ((0 : Int)).toNat) (j := 1) (Nat.add (((0 : Int)).toNat * 3) 1) rfl (hc4) (by decide) rfl) <|
ee) (by kernel_rfl)
theorem m_heapHeapviewportlaw23itemLeastq2_ok (n : Nat) (a0 : List (Int × Int × Int)) (a1 : Nat) (a2 : Int) (r : Int × Int × Bool) (h : m_heapHeapviewportlaw23itemLeastq2 n a0 a1 a2 = some r) : Gv P (.func 14) (A_heapHeapviewportlaw23itemLeastq2 a0 a1 a2) (H_heapHeapviewportlaw23itemLeastq2 a0 a1 a2) (V_heapHeapviewportlaw23itemLeastq2 a0 a1 a2 r) (R_heapHeapviewportlaw23itemLeastq2 a0 a1 a2 r) := by
  unfold m_heapHeapviewportlaw23itemLeastq2 at h
  obtain ⟨_, hc1, h⟩ := Option.bind_eq_some_iff.1 h
  by_cases hc2 : ((a1 : Nat) : Int) = (0 : Int)
  · rw [if_pos hc2] at h
    obtain rfl := Option.some.inj h; exact p_heapHeapviewportlaw23itemLeastq2_0 n a0 a1 a2 hc1 hc2
  · rw [if_neg hc2] at h
    by_cases hc3 : 0 ≤ (0 : Int) ∧ (0 : Int) < ((a1 : Nat) : Int)
    · rw [if_pos hc3] at h
      by_cases hc4 : ((0 : Int)).toNat < (a0).length
      · rw [if_pos hc4] at h
        obtain rfl := Option.some.inj h; exact p_heapHeapviewportlaw23itemLeastq2_1 n a0 a1 a2 hc1 hc2 hc3 hc4
      · rw [if_neg hc4] at h; cases h
    · rw [if_neg hc3] at h; cases h

noncomputable def A_heapHeapviewportlaw23itemdownq1 (a0 : List (Int × Int × Int)) (a1 : Nat) (a2 : Int) (a3 : Int) : List Value := [(pN 0 0), (i6 a3)]
noncomputable def H_heapHeapviewportlaw23itemdownq1 (a0 : List (Int × Int × Int)) (a1 : Nat) (a2 : Int) (a3 : Int) : AH := ⟨sB [(0, (some (.cells (layT [(pN 0 0), (Value.func (.func 6) #[] #[]), (sN 1 0 a1 (Nat.add big 3)), (i6 a2)]) 40))), (1, (some (.cells (layT (rows rw_iii a0)) 44)))], 2, 2⟩
noncomputable def V_heapHeapviewportlaw23itemdownq1 (a0 : List (Int × Int × Int)) (a1 : Nat) (a2 : Int) (a3 : Int) (r : List (Int × Int × Int)) : Value := match r with
  | o0 => (Value.tuple #[])
noncomputable def R_heapHeapviewportlaw23itemdownq1 (a0 : List (Int × Int × Int)) (a1 : Nat) (a2 : Int) (a3 : Int) (r : List (Int × Int × Int)) : AH := match r with
  | o0 => ⟨sB [(1, (some (.cells (layT (rows rw_iii o0)) 44)))], 2, 1⟩
noncomputable abbrev G_heapHeapviewportlaw23itemdownq1 (a0 : List (Int × Int × Int)) (a1 : Nat) (a2 : Int) (a3 : Int) (r : List (Int × Int × Int)) : Prop := Gv P (.func 15) (A_heapHeapviewportlaw23itemdownq1 a0 a1 a2 a3) (H_heapHeapviewportlaw23itemdownq1 a0 a1 a2 a3) (V_heapHeapviewportlaw23itemdownq1 a0 a1 a2 a3 r) (R_heapHeapviewportlaw23itemdownq1 a0 a1 a2 a3 r)
noncomputable abbrev C_heapHeapviewportlaw23itemdownq1 (a0 : List (Int × Int × Int)) (a1 : Nat) (a2 : Int) (a3 : Int) (r : List (Int × Int × Int)) (ins outs : BL) : CallA := ⟨2, ins, V_heapHeapviewportlaw23itemdownq1 a0 a1 a2 a3 r, R_heapHeapviewportlaw23itemdownq1 a0 a1 a2 a3 r, outs⟩
noncomputable def S_heapHeapviewportlaw23itemdownq1_2 (x2_0 : List (Int × Int × Int)) (x2_1 : Nat) (x2_2 : Int) (x2_3 : Int) (st : Int × Int) : XSt := match st with
  | (x2_4, x2_5) => (sT 61 [(0, (pN 0 0)), (1, (i6 x2_3)), (4, (i6 x2_4)), (5, (i6 x2_5))], [], ⟨sB [(0, (some (.cells (layT [(pN 0 0), (Value.func (.func 6) #[] #[]), (sN 1 0 x2_1 (Nat.add big 3)), (i6 x2_2)]) 40))), (1, (some (.cells (layT (rows rw_iii x2_0)) 44)))], 2, 1⟩)
noncomputable def X_heapHeapviewportlaw23itemdownq1_2 (x2_0 : List (Int × Int × Int)) (x2_1 : Nat) (x2_2 : Int) (x2_3 : Int) (r : Int) : Ex × XSt := match r with
  | z2_0 => (.exit 2, (sT 61 [(0, (pN 0 0)), (1, (i6 x2_3)), (4, (i6 z2_0))], [], ⟨sB [(0, (some (.cells (layT [(pN 0 0), (Value.func (.func 6) #[] #[]), (sN 1 0 x2_1 (Nat.add big 3)), (i6 x2_2)]) 40))), (1, (some (.cells (layT (rows rw_iii x2_0)) 44)))], 2, 1⟩))
noncomputable abbrev Q_heapHeapviewportlaw23itemdownq1_2 (rnd : Option Nat) (x2_0 : List (Int × Int × Int)) (x2_1 : Nat) (x2_2 : Int) (x2_3 : Int) (st : Int × Int) (c : Ex × XSt) : Prop := CG P rnd (fnN P 15) 2 (codeOf P 15 [false, false, true, false, true, false, false, false]) (S_heapHeapviewportlaw23itemdownq1_2 x2_0 x2_1 x2_2 x2_3 st) c
noncomputable abbrev U_heapHeapviewportlaw23itemdownq1_2 (rd : Option Nat) (x2_0 : List (Int × Int × Int)) (x2_1 : Nat) (x2_2 : Int) (x2_3 : Int) (st : Int × Int) (r : Int) : Prop := CG P rd (fnN P 15) 2 (codeOf P 15 [false, true, false, true, false, false, false]) (S_heapHeapviewportlaw23itemdownq1_2 x2_0 x2_1 x2_2 x2_3 st) (X_heapHeapviewportlaw23itemdownq1_2 x2_0 x2_1 x2_2 x2_3 r)
def B_heapHeapviewportlaw23itemdownq1_2 (n : Nat) (x2_0 : List (Int × Int × Int)) (x2_1 : Nat) (x2_2 : Int) (x2_3 : Int) (st : Int × Int) : Option ((Int × Int) ⊕ (Int)) := match st with
  | (x2_4, x2_5) =>
    if x2_5 ≤ (w64 ((w64 (x2_3 * (2 : Int))) + (2 : Int))) then
      if x2_5 < ((x2_1 : Nat) : Int) then
        (m_heapHeapviewportlaw23itembeforeq2 n x2_0 x2_1 x2_2 x2_5 x2_4).bind fun y2_3_ =>
        if y2_3_ = true then
          some (.inl (x2_5, (w64 (x2_5 + (1 : Int)))))
        else
          some (.inl (x2_4, (w64 (x2_5 + (1 : Int)))))
      else
        some (.inr x2_4)
    else
      some (.inr x2_4)
def m_heapHeapviewportlaw23itemdownq1_2 (n : Nat) (x2_0 : List (Int × Int × Int)) (x2_1 : Nat) (x2_2 : Int) (x2_3 : Int) (st : Int × Int) : Option (Int) := iterM (B_heapHeapviewportlaw23itemdownq1_2 n x2_0 x2_1 x2_2 x2_3) n st
set_option maxRecDepth 100000 in
theorem q_heapHeapviewportlaw23itemdownq1_2_0 (n : Nat) {rnd : Option Nat} (x2_0 : List (Int × Int × Int)) (x2_1 : Nat) (x2_2 x2_3 x2_4 x2_5 : Int) (hy2_1 : x2_5 ≤ (w64 ((w64 (x2_3 * (2 : Int))) + (2 : Int)))) (hy2_2 : x2_5 < ((x2_1 : Nat) : Int)) (y2_3_ : Bool) (hy2_3 : m_heapHeapviewportlaw23itembeforeq2 n x2_0 x2_1 x2_2 x2_5 x2_4 = some y2_3_) (hy2_4 : y2_3_ = true) : Q_heapHeapviewportlaw23itemdownq1_2 rnd x2_0 x2_1 x2_2 x2_3 (x2_4, x2_5) (.normal, S_heapHeapviewportlaw23itemdownq1_2 x2_0 x2_1 x2_2 x2_3 (x2_5, (w64 (x2_5 + (1 : Int))))) :=
  runC2 hm (L := lT []) ⟨[0, 1, 4, 5], [(0, 0, false), (1, 1, true)], 2, 1⟩ (zz 6 (xdT hy2_1) <|
zz 14 (xdT hy2_2) <|
yy 23 (.call (C_heapHeapviewportlaw23itembeforeq2 x2_0 x2_1 x2_2 x2_5 x2_4 y2_3_ [(0, 0, false), (1, 1, true)] [])) <|
ww (m_heapHeapviewportlaw23itembeforeq2_ok n x2_0 x2_1 x2_2 x2_5 x2_4 y2_3_ hy2_3) <|
ww (rows_flat rwf_iii x2_0 44) <|
zz 24 (xbT hy2_4) <|
ww (rows_flat rwf_iii x2_0 44) <|
ee) (by kernel_rfl)
set_option maxRecDepth 100000 in
theorem q_heapHeapviewportlaw23itemdownq1_2_1 (n : Nat) {rnd : Option Nat} (x2_0 : List (Int × Int × Int)) (x2_1 : Nat) (x2_2 x2_3 x2_4 x2_5 : Int) (hy2_1 : x2_5 ≤ (w64 ((w64 (x2_3 * (2 : Int))) + (2 : Int)))) (hy2_2 : x2_5 < ((x2_1 : Nat) : Int)) (y2_3_ : Bool) (hy2_3 : m_heapHeapviewportlaw23itembeforeq2 n x2_0 x2_1 x2_2 x2_5 x2_4 = some y2_3_) (hy2_4 : ¬ (y2_3_ = true)) : Q_heapHeapviewportlaw23itemdownq1_2 rnd x2_0 x2_1 x2_2 x2_3 (x2_4, x2_5) (.normal, S_heapHeapviewportlaw23itemdownq1_2 x2_0 x2_1 x2_2 x2_3 (x2_4, (w64 (x2_5 + (1 : Int))))) :=
  runC2 hm (L := lT []) ⟨[0, 1, 4, 5], [(0, 0, false), (1, 1, true)], 2, 1⟩ (zz 6 (xdT hy2_1) <|
zz 14 (xdT hy2_2) <|
yy 23 (.call (C_heapHeapviewportlaw23itembeforeq2 x2_0 x2_1 x2_2 x2_5 x2_4 y2_3_ [(0, 0, false), (1, 1, true)] [])) <|
ww (m_heapHeapviewportlaw23itembeforeq2_ok n x2_0 x2_1 x2_2 x2_5 x2_4 y2_3_ hy2_3) <|
ww (rows_flat rwf_iii x2_0 44) <|
zz 24 (xbF hy2_4) <|
ww (rows_flat rwf_iii x2_0 44) <|
ee) (by kernel_rfl)
set_option maxRecDepth 100000 in
theorem q_heapHeapviewportlaw23itemdownq1_2_2 (n : Nat) {rnd : Option Nat} (x2_0 : List (Int × Int × Int)) (x2_1 : Nat) (x2_2 x2_3 x2_4 x2_5 : Int) (hy2_1 : x2_5 ≤ (w64 ((w64 (x2_3 * (2 : Int))) + (2 : Int)))) (hy2_2 : ¬ (x2_5 < ((x2_1 : Nat) : Int))) : Q_heapHeapviewportlaw23itemdownq1_2 rnd x2_0 x2_1 x2_2 x2_3 (x2_4, x2_5) (X_heapHeapviewportlaw23itemdownq1_2 x2_0 x2_1 x2_2 x2_3 x2_4) :=
  runC2 hm (L := lT []) ⟨[0, 1, 4], [(0, 0, false), (1, 1, true)], 2, 1⟩ (zz 6 (xdT hy2_1) <|
zz 14 (xdF hy2_2) <|
ww (rows_flat rwf_iii x2_0 44) <|
ee) (by kernel_rfl)
set_option maxRecDepth 100000 in
theorem q_heapHeapviewportlaw23itemdownq1_2_3 (n : Nat) {rnd : Option Nat} (x2_0 : List (Int × Int × Int)) (x2_1 : Nat) (x2_2 x2_3 x2_4 x2_5 : Int) (hy2_1 : ¬ (x2_5 ≤ (w64 ((w64 (x2_3 * (2 : Int))) + (2 : Int))))) : Q_heapHeapviewportlaw23itemdownq1_2 rnd x2_0 x2_1 x2_2 x2_3 (x2_4, x2_5) (X_heapHeapviewportlaw23itemdownq1_2 x2_0 x2_1 x2_2 x2_3 x2_4) :=
  runC2 hm (L := lT []) ⟨[0, 1, 4], [(0, 0, false), (1, 1, true)], 2, 1⟩ (zz 6 (xdF hy2_1) <|
ww (rows_flat rwf_iii x2_0 44) <|
ee) (by kernel_rfl)
theorem m_heapHeapviewportlaw23itemdownq1_2_ok (n : Nat) {rnd : Option Nat} (x2_0 : List (Int × Int × Int)) (x2_1 : Nat) (x2_2 : Int) (x2_3 : Int) (st : Int × Int) (r : Int) (h : m_heapHeapviewportlaw23itemdownq1_2 n x2_0 x2_1 x2_2 x2_3 st = some r) : CG P rnd (fnN P 15) 2 (codeOf P 15 [false, true, false, true, false, false, false]) (S_heapHeapviewportlaw23itemdownq1_2 x2_0 x2_1 x2_2 x2_3 st) (X_heapHeapviewportlaw23itemdownq1_2 x2_0 x2_1 x2_2 x2_3 r) :=
  CG.iter (b := codeOf P 15 [false, false, true, false, true, false, false, false]) (by kernel_rfl) (body := B_heapHeapviewportlaw23itemdownq1_2 n x2_0 x2_1 x2_2 x2_3) (S := S_heapHeapviewportlaw23itemdownq1_2 x2_0 x2_1 x2_2 x2_3) (X := X_heapHeapviewportlaw23itemdownq1_2 x2_0 x2_1 x2_2 x2_3)
    (fun s s' h => by
    obtain ⟨x2_4, x2_5⟩ := s
    unfold B_heapHeapviewportlaw23itemdownq1_2 at h
    dsimp only at h
    by_cases hy2_1 : x2_5 ≤ (w64 ((w64 (x2_3 * (2 : Int))) + (2 : Int)))
    · rw [if_pos hy2_1] at h
      by_cases hy2_2 : x2_5 < ((x2_1 : Nat) : Int)
      · rw [if_pos hy2_2] at h
        obtain ⟨y2_3_, hy2_3, h⟩ := Option.bind_eq_some_iff.1 h
        by_cases hy2_4 : y2_3_ = true
        · rw [if_pos hy2_4] at h
          obtain rfl := Sum.inl.inj (Option.some.inj h); exact q_heapHeapviewportlaw23itemdownq1_2_0 n x2_0 x2_1 x2_2 x2_3 x2_4 x2_5 hy2_1 hy2_2 y2_3_ hy2_3 hy2_4
        · rw [if_neg hy2_4] at h
          obtain rfl := Sum.inl.inj (Option.some.inj h); exact q_heapHeapviewportlaw23itemdownq1_2_1 n x2_0 x2_1 x2_2 x2_3 x2_4 x2_5 hy2_1 hy2_2 y2_3_ hy2_3 hy2_4
      · rw [if_neg hy2_2] at h
        cases h
    · rw [if_neg hy2_1] at h
      cases h)
    (fun s r h => by
    obtain ⟨x2_4, x2_5⟩ := s
    unfold B_heapHeapviewportlaw23itemdownq1_2 at h
    dsimp only at h
    by_cases hy2_1 : x2_5 ≤ (w64 ((w64 (x2_3 * (2 : Int))) + (2 : Int)))
    · rw [if_pos hy2_1] at h
      by_cases hy2_2 : x2_5 < ((x2_1 : Nat) : Int)
      · rw [if_pos hy2_2] at h
        obtain ⟨y2_3_, hy2_3, h⟩ := Option.bind_eq_some_iff.1 h
        by_cases hy2_4 : y2_3_ = true
        · rw [if_pos hy2_4] at h
          cases h
        · rw [if_neg hy2_4] at h
          cases h
      · rw [if_neg hy2_2] at h
        obtain rfl := Sum.inr.inj (Option.some.inj h); exact q_heapHeapviewportlaw23itemdownq1_2_2 n x2_0 x2_1 x2_2 x2_3 x2_4 x2_5 hy2_1 hy2_2
    · rw [if_neg hy2_1] at h
      obtain rfl := Sum.inr.inj (Option.some.inj h); exact q_heapHeapviewportlaw23itemdownq1_2_3 n x2_0 x2_1 x2_2 x2_3 x2_4 x2_5 hy2_1)
    (fun r => by intro hx; cases hx) h
noncomputable def S_heapHeapviewportlaw23itemdownq1_1 (x1_1 : Nat) (x1_2 : Int) (st : List (Int × Int × Int) × Int) : XSt := match st with
  | (x1_0, x1_3) => (sT 61 [(0, (pN 0 0)), (1, (i6 x1_3))], [], ⟨sB [(0, (some (.cells (layT [(pN 0 0), (Value.func (.func 6) #[] #[]), (sN 1 0 x1_1 (Nat.add big 3)), (i6 x1_2)]) 40))), (1, (some (.cells (layT (rows rw_iii x1_0)) 44)))], 2, 1⟩)
noncomputable def X_heapHeapviewportlaw23itemdownq1_1 (x1_1 : Nat) (x1_2 : Int) (r : List (Int × Int × Int)) : Ex × XSt := match r with
  | z1_0 => (.ret, (sT 61 [], [], ⟨sB [(0, (some (.cells (layT [(pN 0 0), (Value.func (.func 6) #[] #[]), (sN 1 0 x1_1 (Nat.add big 3)), (i6 x1_2)]) 40))), (1, (some (.cells (layT (rows rw_iii z1_0)) 44)))], 2, 1⟩))
noncomputable abbrev Q_heapHeapviewportlaw23itemdownq1_1 (rnd : Option Nat) (x1_1 : Nat) (x1_2 : Int) (st : List (Int × Int × Int) × Int) (c : Ex × XSt) : Prop := CG P rnd (fnN P 15) 2 (codeOf P 15 [false, false]) (S_heapHeapviewportlaw23itemdownq1_1 x1_1 x1_2 st) c
noncomputable abbrev U_heapHeapviewportlaw23itemdownq1_1 (rd : Option Nat) (x1_1 : Nat) (x1_2 : Int) (st : List (Int × Int × Int) × Int) (r : List (Int × Int × Int)) : Prop := CG P rd (fnN P 15) 2 (codeOf P 15 [false]) (S_heapHeapviewportlaw23itemdownq1_1 x1_1 x1_2 st) (X_heapHeapviewportlaw23itemdownq1_1 x1_1 x1_2 r)
def B_heapHeapviewportlaw23itemdownq1_1 (n : Nat) (x1_1 : Nat) (x1_2 : Int) (st : List (Int × Int × Int) × Int) : Option ((List (Int × Int × Int) × Int) ⊕ (List (Int × Int × Int))) := match st with
  | (x1_0, x1_3) =>
    (m_heapHeapviewportlaw23itemdownq1_2 n x1_0 x1_1 x1_2 x1_3 (x1_3, (w64 ((w64 (x1_3 * (2 : Int))) + (1 : Int))))).bind fun y1_1_ =>
    if y1_1_ = x1_3 then
      some (.inr x1_0)
    else
      if 0 ≤ y1_1_ ∧ y1_1_ < ((x1_1 : Nat) : Int) then
        if (y1_1_).toNat < (x1_0).length then
          if 0 ≤ x1_3 ∧ x1_3 < ((x1_1 : Nat) : Int) then
            if (x1_3).toNat < (x1_0).length then
              if (y1_1_).toNat < (((x1_0).set (x1_3).toNat ((((x1_0).getD (y1_1_).toNat (0, 0, 0)).1), (((x1_0).getD (y1_1_).toNat (0, 0, 0)).2.1), (((x1_0).getD (y1_1_).toNat (0, 0, 0)).2.2)))).length then
                some (.inl (((((x1_0).set (x1_3).toNat ((((x1_0).getD (y1_1_).toNat (0, 0, 0)).1), (((x1_0).getD (y1_1_).toNat (0, 0, 0)).2.1), (((x1_0).getD (y1_1_).toNat (0, 0, 0)).2.2)))).set (y1_1_).toNat ((((x1_0).getD (x1_3).toNat (0, 0, 0)).1), (((x1_0).getD (x1_3).toNat (0, 0, 0)).2.1), (((x1_0).getD (x1_3).toNat (0, 0, 0)).2.2))), y1_1_))
              else none
            else none
          else none
        else none
      else none
def m_heapHeapviewportlaw23itemdownq1_1 (n : Nat) (x1_1 : Nat) (x1_2 : Int) (st : List (Int × Int × Int) × Int) : Option (List (Int × Int × Int)) := iterM (B_heapHeapviewportlaw23itemdownq1_1 n x1_1 x1_2) n st
set_option maxRecDepth 100000 in
theorem q_heapHeapviewportlaw23itemdownq1_1_0 (n : Nat) {rnd : Option Nat} (x1_0 : List (Int × Int × Int)) (x1_1 : Nat) (x1_2 x1_3 y1_1_ : Int) (hy1_1 : m_heapHeapviewportlaw23itemdownq1_2 n x1_0 x1_1 x1_2 x1_3 (x1_3, (w64 ((w64 (x1_3 * (2 : Int))) + (1 : Int)))) = some y1_1_) (hy1_2 : y1_1_ = x1_3) : Q_heapHeapviewportlaw23itemdownq1_1 rnd x1_1 x1_2 (x1_0, x1_3) (X_heapHeapviewportlaw23itemdownq1_1 x1_1 x1_2 x1_0) :=
  runC2 hm (L := lT [(11, ⟨⟨[0, 1, 4, 5], [(0, 0, false), (1, 1, true)], 2, 1⟩, (X_heapHeapviewportlaw23itemdownq1_2 x1_0 x1_1 x1_2 x1_3 y1_1_).1, (X_heapHeapviewportlaw23itemdownq1_2 x1_0 x1_1 x1_2 x1_3 y1_1_).2⟩)]) ⟨[], [(0, 0, false), (1, 1, true)], 2, 1⟩ (ww (p := U_heapHeapviewportlaw23itemdownq1_2 rnd x1_0 x1_1 x1_2 x1_3 (x1_3, (w64 ((w64 (x1_3 * (2 : Int))) + (1 : Int)))) y1_1_) (m_heapHeapviewportlaw23itemdownq1_2_ok n x1_0 x1_1 x1_2 x1_3 (x1_3, (w64 ((w64 (x1_3 * (2 : Int))) + (1 : Int)))) y1_1_ hy1_1) <|
ww (rows_flat rwf_iii x1_0 44) <|
zz 16 (xeT hy1_2) <|
ww (rows_flat rwf_iii x1_0 44) <|
ee) (by kernel_rfl)
set_option maxRecDepth 100000 in
theorem q_heapHeapviewportlaw23itemdownq1_1_1 (n : Nat) {rnd : Option Nat} (x1_0 : List (Int × Int × Int)) (x1_1 : Nat) (x1_2 x1_3 y1_1_ : Int) (hy1_1 : m_heapHeapviewportlaw23itemdownq1_2 n x1_0 x1_1 x1_2 x1_3 (x1_3, (w64 ((w64 (x1_3 * (2 : Int))) + (1 : Int)))) = some y1_1_) (hy1_2 : ¬ (y1_1_ = x1_3)) (hy1_3 : 0 ≤ y1_1_ ∧ y1_1_ < ((x1_1 : Nat) : Int)) (hy1_4 : (y1_1_).toNat < (x1_0).length) (hy1_5 : 0 ≤ x1_3 ∧ x1_3 < ((x1_1 : Nat) : Int)) (hy1_6 : (x1_3).toNat < (x1_0).length) (hy1_7 : (y1_1_).toNat < (((x1_0).set (x1_3).toNat ((((x1_0).getD (y1_1_).toNat (0, 0, 0)).1), (((x1_0).getD (y1_1_).toNat (0, 0, 0)).2.1), (((x1_0).getD (y1_1_).toNat (0, 0, 0)).2.2)))).length) : Q_heapHeapviewportlaw23itemdownq1_1 rnd x1_1 x1_2 (x1_0, x1_3) (.normal, S_heapHeapviewportlaw23itemdownq1_1 x1_1 x1_2 (((((x1_0).set (x1_3).toNat ((((x1_0).getD (y1_1_).toNat (0, 0, 0)).1), (((x1_0).getD (y1_1_).toNat (0, 0, 0)).2.1), (((x1_0).getD (y1_1_).toNat (0, 0, 0)).2.2)))).set (y1_1_).toNat ((((x1_0).getD (x1_3).toNat (0, 0, 0)).1), (((x1_0).getD (x1_3).toNat (0, 0, 0)).2.1), (((x1_0).getD (x1_3).toNat (0, 0, 0)).2.2))), y1_1_)) :=
  runC2 hm (L := lT [(11, ⟨⟨[0, 1, 4, 5], [(0, 0, false), (1, 1, true)], 2, 1⟩, (X_heapHeapviewportlaw23itemdownq1_2 x1_0 x1_1 x1_2 x1_3 y1_1_).1, (X_heapHeapviewportlaw23itemdownq1_2 x1_0 x1_1 x1_2 x1_3 y1_1_).2⟩)]) ⟨[0, 1], [(0, 0, false), (1, 1, true)], 2, 1⟩ (ww (p := U_heapHeapviewportlaw23itemdownq1_2 rnd x1_0 x1_1 x1_2 x1_3 (x1_3, (w64 ((w64 (x1_3 * (2 : Int))) + (1 : Int)))) y1_1_) (m_heapHeapviewportlaw23itemdownq1_2_ok n x1_0 x1_1 x1_2 x1_3 (x1_3, (w64 ((w64 (x1_3 * (2 : Int))) + (1 : Int)))) y1_1_ hy1_1) <|
ww (rows_flat rwf_iii x1_0 44) <|
zz 16 (xeF hy1_2) <|
zz 34 (xk2 1 U3 hy1_3) <|
yy 35 (.ld (Value.agg #[(i6 (((x1_0).getD (y1_1_).toNat (0, 0, 0)).1)), (i6 (((x1_0).getD (y1_1_).toNat (0, 0, 0)).2.1)), (i6 (((x1_0).getD (y1_1_).toNat (0, 0, 0)).2.2))])) <|
ww (p := rdT (layT (rows rw_iii x1_0)) 3 ((y1_1_).toNat * 3) = some [(i6 (((x1_0).getD (y1_1_).toNat (0, 0, 0)).1)), (i6 (((x1_0).getD (y1_1_).toNat (0, 0, 0)).2.1)), (i6 (((x1_0).getD (y1_1_).toNat (0, 0, 0)).2.2))]) (rows_rdp rwf_iii (0, 0, 0) (i := (y1_1_).toNat) (j := 0) ((y1_1_).toNat * 3) rfl (hy1_4) (by decide) rfl) <|
zz 41 (xk2 1 U3 hy1_5) <|
yy 42 (.ld (Value.agg #[(i6 (((x1_0).getD (x1_3).toNat (0, 0, 0)).1)), (i6 (((x1_0).getD (x1_3).toNat (0, 0, 0)).2.1)), (i6 (((x1_0).getD (x1_3).toNat (0, 0, 0)).2.2))])) <|
ww (p := rdT (layT (rows rw_iii x1_0)) 3 ((x1_3).toNat * 3) = some [(i6 (((x1_0).getD (x1_3).toNat (0, 0, 0)).1)), (i6 (((x1_0).getD (x1_3).toNat (0, 0, 0)).2.1)), (i6 (((x1_0).getD (x1_3).toNat (0, 0, 0)).2.2))]) (rows_rdp rwf_iii (0, 0, 0) (i := (x1_3).toNat) (j := 0) ((x1_3).toNat * 3) rfl (hy1_6) (by decide) rfl) <|
zz 43 (xk2 1 U3 hy1_5) <|
yy 44 (.sto (layT (rows rw_iii ((x1_0).set (x1_3).toNat ((((x1_0).getD (y1_1_).toNat (0, 0, 0)).1), (((x1_0).getD (y1_1_).toNat (0, 0, 0)).2.1), (((x1_0).getD (y1_1_).toNat (0, 0, 0)).2.2)))))) <|
ww (p := ∃ old, rdT (layT (rows rw_iii x1_0)) 3 ((x1_3).toNat * 3) = some old) (Exists.elim (rows_st rwf_iii (0, 0, 0) (i := (x1_3).toNat) (j := 0) (l := [(i6 (((x1_0).getD (y1_1_).toNat (0, 0, 0)).1)), (i6 (((x1_0).getD (y1_1_).toNat (0, 0, 0)).2.1)), (i6 (((x1_0).getD (y1_1_).toNat (0, 0, 0)).2.2))]) ((((x1_0).getD (y1_1_).toNat (0, 0, 0)).1), (((x1_0).getD (y1_1_).toNat (0, 0, 0)).2.1), (((x1_0).getD (y1_1_).toNat (0, 0, 0)).2.2)) ((x1_3).toNat * 3) rfl (hy1_6) (Nat.le_of_ble_eq_true rfl) rfl) fun o h => ⟨o, h.1⟩) <|
ww (p := layL [(i6 (((x1_0).getD (y1_1_).toNat (0, 0, 0)).1)), (i6 (((x1_0).getD (y1_1_).toNat (0, 0, 0)).2.1)), (i6 (((x1_0).getD (y1_1_).toNat (0, 0, 0)).2.2))] ((x1_3).toNat * 3) (layT (rows rw_iii x1_0)) = layT (rows rw_iii ((x1_0).set (x1_3).toNat ((((x1_0).getD (y1_1_).toNat (0, 0, 0)).1), (((x1_0).getD (y1_1_).toNat (0, 0, 0)).2.1), (((x1_0).getD (y1_1_).toNat (0, 0, 0)).2.2))))) (Exists.elim (rows_st rwf_iii (0, 0, 0) (i := (x1_3).toNat) (j := 0) (l := [(i6 (((x1_0).getD (y1_1_).toNat (0, 0, 0)).1)), (i6 (((x1_0).getD (y1_1_).toNat (0, 0, 0)).2.1)), (i6 (((x1_0).getD (y1_1_).toNat (0, 0, 0)).2.2))]) ((((x1_0).getD (y1_1_).toNat (0, 0, 0)).1), (((x1_0).getD (y1_1_).toNat (0, 0, 0)).2.1), (((x1_0).getD (y1_1_).toNat (0, 0, 0)).2.2)) ((x1_3).toNat * 3) rfl (hy1_6) (Nat.le_of_ble_eq_true rfl) rfl) fun o h => h.2) <|
zz 45 (xk2 1 U3 hy1_3) <|
yy 46 (.sto (layT (rows rw_iii ((((x1_0).set (x1_3).toNat ((((x1_0).getD (y1_1_).toNat (0, 0, 0)).1), (((x1_0).getD (y1_1_).toNat (0, 0, 0)).2.1), (((x1_0).getD (y1_1_).toNat (0, 0, 0)).2.2)))).set (y1_1_).toNat ((((x1_0).getD (x1_3).toNat (0, 0, 0)).1), (((x1_0).getD (x1_3).toNat (0, 0, 0)).2.1), (((x1_0).getD (x1_3).toNat (0, 0, 0)).2.2)))))) <|
ww (p := ∃ old, rdT (layT (rows rw_iii ((x1_0).set (x1_3).toNat ((((x1_0).getD (y1_1_).toNat (0, 0, 0)).1), (((x1_0).getD (y1_1_).toNat (0, 0, 0)).2.1), (((x1_0).getD (y1_1_).toNat (0, 0, 0)).2.2))))) 3 ((y1_1_).toNat * 3) = some old) (Exists.elim (rows_st rwf_iii (0, 0, 0) (i := (y1_1_).toNat) (j := 0) (l := [(i6 (((x1_0).getD (x1_3).toNat (0, 0, 0)).1)), (i6 (((x1_0).getD (x1_3).toNat (0, 0, 0)).2.1)), (i6 (((x1_0).getD (x1_3).toNat (0, 0, 0)).2.2))]) ((((x1_0).getD (x1_3).toNat (0, 0, 0)).1), (((x1_0).getD (x1_3).toNat (0, 0, 0)).2.1), (((x1_0).getD (x1_3).toNat (0, 0, 0)).2.2)) ((y1_1_).toNat * 3) rfl (hy1_7) (Nat.le_of_ble_eq_true rfl) rfl) fun o h => ⟨o, h.1⟩) <|
ww (p := layL [(i6 (((x1_0).getD (x1_3).toNat (0, 0, 0)).1)), (i6 (((x1_0).getD (x1_3).toNat (0, 0, 0)).2.1)), (i6 (((x1_0).getD (x1_3).toNat (0, 0, 0)).2.2))] ((y1_1_).toNat * 3) (layT (rows rw_iii ((x1_0).set (x1_3).toNat ((((x1_0).getD (y1_1_).toNat (0, 0, 0)).1), (((x1_0).getD (y1_1_).toNat (0, 0, 0)).2.1), (((x1_0).getD (y1_1_).toNat (0, 0, 0)).2.2))))) = layT (rows rw_iii ((((x1_0).set (x1_3).toNat ((((x1_0).getD (y1_1_).toNat (0, 0, 0)).1), (((x1_0).getD (y1_1_).toNat (0, 0, 0)).2.1), (((x1_0).getD (y1_1_).toNat (0, 0, 0)).2.2)))).set (y1_1_).toNat ((((x1_0).getD (x1_3).toNat (0, 0, 0)).1), (((x1_0).getD (x1_3).toNat (0, 0, 0)).2.1), (((x1_0).getD (x1_3).toNat (0, 0, 0)).2.2))))) (Exists.elim (rows_st rwf_iii (0, 0, 0) (i := (y1_1_).toNat) (j := 0) (l := [(i6 (((x1_0).getD (x1_3).toNat (0, 0, 0)).1)), (i6 (((x1_0).getD (x1_3).toNat (0, 0, 0)).2.1)), (i6 (((x1_0).getD (x1_3).toNat (0, 0, 0)).2.2))]) ((((x1_0).getD (x1_3).toNat (0, 0, 0)).1), (((x1_0).getD (x1_3).toNat (0, 0, 0)).2.1), (((x1_0).getD (x1_3).toNat (0, 0, 0)).2.2)) ((y1_1_).toNat * 3) rfl (hy1_7) (Nat.le_of_ble_eq_true rfl) rfl) fun o h => h.2) <|
ww (rows_flat rwf_iii ((((x1_0).set (x1_3).toNat ((((x1_0).getD (y1_1_).toNat (0, 0, 0)).1), (((x1_0).getD (y1_1_).toNat (0, 0, 0)).2.1), (((x1_0).getD (y1_1_).toNat (0, 0, 0)).2.2)))).set (y1_1_).toNat ((((x1_0).getD (x1_3).toNat (0, 0, 0)).1), (((x1_0).getD (x1_3).toNat (0, 0, 0)).2.1), (((x1_0).getD (x1_3).toNat (0, 0, 0)).2.2))) 44) <|
ee) (by kernel_rfl)
theorem m_heapHeapviewportlaw23itemdownq1_1_ok (n : Nat) {rnd : Option Nat} (x1_1 : Nat) (x1_2 : Int) (st : List (Int × Int × Int) × Int) (r : List (Int × Int × Int)) (h : m_heapHeapviewportlaw23itemdownq1_1 n x1_1 x1_2 st = some r) : CG P rnd (fnN P 15) 2 (codeOf P 15 [false]) (S_heapHeapviewportlaw23itemdownq1_1 x1_1 x1_2 st) (X_heapHeapviewportlaw23itemdownq1_1 x1_1 x1_2 r) :=
  CG.iter (b := codeOf P 15 [false, false]) (by kernel_rfl) (body := B_heapHeapviewportlaw23itemdownq1_1 n x1_1 x1_2) (S := S_heapHeapviewportlaw23itemdownq1_1 x1_1 x1_2) (X := X_heapHeapviewportlaw23itemdownq1_1 x1_1 x1_2)
    (fun s s' h => by
    obtain ⟨x1_0, x1_3⟩ := s
    unfold B_heapHeapviewportlaw23itemdownq1_1 at h
    dsimp only at h
    obtain ⟨y1_1_, hy1_1, h⟩ := Option.bind_eq_some_iff.1 h
    by_cases hy1_2 : y1_1_ = x1_3
    · rw [if_pos hy1_2] at h
      cases h
    · rw [if_neg hy1_2] at h
      by_cases hy1_3 : 0 ≤ y1_1_ ∧ y1_1_ < ((x1_1 : Nat) : Int)
      · rw [if_pos hy1_3] at h
        by_cases hy1_4 : (y1_1_).toNat < (x1_0).length
        · rw [if_pos hy1_4] at h
          by_cases hy1_5 : 0 ≤ x1_3 ∧ x1_3 < ((x1_1 : Nat) : Int)
          · rw [if_pos hy1_5] at h
            by_cases hy1_6 : (x1_3).toNat < (x1_0).length
            · rw [if_pos hy1_6] at h
              by_cases hy1_7 : (y1_1_).toNat < (((x1_0).set (x1_3).toNat ((((x1_0).getD (y1_1_).toNat (0, 0, 0)).1), (((x1_0).getD (y1_1_).toNat (0, 0, 0)).2.1), (((x1_0).getD (y1_1_).toNat (0, 0, 0)).2.2)))).length
              · rw [if_pos hy1_7] at h
                obtain rfl := Sum.inl.inj (Option.some.inj h); exact q_heapHeapviewportlaw23itemdownq1_1_1 n x1_0 x1_1 x1_2 x1_3 y1_1_ hy1_1 hy1_2 hy1_3 hy1_4 hy1_5 hy1_6 hy1_7
              · rw [if_neg hy1_7] at h; cases h
            · rw [if_neg hy1_6] at h; cases h
          · rw [if_neg hy1_5] at h; cases h
        · rw [if_neg hy1_4] at h; cases h
      · rw [if_neg hy1_3] at h; cases h)
    (fun s r h => by
    obtain ⟨x1_0, x1_3⟩ := s
    unfold B_heapHeapviewportlaw23itemdownq1_1 at h
    dsimp only at h
    obtain ⟨y1_1_, hy1_1, h⟩ := Option.bind_eq_some_iff.1 h
    by_cases hy1_2 : y1_1_ = x1_3
    · rw [if_pos hy1_2] at h
      obtain rfl := Sum.inr.inj (Option.some.inj h); exact q_heapHeapviewportlaw23itemdownq1_1_0 n x1_0 x1_1 x1_2 x1_3 y1_1_ hy1_1 hy1_2
    · rw [if_neg hy1_2] at h
      by_cases hy1_3 : 0 ≤ y1_1_ ∧ y1_1_ < ((x1_1 : Nat) : Int)
      · rw [if_pos hy1_3] at h
        by_cases hy1_4 : (y1_1_).toNat < (x1_0).length
        · rw [if_pos hy1_4] at h
          by_cases hy1_5 : 0 ≤ x1_3 ∧ x1_3 < ((x1_1 : Nat) : Int)
          · rw [if_pos hy1_5] at h
            by_cases hy1_6 : (x1_3).toNat < (x1_0).length
            · rw [if_pos hy1_6] at h
              by_cases hy1_7 : (y1_1_).toNat < (((x1_0).set (x1_3).toNat ((((x1_0).getD (y1_1_).toNat (0, 0, 0)).1), (((x1_0).getD (y1_1_).toNat (0, 0, 0)).2.1), (((x1_0).getD (y1_1_).toNat (0, 0, 0)).2.2)))).length
              · rw [if_pos hy1_7] at h
                cases h
              · rw [if_neg hy1_7] at h; cases h
            · rw [if_neg hy1_6] at h; cases h
          · rw [if_neg hy1_5] at h; cases h
        · rw [if_neg hy1_4] at h; cases h
      · rw [if_neg hy1_3] at h; cases h)
    (fun r => by intro hx; cases hx) h
def m_heapHeapviewportlaw23itemdownq1 (n : Nat) (a0 : List (Int × Int × Int)) (a1 : Nat) (a2 : Int) (a3 : Int) : Option (List (Int × Int × Int)) :=
  (m_heapHeapviewportlaw23itemdownq1_1 n a1 a2 (a0, a3)).bind fun c1_ =>
  some c1_
set_option maxRecDepth 100000 in
theorem p_heapHeapviewportlaw23itemdownq1_0 (n : Nat) (a0 : List (Int × Int × Int)) (a1 : Nat) (a2 a3 : Int) (c1_ : List (Int × Int × Int)) (hc1 : m_heapHeapviewportlaw23itemdownq1_1 n a1 a2 (a0, a3) = some c1_) : G_heapHeapviewportlaw23itemdownq1 a0 a1 a2 a3 c1_ :=
  runF2 hm (L := lT [(1, ⟨⟨[0, 1], [(0, 0, false), (1, 1, true)], 2, 1⟩, (X_heapHeapviewportlaw23itemdownq1_1 a1 a2 c1_).1, (X_heapHeapviewportlaw23itemdownq1_1 a1 a2 c1_).2⟩)]) ⟨[], [(1, 1, true)], 2, 1⟩ (ww (p := U_heapHeapviewportlaw23itemdownq1_1 none a1 a2 (a0, a3) c1_) (m_heapHeapviewportlaw23itemdownq1_1_ok n a1 a2 (a0, a3) c1_ hc1) <|
ww (rows_flat rwf_iii a0 44) <|
ww (rows_flat rwf_iii c1_ 44) <|
ee) (by kernel_rfl)
theorem m_heapHeapviewportlaw23itemdownq1_ok (n : Nat) (a0 : List (Int × Int × Int)) (a1 : Nat) (a2 : Int) (a3 : Int) (r : List (Int × Int × Int)) (h : m_heapHeapviewportlaw23itemdownq1 n a0 a1 a2 a3 = some r) : Gv P (.func 15) (A_heapHeapviewportlaw23itemdownq1 a0 a1 a2 a3) (H_heapHeapviewportlaw23itemdownq1 a0 a1 a2 a3) (V_heapHeapviewportlaw23itemdownq1 a0 a1 a2 a3 r) (R_heapHeapviewportlaw23itemdownq1 a0 a1 a2 a3 r) := by
  unfold m_heapHeapviewportlaw23itemdownq1 at h
  obtain ⟨c1_, hc1, h⟩ := Option.bind_eq_some_iff.1 h
  obtain rfl := Option.some.inj h; exact p_heapHeapviewportlaw23itemdownq1_0 n a0 a1 a2 a3 c1_ hc1

noncomputable def A_heapHeapviewportlaw23itemTakeq2 (a0 : List (Int × Int × Int)) (a1 : Nat) (a2 : Int) : List Value := [(pN 0 0)]
noncomputable def H_heapHeapviewportlaw23itemTakeq2 (a0 : List (Int × Int × Int)) (a1 : Nat) (a2 : Int) : AH := ⟨sB [(0, (some (.cells (layT [(pN 0 0), (Value.func (.func 6) #[] #[]), (sN 1 0 a1 (Nat.add big 3)), (i6 a2)]) 40))), (1, (some (.cells (layT (rows rw_iii a0)) 44)))], 2, 2⟩
noncomputable def V_heapHeapviewportlaw23itemTakeq2 (a0 : List (Int × Int × Int)) (a1 : Nat) (a2 : Int) (r : List (Int × Int × Int) × Nat × Int × Int × Bool) : Value := match r with
  | (o0, o1, o2, o3, o4) => (Value.tuple #[(Value.agg #[(i6 o2), (i6 o3)]), (bO o4)])
noncomputable def R_heapHeapviewportlaw23itemTakeq2 (a0 : List (Int × Int × Int)) (a1 : Nat) (a2 : Int) (r : List (Int × Int × Int) × Nat × Int × Int × Bool) : AH := match r with
  | (o0, o1, o2, o3, o4) => ⟨sB [(0, (some (.cells (layT [(pN 0 0), (Value.func (.func 6) #[] #[]), (sN 1 0 o1 (Nat.add big 3)), (i6 a2)]) 40))), (1, (some (.cells (layT (rows rw_iii o0)) 44))), (2, (some (.cells (layT [(i6 o2), (i6 o3)]) 27)))], 3, 0⟩
noncomputable abbrev G_heapHeapviewportlaw23itemTakeq2 (a0 : List (Int × Int × Int)) (a1 : Nat) (a2 : Int) (r : List (Int × Int × Int) × Nat × Int × Int × Bool) : Prop := Gv P (.func 10) (A_heapHeapviewportlaw23itemTakeq2 a0 a1 a2) (H_heapHeapviewportlaw23itemTakeq2 a0 a1 a2) (V_heapHeapviewportlaw23itemTakeq2 a0 a1 a2 r) (R_heapHeapviewportlaw23itemTakeq2 a0 a1 a2 r)
noncomputable abbrev C_heapHeapviewportlaw23itemTakeq2 (a0 : List (Int × Int × Int)) (a1 : Nat) (a2 : Int) (r : List (Int × Int × Int) × Nat × Int × Int × Bool) (ins outs : BL) : CallA := ⟨2, ins, V_heapHeapviewportlaw23itemTakeq2 a0 a1 a2 r, R_heapHeapviewportlaw23itemTakeq2 a0 a1 a2 r, outs⟩
def m_heapHeapviewportlaw23itemTakeq2 (n : Nat) (a0 : List (Int × Int × Int)) (a1 : Nat) (a2 : Int) : Option (List (Int × Int × Int) × Nat × Int × Int × Bool) :=
  (m_heapHeapviewportlaw23itemLeastq2 n a0 a1 a2).bind fun t => match t with
  | (c1_0, c1_1, c1_2) =>
    if c1_2 = true then
      if 0 ≤ (w64 (((a1 : Nat) : Int) - (1 : Int))) ∧ (w64 (((a1 : Nat) : Int) - (1 : Int))) < ((a1 : Nat) : Int) then
        if ((w64 (((a1 : Nat) : Int) - (1 : Int)))).toNat < (a0).length then
          if 0 ≤ (0 : Int) ∧ (0 : Int) < ((a1 : Nat) : Int) then
            if ((0 : Int)).toNat < (a0).length then
              if ((w64 (((a1 : Nat) : Int) - (1 : Int)))).toNat < (((a0).set ((0 : Int)).toNat ((((a0).getD ((w64 (((a1 : Nat) : Int) - (1 : Int)))).toNat (0, 0, 0)).1), (((a0).getD ((w64 (((a1 : Nat) : Int) - (1 : Int)))).toNat (0, 0, 0)).2.1), (((a0).getD ((w64 (((a1 : Nat) : Int) - (1 : Int)))).toNat (0, 0, 0)).2.2)))).length then
                if 0 ≤ (w64 (((a1 : Nat) : Int) - (1 : Int))) ∧ (w64 (((a1 : Nat) : Int) - (1 : Int))) ≤ ((a1 : Nat) : Int) then
                  (m_heapHeapviewportlaw23itemdownq1 n ((((a0).set ((0 : Int)).toNat ((((a0).getD ((w64 (((a1 : Nat) : Int) - (1 : Int)))).toNat (0, 0, 0)).1), (((a0).getD ((w64 (((a1 : Nat) : Int) - (1 : Int)))).toNat (0, 0, 0)).2.1), (((a0).getD ((w64 (((a1 : Nat) : Int) - (1 : Int)))).toNat (0, 0, 0)).2.2)))).set ((w64 (((a1 : Nat) : Int) - (1 : Int)))).toNat ((0 : Int), (0 : Int), (0 : Int))) (((w64 (((a1 : Nat) : Int) - (1 : Int)))).toNat) a2 0).bind fun c9_ =>
                  some (c9_, (((w64 (((a1 : Nat) : Int) - (1 : Int)))).toNat), c1_0, c1_1, true)
                else none
              else none
            else none
          else none
        else none
      else none
    else
      some (a0, a1, c1_0, c1_1, false)
set_option maxRecDepth 100000 in
theorem p_heapHeapviewportlaw23itemTakeq2_0 (n : Nat) (a0 : List (Int × Int × Int)) (a1 : Nat) (a2 c1_0 c1_1 : Int) (c1_2 : Bool) (hc1 : m_heapHeapviewportlaw23itemLeastq2 n a0 a1 a2 = some (c1_0, c1_1, c1_2)) (hc2 : c1_2 = true) (hc3 : 0 ≤ (w64 (((a1 : Nat) : Int) - (1 : Int))) ∧ (w64 (((a1 : Nat) : Int) - (1 : Int))) < ((a1 : Nat) : Int)) (hc4 : ((w64 (((a1 : Nat) : Int) - (1 : Int)))).toNat < (a0).length) (hc5 : 0 ≤ (0 : Int) ∧ (0 : Int) < ((a1 : Nat) : Int)) (hc6 : ((0 : Int)).toNat < (a0).length) (hc7 : ((w64 (((a1 : Nat) : Int) - (1 : Int)))).toNat < (((a0).set ((0 : Int)).toNat ((((a0).getD ((w64 (((a1 : Nat) : Int) - (1 : Int)))).toNat (0, 0, 0)).1), (((a0).getD ((w64 (((a1 : Nat) : Int) - (1 : Int)))).toNat (0, 0, 0)).2.1), (((a0).getD ((w64 (((a1 : Nat) : Int) - (1 : Int)))).toNat (0, 0, 0)).2.2)))).length) (hc8 : 0 ≤ (w64 (((a1 : Nat) : Int) - (1 : Int))) ∧ (w64 (((a1 : Nat) : Int) - (1 : Int))) ≤ ((a1 : Nat) : Int)) (c9_ : List (Int × Int × Int)) (hc9 : m_heapHeapviewportlaw23itemdownq1 n ((((a0).set ((0 : Int)).toNat ((((a0).getD ((w64 (((a1 : Nat) : Int) - (1 : Int)))).toNat (0, 0, 0)).1), (((a0).getD ((w64 (((a1 : Nat) : Int) - (1 : Int)))).toNat (0, 0, 0)).2.1), (((a0).getD ((w64 (((a1 : Nat) : Int) - (1 : Int)))).toNat (0, 0, 0)).2.2)))).set ((w64 (((a1 : Nat) : Int) - (1 : Int)))).toNat ((0 : Int), (0 : Int), (0 : Int))) (((w64 (((a1 : Nat) : Int) - (1 : Int)))).toNat) a2 0 = some c9_) : G_heapHeapviewportlaw23itemTakeq2 a0 a1 a2 (c9_, (((w64 (((a1 : Nat) : Int) - (1 : Int)))).toNat), c1_0, c1_1, true) :=
  runF2 hm (L := lT []) ⟨[2, 3], [(0, 0, false), (1, 1, true), (2, 2, false)], 3, 0⟩ (yy 5 (.call (C_heapHeapviewportlaw23itemLeastq2 a0 a1 a2 (c1_0, c1_1, c1_2) [(0, 0, false), (1, 1, true)] [(3, 2, false)])) <|
ww (m_heapHeapviewportlaw23itemLeastq2_ok n a0 a1 a2 (c1_0, c1_1, c1_2) hc1) <|
ww (rows_flat rwf_iii a0 44) <|
yy 15 (vf) <|
ww (p := (Value.bool (!c1_2)) = (Value.bool false)) (vBn hc2) <|
zz 35 (xk2 1 U3 hc3) <|
yy 36 (.ld (Value.agg #[(i6 (((a0).getD ((w64 (((a1 : Nat) : Int) - (1 : Int)))).toNat (0, 0, 0)).1)), (i6 (((a0).getD ((w64 (((a1 : Nat) : Int) - (1 : Int)))).toNat (0, 0, 0)).2.1)), (i6 (((a0).getD ((w64 (((a1 : Nat) : Int) - (1 : Int)))).toNat (0, 0, 0)).2.2))])) <|
ww (p := rdT (layT (rows rw_iii a0)) 3 (((w64 (((a1 : Nat) : Int) - (1 : Int)))).toNat * 3) = some [(i6 (((a0).getD ((w64 (((a1 : Nat) : Int) - (1 : Int)))).toNat (0, 0, 0)).1)), (i6 (((a0).getD ((w64 (((a1 : Nat) : Int) - (1 : Int)))).toNat (0, 0, 0)).2.1)), (i6 (((a0).getD ((w64 (((a1 : Nat) : Int) - (1 : Int)))).toNat (0, 0, 0)).2.2))]) (rows_rdp rwf_iii (0, 0, 0) (i := ((w64 (((a1 : Nat) : Int) - (1 : Int)))).toNat) (j := 0) (((w64 (((a1 : Nat) : Int) - (1 : Int)))).toNat * 3) rfl (hc4) (by decide) rfl) <|
zz 37 (xk2 1 U3 hc5) <|
yy 38 (.sto (layT (rows rw_iii ((a0).set ((0 : Int)).toNat ((((a0).getD ((w64 (((a1 : Nat) : Int) - (1 : Int)))).toNat (0, 0, 0)).1), (((a0).getD ((w64 (((a1 : Nat) : Int) - (1 : Int)))).toNat (0, 0, 0)).2.1), (((a0).getD ((w64 (((a1 : Nat) : Int) - (1 : Int)))).toNat (0, 0, 0)).2.2)))))) <|
ww (p := ∃ old, rdT (layT (rows rw_iii a0)) 3 (((0 : Int)).toNat * 3) = some old) (Exists.elim (rows_st rwf_iii (0, 0, 0) (i := ((0 : Int)).toNat) (j := 0) (l := [(i6 (((a0).getD ((w64 (((a1 : Nat) : Int) - (1 : Int)))).toNat (0, 0, 0)).1)), (i6 (((a0).getD ((w64 (((a1 : Nat) : Int) - (1 : Int)))).toNat (0, 0, 0)).2.1)), (i6 (((a0).getD ((w64 (((a1 : Nat) : Int) - (1 : Int)))).toNat (0, 0, 0)).2.2))]) ((((a0).getD ((w64 (((a1 : Nat) : Int) - (1 : Int)))).toNat (0, 0, 0)).1), (((a0).getD ((w64 (((a1 : Nat) : Int) - (1 : Int)))).toNat (0, 0, 0)).2.1), (((a0).getD ((w64 (((a1 : Nat) : Int) - (1 : Int)))).toNat (0, 0, 0)).2.2)) (((0 : Int)).toNat * 3) rfl (hc6) (Nat.le_of_ble_eq_true rfl) rfl) fun o h => ⟨o, h.1⟩) <|
ww (p := layL [(i6 (((a0).getD ((w64 (((a1 : Nat) : Int) - (1 : Int)))).toNat (0, 0, 0)).1)), (i6 (((a0).getD ((w64 (((a1 : Nat) : Int) - (1 : Int)))).toNat (0, 0, 0)).2.1)), (i6 (((a0).getD ((w64 (((a1 : Nat) : Int) - (1 : Int)))).toNat (0, 0, 0)).2.2))] (((0 : Int)).toNat * 3) (layT (rows rw_iii a0)) = layT (rows rw_iii ((a0).set ((0 : Int)).toNat ((((a0).getD ((w64 (((a1 : Nat) : Int) - (1 : Int)))).toNat (0, 0, 0)).1), (((a0).getD ((w64 (((a1 : Nat) : Int) - (1 : Int)))).toNat (0, 0, 0)).2.1), (((a0).getD ((w64 (((a1 : Nat) : Int) - (1 : Int)))).toNat (0, 0, 0)).2.2))))) (Exists.elim (rows_st rwf_iii (0, 0, 0) (i := ((0 : Int)).toNat) (j := 0) (l := [(i6 (((a0).getD ((w64 (((a1 : Nat) : Int) - (1 : Int)))).toNat (0, 0, 0)).1)), (i6 (((a0).getD ((w64 (((a1 : Nat) : Int) - (1 : Int)))).toNat (0, 0, 0)).2.1)), (i6 (((a0).getD ((w64 (((a1 : Nat) : Int) - (1 : Int)))).toNat (0, 0, 0)).2.2))]) ((((a0).getD ((w64 (((a1 : Nat) : Int) - (1 : Int)))).toNat (0, 0, 0)).1), (((a0).getD ((w64 (((a1 : Nat) : Int) - (1 : Int)))).toNat (0, 0, 0)).2.1), (((a0).getD ((w64 (((a1 : Nat) : Int) - (1 : Int)))).toNat (0, 0, 0)).2.2)) (((0 : Int)).toNat * 3) rfl (hc6) (Nat.le_of_ble_eq_true rfl) rfl) fun o h => h.2) <|
zz 46 (xk2 1 U3 hc3) <|
yy 47 (.sto (layT (rows rw_iii ((((a0).set ((0 : Int)).toNat ((((a0).getD ((w64 (((a1 : Nat) : Int) - (1 : Int)))).toNat (0, 0, 0)).1), (((a0).getD ((w64 (((a1 : Nat) : Int) - (1 : Int)))).toNat (0, 0, 0)).2.1), (((a0).getD ((w64 (((a1 : Nat) : Int) - (1 : Int)))).toNat (0, 0, 0)).2.2)))).set ((w64 (((a1 : Nat) : Int) - (1 : Int)))).toNat ((0 : Int), (0 : Int), (0 : Int)))))) <|
ww (p := ∃ old, rdT (layT (rows rw_iii ((a0).set ((0 : Int)).toNat ((((a0).getD ((w64 (((a1 : Nat) : Int) - (1 : Int)))).toNat (0, 0, 0)).1), (((a0).getD ((w64 (((a1 : Nat) : Int) - (1 : Int)))).toNat (0, 0, 0)).2.1), (((a0).getD ((w64 (((a1 : Nat) : Int) - (1 : Int)))).toNat (0, 0, 0)).2.2))))) 3 (((w64 (((a1 : Nat) : Int) - (1 : Int)))).toNat * 3) = some old) (Exists.elim (rows_st rwf_iii (0, 0, 0) (i := ((w64 (((a1 : Nat) : Int) - (1 : Int)))).toNat) (j := 0) (l := [(i6 (0 : Int)), (i6 (0 : Int)), (i6 (0 : Int))]) ((0 : Int), (0 : Int), (0 : Int)) (((w64 (((a1 : Nat) : Int) - (1 : Int)))).toNat * 3) rfl (hc7) (Nat.le_of_ble_eq_true rfl) rfl) fun o h => ⟨o, h.1⟩) <|
ww (p := layL [(i6 (0 : Int)), (i6 (0 : Int)), (i6 (0 : Int))] (((w64 (((a1 : Nat) : Int) - (1 : Int)))).toNat * 3) (layT (rows rw_iii ((a0).set ((0 : Int)).toNat ((((a0).getD ((w64 (((a1 : Nat) : Int) - (1 : Int)))).toNat (0, 0, 0)).1), (((a0).getD ((w64 (((a1 : Nat) : Int) - (1 : Int)))).toNat (0, 0, 0)).2.1), (((a0).getD ((w64 (((a1 : Nat) : Int) - (1 : Int)))).toNat (0, 0, 0)).2.2))))) = layT (rows rw_iii ((((a0).set ((0 : Int)).toNat ((((a0).getD ((w64 (((a1 : Nat) : Int) - (1 : Int)))).toNat (0, 0, 0)).1), (((a0).getD ((w64 (((a1 : Nat) : Int) - (1 : Int)))).toNat (0, 0, 0)).2.1), (((a0).getD ((w64 (((a1 : Nat) : Int) - (1 : Int)))).toNat (0, 0, 0)).2.2)))).set ((w64 (((a1 : Nat) : Int) - (1 : Int)))).toNat ((0 : Int), (0 : Int), (0 : Int))))) (Exists.elim (rows_st rwf_iii (0, 0, 0) (i := ((w64 (((a1 : Nat) : Int) - (1 : Int)))).toNat) (j := 0) (l := [(i6 (0 : Int)), (i6 (0 : Int)), (i6 (0 : Int))]) ((0 : Int), (0 : Int), (0 : Int)) (((w64 (((a1 : Nat) : Int) - (1 : Int)))).toNat * 3) rfl (hc7) (Nat.le_of_ble_eq_true rfl) rfl) fun o h => h.2) <|
yy 55 (.pur (sN 1 0 ((w64 (((a1 : Nat) : Int) - (1 : Int)))).toNat (Nat.add big 3))) <|
ww (p := opSlice P 38 (sN 1 0 a1 (Nat.add big 3)) none (some (i6 (w64 (((a1 : Nat) : Int) - (1 : Int))))) none Ax.h0 = some ((sN 1 0 ((w64 (((a1 : Nat) : Int) - (1 : Int)))).toNat (Nat.add big 3)), Ax.h0)) (slRowHi (e := 44) (es := 3) (by kernel_rfl) (by kernel_rfl) rfl rfl hc8) <|
yy 61 (.call (C_heapHeapviewportlaw23itemdownq1 ((((a0).set ((0 : Int)).toNat ((((a0).getD ((w64 (((a1 : Nat) : Int) - (1 : Int)))).toNat (0, 0, 0)).1), (((a0).getD ((w64 (((a1 : Nat) : Int) - (1 : Int)))).toNat (0, 0, 0)).2.1), (((a0).getD ((w64 (((a1 : Nat) : Int) - (1 : Int)))).toNat (0, 0, 0)).2.2)))).set ((w64 (((a1 : Nat) : Int) - (1 : Int)))).toNat ((0 : Int), (0 : Int), (0 : Int))) (((w64 (((a1 : Nat) : Int) - (1 : Int)))).toNat) a2 0 c9_ [(0, 0, false), (1, 1, true)] [(1, 1, true)])) <|
ww (m_heapHeapviewportlaw23itemdownq1_ok n ((((a0).set ((0 : Int)).toNat ((((a0).getD ((w64 (((a1 : Nat) : Int) - (1 : Int)))).toNat (0, 0, 0)).1), (((a0).getD ((w64 (((a1 : Nat) : Int) - (1 : Int)))).toNat (0, 0, 0)).2.1), (((a0).getD ((w64 (((a1 : Nat) : Int) - (1 : Int)))).toNat (0, 0, 0)).2.2)))).set ((w64 (((a1 : Nat) : Int) - (1 : Int)))).toNat ((0 : Int), (0 : Int), (0 : Int))) (((w64 (((a1 : Nat) : Int) - (1 : Int)))).toNat) a2 0 c9_ hc9) <|
ww (rows_flat rwf_iii ((((a0).set ((0 : Int)).toNat ((((a0).getD ((w64 (((a1 : Nat) : Int) - (1 : Int)))).toNat (0, 0, 0)).1), (((a0).getD ((w64 (((a1 : Nat) : Int) - (1 : Int)))).toNat (0, 0, 0)).2.1), (((a0).getD ((w64 (((a1 : Nat) : Int) - (1 : Int)))).toNat (0, 0, 0)).2.2)))).set ((w64 (((a1 : Nat) : Int) - (1 : Int)))).toNat ((0 : Int), (0 : Int), (0 : Int))) 44) <|
ww (rows_flat rwf_iii c9_ 44) <|
ww (rows_flat rwf_iii c9_ 44) <|
ee) (by kernel_rfl)
set_option maxRecDepth 100000 in
theorem p_heapHeapviewportlaw23itemTakeq2_1 (n : Nat) (a0 : List (Int × Int × Int)) (a1 : Nat) (a2 c1_0 c1_1 : Int) (c1_2 : Bool) (hc1 : m_heapHeapviewportlaw23itemLeastq2 n a0 a1 a2 = some (c1_0, c1_1, c1_2)) (hc2 : ¬ (c1_2 = true)) : G_heapHeapviewportlaw23itemTakeq2 a0 a1 a2 (a0, a1, c1_0, c1_1, false) :=
  runF2 hm (L := lT []) ⟨[2, 3], [(0, 0, false), (1, 1, true), (2, 2, false)], 3, 0⟩ (yy 5 (.call (C_heapHeapviewportlaw23itemLeastq2 a0 a1 a2 (c1_0, c1_1, c1_2) [(0, 0, false), (1, 1, true)] [(3, 2, false)])) <|
ww (m_heapHeapviewportlaw23itemLeastq2_ok n a0 a1 a2 (c1_0, c1_1, c1_2) hc1) <|
ww (rows_flat rwf_iii a0 44) <|
yy 15 (vt) <|
ww (p := (Value.bool (!c1_2)) = (Value.bool true)) (vBn (Bool.eq_false_iff.2 hc2)) <|
ww (rows_flat rwf_iii a0 44) <|
ee) (by kernel_rfl)
theorem m_heapHeapviewportlaw23itemTakeq2_ok (n : Nat) (a0 : List (Int × Int × Int)) (a1 : Nat) (a2 : Int) (r : List (Int × Int × Int) × Nat × Int × Int × Bool) (h : m_heapHeapviewportlaw23itemTakeq2 n a0 a1 a2 = some r) : Gv P (.func 10) (A_heapHeapviewportlaw23itemTakeq2 a0 a1 a2) (H_heapHeapviewportlaw23itemTakeq2 a0 a1 a2) (V_heapHeapviewportlaw23itemTakeq2 a0 a1 a2 r) (R_heapHeapviewportlaw23itemTakeq2 a0 a1 a2 r) := by
  unfold m_heapHeapviewportlaw23itemTakeq2 at h
  obtain ⟨⟨c1_0, c1_1, c1_2⟩, hc1, h⟩ := Option.bind_eq_some_iff.1 h
  dsimp only at h
  by_cases hc2 : c1_2 = true
  · rw [if_pos hc2] at h
    by_cases hc3 : 0 ≤ (w64 (((a1 : Nat) : Int) - (1 : Int))) ∧ (w64 (((a1 : Nat) : Int) - (1 : Int))) < ((a1 : Nat) : Int)
    · rw [if_pos hc3] at h
      by_cases hc4 : ((w64 (((a1 : Nat) : Int) - (1 : Int)))).toNat < (a0).length
      · rw [if_pos hc4] at h
        by_cases hc5 : 0 ≤ (0 : Int) ∧ (0 : Int) < ((a1 : Nat) : Int)
        · rw [if_pos hc5] at h
          by_cases hc6 : ((0 : Int)).toNat < (a0).length
          · rw [if_pos hc6] at h
            by_cases hc7 : ((w64 (((a1 : Nat) : Int) - (1 : Int)))).toNat < (((a0).set ((0 : Int)).toNat ((((a0).getD ((w64 (((a1 : Nat) : Int) - (1 : Int)))).toNat (0, 0, 0)).1), (((a0).getD ((w64 (((a1 : Nat) : Int) - (1 : Int)))).toNat (0, 0, 0)).2.1), (((a0).getD ((w64 (((a1 : Nat) : Int) - (1 : Int)))).toNat (0, 0, 0)).2.2)))).length
            · rw [if_pos hc7] at h
              by_cases hc8 : 0 ≤ (w64 (((a1 : Nat) : Int) - (1 : Int))) ∧ (w64 (((a1 : Nat) : Int) - (1 : Int))) ≤ ((a1 : Nat) : Int)
              · rw [if_pos hc8] at h
                obtain ⟨c9_, hc9, h⟩ := Option.bind_eq_some_iff.1 h
                obtain rfl := Option.some.inj h; exact p_heapHeapviewportlaw23itemTakeq2_0 n a0 a1 a2 c1_0 c1_1 c1_2 hc1 hc2 hc3 hc4 hc5 hc6 hc7 hc8 c9_ hc9
              · rw [if_neg hc8] at h; cases h
            · rw [if_neg hc7] at h; cases h
          · rw [if_neg hc6] at h; cases h
        · rw [if_neg hc5] at h; cases h
      · rw [if_neg hc4] at h; cases h
    · rw [if_neg hc3] at h; cases h
  · rw [if_neg hc2] at h
    obtain rfl := Option.some.inj h; exact p_heapHeapviewportlaw23itemTakeq2_1 n a0 a1 a2 c1_0 c1_1 c1_2 hc1 hc2


end Go.Proofs.Ytpbcnplpaibjnaa.hsow
