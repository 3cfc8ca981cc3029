/-
  What functions do, told by pure functions. No condition.
-/
import Derived.Test.YtagobfiiaaiblaaDoorCeaLives
set_option linter.unusedSimpArgs false
set_option linter.unusedVariables false
set_option linter.unusedSectionVars false
set_option linter.unnecessarySimpa false
set_option maxRecDepth 100000
noncomputable section
namespace Go.Proofs.YtagobfiiaaiblaaDoor.cea01
open Go Go.Proofs.YtagobfiiaaiblaaDoor Ax
variable [Args]
def rw_u (x : Int) : List Value := [Value.int .u64 x]
theorem rwf_u : RowF rw_u 1 := ⟨fun _ => rfl, fun a v h => by
 simp only [rw_u, List.mem_cons, List.not_mem_nil, or_false] at h
 rcases h with rfl <;> rfl, fun _ => rfl⟩
def rw_y (x : Int) : List Value := [Value.int .u8 x]
theorem rwf_y : RowF rw_y 1 := ⟨fun _ => rfl, fun a v h => by
 simp only [rw_y, List.mem_cons, List.not_mem_nil, or_false] at h
 rcases h with rfl <;> rfl, fun _ => rfl⟩
abbrev xp1 (b n k : Nat) (i : Int) : Prop := IA P 35 (sN b 0 n k) i (pN b (i.toNat * 1))
theorem xk1 (b k : Nat) {n : Nat} {i : Int} (h : 0 ≤ i ∧ i < (n : Int)) : OB (.pur (pN b (i.toNat * 1))) (xp1 b n k i) := ⟨ixS (e := 5) (by kernel_rfl) (by kernel_rfl) h.1 h.2⟩
abbrev op2 (L : List (Int)) (i : Nat) (r : Int) : Prop := (layT (rows rw_y L)).get (i * 1) = some (Value.int .u8 r)
theorem ok2 {L : List (Int)} {i : Nat} {r : Int} (hr : some (L.getD i (0)) = some r) (h : i < L.length) : OB (.ld (Value.int .u8 r)) (op2 L i r) := by cases hr; exact ⟨rows_ld rwf_y (0) (i := i) (j := 0) (i * 1) rfl h (by decide) rfl⟩
abbrev op3 (L : List (Int)) (i : Nat) (r : Int) : Prop := (layT (rows rw_u L)).get (i * 1) = some (Value.int .u64 r)
theorem ok3 {L : List (Int)} {i : Nat} {r : Int} (hr : some (L.getD i (0)) = some r) (h : i < L.length) : OB (.ld (Value.int .u64 r)) (op3 L i r) := by cases hr; exact ⟨rows_ld rwf_u (0) (i := i) (j := 0) (i * 1) rfl h (by decide) rfl⟩

def m_viewportlaw01lives (n : Nat) : Option Unit := some ()
theorem m_viewportlaw01lives_ok (n : Nat) (r : Unit) (h : m_viewportlaw01lives n = some r) : Gv P (.func 6) [] Ax.h0 (.bool true) Ax.h0 := lives_gv

def A_classEachq1 (a0 : Int) (a1 : Int) (a2 : Int) (a3 : Int) : List Value := [(Value.agg #[(Value.int .u64 a0), (Value.int .u64 a1), (Value.int .u64 a2), (Value.int .u64 a3)])]
def H_classEachq1 (a0 : Int) (a1 : Int) (a2 : Int) (a3 : Int) : AH := ⟨sB [], 0, 0⟩
def V_classEachq1 (a0 : Int) (a1 : Int) (a2 : Int) (a3 : Int) (r : Unit) : Value := match r with
 | _ => (Value.func (.func 23) #[] #[(pN 0 0)])
def R_classEachq1 (a0 : Int) (a1 : Int) (a2 : Int) (a3 : Int) (r : Unit) : AH := match r with
 | _ => ⟨sB [(0, (some (.cells (layT [(Value.int .u64 a0), (Value.int .u64 a1), (Value.int .u64 a2), (Value.int .u64 a3)]) 24)))], 1, 0⟩
abbrev G_classEachq1 (a0 : Int) (a1 : Int) (a2 : Int) (a3 : Int) (r : Unit) : Prop := Gv P (.func 17) (A_classEachq1 a0 a1 a2 a3) (H_classEachq1 a0 a1 a2 a3) (V_classEachq1 a0 a1 a2 a3 r) (R_classEachq1 a0 a1 a2 a3 r)
abbrev C_classEachq1 (a0 : Int) (a1 : Int) (a2 : Int) (a3 : Int) (r : Unit) (ins outs : BL) : CallA := ⟨0, ins, V_classEachq1 a0 a1 a2 a3 r, R_classEachq1 a0 a1 a2 a3 r, outs⟩
def m_classEachq1 (n : Nat) (a0 : Int) (a1 : Int) (a2 : Int) (a3 : Int) : Option (Unit) :=
 some ()
theorem m_classEachq1_ok (n : Nat) (a0 : Int) (a1 : Int) (a2 : Int) (a3 : Int) (r : Unit) (h : m_classEachq1 n a0 a1 a2 a3 = some r) : Gv P (.func 17) (A_classEachq1 a0 a1 a2 a3) (H_classEachq1 a0 a1 a2 a3) (V_classEachq1 a0 a1 a2 a3 r) (R_classEachq1 a0 a1 a2 a3 r) := by
 unfold m_classEachq1 at h
 obtain rfl := oI h
 exact runF2 hm ⟨[2], [(0, 0, false)], 1, 0, [], false, [], [], []⟩ (ee) (by kernel_rfl)

def A_bitsTrailingZeros64q1 (a0 : Int) : List Value := [(Value.int .u64 a0)]
def H_bitsTrailingZeros64q1 (a0 : Int) : AH := ⟨sB [], 0, 0⟩
def V_bitsTrailingZeros64q1 (a0 : Int) (r : Int) : Value := match r with
 | o0 => (i6 o0)
def R_bitsTrailingZeros64q1 (a0 : Int) (r : Int) : AH := match r with
 | o0 => ⟨sB [], 0, 0⟩
abbrev G_bitsTrailingZeros64q1 (a0 : Int) (r : Int) : Prop := Gv P (.func 24) (A_bitsTrailingZeros64q1 a0) (H_bitsTrailingZeros64q1 a0) (V_bitsTrailingZeros64q1 a0 r) (R_bitsTrailingZeros64q1 a0 r)
abbrev C_bitsTrailingZeros64q1 (a0 : Int) (r : Int) (ins outs : BL) : CallA := ⟨0, ins, V_bitsTrailingZeros64q1 a0 r, R_bitsTrailingZeros64q1 a0 r, outs⟩
def m_bitsTrailingZeros64q1 (n : Nat) (a0 : Int) : Option (Int) :=
 if a0 = (0 : Int) then
  some 64
 else
  ((some (IntKind.u64.wrap ((bAnd .u64 a0 (IntKind.u64.wrap ((0 : Int) - a0))) * (285870213051353865 : Int))))).bind fun c2_ =>
  if 0 ≤ (Int.fdiv c2_ 288230376151711744) ∧ (Int.fdiv c2_ 288230376151711744) < ((64 : Nat) : Int) then
   some (IntKind.i64.wrap ((tb_deBruijn64tab).getD ((Int.fdiv c2_ 288230376151711744)).toNat 0))
  else none
theorem m_bitsTrailingZeros64q1_ok (n : Nat) (a0 : Int) (r : Int) (h : m_bitsTrailingZeros64q1 n a0 = some r) : Gv P (.func 24) (A_bitsTrailingZeros64q1 a0) (H_bitsTrailingZeros64q1 a0) (V_bitsTrailingZeros64q1 a0 r) (R_bitsTrailingZeros64q1 a0 r) := by
 unfold m_bitsTrailingZeros64q1 at h
 by_cases hc1 : a0 = (0 : Int)
 ·rw [if_pos hc1] at h
  obtain rfl := oI h
  exact runF2 hm ⟨[2], [], 0, 0, [], false, [], [], []⟩ (zz 5 (xeT hc1) <|
   ee) (by kernel_rfl)
 ·rw [if_neg hc1] at h
  obtain ⟨c2_, hc2, h⟩ := oB h
  obtain ⟨hc3, h⟩ := gd h
  obtain rfl := oI h
  exact runF2 hm ⟨[2], [], 0, 0, [], false, [], [], []⟩ (zz 5 (xeF hc1) <|
   zz 12 (xnmK (k := .u64) hc2) <|
   yy 14 (.pur (Value.pointer (some ⟨0, ((Int.fdiv c2_ 288230376151711744)).toNat, some 0⟩))) <|
   ww (p := opIndexAddr P 54 (Value.pointer (some ⟨0, 0, some 0⟩)) (Value.int .u64 (Int.fdiv c2_ 288230376151711744)) Ax.h0 = some ((Value.pointer (some ⟨0, ((Int.fdiv c2_ 288230376151711744)).toNat, some 0⟩)), Ax.h0)) (ixTab (e := 5) (m := 64) (by kernel_rfl) (by kernel_rfl) hc3) <|
   yy 15 (.ld (Value.int .u8 ((tb_deBruijn64tab).getD ((Int.fdiv c2_ 288230376151711744)).toNat 0))) <|
   ww (p := Lg P 5 (Value.pointer (some ⟨0, ((Int.fdiv c2_ 288230376151711744)).toNat, some 0⟩)) (Value.int .u8 ((tb_deBruijn64tab).getD ((Int.fdiv c2_ 288230376151711744)).toNat 0))) (ldTab (g := 0) (L := tb_deBruijn64tab) rfl (by kernel_rfl) (toNatLt hc3)) <|
   ee) (by kernel_rfl)

def A_viewportlaw01all_111010y1 (a0 : Bool) (a1 : Int) (a2 : Int) (a3 : Int) (a4 : Int) (a5 : Int) : List Value := [(Value.int .u8 a5)]
def H_viewportlaw01all_111010y1 (a0 : Bool) (a1 : Int) (a2 : Int) (a3 : Int) (a4 : Int) (a5 : Int) : AH := ⟨sB [(0, (some (rblk P 15 [false, true, false, true, true, true, true] .ready none [(2, (pN 2 0)), (3, (pN 3 0)), (5, (pN 4 0)), (11, (Value.func (.func 23) #[] #[(pN 5 0)]))] 1))), (1, (some (.marks true))), (2, (some (.cells (layT [(Value.slice none 0 0)]) 35))), (3, (some (.cells (layT [(bO a0)]) 4))), (4, (some (.cells (layT [(Value.slice none 0 0)]) 35))), (5, (some (.cells (layT [(Value.int .u64 a1), (Value.int .u64 a2), (Value.int .u64 a3), (Value.int .u64 a4)]) 24)))], 6, 6⟩
def V_viewportlaw01all_111010y1 (a0 : Bool) (a1 : Int) (a2 : Int) (a3 : Int) (a4 : Int) (a5 : Int) (r : Unit) : Value := match r with
 | _ => (bO true)
def R_viewportlaw01all_111010y1 (a0 : Bool) (a1 : Int) (a2 : Int) (a3 : Int) (a4 : Int) (a5 : Int) (r : Unit) : AH := match r with
 | _ => ⟨sB [(0, (some (rblk P 15 [false, true, false, true, true, true, true] .ready none [(2, (pN 2 0)), (3, (pN 3 0)), (5, (pN 4 0)), (11, (Value.func (.func 23) #[] #[(pN 5 0)]))] 1))), (1, (some (.marks true))), (2, (some (.cells (layT [(Value.slice none 0 0)]) 35))), (3, (some (.cells (layT [(bO a0)]) 4))), (4, (some (.cells (layT [(sN 6 0 1 (Nat.add big 1))]) 35))), (5, (some (.cells (layT [(Value.int .u64 a1), (Value.int .u64 a2), (Value.int .u64 a3), (Value.int .u64 a4)]) 24))), (6, (some (.cells (layT [(Value.int .u8 a5)]) 5)))], 7, 0⟩
abbrev G_viewportlaw01all_111010y1 (a0 : Bool) (a1 : Int) (a2 : Int) (a3 : Int) (a4 : Int) (a5 : Int) (r : Unit) : Prop := Gv P (.yield 0) (A_viewportlaw01all_111010y1 a0 a1 a2 a3 a4 a5) (H_viewportlaw01all_111010y1 a0 a1 a2 a3 a4 a5) (V_viewportlaw01all_111010y1 a0 a1 a2 a3 a4 a5 r) (R_viewportlaw01all_111010y1 a0 a1 a2 a3 a4 a5 r)
abbrev C_viewportlaw01all_111010y1 (a0 : Bool) (a1 : Int) (a2 : Int) (a3 : Int) (a4 : Int) (a5 : Int) (r : Unit) (ins outs : BL) : CallA := ⟨6, ins, V_viewportlaw01all_111010y1 a0 a1 a2 a3 a4 a5 r, R_viewportlaw01all_111010y1 a0 a1 a2 a3 a4 a5 r, outs⟩
def m_viewportlaw01all_111010y1 (n : Nat) (a0 : Bool) (a1 : Int) (a2 : Int) (a3 : Int) (a4 : Int) (a5 : Int) : Option (Unit) :=
 some ()
theorem m_viewportlaw01all_111010y1_ok (n : Nat) (a0 : Bool) (a1 : Int) (a2 : Int) (a3 : Int) (a4 : Int) (a5 : Int) (r : Unit) (h : m_viewportlaw01all_111010y1 n a0 a1 a2 a3 a4 a5 = some r) : Gv P (.yield 0) (A_viewportlaw01all_111010y1 a0 a1 a2 a3 a4 a5) (H_viewportlaw01all_111010y1 a0 a1 a2 a3 a4 a5) (V_viewportlaw01all_111010y1 a0 a1 a2 a3 a4 a5 r) (R_viewportlaw01all_111010y1 a0 a1 a2 a3 a4 a5 r) := by
 unfold m_viewportlaw01all_111010y1 at h
 obtain rfl := oI h
 exact runY2 hm ⟨[], [(0, 0, false), (1, 1, false), (2, 2, false), (3, 3, false), (4, 4, false), (5, 5, false), (6, 7, false)], 7, 0, [], false, [], [], []⟩ (ee) (ee) (by kernel_rfl)

def A_viewportlaw01all_111010y2 (a0 : Bool) (a1 : List (Int)) (a2 : Int) (a3 : Int) (a4 : Int) (a5 : Int) (a6 : Int) : List Value := [(Value.int .u8 a6)]
def H_viewportlaw01all_111010y2 (a0 : Bool) (a1 : List (Int)) (a2 : Int) (a3 : Int) (a4 : Int) (a5 : Int) (a6 : Int) : AH := ⟨sB [(0, (some (rblk P 15 [false, true, false, true, true, true, true] .ready none [(2, (pN 2 0)), (3, (pN 3 0)), (5, (pN 4 0)), (11, (Value.func (.func 23) #[] #[(pN 6 0)]))] 1))), (1, (some (.marks true))), (2, (some (.cells (layT [(Value.slice none 0 0)]) 35))), (3, (some (.cells (layT [(bO a0)]) 4))), (4, (some (.cells (layT [(sN 5 0 (a1).length (Nat.add big 1))]) 35))), (5, (some (.cells (layT (rows rw_y a1)) 5))), (6, (some (.cells (layT [(Value.int .u64 a2), (Value.int .u64 a3), (Value.int .u64 a4), (Value.int .u64 a5)]) 24)))], 7, 7⟩
def V_viewportlaw01all_111010y2 (a0 : Bool) (a1 : List (Int)) (a2 : Int) (a3 : Int) (a4 : Int) (a5 : Int) (a6 : Int) (r : (Unit) ⊕ (Unit)) : Value := match r with
 | .inl _ => (bO false)
 | .inr _ => (bO true)
def R_viewportlaw01all_111010y2 (a0 : Bool) (a1 : List (Int)) (a2 : Int) (a3 : Int) (a4 : Int) (a5 : Int) (a6 : Int) (r : (Unit) ⊕ (Unit)) : AH := match r with
 | .inl _ => ⟨sB [(0, (some (rblk P 15 [false, true, false, true, true, true, true] .done (some .ret) [(2, (pN 2 0)), (3, (pN 3 0)), (5, (pN 4 0)), (11, (Value.func (.func 23) #[] #[(pN 6 0)]))] 1))), (1, (some (.marks true))), (2, (some (.cells (layT [(Value.slice none 0 0)]) 35))), (3, (some (.cells (layT [(bO false)]) 4))), (4, (some (.cells (layT [(sN 5 0 (a1).length (Nat.add big 1))]) 35))), (5, (some (.cells (layT (rows rw_y a1)) 5))), (6, (some (.cells (layT [(Value.int .u64 a2), (Value.int .u64 a3), (Value.int .u64 a4), (Value.int .u64 a5)]) 24)))], 7, 0⟩
 | .inr _ => ⟨sB [(0, (some (rblk P 15 [false, true, false, true, true, true, true] .ready none [(2, (pN 2 0)), (3, (pN 3 0)), (5, (pN 4 0)), (11, (Value.func (.func 23) #[] #[(pN 6 0)]))] 1))), (1, (some (.marks true))), (2, (some (.cells (layT [(Value.slice none 0 0)]) 35))), (3, (some (.cells (layT [(bO a0)]) 4))), (4, (some (.cells (layT [(sN 7 0 ((a1 ++ [a6])).length (Nat.add big 1))]) 35))), (6, (some (.cells (layT [(Value.int .u64 a2), (Value.int .u64 a3), (Value.int .u64 a4), (Value.int .u64 a5)]) 24))), (7, (some (.cells (layT (rows rw_y (a1 ++ [a6]))) 5)))], 8, 0⟩
abbrev G_viewportlaw01all_111010y2 (a0 : Bool) (a1 : List (Int)) (a2 : Int) (a3 : Int) (a4 : Int) (a5 : Int) (a6 : Int) (r : (Unit) ⊕ (Unit)) : Prop := Gv P (.yield 0) (A_viewportlaw01all_111010y2 a0 a1 a2 a3 a4 a5 a6) (H_viewportlaw01all_111010y2 a0 a1 a2 a3 a4 a5 a6) (V_viewportlaw01all_111010y2 a0 a1 a2 a3 a4 a5 a6 r) (R_viewportlaw01all_111010y2 a0 a1 a2 a3 a4 a5 a6 r)
abbrev C_viewportlaw01all_111010y2 (a0 : Bool) (a1 : List (Int)) (a2 : Int) (a3 : Int) (a4 : Int) (a5 : Int) (a6 : Int) (r : (Unit) ⊕ (Unit)) (ins outs : BL) : CallA := ⟨7, ins, V_viewportlaw01all_111010y2 a0 a1 a2 a3 a4 a5 a6 r, R_viewportlaw01all_111010y2 a0 a1 a2 a3 a4 a5 a6 r, outs⟩
def m_viewportlaw01all_111010y2 (n : Nat) (a0 : Bool) (a1 : List (Int)) (a2 : Int) (a3 : Int) (a4 : Int) (a5 : Int) (a6 : Int) : Option ((Unit) ⊕ (Unit)) :=
 if (((a1).length : Nat) : Int) = (256 : Int) then
  some (.inl ())
 else
  if ((a1).length + 1) * 1 ≤ 140737488355328 then
   some (.inr ())
  else none
theorem m_viewportlaw01all_111010y2_ok (n : Nat) (a0 : Bool) (a1 : List (Int)) (a2 : Int) (a3 : Int) (a4 : Int) (a5 : Int) (a6 : Int) (r : (Unit) ⊕ (Unit)) (h : m_viewportlaw01all_111010y2 n a0 a1 a2 a3 a4 a5 a6 = some r) : Gv P (.yield 0) (A_viewportlaw01all_111010y2 a0 a1 a2 a3 a4 a5 a6) (H_viewportlaw01all_111010y2 a0 a1 a2 a3 a4 a5 a6) (V_viewportlaw01all_111010y2 a0 a1 a2 a3 a4 a5 a6 r) (R_viewportlaw01all_111010y2 a0 a1 a2 a3 a4 a5 a6 r) := by
 unfold m_viewportlaw01all_111010y2 at h
 by_cases hc1 : (((a1).length : Nat) : Int) = (256 : Int)
 ·rw [if_pos hc1] at h
  obtain rfl := oI h
  exact runY2 hm ⟨[], [(0, 0, false), (1, 1, false), (2, 2, false), (3, 3, false), (4, 4, false), (5, 5, true), (6, 6, false)], 7, 0, [], false, [], [], []⟩ (ee) (zz 5 (xeT hc1) <|
   ww (rows_flat rwf_y a1 5) <|
   ee) (by kernel_rfl)
 ·rw [if_neg hc1] at h
  obtain ⟨hc2, h⟩ := gd h
  obtain rfl := oI h
  exact runY2 hm ⟨[], [(0, 0, false), (1, 1, false), (2, 2, false), (3, 3, false), (4, 4, false), (6, 6, false), (7, 8, true)], 8, 0, [], false, [], [], []⟩ (ee) (zz 5 (xeF hc1) <|
   yy 10 (.app ⟨none, rows rw_y a1, (rows rw_y (a1 ++ [a6])), ((a1 ++ [a6])).length, false⟩) <|
   ww (p := 0 < 1) ((by decide)) <|
   ww (p := rdT (layT (rows rw_y a1)) (Nat.mul (a1).length 1) 0 = some (rows rw_y a1)) (rows_rd rwf_y _ _ rfl) <|
   ww (p := fits (Nat.add (a1).length 1) 1 = true) (fits_ok hc2 (by have := hc2; show (_ : Nat) + _ ≤ _; omega)) <|
   ww (p := allCells [(Value.int .u8 a6)] = true) (rfl) <|
   ww (p := allCells (rows rw_y a1) = true) (rows_cells rwf_y _) <|
   ww (p := rows rw_y a1 ++ [(Value.int .u8 a6)] = (rows rw_y (a1 ++ [a6]))) (rows_app rw_y a1 [a6]) <|
   ww (p := Nat.add (a1).length 1 = ((a1 ++ [a6])).length) (by simp) <|
   ww (rows_flat rwf_y (a1 ++ [a6]) 5) <|
   ee) (by kernel_rfl)

def A_classEach1q1 (a0 : Bool) (a1 : Int) (a2 : Int) (a3 : Int) (a4 : Int) : List Value := [(Value.func (.yield 0) #[] #[]), (pN 5 0)]
def H_classEach1q1 (a0 : Bool) (a1 : Int) (a2 : Int) (a3 : Int) (a4 : Int) : AH := ⟨sB [(0, (some (rblk P 15 [false, true, false, true, true, true, true] .ready none [(2, (pN 2 0)), (3, (pN 3 0)), (5, (pN 4 0)), (11, (Value.func (.func 23) #[] #[(pN 5 0)]))] 1))), (1, (some (.marks true))), (2, (some (.cells (layT [(Value.slice none 0 0)]) 35))), (3, (some (.cells (layT [(bO a0)]) 4))), (4, (some (.cells (layT [(Value.slice none 0 0)]) 35))), (5, (some (.cells (layT [(Value.int .u64 a1), (Value.int .u64 a2), (Value.int .u64 a3), (Value.int .u64 a4)]) 24)))], 6, 6⟩
def V_classEach1q1 (a0 : Bool) (a1 : Int) (a2 : Int) (a3 : Int) (a4 : Int) (r : (List (Int)) ⊕ (List (Int))) : Value := match r with
 | .inl o0 => (Value.tuple #[])
 | .inr o0 => (Value.tuple #[])
def R_classEach1q1 (a0 : Bool) (a1 : Int) (a2 : Int) (a3 : Int) (a4 : Int) (r : (List (Int)) ⊕ (List (Int))) : AH := match r with
 | .inl o0 => ⟨sB [(0, (some (rblk P 15 [false, true, false, true, true, true, true] .ready none [(2, (pN 2 0)), (3, (pN 3 0)), (5, (pN 4 0)), (11, (Value.func (.func 23) #[] #[(pN 5 0)]))] 1))), (1, (some (.marks true))), (2, (some (.cells (layT [(Value.slice none 0 0)]) 35))), (3, (some (.cells (layT [(bO a0)]) 4))), (4, (some (.cells (layT [(slR o0 6 1)]) 35))), (5, (some (.cells (layT [(Value.int .u64 a1), (Value.int .u64 a2), (Value.int .u64 a3), (Value.int .u64 a4)]) 24))), (6, (nblkR rw_y o0 5))], 7, 0⟩
 | .inr o0 => ⟨sB [(0, (some (rblk P 15 [false, true, false, true, true, true, true] .done (some .ret) [(2, (pN 2 0)), (3, (pN 3 0)), (5, (pN 4 0)), (11, (Value.func (.func 23) #[] #[(pN 5 0)]))] 1))), (1, (some (.marks true))), (2, (some (.cells (layT [(Value.slice none 0 0)]) 35))), (3, (some (.cells (layT [(bO false)]) 4))), (4, (some (.cells (layT [(sN 6 0 (o0).length (Nat.add big 1))]) 35))), (5, (some (.cells (layT [(Value.int .u64 a1), (Value.int .u64 a2), (Value.int .u64 a3), (Value.int .u64 a4)]) 24))), (6, (some (.cells (layT (rows rw_y o0)) 5)))], 7, 0⟩
abbrev G_classEach1q1 (a0 : Bool) (a1 : Int) (a2 : Int) (a3 : Int) (a4 : Int) (r : (List (Int)) ⊕ (List (Int))) : Prop := Gv P (.func 23) (A_classEach1q1 a0 a1 a2 a3 a4) (H_classEach1q1 a0 a1 a2 a3 a4) (V_classEach1q1 a0 a1 a2 a3 a4 r) (R_classEach1q1 a0 a1 a2 a3 a4 r)
abbrev C_classEach1q1 (a0 : Bool) (a1 : Int) (a2 : Int) (a3 : Int) (a4 : Int) (r : (List (Int)) ⊕ (List (Int))) (ins outs : BL) : CallA := ⟨6, ins, V_classEach1q1 a0 a1 a2 a3 a4 r, R_classEach1q1 a0 a1 a2 a3 a4 r, outs⟩
def S_classEach1q1_1 (x1_0 : Bool) (x1_2 : Int) (x1_3 : Int) (x1_4 : Int) (x1_5 : Int) (x1_6 : Int) (st : List (Int) × Int) : XSt := match st with
 | (x1_1, x1_7) => (sT 26 [(0, (Value.func (.yield 0) #[] #[])), (3, (i6 x1_6)), (4, (Value.int .u64 x1_7)), (5, (Value.agg #[(Value.int .u64 x1_2), (Value.int .u64 x1_3), (Value.int .u64 x1_4), (Value.int .u64 x1_5)])), (6, (i6 x1_6))], [], ⟨sB [(0, (some (rblk P 15 [false, true, false, true, true, true, true] .ready none [(2, (pN 2 0)), (3, (pN 3 0)), (5, (pN 4 0)), (11, (Value.func (.func 23) #[] #[(pN 5 0)]))] 1))), (1, (some (.marks true))), (2, (some (.cells (layT [(Value.slice none 0 0)]) 35))), (3, (some (.cells (layT [(bO x1_0)]) 4))), (4, (some (.cells (layT [(slR x1_1 6 1)]) 35))), (5, (some (.cells (layT [(Value.int .u64 x1_2), (Value.int .u64 x1_3), (Value.int .u64 x1_4), (Value.int .u64 x1_5)]) 24))), (6, (nblkR rw_y x1_1 5))], 7, 0⟩)
def X_classEach1q1_1 (x1_0 : Bool) (x1_2 : Int) (x1_3 : Int) (x1_4 : Int) (x1_5 : Int) (x1_6 : Int) (r : (List (Int)) ⊕ (List (Int))) : Ex × XSt := match r with
 | .inl z1_0 => (.exit 2, (sT 26 [(0, (Value.func (.yield 0) #[] #[])), (5, (Value.agg #[(Value.int .u64 x1_2), (Value.int .u64 x1_3), (Value.int .u64 x1_4), (Value.int .u64 x1_5)])), (6, (i6 x1_6))], [], ⟨sB [(0, (some (rblk P 15 [false, true, false, true, true, true, true] .ready none [(2, (pN 2 0)), (3, (pN 3 0)), (5, (pN 4 0)), (11, (Value.func (.func 23) #[] #[(pN 5 0)]))] 1))), (1, (some (.marks true))), (2, (some (.cells (layT [(Value.slice none 0 0)]) 35))), (3, (some (.cells (layT [(bO x1_0)]) 4))), (4, (some (.cells (layT [(slR z1_0 6 1)]) 35))), (5, (some (.cells (layT [(Value.int .u64 x1_2), (Value.int .u64 x1_3), (Value.int .u64 x1_4), (Value.int .u64 x1_5)]) 24))), (6, (nblkR rw_y z1_0 5))], 7, 0⟩))
 | .inr z1_0 => (.ret, (sT 26 [], [], ⟨sB [(0, (some (rblk P 15 [false, true, false, true, true, true, true] .done (some .ret) [(2, (pN 2 0)), (3, (pN 3 0)), (5, (pN 4 0)), (11, (Value.func (.func 23) #[] #[(pN 5 0)]))] 1))), (1, (some (.marks true))), (2, (some (.cells (layT [(Value.slice none 0 0)]) 35))), (3, (some (.cells (layT [(bO false)]) 4))), (4, (some (.cells (layT [(sN 6 0 (z1_0).length (Nat.add big 1))]) 35))), (5, (some (.cells (layT [(Value.int .u64 x1_2), (Value.int .u64 x1_3), (Value.int .u64 x1_4), (Value.int .u64 x1_5)]) 24))), (6, (some (.cells (layT (rows rw_y z1_0)) 5)))], 7, 0⟩))
abbrev Q_classEach1q1_1 (rnd : Option Nat) (x1_0 : Bool) (x1_2 : Int) (x1_3 : Int) (x1_4 : Int) (x1_5 : Int) (x1_6 : Int) (st : List (Int) × Int) (c : Ex × XSt) : Prop := CG P rnd (fnN P 23) 6 (codeOf P 23 [false, false, true, false, false, true, true, false, false, true]) (S_classEach1q1_1 x1_0 x1_2 x1_3 x1_4 x1_5 x1_6 st) c
abbrev U_classEach1q1_1 (rd : Option Nat) (x1_0 : Bool) (x1_2 : Int) (x1_3 : Int) (x1_4 : Int) (x1_5 : Int) (x1_6 : Int) (st : List (Int) × Int) (r : (List (Int)) ⊕ (List (Int))) : Prop := CG P rd (fnN P 23) 6 (codeOf P 23 [false, true, false, false, true, true, false, false, true]) (S_classEach1q1_1 x1_0 x1_2 x1_3 x1_4 x1_5 x1_6 st) (X_classEach1q1_1 x1_0 x1_2 x1_3 x1_4 x1_5 x1_6 r)
def B_classEach1q1_1 (n : Nat) (x1_0 : Bool) (x1_2 : Int) (x1_3 : Int) (x1_4 : Int) (x1_5 : Int) (x1_6 : Int) (st : List (Int) × Int) : Option ((List (Int) × Int) ⊕ ((List (Int)) ⊕ (List (Int)))) := match st with
 | (x1_1, x1_7) =>
  match x1_1 with
  | [] =>
   if x1_7 = (0 : Int) then
    some (.inr (.inl ([] : List (Int))))
   else
    (m_bitsTrailingZeros64q1 n x1_7).bind fun y1_2_ =>
    ((some (w64 ((w64 (x1_6 * (64 : Int))) + y1_2_)))).bind fun y1_3_ =>
    (m_viewportlaw01all_111010y1 n x1_0 x1_2 x1_3 x1_4 x1_5 (IntKind.u8.wrap y1_3_)).bind fun _ =>
    some (.inl ([(IntKind.u8.wrap y1_3_)], (bAnd .u64 x1_7 (IntKind.u64.wrap (x1_7 - (1 : Int))))))
  | x1_1a :: x1_1t =>
   if x1_7 = (0 : Int) then
    some (.inr (.inl (x1_1a :: x1_1t)))
   else
    (m_bitsTrailingZeros64q1 n x1_7).bind fun y1_2_ =>
    ((some (w64 ((w64 (x1_6 * (64 : Int))) + y1_2_)))).bind fun y1_3_ =>
    match m_viewportlaw01all_111010y2 n x1_0 (x1_1a :: x1_1t) x1_2 x1_3 x1_4 x1_5 (IntKind.u8.wrap y1_3_) with
    | none => none
    | some (.inl _) =>
     some (.inr (.inr (x1_1a :: x1_1t)))
    | some (.inr _) =>
     some (.inl (((x1_1a :: x1_1t) ++ [(IntKind.u8.wrap y1_3_)]), (bAnd .u64 x1_7 (IntKind.u64.wrap (x1_7 - (1 : Int))))))
def m_classEach1q1_1 (n : Nat) (x1_0 : Bool) (x1_2 : Int) (x1_3 : Int) (x1_4 : Int) (x1_5 : Int) (x1_6 : Int) (st : List (Int) × Int) : Option ((List (Int)) ⊕ (List (Int))) := iterM (B_classEach1q1_1 n x1_0 x1_2 x1_3 x1_4 x1_5 x1_6) n st
theorem b_classEach1q1_1 (n : Nat) {rnd : Option Nat} (x1_0 : Bool) (x1_2 : Int) (x1_3 : Int) (x1_4 : Int) (x1_5 : Int) (x1_6 : Int) (st : List (Int) × Int) (o : (List (Int) × Int) ⊕ ((List (Int)) ⊕ (List (Int)))) (h : B_classEach1q1_1 n x1_0 x1_2 x1_3 x1_4 x1_5 x1_6 st = some o) : CG P rnd (fnN P 23) 6 (codeOf P 23 [false, false, true, false, false, true, true, false, false, true]) (S_classEach1q1_1 x1_0 x1_2 x1_3 x1_4 x1_5 x1_6 st) (Sum.elim (fun s => (.normal, S_classEach1q1_1 x1_0 x1_2 x1_3 x1_4 x1_5 x1_6 s)) (fun r => X_classEach1q1_1 x1_0 x1_2 x1_3 x1_4 x1_5 x1_6 r) o) := by
 obtain ⟨x1_1, x1_7⟩ := st
 unfold B_classEach1q1_1 at h
 dsimp only at h
 cases x1_1 with
 | nil =>
  dsimp only at h
  by_cases hy1_1 : x1_7 = (0 : Int)
  ·rw [if_pos hy1_1] at h
   obtain rfl := oI h
   exact runC2 hm ⟨[0, 5, 6], [(0, 0, false), (1, 1, false), (2, 2, false), (3, 3, false), (4, 4, false), (5, 5, false)], 7, 0, [], false, [], [], []⟩ (zz 3 (xnF hy1_1) <|
    ee) (by kernel_rfl)
  ·rw [if_neg hy1_1] at h
   obtain ⟨y1_2_, hy1_2, h⟩ := oB h
   obtain ⟨y1_3_, hy1_3, h⟩ := oB h
   obtain ⟨_, hy1_4, h⟩ := oB h
   obtain rfl := oI h
   exact runC2 hm ⟨[0, 3, 4, 5, 6], [(0, 0, false), (1, 1, false), (2, 2, false), (3, 3, false), (4, 4, false), (5, 5, false), (6, 7, false)], 7, 0, [], false, [], [], []⟩ (zz 3 (xnT hy1_1) <|
    yy 12 (.call (C_bitsTrailingZeros64q1 x1_7 y1_2_ [] [])) <|
    ww (m_bitsTrailingZeros64q1_ok n x1_7 y1_2_ hy1_2) <|
    zz 13 (xnm hy1_3) <|
    yy 15 (.call (C_viewportlaw01all_111010y1 x1_0 x1_2 x1_3 x1_4 x1_5 (IntKind.u8.wrap y1_3_) () [(0, 0, false), (1, 1, false), (2, 2, false), (3, 3, false), (4, 4, false), (5, 5, false)] [(0, 0, false), (1, 1, false), (2, 2, false), (3, 3, false), (4, 4, false), (5, 5, false), (7, 6, false)])) <|
    ww (m_viewportlaw01all_111010y1_ok n x1_0 x1_2 x1_3 x1_4 x1_5 (IntKind.u8.wrap y1_3_) () hy1_4) <|
    ee) (by kernel_rfl)
 | cons x1_1a x1_1t =>
  dsimp only at h
  by_cases hy1_1 : x1_7 = (0 : Int)
  ·rw [if_pos hy1_1] at h
   obtain rfl := oI h
   exact runC2 hm ⟨[0, 5, 6], [(0, 0, false), (1, 1, false), (2, 2, false), (3, 3, false), (4, 4, false), (5, 5, false), (6, 6, true)], 7, 0, [], false, [], [], []⟩ (zz 3 (xnF hy1_1) <|
    ww (rows_flat rwf_y (x1_1a :: x1_1t) 5) <|
    ee) (by kernel_rfl)
  ·rw [if_neg hy1_1] at h
   obtain ⟨y1_2_, hy1_2, h⟩ := oB h
   obtain ⟨y1_3_, hy1_3, h⟩ := oB h
   have k0 := fun {A L l} (k : PL A L l) => zz 3 (xnT hy1_1) <|
    yy 12 (.call (C_bitsTrailingZeros64q1 x1_7 y1_2_ [] [])) <|
    ww (m_bitsTrailingZeros64q1_ok n x1_7 y1_2_ hy1_2) <|
    zz 13 (xnm hy1_3) <|
    k
   rcases hy1_4 : m_viewportlaw01all_111010y2 n x1_0 (x1_1a :: x1_1t) x1_2 x1_3 x1_4 x1_5 (IntKind.u8.wrap y1_3_) with _ | (⟨⟩ | ⟨⟩)
   ·rw [hy1_4] at h; cases h
   ·rw [hy1_4] at h
    dsimp only at h
    obtain rfl := oI h
    exact runC2 hm ⟨[], [(0, 0, false), (1, 1, false), (2, 2, false), (3, 3, false), (4, 4, false), (5, 5, false), (6, 6, true)], 7, 0, [], false, [], [], []⟩ (k0 <|
     yy 15 (.call (C_viewportlaw01all_111010y2 x1_0 (x1_1a :: x1_1t) x1_2 x1_3 x1_4 x1_5 (IntKind.u8.wrap y1_3_) (.inl ()) [(0, 0, false), (1, 1, false), (2, 2, false), (3, 3, false), (4, 4, false), (5, 6, true), (6, 5, false)] [(0, 0, false), (1, 1, false), (2, 2, false), (3, 3, false), (4, 4, false), (6, 5, true), (5, 6, false)])) <|
     ww (m_viewportlaw01all_111010y2_ok n x1_0 (x1_1a :: x1_1t) x1_2 x1_3 x1_4 x1_5 (IntKind.u8.wrap y1_3_) (.inl ()) hy1_4) <|
     ww (rows_flat rwf_y (x1_1a :: x1_1t) 5) <|
     ww (rows_flat rwf_y (x1_1a :: x1_1t) 5) <|
     ww (rows_flat rwf_y (x1_1a :: x1_1t) 5) <|
     ee) (by kernel_rfl)
   ·rw [hy1_4] at h
    dsimp only at h
    obtain rfl := oI h
    exact runC2 hm ⟨[0, 3, 4, 5, 6], [(0, 0, false), (1, 1, false), (2, 2, false), (3, 3, false), (4, 4, false), (5, 5, false), (6, 7, true)], 7, 0, [], false, [], [], []⟩ (k0 <|
     yy 15 (.call (C_viewportlaw01all_111010y2 x1_0 (x1_1a :: x1_1t) x1_2 x1_3 x1_4 x1_5 (IntKind.u8.wrap y1_3_) (.inr ()) [(0, 0, false), (1, 1, false), (2, 2, false), (3, 3, false), (4, 4, false), (5, 6, true), (6, 5, false)] [(0, 0, false), (1, 1, false), (2, 2, false), (3, 3, false), (4, 4, false), (5, 6, false), (7, 7, true)])) <|
     ww (m_viewportlaw01all_111010y2_ok n x1_0 (x1_1a :: x1_1t) x1_2 x1_3 x1_4 x1_5 (IntKind.u8.wrap y1_3_) (.inr ()) hy1_4) <|
     ww (rows_flat rwf_y (x1_1a :: x1_1t) 5) <|
     ww (rows_flat rwf_y ((x1_1a :: x1_1t) ++ [(IntKind.u8.wrap y1_3_)]) 5) <|
     ww (rows_flat rwf_y ((x1_1a :: x1_1t) ++ [(IntKind.u8.wrap y1_3_)]) 5) <|
     ee) (by kernel_rfl)
theorem m_classEach1q1_1_ok (n : Nat) {rnd : Option Nat} (x1_0 : Bool) (x1_2 : Int) (x1_3 : Int) (x1_4 : Int) (x1_5 : Int) (x1_6 : Int) (st : List (Int) × Int) (r : (List (Int)) ⊕ (List (Int))) (h : m_classEach1q1_1 n x1_0 x1_2 x1_3 x1_4 x1_5 x1_6 st = some r) : CG P rnd (fnN P 23) 6 (codeOf P 23 [false, true, false, false, true, true, false, false, true]) (S_classEach1q1_1 x1_0 x1_2 x1_3 x1_4 x1_5 x1_6 st) (X_classEach1q1_1 x1_0 x1_2 x1_3 x1_4 x1_5 x1_6 r) :=
 CG.iter (b := codeOf P 23 [false, false, true, false, false, true, true, false, false, true]) (by kernel_rfl) (body := B_classEach1q1_1 n x1_0 x1_2 x1_3 x1_4 x1_5 x1_6) (S := S_classEach1q1_1 x1_0 x1_2 x1_3 x1_4 x1_5 x1_6) (X := X_classEach1q1_1 x1_0 x1_2 x1_3 x1_4 x1_5 x1_6)
  (fun s s' h => b_classEach1q1_1 n x1_0 x1_2 x1_3 x1_4 x1_5 x1_6 s (.inl s') h)
  (fun s r h => b_classEach1q1_1 n x1_0 x1_2 x1_3 x1_4 x1_5 x1_6 s (.inr r) h)
  (fun r => by intro hx; rcases r with _ | _ <;> cases hx) h
def m_classEach1q1 (n : Nat) (a0 : Bool) (a1 : Int) (a2 : Int) (a3 : Int) (a4 : Int) : Option ((List (Int)) ⊕ (List (Int))) :=
 match m_classEach1q1_1 n a0 a1 a2 a3 a4 0 (([] : List (Int)), a1) with
 | none => none
 | some (.inl c1_) =>
  match c1_ with
  | [] =>
   match m_classEach1q1_1 n a0 a1 a2 a3 a4 1 (([] : List (Int)), a2) with
   | none => none
   | some (.inl c2_) =>
    match c2_ with
    | [] =>
     match m_classEach1q1_1 n a0 a1 a2 a3 a4 2 (([] : List (Int)), a3) with
     | none => none
     | some (.inl c3_) =>
      match c3_ with
      | [] =>
       match m_classEach1q1_1 n a0 a1 a2 a3 a4 3 (([] : List (Int)), a4) with
       | none => none
       | some (.inl c4_) =>
        match c4_ with
        | [] =>
         some (.inl ([] : List (Int)))
        | c4_a :: c4_t =>
         some (.inl (c4_a :: c4_t))
       | some (.inr c4_) =>
        some (.inr c4_)
      | c3_a :: c3_t =>
       match m_classEach1q1_1 n a0 a1 a2 a3 a4 3 ((c3_a :: c3_t), a4) with
       | none => none
       | some (.inl c4_) =>
        match c4_ with
        | [] =>
         some (.inl ([] : List (Int)))
        | c4_a :: c4_t =>
         some (.inl (c4_a :: c4_t))
       | some (.inr c4_) =>
        some (.inr c4_)
     | some (.inr c3_) =>
      some (.inr c3_)
    | c2_a :: c2_t =>
     match m_classEach1q1_1 n a0 a1 a2 a3 a4 2 ((c2_a :: c2_t), a3) with
     | none => none
     | some (.inl c3_) =>
      match c3_ with
      | [] =>
       match m_classEach1q1_1 n a0 a1 a2 a3 a4 3 (([] : List (Int)), a4) with
       | none => none
       | some (.inl c4_) =>
        match c4_ with
        | [] =>
         some (.inl ([] : List (Int)))
        | c4_a :: c4_t =>
         some (.inl (c4_a :: c4_t))
       | some (.inr c4_) =>
        some (.inr c4_)
      | c3_a :: c3_t =>
       match m_classEach1q1_1 n a0 a1 a2 a3 a4 3 ((c3_a :: c3_t), a4) with
       | none => none
       | some (.inl c4_) =>
        match c4_ with
        | [] =>
         some (.inl ([] : List (Int)))
        | c4_a :: c4_t =>
         some (.inl (c4_a :: c4_t))
       | some (.inr c4_) =>
        some (.inr c4_)
     | some (.inr c3_) =>
      some (.inr c3_)
   | some (.inr c2_) =>
    some (.inr c2_)
  | c1_a :: c1_t =>
   match m_classEach1q1_1 n a0 a1 a2 a3 a4 1 ((c1_a :: c1_t), a2) with
   | none => none
   | some (.inl c2_) =>
    match c2_ with
    | [] =>
     match m_classEach1q1_1 n a0 a1 a2 a3 a4 2 (([] : List (Int)), a3) with
     | none => none
     | some (.inl c3_) =>
      match c3_ with
      | [] =>
       match m_classEach1q1_1 n a0 a1 a2 a3 a4 3 (([] : List (Int)), a4) with
       | none => none
       | some (.inl c4_) =>
        match c4_ with
        | [] =>
         some (.inl ([] : List (Int)))
        | c4_a :: c4_t =>
         some (.inl (c4_a :: c4_t))
       | some (.inr c4_) =>
        some (.inr c4_)
      | c3_a :: c3_t =>
       match m_classEach1q1_1 n a0 a1 a2 a3 a4 3 ((c3_a :: c3_t), a4) with
       | none => none
       | some (.inl c4_) =>
        match c4_ with
        | [] =>
         some (.inl ([] : List (Int)))
        | c4_a :: c4_t =>
         some (.inl (c4_a :: c4_t))
       | some (.inr c4_) =>
        some (.inr c4_)
     | some (.inr c3_) =>
      some (.inr c3_)
    | c2_a :: c2_t =>
     match m_classEach1q1_1 n a0 a1 a2 a3 a4 2 ((c2_a :: c2_t), a3) with
     | none => none
     | some (.inl c3_) =>
      match c3_ with
      | [] =>
       match m_classEach1q1_1 n a0 a1 a2 a3 a4 3 (([] : List (Int)), a4) with
       | none => none
       | some (.inl c4_) =>
        match c4_ with
        | [] =>
         some (.inl ([] : List (Int)))
        | c4_a :: c4_t =>
         some (.inl (c4_a :: c4_t))
       | some (.inr c4_) =>
        some (.inr c4_)
      | c3_a :: c3_t =>
       match m_classEach1q1_1 n a0 a1 a2 a3 a4 3 ((c3_a :: c3_t), a4) with
       | none => none
       | some (.inl c4_) =>
        match c4_ with
        | [] =>
         some (.inl ([] : List (Int)))
        | c4_a :: c4_t =>
         some (.inl (c4_a :: c4_t))
       | some (.inr c4_) =>
        some (.inr c4_)
     | some (.inr c3_) =>
      some (.inr c3_)
   | some (.inr c2_) =>
    some (.inr c2_)
 | some (.inr c1_) =>
  some (.inr c1_)
theorem m_classEach1q1_ok (n : Nat) (a0 : Bool) (a1 : Int) (a2 : Int) (a3 : Int) (a4 : Int) (r : (List (Int)) ⊕ (List (Int))) (h : m_classEach1q1 n a0 a1 a2 a3 a4 = some r) : Gv P (.func 23) (A_classEach1q1 a0 a1 a2 a3 a4) (H_classEach1q1 a0 a1 a2 a3 a4) (V_classEach1q1 a0 a1 a2 a3 a4 r) (R_classEach1q1 a0 a1 a2 a3 a4 r) := by
 unfold m_classEach1q1 at h
 rcases hc1 : m_classEach1q1_1 n a0 a1 a2 a3 a4 0 (([] : List (Int)), a1) with _ | (c1_ | c1_)
 ·rw [hc1] at h; cases h
 ·rw [hc1] at h
  dsimp only at h
  cases c1_ with
  | nil =>
   dsimp only at h
   have k0 := fun {A L l} (k : PL A L l) => ww (p := U_classEach1q1_1 none a0 a1 a2 a3 a4 0 (([] : List (Int)), a1) (.inl ([] : List (Int)))) (m_classEach1q1_1_ok n a0 a1 a2 a3 a4 0 (([] : List (Int)), a1) (.inl ([] : List (Int))) hc1) <|
    ll 17 ⟨⟨[0, 3, 4, 5, 6], [(0, 0, false), (1, 1, false), (2, 2, false), (3, 3, false), (4, 4, false), (5, 5, false)], 7, 0, [], false, [], [], []⟩, (X_classEach1q1_1 a0 a1 a2 a3 a4 0 (.inl ([] : List (Int)))).1, (X_classEach1q1_1 a0 a1 a2 a3 a4 0 (.inl ([] : List (Int)))).2⟩ <|
    k
   rcases hc2 : m_classEach1q1_1 n a0 a1 a2 a3 a4 1 (([] : List (Int)), a2) with _ | (c2_ | c2_)
   ·rw [hc2] at h; cases h
   ·rw [hc2] at h
    dsimp only at h
    cases c2_ with
    | nil =>
     dsimp only at h
     have k2 := fun {A L l} (k : PL A L l) => ww (p := U_classEach1q1_1 none a0 a1 a2 a3 a4 1 (([] : List (Int)), a2) (.inl ([] : List (Int)))) (m_classEach1q1_1_ok n a0 a1 a2 a3 a4 1 (([] : List (Int)), a2) (.inl ([] : List (Int))) hc2) <|
      ll 33 ⟨⟨[0, 3, 4, 5, 6], [(0, 0, false), (1, 1, false), (2, 2, false), (3, 3, false), (4, 4, false), (5, 5, false)], 7, 0, [], false, [], [], []⟩, (X_classEach1q1_1 a0 a1 a2 a3 a4 1 (.inl ([] : List (Int)))).1, (X_classEach1q1_1 a0 a1 a2 a3 a4 1 (.inl ([] : List (Int)))).2⟩ <|
      k
     rcases hc3 : m_classEach1q1_1 n a0 a1 a2 a3 a4 2 (([] : List (Int)), a3) with _ | (c3_ | c3_)
     ·rw [hc3] at h; cases h
     ·rw [hc3] at h
      dsimp only at h
      cases c3_ with
      | nil =>
       dsimp only at h
       have k4 := fun {A L l} (k : PL A L l) => ww (p := U_classEach1q1_1 none a0 a1 a2 a3 a4 2 (([] : List (Int)), a3) (.inl ([] : List (Int)))) (m_classEach1q1_1_ok n a0 a1 a2 a3 a4 2 (([] : List (Int)), a3) (.inl ([] : List (Int))) hc3) <|
        ll 49 ⟨⟨[0, 3, 4, 5, 6], [(0, 0, false), (1, 1, false), (2, 2, false), (3, 3, false), (4, 4, false), (5, 5, false)], 7, 0, [], false, [], [], []⟩, (X_classEach1q1_1 a0 a1 a2 a3 a4 2 (.inl ([] : List (Int)))).1, (X_classEach1q1_1 a0 a1 a2 a3 a4 2 (.inl ([] : List (Int)))).2⟩ <|
        k
       rcases hc4 : m_classEach1q1_1 n a0 a1 a2 a3 a4 3 (([] : List (Int)), a4) with _ | (c4_ | c4_)
       ·rw [hc4] at h; cases h
       ·rw [hc4] at h
        dsimp only at h
        cases c4_ with
        | nil =>
         dsimp only at h
         obtain rfl := oI h
         exact runF2 hm ⟨[], [(0, 0, false), (1, 1, false), (2, 2, false), (3, 3, false), (4, 4, false), (5, 5, false)], 7, 0, [], false, [], [], []⟩ (k0 <|
          k2 <|
          k4 <|
          ww (p := U_classEach1q1_1 none a0 a1 a2 a3 a4 3 (([] : List (Int)), a4) (.inl ([] : List (Int)))) (m_classEach1q1_1_ok n a0 a1 a2 a3 a4 3 (([] : List (Int)), a4) (.inl ([] : List (Int))) hc4) <|
          ll 65 ⟨⟨[0, 3, 4, 5, 6], [(0, 0, false), (1, 1, false), (2, 2, false), (3, 3, false), (4, 4, false), (5, 5, false)], 7, 0, [], false, [], [], []⟩, (X_classEach1q1_1 a0 a1 a2 a3 a4 3 (.inl ([] : List (Int)))).1, (X_classEach1q1_1 a0 a1 a2 a3 a4 3 (.inl ([] : List (Int)))).2⟩ <|
          ee) (by kernel_rfl)
        | cons c4_a c4_t =>
         dsimp only at h
         obtain rfl := oI h
         exact runF2 hm ⟨[], [(0, 0, false), (1, 1, false), (2, 2, false), (3, 3, false), (4, 4, false), (5, 5, false), (6, 6, true)], 7, 0, [], false, [], [], []⟩ (k0 <|
          k2 <|
          k4 <|
          ww (p := U_classEach1q1_1 none a0 a1 a2 a3 a4 3 (([] : List (Int)), a4) (.inl (c4_a :: c4_t))) (m_classEach1q1_1_ok n a0 a1 a2 a3 a4 3 (([] : List (Int)), a4) (.inl (c4_a :: c4_t)) hc4) <|
          ll 65 ⟨⟨[0, 3, 4, 5, 6], [(0, 0, false), (1, 1, false), (2, 2, false), (3, 3, false), (4, 4, false), (5, 5, false)], 7, 0, [], false, [], [], []⟩, (X_classEach1q1_1 a0 a1 a2 a3 a4 3 (.inl (c4_a :: c4_t))).1, (X_classEach1q1_1 a0 a1 a2 a3 a4 3 (.inl (c4_a :: c4_t))).2⟩ <|
          ww (rows_flat rwf_y (c4_a :: c4_t) 5) <|
          ee) (by kernel_rfl)
       ·rw [hc4] at h
        dsimp only at h
        obtain rfl := oI h
        exact runF2 hm ⟨[], [(0, 0, false), (1, 1, false), (2, 2, false), (3, 3, false), (4, 4, false), (5, 5, false), (6, 6, true)], 7, 0, [], false, [], [], []⟩ (k0 <|
         k2 <|
         k4 <|
         ww (p := U_classEach1q1_1 none a0 a1 a2 a3 a4 3 (([] : List (Int)), a4) (.inr c4_)) (m_classEach1q1_1_ok n a0 a1 a2 a3 a4 3 (([] : List (Int)), a4) (.inr c4_) hc4) <|
         ll 65 ⟨⟨[0, 3, 4, 5, 6], [(0, 0, false), (1, 1, false), (2, 2, false), (3, 3, false), (4, 4, false), (5, 5, false)], 7, 0, [], false, [], [], []⟩, (X_classEach1q1_1 a0 a1 a2 a3 a4 3 (.inr c4_)).1, (X_classEach1q1_1 a0 a1 a2 a3 a4 3 (.inr c4_)).2⟩ <|
         ww (rows_flat rwf_y c4_ 5) <|
         ee) (by kernel_rfl)
      | cons c3_a c3_t =>
       dsimp only at h
       have k4 := fun {A L l} (k : PL A L l) => ww (p := U_classEach1q1_1 none a0 a1 a2 a3 a4 2 (([] : List (Int)), a3) (.inl (c3_a :: c3_t))) (m_classEach1q1_1_ok n a0 a1 a2 a3 a4 2 (([] : List (Int)), a3) (.inl (c3_a :: c3_t)) hc3) <|
        ll 49 ⟨⟨[0, 3, 4, 5, 6], [(0, 0, false), (1, 1, false), (2, 2, false), (3, 3, false), (4, 4, false), (5, 5, false)], 7, 0, [], false, [], [], []⟩, (X_classEach1q1_1 a0 a1 a2 a3 a4 2 (.inl (c3_a :: c3_t))).1, (X_classEach1q1_1 a0 a1 a2 a3 a4 2 (.inl (c3_a :: c3_t))).2⟩ <|
        k
       rcases hc4 : m_classEach1q1_1 n a0 a1 a2 a3 a4 3 ((c3_a :: c3_t), a4) with _ | (c4_ | c4_)
       ·rw [hc4] at h; cases h
       ·rw [hc4] at h
        dsimp only at h
        cases c4_ with
        | nil =>
         dsimp only at h
         obtain rfl := oI h
         exact runF2 hm ⟨[], [(0, 0, false), (1, 1, false), (2, 2, false), (3, 3, false), (4, 4, false), (5, 5, false)], 7, 0, [], false, [], [], []⟩ (k0 <|
          k2 <|
          k4 <|
          ww (p := U_classEach1q1_1 none a0 a1 a2 a3 a4 3 ((c3_a :: c3_t), a4) (.inl ([] : List (Int)))) (m_classEach1q1_1_ok n a0 a1 a2 a3 a4 3 ((c3_a :: c3_t), a4) (.inl ([] : List (Int))) hc4) <|
          ww (rows_flat rwf_y (c3_a :: c3_t) 5) <|
          ll 65 ⟨⟨[0, 3, 4, 5, 6], [(0, 0, false), (1, 1, false), (2, 2, false), (3, 3, false), (4, 4, false), (5, 5, false), (6, 6, true)], 7, 0, [], false, [], [], []⟩, (X_classEach1q1_1 a0 a1 a2 a3 a4 3 (.inl ([] : List (Int)))).1, (X_classEach1q1_1 a0 a1 a2 a3 a4 3 (.inl ([] : List (Int)))).2⟩ <|
          ee) (by kernel_rfl)
        | cons c4_a c4_t =>
         dsimp only at h
         obtain rfl := oI h
         exact runF2 hm ⟨[], [(0, 0, false), (1, 1, false), (2, 2, false), (3, 3, false), (4, 4, false), (5, 5, false), (6, 6, true)], 7, 0, [], false, [], [], []⟩ (k0 <|
          k2 <|
          k4 <|
          ww (p := U_classEach1q1_1 none a0 a1 a2 a3 a4 3 ((c3_a :: c3_t), a4) (.inl (c4_a :: c4_t))) (m_classEach1q1_1_ok n a0 a1 a2 a3 a4 3 ((c3_a :: c3_t), a4) (.inl (c4_a :: c4_t)) hc4) <|
          ww (rows_flat rwf_y (c3_a :: c3_t) 5) <|
          ll 65 ⟨⟨[0, 3, 4, 5, 6], [(0, 0, false), (1, 1, false), (2, 2, false), (3, 3, false), (4, 4, false), (5, 5, false), (6, 6, true)], 7, 0, [], false, [], [], []⟩, (X_classEach1q1_1 a0 a1 a2 a3 a4 3 (.inl (c4_a :: c4_t))).1, (X_classEach1q1_1 a0 a1 a2 a3 a4 3 (.inl (c4_a :: c4_t))).2⟩ <|
          ww (rows_flat rwf_y (c4_a :: c4_t) 5) <|
          ee) (by kernel_rfl)
       ·rw [hc4] at h
        dsimp only at h
        obtain rfl := oI h
        exact runF2 hm ⟨[], [(0, 0, false), (1, 1, false), (2, 2, false), (3, 3, false), (4, 4, false), (5, 5, false), (6, 6, true)], 7, 0, [], false, [], [], []⟩ (k0 <|
         k2 <|
         k4 <|
         ww (p := U_classEach1q1_1 none a0 a1 a2 a3 a4 3 ((c3_a :: c3_t), a4) (.inr c4_)) (m_classEach1q1_1_ok n a0 a1 a2 a3 a4 3 ((c3_a :: c3_t), a4) (.inr c4_) hc4) <|
         ww (rows_flat rwf_y (c3_a :: c3_t) 5) <|
         ll 65 ⟨⟨[0, 3, 4, 5, 6], [(0, 0, false), (1, 1, false), (2, 2, false), (3, 3, false), (4, 4, false), (5, 5, false), (6, 6, true)], 7, 0, [], false, [], [], []⟩, (X_classEach1q1_1 a0 a1 a2 a3 a4 3 (.inr c4_)).1, (X_classEach1q1_1 a0 a1 a2 a3 a4 3 (.inr c4_)).2⟩ <|
         ww (rows_flat rwf_y c4_ 5) <|
         ee) (by kernel_rfl)
     ·rw [hc3] at h
      dsimp only at h
      obtain rfl := oI h
      exact runF2 hm ⟨[], [(0, 0, false), (1, 1, false), (2, 2, false), (3, 3, false), (4, 4, false), (5, 5, false), (6, 6, true)], 7, 0, [], false, [], [], []⟩ (k0 <|
       k2 <|
       ww (p := U_classEach1q1_1 none a0 a1 a2 a3 a4 2 (([] : List (Int)), a3) (.inr c3_)) (m_classEach1q1_1_ok n a0 a1 a2 a3 a4 2 (([] : List (Int)), a3) (.inr c3_) hc3) <|
       ll 49 ⟨⟨[0, 3, 4, 5, 6], [(0, 0, false), (1, 1, false), (2, 2, false), (3, 3, false), (4, 4, false), (5, 5, false)], 7, 0, [], false, [], [], []⟩, (X_classEach1q1_1 a0 a1 a2 a3 a4 2 (.inr c3_)).1, (X_classEach1q1_1 a0 a1 a2 a3 a4 2 (.inr c3_)).2⟩ <|
       ww (rows_flat rwf_y c3_ 5) <|
       ee) (by kernel_rfl)
    | cons c2_a c2_t =>
     dsimp only at h
     have k2 := fun {A L l} (k : PL A L l) => ww (p := U_classEach1q1_1 none a0 a1 a2 a3 a4 1 (([] : List (Int)), a2) (.inl (c2_a :: c2_t))) (m_classEach1q1_1_ok n a0 a1 a2 a3 a4 1 (([] : List (Int)), a2) (.inl (c2_a :: c2_t)) hc2) <|
      ll 33 ⟨⟨[0, 3, 4, 5, 6], [(0, 0, false), (1, 1, false), (2, 2, false), (3, 3, false), (4, 4, false), (5, 5, false)], 7, 0, [], false, [], [], []⟩, (X_classEach1q1_1 a0 a1 a2 a3 a4 1 (.inl (c2_a :: c2_t))).1, (X_classEach1q1_1 a0 a1 a2 a3 a4 1 (.inl (c2_a :: c2_t))).2⟩ <|
      k
     rcases hc3 : m_classEach1q1_1 n a0 a1 a2 a3 a4 2 ((c2_a :: c2_t), a3) with _ | (c3_ | c3_)
     ·rw [hc3] at h; cases h
     ·rw [hc3] at h
      dsimp only at h
      cases c3_ with
      | nil =>
       dsimp only at h
       have k4 := fun {A L l} (k : PL A L l) => ww (p := U_classEach1q1_1 none a0 a1 a2 a3 a4 2 ((c2_a :: c2_t), a3) (.inl ([] : List (Int)))) (m_classEach1q1_1_ok n a0 a1 a2 a3 a4 2 ((c2_a :: c2_t), a3) (.inl ([] : List (Int))) hc3) <|
        ww (rows_flat rwf_y (c2_a :: c2_t) 5) <|
        ll 49 ⟨⟨[0, 3, 4, 5, 6], [(0, 0, false), (1, 1, false), (2, 2, false), (3, 3, false), (4, 4, false), (5, 5, false), (6, 6, true)], 7, 0, [], false, [], [], []⟩, (X_classEach1q1_1 a0 a1 a2 a3 a4 2 (.inl ([] : List (Int)))).1, (X_classEach1q1_1 a0 a1 a2 a3 a4 2 (.inl ([] : List (Int)))).2⟩ <|
        k
       rcases hc4 : m_classEach1q1_1 n a0 a1 a2 a3 a4 3 (([] : List (Int)), a4) with _ | (c4_ | c4_)
       ·rw [hc4] at h; cases h
       ·rw [hc4] at h
        dsimp only at h
        cases c4_ with
        | nil =>
         dsimp only at h
         obtain rfl := oI h
         exact runF2 hm ⟨[], [(0, 0, false), (1, 1, false), (2, 2, false), (3, 3, false), (4, 4, false), (5, 5, false)], 7, 0, [], false, [], [], []⟩ (k0 <|
          k2 <|
          k4 <|
          ww (p := U_classEach1q1_1 none a0 a1 a2 a3 a4 3 (([] : List (Int)), a4) (.inl ([] : List (Int)))) (m_classEach1q1_1_ok n a0 a1 a2 a3 a4 3 (([] : List (Int)), a4) (.inl ([] : List (Int))) hc4) <|
          ll 65 ⟨⟨[0, 3, 4, 5, 6], [(0, 0, false), (1, 1, false), (2, 2, false), (3, 3, false), (4, 4, false), (5, 5, false)], 7, 0, [], false, [], [], []⟩, (X_classEach1q1_1 a0 a1 a2 a3 a4 3 (.inl ([] : List (Int)))).1, (X_classEach1q1_1 a0 a1 a2 a3 a4 3 (.inl ([] : List (Int)))).2⟩ <|
          ee) (by kernel_rfl)
        | cons c4_a c4_t =>
         dsimp only at h
         obtain rfl := oI h
         exact runF2 hm ⟨[], [(0, 0, false), (1, 1, false), (2, 2, false), (3, 3, false), (4, 4, false), (5, 5, false), (6, 6, true)], 7, 0, [], false, [], [], []⟩ (k0 <|
          k2 <|
          k4 <|
          ww (p := U_classEach1q1_1 none a0 a1 a2 a3 a4 3 (([] : List (Int)), a4) (.inl (c4_a :: c4_t))) (m_classEach1q1_1_ok n a0 a1 a2 a3 a4 3 (([] : List (Int)), a4) (.inl (c4_a :: c4_t)) hc4) <|
          ll 65 ⟨⟨[0, 3, 4, 5, 6], [(0, 0, false), (1, 1, false), (2, 2, false), (3, 3, false), (4, 4, false), (5, 5, false)], 7, 0, [], false, [], [], []⟩, (X_classEach1q1_1 a0 a1 a2 a3 a4 3 (.inl (c4_a :: c4_t))).1, (X_classEach1q1_1 a0 a1 a2 a3 a4 3 (.inl (c4_a :: c4_t))).2⟩ <|
          ww (rows_flat rwf_y (c4_a :: c4_t) 5) <|
          ee) (by kernel_rfl)
       ·rw [hc4] at h
        dsimp only at h
        obtain rfl := oI h
        exact runF2 hm ⟨[], [(0, 0, false), (1, 1, false), (2, 2, false), (3, 3, false), (4, 4, false), (5, 5, false), (6, 6, true)], 7, 0, [], false, [], [], []⟩ (k0 <|
         k2 <|
         k4 <|
         ww (p := U_classEach1q1_1 none a0 a1 a2 a3 a4 3 (([] : List (Int)), a4) (.inr c4_)) (m_classEach1q1_1_ok n a0 a1 a2 a3 a4 3 (([] : List (Int)), a4) (.inr c4_) hc4) <|
         ll 65 ⟨⟨[0, 3, 4, 5, 6], [(0, 0, false), (1, 1, false), (2, 2, false), (3, 3, false), (4, 4, false), (5, 5, false)], 7, 0, [], false, [], [], []⟩, (X_classEach1q1_1 a0 a1 a2 a3 a4 3 (.inr c4_)).1, (X_classEach1q1_1 a0 a1 a2 a3 a4 3 (.inr c4_)).2⟩ <|
         ww (rows_flat rwf_y c4_ 5) <|
         ee) (by kernel_rfl)
      | cons c3_a c3_t =>
       dsimp only at h
       have k4 := fun {A L l} (k : PL A L l) => ww (p := U_classEach1q1_1 none a0 a1 a2 a3 a4 2 ((c2_a :: c2_t), a3) (.inl (c3_a :: c3_t))) (m_classEach1q1_1_ok n a0 a1 a2 a3 a4 2 ((c2_a :: c2_t), a3) (.inl (c3_a :: c3_t)) hc3) <|
        ww (rows_flat rwf_y (c2_a :: c2_t) 5) <|
        ll 49 ⟨⟨[0, 3, 4, 5, 6], [(0, 0, false), (1, 1, false), (2, 2, false), (3, 3, false), (4, 4, false), (5, 5, false), (6, 6, true)], 7, 0, [], false, [], [], []⟩, (X_classEach1q1_1 a0 a1 a2 a3 a4 2 (.inl (c3_a :: c3_t))).1, (X_classEach1q1_1 a0 a1 a2 a3 a4 2 (.inl (c3_a :: c3_t))).2⟩ <|
        k
       rcases hc4 : m_classEach1q1_1 n a0 a1 a2 a3 a4 3 ((c3_a :: c3_t), a4) with _ | (c4_ | c4_)
       ·rw [hc4] at h; cases h
       ·rw [hc4] at h
        dsimp only at h
        cases c4_ with
        | nil =>
         dsimp only at h
         obtain rfl := oI h
         exact runF2 hm ⟨[], [(0, 0, false), (1, 1, false), (2, 2, false), (3, 3, false), (4, 4, false), (5, 5, false)], 7, 0, [], false, [], [], []⟩ (k0 <|
          k2 <|
          k4 <|
          ww (p := U_classEach1q1_1 none a0 a1 a2 a3 a4 3 ((c3_a :: c3_t), a4) (.inl ([] : List (Int)))) (m_classEach1q1_1_ok n a0 a1 a2 a3 a4 3 ((c3_a :: c3_t), a4) (.inl ([] : List (Int))) hc4) <|
          ww (rows_flat rwf_y (c3_a :: c3_t) 5) <|
          ll 65 ⟨⟨[0, 3, 4, 5, 6], [(0, 0, false), (1, 1, false), (2, 2, false), (3, 3, false), (4, 4, false), (5, 5, false), (6, 6, true)], 7, 0, [], false, [], [], []⟩, (X_classEach1q1_1 a0 a1 a2 a3 a4 3 (.inl ([] : List (Int)))).1, (X_classEach1q1_1 a0 a1 a2 a3 a4 3 (.inl ([] : List (Int)))).2⟩ <|
          ee) (by kernel_rfl)
        | cons c4_a c4_t =>
         dsimp only at h
         obtain rfl := oI h
         exact runF2 hm ⟨[], [(0, 0, false), (1, 1, false), (2, 2, false), (3, 3, false), (4, 4, false), (5, 5, false), (6, 6, true)], 7, 0, [], false, [], [], []⟩ (k0 <|
          k2 <|
          k4 <|
          ww (p := U_classEach1q1_1 none a0 a1 a2 a3 a4 3 ((c3_a :: c3_t), a4) (.inl (c4_a :: c4_t))) (m_classEach1q1_1_ok n a0 a1 a2 a3 a4 3 ((c3_a :: c3_t), a4) (.inl (c4_a :: c4_t)) hc4) <|
          ww (rows_flat rwf_y (c3_a :: c3_t) 5) <|
          ll 65 ⟨⟨[0, 3, 4, 5, 6], [(0, 0, false), (1, 1, false), (2, 2, false), (3, 3, false), (4, 4, false), (5, 5, false), (6, 6, true)], 7, 0, [], false, [], [], []⟩, (X_classEach1q1_1 a0 a1 a2 a3 a4 3 (.inl (c4_a :: c4_t))).1, (X_classEach1q1_1 a0 a1 a2 a3 a4 3 (.inl (c4_a :: c4_t))).2⟩ <|
          ww (rows_flat rwf_y (c4_a :: c4_t) 5) <|
          ee) (by kernel_rfl)
       ·rw [hc4] at h
        dsimp only at h
        obtain rfl := oI h
        exact runF2 hm ⟨[], [(0, 0, false), (1, 1, false), (2, 2, false), (3, 3, false), (4, 4, false), (5, 5, false), (6, 6, true)], 7, 0, [], false, [], [], []⟩ (k0 <|
         k2 <|
         k4 <|
         ww (p := U_classEach1q1_1 none a0 a1 a2 a3 a4 3 ((c3_a :: c3_t), a4) (.inr c4_)) (m_classEach1q1_1_ok n a0 a1 a2 a3 a4 3 ((c3_a :: c3_t), a4) (.inr c4_) hc4) <|
         ww (rows_flat rwf_y (c3_a :: c3_t) 5) <|
         ll 65 ⟨⟨[0, 3, 4, 5, 6], [(0, 0, false), (1, 1, false), (2, 2, false), (3, 3, false), (4, 4, false), (5, 5, false), (6, 6, true)], 7, 0, [], false, [], [], []⟩, (X_classEach1q1_1 a0 a1 a2 a3 a4 3 (.inr c4_)).1, (X_classEach1q1_1 a0 a1 a2 a3 a4 3 (.inr c4_)).2⟩ <|
         ww (rows_flat rwf_y c4_ 5) <|
         ee) (by kernel_rfl)
     ·rw [hc3] at h
      dsimp only at h
      obtain rfl := oI h
      exact runF2 hm ⟨[], [(0, 0, false), (1, 1, false), (2, 2, false), (3, 3, false), (4, 4, false), (5, 5, false), (6, 6, true)], 7, 0, [], false, [], [], []⟩ (k0 <|
       k2 <|
       ww (p := U_classEach1q1_1 none a0 a1 a2 a3 a4 2 ((c2_a :: c2_t), a3) (.inr c3_)) (m_classEach1q1_1_ok n a0 a1 a2 a3 a4 2 ((c2_a :: c2_t), a3) (.inr c3_) hc3) <|
       ww (rows_flat rwf_y (c2_a :: c2_t) 5) <|
       ll 49 ⟨⟨[0, 3, 4, 5, 6], [(0, 0, false), (1, 1, false), (2, 2, false), (3, 3, false), (4, 4, false), (5, 5, false), (6, 6, true)], 7, 0, [], false, [], [], []⟩, (X_classEach1q1_1 a0 a1 a2 a3 a4 2 (.inr c3_)).1, (X_classEach1q1_1 a0 a1 a2 a3 a4 2 (.inr c3_)).2⟩ <|
       ww (rows_flat rwf_y c3_ 5) <|
       ee) (by kernel_rfl)
   ·rw [hc2] at h
    dsimp only at h
    obtain rfl := oI h
    exact runF2 hm ⟨[], [(0, 0, false), (1, 1, false), (2, 2, false), (3, 3, false), (4, 4, false), (5, 5, false), (6, 6, true)], 7, 0, [], false, [], [], []⟩ (k0 <|
     ww (p := U_classEach1q1_1 none a0 a1 a2 a3 a4 1 (([] : List (Int)), a2) (.inr c2_)) (m_classEach1q1_1_ok n a0 a1 a2 a3 a4 1 (([] : List (Int)), a2) (.inr c2_) hc2) <|
     ll 33 ⟨⟨[0, 3, 4, 5, 6], [(0, 0, false), (1, 1, false), (2, 2, false), (3, 3, false), (4, 4, false), (5, 5, false)], 7, 0, [], false, [], [], []⟩, (X_classEach1q1_1 a0 a1 a2 a3 a4 1 (.inr c2_)).1, (X_classEach1q1_1 a0 a1 a2 a3 a4 1 (.inr c2_)).2⟩ <|
     ww (rows_flat rwf_y c2_ 5) <|
     ee) (by kernel_rfl)
  | cons c1_a c1_t =>
   dsimp only at h
   have k0 := fun {A L l} (k : PL A L l) => ww (p := U_classEach1q1_1 none a0 a1 a2 a3 a4 0 (([] : List (Int)), a1) (.inl (c1_a :: c1_t))) (m_classEach1q1_1_ok n a0 a1 a2 a3 a4 0 (([] : List (Int)), a1) (.inl (c1_a :: c1_t)) hc1) <|
    ll 17 ⟨⟨[0, 3, 4, 5, 6], [(0, 0, false), (1, 1, false), (2, 2, false), (3, 3, false), (4, 4, false), (5, 5, false)], 7, 0, [], false, [], [], []⟩, (X_classEach1q1_1 a0 a1 a2 a3 a4 0 (.inl (c1_a :: c1_t))).1, (X_classEach1q1_1 a0 a1 a2 a3 a4 0 (.inl (c1_a :: c1_t))).2⟩ <|
    k
   rcases hc2 : m_classEach1q1_1 n a0 a1 a2 a3 a4 1 ((c1_a :: c1_t), a2) with _ | (c2_ | c2_)
   ·rw [hc2] at h; cases h
   ·rw [hc2] at h
    dsimp only at h
    cases c2_ with
    | nil =>
     dsimp only at h
     have k2 := fun {A L l} (k : PL A L l) => ww (p := U_classEach1q1_1 none a0 a1 a2 a3 a4 1 ((c1_a :: c1_t), a2) (.inl ([] : List (Int)))) (m_classEach1q1_1_ok n a0 a1 a2 a3 a4 1 ((c1_a :: c1_t), a2) (.inl ([] : List (Int))) hc2) <|
      ww (rows_flat rwf_y (c1_a :: c1_t) 5) <|
      ll 33 ⟨⟨[0, 3, 4, 5, 6], [(0, 0, false), (1, 1, false), (2, 2, false), (3, 3, false), (4, 4, false), (5, 5, false), (6, 6, true)], 7, 0, [], false, [], [], []⟩, (X_classEach1q1_1 a0 a1 a2 a3 a4 1 (.inl ([] : List (Int)))).1, (X_classEach1q1_1 a0 a1 a2 a3 a4 1 (.inl ([] : List (Int)))).2⟩ <|
      k
     rcases hc3 : m_classEach1q1_1 n a0 a1 a2 a3 a4 2 (([] : List (Int)), a3) with _ | (c3_ | c3_)
     ·rw [hc3] at h; cases h
     ·rw [hc3] at h
      dsimp only at h
      cases c3_ with
      | nil =>
       dsimp only at h
       have k5 := fun {A L l} (k : PL A L l) => ww (p := U_classEach1q1_1 none a0 a1 a2 a3 a4 2 (([] : List (Int)), a3) (.inl ([] : List (Int)))) (m_classEach1q1_1_ok n a0 a1 a2 a3 a4 2 (([] : List (Int)), a3) (.inl ([] : List (Int))) hc3) <|
        ll 49 ⟨⟨[0, 3, 4, 5, 6], [(0, 0, false), (1, 1, false), (2, 2, false), (3, 3, false), (4, 4, false), (5, 5, false)], 7, 0, [], false, [], [], []⟩, (X_classEach1q1_1 a0 a1 a2 a3 a4 2 (.inl ([] : List (Int)))).1, (X_classEach1q1_1 a0 a1 a2 a3 a4 2 (.inl ([] : List (Int)))).2⟩ <|
        k
       rcases hc4 : m_classEach1q1_1 n a0 a1 a2 a3 a4 3 (([] : List (Int)), a4) with _ | (c4_ | c4_)
       ·rw [hc4] at h; cases h
       ·rw [hc4] at h
        dsimp only at h
        cases c4_ with
        | nil =>
         dsimp only at h
         obtain rfl := oI h
         exact runF2 hm ⟨[], [(0, 0, false), (1, 1, false), (2, 2, false), (3, 3, false), (4, 4, false), (5, 5, false)], 7, 0, [], false, [], [], []⟩ (k0 <|
          k2 <|
          k5 <|
          ww (p := U_classEach1q1_1 none a0 a1 a2 a3 a4 3 (([] : List (Int)), a4) (.inl ([] : List (Int)))) (m_classEach1q1_1_ok n a0 a1 a2 a3 a4 3 (([] : List (Int)), a4) (.inl ([] : List (Int))) hc4) <|
          ll 65 ⟨⟨[0, 3, 4, 5, 6], [(0, 0, false), (1, 1, false), (2, 2, false), (3, 3, false), (4, 4, false), (5, 5, false)], 7, 0, [], false, [], [], []⟩, (X_classEach1q1_1 a0 a1 a2 a3 a4 3 (.inl ([] : List (Int)))).1, (X_classEach1q1_1 a0 a1 a2 a3 a4 3 (.inl ([] : List (Int)))).2⟩ <|
          ee) (by kernel_rfl)
        | cons c4_a c4_t =>
         dsimp only at h
         obtain rfl := oI h
         exact runF2 hm ⟨[], [(0, 0, false), (1, 1, false), (2, 2, false), (3, 3, false), (4, 4, false), (5, 5, false), (6, 6, true)], 7, 0, [], false, [], [], []⟩ (k0 <|
          k2 <|
          k5 <|
          ww (p := U_classEach1q1_1 none a0 a1 a2 a3 a4 3 (([] : List (Int)), a4) (.inl (c4_a :: c4_t))) (m_classEach1q1_1_ok n a0 a1 a2 a3 a4 3 (([] : List (Int)), a4) (.inl (c4_a :: c4_t)) hc4) <|
          ll 65 ⟨⟨[0, 3, 4, 5, 6], [(0, 0, false), (1, 1, false), (2, 2, false), (3, 3, false), (4, 4, false), (5, 5, false)], 7, 0, [], false, [], [], []⟩, (X_classEach1q1_1 a0 a1 a2 a3 a4 3 (.inl (c4_a :: c4_t))).1, (X_classEach1q1_1 a0 a1 a2 a3 a4 3 (.inl (c4_a :: c4_t))).2⟩ <|
          ww (rows_flat rwf_y (c4_a :: c4_t) 5) <|
          ee) (by kernel_rfl)
       ·rw [hc4] at h
        dsimp only at h
        obtain rfl := oI h
        exact runF2 hm ⟨[], [(0, 0, false), (1, 1, false), (2, 2, false), (3, 3, false), (4, 4, false), (5, 5, false), (6, 6, true)], 7, 0, [], false, [], [], []⟩ (k0 <|
         k2 <|
         k5 <|
         ww (p := U_classEach1q1_1 none a0 a1 a2 a3 a4 3 (([] : List (Int)), a4) (.inr c4_)) (m_classEach1q1_1_ok n a0 a1 a2 a3 a4 3 (([] : List (Int)), a4) (.inr c4_) hc4) <|
         ll 65 ⟨⟨[0, 3, 4, 5, 6], [(0, 0, false), (1, 1, false), (2, 2, false), (3, 3, false), (4, 4, false), (5, 5, false)], 7, 0, [], false, [], [], []⟩, (X_classEach1q1_1 a0 a1 a2 a3 a4 3 (.inr c4_)).1, (X_classEach1q1_1 a0 a1 a2 a3 a4 3 (.inr c4_)).2⟩ <|
         ww (rows_flat rwf_y c4_ 5) <|
         ee) (by kernel_rfl)
      | cons c3_a c3_t =>
       dsimp only at h
       have k5 := fun {A L l} (k : PL A L l) => ww (p := U_classEach1q1_1 none a0 a1 a2 a3 a4 2 (([] : List (Int)), a3) (.inl (c3_a :: c3_t))) (m_classEach1q1_1_ok n a0 a1 a2 a3 a4 2 (([] : List (Int)), a3) (.inl (c3_a :: c3_t)) hc3) <|
        ll 49 ⟨⟨[0, 3, 4, 5, 6], [(0, 0, false), (1, 1, false), (2, 2, false), (3, 3, false), (4, 4, false), (5, 5, false)], 7, 0, [], false, [], [], []⟩, (X_classEach1q1_1 a0 a1 a2 a3 a4 2 (.inl (c3_a :: c3_t))).1, (X_classEach1q1_1 a0 a1 a2 a3 a4 2 (.inl (c3_a :: c3_t))).2⟩ <|
        k
       rcases hc4 : m_classEach1q1_1 n a0 a1 a2 a3 a4 3 ((c3_a :: c3_t), a4) with _ | (c4_ | c4_)
       ·rw [hc4] at h; cases h
       ·rw [hc4] at h
        dsimp only at h
        cases c4_ with
        | nil =>
         dsimp only at h
         obtain rfl := oI h
         exact runF2 hm ⟨[], [(0, 0, false), (1, 1, false), (2, 2, false), (3, 3, false), (4, 4, false), (5, 5, false)], 7, 0, [], false, [], [], []⟩ (k0 <|
          k2 <|
          k5 <|
          ww (p := U_classEach1q1_1 none a0 a1 a2 a3 a4 3 ((c3_a :: c3_t), a4) (.inl ([] : List (Int)))) (m_classEach1q1_1_ok n a0 a1 a2 a3 a4 3 ((c3_a :: c3_t), a4) (.inl ([] : List (Int))) hc4) <|
          ww (rows_flat rwf_y (c3_a :: c3_t) 5) <|
          ll 65 ⟨⟨[0, 3, 4, 5, 6], [(0, 0, false), (1, 1, false), (2, 2, false), (3, 3, false), (4, 4, false), (5, 5, false), (6, 6, true)], 7, 0, [], false, [], [], []⟩, (X_classEach1q1_1 a0 a1 a2 a3 a4 3 (.inl ([] : List (Int)))).1, (X_classEach1q1_1 a0 a1 a2 a3 a4 3 (.inl ([] : List (Int)))).2⟩ <|
          ee) (by kernel_rfl)
        | cons c4_a c4_t =>
         dsimp only at h
         obtain rfl := oI h
         exact runF2 hm ⟨[], [(0, 0, false), (1, 1, false), (2, 2, false), (3, 3, false), (4, 4, false), (5, 5, false), (6, 6, true)], 7, 0, [], false, [], [], []⟩ (k0 <|
          k2 <|
          k5 <|
          ww (p := U_classEach1q1_1 none a0 a1 a2 a3 a4 3 ((c3_a :: c3_t), a4) (.inl (c4_a :: c4_t))) (m_classEach1q1_1_ok n a0 a1 a2 a3 a4 3 ((c3_a :: c3_t), a4) (.inl (c4_a :: c4_t)) hc4) <|
          ww (rows_flat rwf_y (c3_a :: c3_t) 5) <|
          ll 65 ⟨⟨[0, 3, 4, 5, 6], [(0, 0, false), (1, 1, false), (2, 2, false), (3, 3, false), (4, 4, false), (5, 5, false), (6, 6, true)], 7, 0, [], false, [], [], []⟩, (X_classEach1q1_1 a0 a1 a2 a3 a4 3 (.inl (c4_a :: c4_t))).1, (X_classEach1q1_1 a0 a1 a2 a3 a4 3 (.inl (c4_a :: c4_t))).2⟩ <|
          ww (rows_flat rwf_y (c4_a :: c4_t) 5) <|
          ee) (by kernel_rfl)
       ·rw [hc4] at h
        dsimp only at h
        obtain rfl := oI h
        exact runF2 hm ⟨[], [(0, 0, false), (1, 1, false), (2, 2, false), (3, 3, false), (4, 4, false), (5, 5, false), (6, 6, true)], 7, 0, [], false, [], [], []⟩ (k0 <|
         k2 <|
         k5 <|
         ww (p := U_classEach1q1_1 none a0 a1 a2 a3 a4 3 ((c3_a :: c3_t), a4) (.inr c4_)) (m_classEach1q1_1_ok n a0 a1 a2 a3 a4 3 ((c3_a :: c3_t), a4) (.inr c4_) hc4) <|
         ww (rows_flat rwf_y (c3_a :: c3_t) 5) <|
         ll 65 ⟨⟨[0, 3, 4, 5, 6], [(0, 0, false), (1, 1, false), (2, 2, false), (3, 3, false), (4, 4, false), (5, 5, false), (6, 6, true)], 7, 0, [], false, [], [], []⟩, (X_classEach1q1_1 a0 a1 a2 a3 a4 3 (.inr c4_)).1, (X_classEach1q1_1 a0 a1 a2 a3 a4 3 (.inr c4_)).2⟩ <|
         ww (rows_flat rwf_y c4_ 5) <|
         ee) (by kernel_rfl)
     ·rw [hc3] at h
      dsimp only at h
      obtain rfl := oI h
      exact runF2 hm ⟨[], [(0, 0, false), (1, 1, false), (2, 2, false), (3, 3, false), (4, 4, false), (5, 5, false), (6, 6, true)], 7, 0, [], false, [], [], []⟩ (k0 <|
       k2 <|
       ww (p := U_classEach1q1_1 none a0 a1 a2 a3 a4 2 (([] : List (Int)), a3) (.inr c3_)) (m_classEach1q1_1_ok n a0 a1 a2 a3 a4 2 (([] : List (Int)), a3) (.inr c3_) hc3) <|
       ll 49 ⟨⟨[0, 3, 4, 5, 6], [(0, 0, false), (1, 1, false), (2, 2, false), (3, 3, false), (4, 4, false), (5, 5, false)], 7, 0, [], false, [], [], []⟩, (X_classEach1q1_1 a0 a1 a2 a3 a4 2 (.inr c3_)).1, (X_classEach1q1_1 a0 a1 a2 a3 a4 2 (.inr c3_)).2⟩ <|
       ww (rows_flat rwf_y c3_ 5) <|
       ee) (by kernel_rfl)
    | cons c2_a c2_t =>
     dsimp only at h
     have k2 := fun {A L l} (k : PL A L l) => ww (p := U_classEach1q1_1 none a0 a1 a2 a3 a4 1 ((c1_a :: c1_t), a2) (.inl (c2_a :: c2_t))) (m_classEach1q1_1_ok n a0 a1 a2 a3 a4 1 ((c1_a :: c1_t), a2) (.inl (c2_a :: c2_t)) hc2) <|
      ww (rows_flat rwf_y (c1_a :: c1_t) 5) <|
      ll 33 ⟨⟨[0, 3, 4, 5, 6], [(0, 0, false), (1, 1, false), (2, 2, false), (3, 3, false), (4, 4, false), (5, 5, false), (6, 6, true)], 7, 0, [], false, [], [], []⟩, (X_classEach1q1_1 a0 a1 a2 a3 a4 1 (.inl (c2_a :: c2_t))).1, (X_classEach1q1_1 a0 a1 a2 a3 a4 1 (.inl (c2_a :: c2_t))).2⟩ <|
      k
     rcases hc3 : m_classEach1q1_1 n a0 a1 a2 a3 a4 2 ((c2_a :: c2_t), a3) with _ | (c3_ | c3_)
     ·rw [hc3] at h; cases h
     ·rw [hc3] at h
      dsimp only at h
      cases c3_ with
      | nil =>
       dsimp only at h
       have k5 := fun {A L l} (k : PL A L l) => ww (p := U_classEach1q1_1 none a0 a1 a2 a3 a4 2 ((c2_a :: c2_t), a3) (.inl ([] : List (Int)))) (m_classEach1q1_1_ok n a0 a1 a2 a3 a4 2 ((c2_a :: c2_t), a3) (.inl ([] : List (Int))) hc3) <|
        ww (rows_flat rwf_y (c2_a :: c2_t) 5) <|
        ll 49 ⟨⟨[0, 3, 4, 5, 6], [(0, 0, false), (1, 1, false), (2, 2, false), (3, 3, false), (4, 4, false), (5, 5, false), (6, 6, true)], 7, 0, [], false, [], [], []⟩, (X_classEach1q1_1 a0 a1 a2 a3 a4 2 (.inl ([] : List (Int)))).1, (X_classEach1q1_1 a0 a1 a2 a3 a4 2 (.inl ([] : List (Int)))).2⟩ <|
        k
       rcases hc4 : m_classEach1q1_1 n a0 a1 a2 a3 a4 3 (([] : List (Int)), a4) with _ | (c4_ | c4_)
       ·rw [hc4] at h; cases h
       ·rw [hc4] at h
        dsimp only at h
        cases c4_ with
        | nil =>
         dsimp only at h
         obtain rfl := oI h
         exact runF2 hm ⟨[], [(0, 0, false), (1, 1, false), (2, 2, false), (3, 3, false), (4, 4, false), (5, 5, false)], 7, 0, [], false, [], [], []⟩ (k0 <|
          k2 <|
          k5 <|
          ww (p := U_classEach1q1_1 none a0 a1 a2 a3 a4 3 (([] : List (Int)), a4) (.inl ([] : List (Int)))) (m_classEach1q1_1_ok n a0 a1 a2 a3 a4 3 (([] : List (Int)), a4) (.inl ([] : List (Int))) hc4) <|
          ll 65 ⟨⟨[0, 3, 4, 5, 6], [(0, 0, false), (1, 1, false), (2, 2, false), (3, 3, false), (4, 4, false), (5, 5, false)], 7, 0, [], false, [], [], []⟩, (X_classEach1q1_1 a0 a1 a2 a3 a4 3 (.inl ([] : List (Int)))).1, (X_classEach1q1_1 a0 a1 a2 a3 a4 3 (.inl ([] : List (Int)))).2⟩ <|
          ee) (by kernel_rfl)
        | cons c4_a c4_t =>
         dsimp only at h
         obtain rfl := oI h
         exact runF2 hm ⟨[], [(0, 0, false), (1, 1, false), (2, 2, false), (3, 3, false), (4, 4, false), (5, 5, false), (6, 6, true)], 7, 0, [], false, [], [], []⟩ (k0 <|
          k2 <|
          k5 <|
          ww (p := U_classEach1q1_1 none a0 a1 a2 a3 a4 3 (([] : List (Int)), a4) (.inl (c4_a :: c4_t))) (m_classEach1q1_1_ok n a0 a1 a2 a3 a4 3 (([] : List (Int)), a4) (.inl (c4_a :: c4_t)) hc4) <|
          ll 65 ⟨⟨[0, 3, 4, 5, 6], [(0, 0, false), (1, 1, false), (2, 2, false), (3, 3, false), (4, 4, false), (5, 5, false)], 7, 0, [], false, [], [], []⟩, (X_classEach1q1_1 a0 a1 a2 a3 a4 3 (.inl (c4_a :: c4_t))).1, (X_classEach1q1_1 a0 a1 a2 a3 a4 3 (.inl (c4_a :: c4_t))).2⟩ <|
          ww (rows_flat rwf_y (c4_a :: c4_t) 5) <|
          ee) (by kernel_rfl)
       ·rw [hc4] at h
        dsimp only at h
        obtain rfl := oI h
        exact runF2 hm ⟨[], [(0, 0, false), (1, 1, false), (2, 2, false), (3, 3, false), (4, 4, false), (5, 5, false), (6, 6, true)], 7, 0, [], false, [], [], []⟩ (k0 <|
         k2 <|
         k5 <|
         ww (p := U_classEach1q1_1 none a0 a1 a2 a3 a4 3 (([] : List (Int)), a4) (.inr c4_)) (m_classEach1q1_1_ok n a0 a1 a2 a3 a4 3 (([] : List (Int)), a4) (.inr c4_) hc4) <|
         ll 65 ⟨⟨[0, 3, 4, 5, 6], [(0, 0, false), (1, 1, false), (2, 2, false), (3, 3, false), (4, 4, false), (5, 5, false)], 7, 0, [], false, [], [], []⟩, (X_classEach1q1_1 a0 a1 a2 a3 a4 3 (.inr c4_)).1, (X_classEach1q1_1 a0 a1 a2 a3 a4 3 (.inr c4_)).2⟩ <|
         ww (rows_flat rwf_y c4_ 5) <|
         ee) (by kernel_rfl)
      | cons c3_a c3_t =>
       dsimp only at h
       have k5 := fun {A L l} (k : PL A L l) => ww (p := U_classEach1q1_1 none a0 a1 a2 a3 a4 2 ((c2_a :: c2_t), a3) (.inl (c3_a :: c3_t))) (m_classEach1q1_1_ok n a0 a1 a2 a3 a4 2 ((c2_a :: c2_t), a3) (.inl (c3_a :: c3_t)) hc3) <|
        ww (rows_flat rwf_y (c2_a :: c2_t) 5) <|
        ll 49 ⟨⟨[0, 3, 4, 5, 6], [(0, 0, false), (1, 1, false), (2, 2, false), (3, 3, false), (4, 4, false), (5, 5, false), (6, 6, true)], 7, 0, [], false, [], [], []⟩, (X_classEach1q1_1 a0 a1 a2 a3 a4 2 (.inl (c3_a :: c3_t))).1, (X_classEach1q1_1 a0 a1 a2 a3 a4 2 (.inl (c3_a :: c3_t))).2⟩ <|
        k
       rcases hc4 : m_classEach1q1_1 n a0 a1 a2 a3 a4 3 ((c3_a :: c3_t), a4) with _ | (c4_ | c4_)
       ·rw [hc4] at h; cases h
       ·rw [hc4] at h
        dsimp only at h
        cases c4_ with
        | nil =>
         dsimp only at h
         obtain rfl := oI h
         exact runF2 hm ⟨[], [(0, 0, false), (1, 1, false), (2, 2, false), (3, 3, false), (4, 4, false), (5, 5, false)], 7, 0, [], false, [], [], []⟩ (k0 <|
          k2 <|
          k5 <|
          ww (p := U_classEach1q1_1 none a0 a1 a2 a3 a4 3 ((c3_a :: c3_t), a4) (.inl ([] : List (Int)))) (m_classEach1q1_1_ok n a0 a1 a2 a3 a4 3 ((c3_a :: c3_t), a4) (.inl ([] : List (Int))) hc4) <|
          ww (rows_flat rwf_y (c3_a :: c3_t) 5) <|
          ll 65 ⟨⟨[0, 3, 4, 5, 6], [(0, 0, false), (1, 1, false), (2, 2, false), (3, 3, false), (4, 4, false), (5, 5, false), (6, 6, true)], 7, 0, [], false, [], [], []⟩, (X_classEach1q1_1 a0 a1 a2 a3 a4 3 (.inl ([] : List (Int)))).1, (X_classEach1q1_1 a0 a1 a2 a3 a4 3 (.inl ([] : List (Int)))).2⟩ <|
          ee) (by kernel_rfl)
        | cons c4_a c4_t =>
         dsimp only at h
         obtain rfl := oI h
         exact runF2 hm ⟨[], [(0, 0, false), (1, 1, false), (2, 2, false), (3, 3, false), (4, 4, false), (5, 5, false), (6, 6, true)], 7, 0, [], false, [], [], []⟩ (k0 <|
          k2 <|
          k5 <|
          ww (p := U_classEach1q1_1 none a0 a1 a2 a3 a4 3 ((c3_a :: c3_t), a4) (.inl (c4_a :: c4_t))) (m_classEach1q1_1_ok n a0 a1 a2 a3 a4 3 ((c3_a :: c3_t), a4) (.inl (c4_a :: c4_t)) hc4) <|
          ww (rows_flat rwf_y (c3_a :: c3_t) 5) <|
          ll 65 ⟨⟨[0, 3, 4, 5, 6], [(0, 0, false), (1, 1, false), (2, 2, false), (3, 3, false), (4, 4, false), (5, 5, false), (6, 6, true)], 7, 0, [], false, [], [], []⟩, (X_classEach1q1_1 a0 a1 a2 a3 a4 3 (.inl (c4_a :: c4_t))).1, (X_classEach1q1_1 a0 a1 a2 a3 a4 3 (.inl (c4_a :: c4_t))).2⟩ <|
          ww (rows_flat rwf_y (c4_a :: c4_t) 5) <|
          ee) (by kernel_rfl)
       ·rw [hc4] at h
        dsimp only at h
        obtain rfl := oI h
        exact runF2 hm ⟨[], [(0, 0, false), (1, 1, false), (2, 2, false), (3, 3, false), (4, 4, false), (5, 5, false), (6, 6, true)], 7, 0, [], false, [], [], []⟩ (k0 <|
         k2 <|
         k5 <|
         ww (p := U_classEach1q1_1 none a0 a1 a2 a3 a4 3 ((c3_a :: c3_t), a4) (.inr c4_)) (m_classEach1q1_1_ok n a0 a1 a2 a3 a4 3 ((c3_a :: c3_t), a4) (.inr c4_) hc4) <|
         ww (rows_flat rwf_y (c3_a :: c3_t) 5) <|
         ll 65 ⟨⟨[0, 3, 4, 5, 6], [(0, 0, false), (1, 1, false), (2, 2, false), (3, 3, false), (4, 4, false), (5, 5, false), (6, 6, true)], 7, 0, [], false, [], [], []⟩, (X_classEach1q1_1 a0 a1 a2 a3 a4 3 (.inr c4_)).1, (X_classEach1q1_1 a0 a1 a2 a3 a4 3 (.inr c4_)).2⟩ <|
         ww (rows_flat rwf_y c4_ 5) <|
         ee) (by kernel_rfl)
     ·rw [hc3] at h
      dsimp only at h
      obtain rfl := oI h
      exact runF2 hm ⟨[], [(0, 0, false), (1, 1, false), (2, 2, false), (3, 3, false), (4, 4, false), (5, 5, false), (6, 6, true)], 7, 0, [], false, [], [], []⟩ (k0 <|
       k2 <|
       ww (p := U_classEach1q1_1 none a0 a1 a2 a3 a4 2 ((c2_a :: c2_t), a3) (.inr c3_)) (m_classEach1q1_1_ok n a0 a1 a2 a3 a4 2 ((c2_a :: c2_t), a3) (.inr c3_) hc3) <|
       ww (rows_flat rwf_y (c2_a :: c2_t) 5) <|
       ll 49 ⟨⟨[0, 3, 4, 5, 6], [(0, 0, false), (1, 1, false), (2, 2, false), (3, 3, false), (4, 4, false), (5, 5, false), (6, 6, true)], 7, 0, [], false, [], [], []⟩, (X_classEach1q1_1 a0 a1 a2 a3 a4 2 (.inr c3_)).1, (X_classEach1q1_1 a0 a1 a2 a3 a4 2 (.inr c3_)).2⟩ <|
       ww (rows_flat rwf_y c3_ 5) <|
       ee) (by kernel_rfl)
   ·rw [hc2] at h
    dsimp only at h
    obtain rfl := oI h
    exact runF2 hm ⟨[], [(0, 0, false), (1, 1, false), (2, 2, false), (3, 3, false), (4, 4, false), (5, 5, false), (6, 6, true)], 7, 0, [], false, [], [], []⟩ (k0 <|
     ww (p := U_classEach1q1_1 none a0 a1 a2 a3 a4 1 ((c1_a :: c1_t), a2) (.inr c2_)) (m_classEach1q1_1_ok n a0 a1 a2 a3 a4 1 ((c1_a :: c1_t), a2) (.inr c2_) hc2) <|
     ww (rows_flat rwf_y (c1_a :: c1_t) 5) <|
     ll 33 ⟨⟨[0, 3, 4, 5, 6], [(0, 0, false), (1, 1, false), (2, 2, false), (3, 3, false), (4, 4, false), (5, 5, false), (6, 6, true)], 7, 0, [], false, [], [], []⟩, (X_classEach1q1_1 a0 a1 a2 a3 a4 1 (.inr c2_)).1, (X_classEach1q1_1 a0 a1 a2 a3 a4 1 (.inr c2_)).2⟩ <|
     ww (rows_flat rwf_y c2_ 5) <|
     ee) (by kernel_rfl)
 ·rw [hc1] at h
  dsimp only at h
  obtain rfl := oI h
  exact runF2 hm ⟨[], [(0, 0, false), (1, 1, false), (2, 2, false), (3, 3, false), (4, 4, false), (5, 5, false), (6, 6, true)], 7, 0, [], false, [], [], []⟩ (ww (p := U_classEach1q1_1 none a0 a1 a2 a3 a4 0 (([] : List (Int)), a1) (.inr c1_)) (m_classEach1q1_1_ok n a0 a1 a2 a3 a4 0 (([] : List (Int)), a1) (.inr c1_) hc1) <|
   ll 17 ⟨⟨[0, 3, 4, 5, 6], [(0, 0, false), (1, 1, false), (2, 2, false), (3, 3, false), (4, 4, false), (5, 5, false)], 7, 0, [], false, [], [], []⟩, (X_classEach1q1_1 a0 a1 a2 a3 a4 0 (.inr c1_)).1, (X_classEach1q1_1 a0 a1 a2 a3 a4 0 (.inr c1_)).2⟩ <|
   ww (rows_flat rwf_y c1_ 5) <|
   ee) (by kernel_rfl)

def A_viewportlaw01allq1 (a0 : Int) (a1 : Int) (a2 : Int) (a3 : Int) : List Value := [(Value.agg #[(Value.int .u64 a0), (Value.int .u64 a1), (Value.int .u64 a2), (Value.int .u64 a3)])]
def H_viewportlaw01allq1 (a0 : Int) (a1 : Int) (a2 : Int) (a3 : Int) : AH := ⟨sB [], 0, 0⟩
def V_viewportlaw01allq1 (a0 : Int) (a1 : Int) (a2 : Int) (a3 : Int) (r : List (Int) × Bool) : Value := match r with
 | (o0, o1) => (Value.tuple #[(slR o0 2 1), (bO o1)])
def R_viewportlaw01allq1 (a0 : Int) (a1 : Int) (a2 : Int) (a3 : Int) (r : List (Int) × Bool) : AH := match r with
 | (o0, o1) => ⟨sB [(0, (some (.marks false))), (1, (some (.cells (layT [(slR o0 2 1)]) 35))), (2, (nblkR rw_y o0 5)), (3, (some (.cells (layT [(bO o1)]) 4)))], 4, 0⟩
abbrev G_viewportlaw01allq1 (a0 : Int) (a1 : Int) (a2 : Int) (a3 : Int) (r : List (Int) × Bool) : Prop := Gv P (.func 15) (A_viewportlaw01allq1 a0 a1 a2 a3) (H_viewportlaw01allq1 a0 a1 a2 a3) (V_viewportlaw01allq1 a0 a1 a2 a3 r) (R_viewportlaw01allq1 a0 a1 a2 a3 r)
abbrev C_viewportlaw01allq1 (a0 : Int) (a1 : Int) (a2 : Int) (a3 : Int) (r : List (Int) × Bool) (ins outs : BL) : CallA := ⟨0, ins, V_viewportlaw01allq1 a0 a1 a2 a3 r, R_viewportlaw01allq1 a0 a1 a2 a3 r, outs⟩
def m_viewportlaw01allq1 (n : Nat) (a0 : Int) (a1 : Int) (a2 : Int) (a3 : Int) : Option (List (Int) × Bool) :=
 (m_classEachq1 n a0 a1 a2 a3).bind fun _ =>
 match m_classEach1q1 n false a0 a1 a2 a3 with
 | none => none
 | some (.inl c2_) =>
  match c2_ with
  | [] =>
   some (([] : List (Int)), true)
  | c2_a :: c2_t =>
   some ((c2_a :: c2_t), true)
 | some (.inr c2_) =>
  some (([] : List (Int)), false)
theorem m_viewportlaw01allq1_ok (n : Nat) (a0 : Int) (a1 : Int) (a2 : Int) (a3 : Int) (r : List (Int) × Bool) (h : m_viewportlaw01allq1 n a0 a1 a2 a3 = some r) : Gv P (.func 15) (A_viewportlaw01allq1 a0 a1 a2 a3) (H_viewportlaw01allq1 a0 a1 a2 a3) (V_viewportlaw01allq1 a0 a1 a2 a3 r) (R_viewportlaw01allq1 a0 a1 a2 a3 r) := by
 unfold m_viewportlaw01allq1 at h
 obtain ⟨_, hc1, h⟩ := oB h
 have k0 := fun {A L l} (k : PL A L l) => yy 6 (.call (C_classEachq1 a0 a1 a2 a3 () [] [(3, 0, false)])) <|
  ww (m_classEachq1_ok n a0 a1 a2 a3 () hc1) <|
  k
 rcases hc2 : m_classEach1q1 n false a0 a1 a2 a3 with _ | (c2_ | c2_)
 ·rw [hc2] at h; cases h
 ·rw [hc2] at h
  dsimp only at h
  cases c2_ with
  | nil =>
   dsimp only at h
   obtain rfl := oI h
   exact runF2 hm ⟨[2, 3], [(0, 5, false), (1, 1, false), (3, 2, false)], 4, 0, [], false, [], [], []⟩ (k0 <|
    yy 19 (.rng (C_classEach1q1 false a0 a1 a2 a3 (.inl ([] : List (Int))) [(0, 6, false), (1, 5, false), (2, 1, false), (3, 2, false), (4, 4, false), (5, 3, false)] [(6, 0, false), (5, 1, false), (1, 2, false), (2, 3, false), (4, 4, false), (3, 5, false)]) [2, 3, 5, 11]) <|
    ww (m_classEach1q1_ok n false a0 a1 a2 a3 (.inl ([] : List (Int))) hc2) <|
    ee) (by kernel_rfl)
  | cons c2_a c2_t =>
   dsimp only at h
   obtain rfl := oI h
   exact runF2 hm ⟨[2, 3], [(0, 5, false), (1, 1, false), (2, 7, true), (3, 2, false)], 4, 0, [], false, [], [], []⟩ (k0 <|
    yy 19 (.rng (C_classEach1q1 false a0 a1 a2 a3 (.inl (c2_a :: c2_t)) [(0, 6, false), (1, 5, false), (2, 1, false), (3, 2, false), (4, 4, false), (5, 3, false)] [(6, 0, false), (5, 1, false), (1, 2, false), (2, 3, false), (4, 4, false), (3, 5, false), (7, 6, true)]) [2, 3, 5, 11]) <|
    ww (m_classEach1q1_ok n false a0 a1 a2 a3 (.inl (c2_a :: c2_t)) hc2) <|
    ww (rows_flat rwf_y (c2_a :: c2_t) 5) <|
    ww (rows_flat rwf_y (c2_a :: c2_t) 5) <|
    ee) (by kernel_rfl)
 ·rw [hc2] at h
  dsimp only at h
  obtain rfl := oI h
  exact runF2 hm ⟨[2, 3], [(0, 5, false), (1, 1, false), (3, 2, false)], 4, 0, [], false, [], [], []⟩ (k0 <|
   yy 19 (.rng (C_classEach1q1 false a0 a1 a2 a3 (.inr c2_) [(0, 6, false), (1, 5, false), (2, 1, false), (3, 2, false), (4, 4, false), (5, 3, false)] [(6, 0, false), (5, 1, false), (1, 2, false), (2, 3, false), (4, 4, false), (3, 5, false), (7, 6, true)]) [2, 3, 5, 11]) <|
   ww (m_classEach1q1_ok n false a0 a1 a2 a3 (.inr c2_) hc2) <|
   ww (rows_flat rwf_y c2_ 5) <|
   ee) (by kernel_rfl)

def A_bitsOnesCount64q1 (a0 : Int) : List Value := [(Value.int .u64 a0)]
def H_bitsOnesCount64q1 (a0 : Int) : AH := ⟨sB [], 0, 0⟩
def V_bitsOnesCount64q1 (a0 : Int) (r : Int) : Value := match r with
 | o0 => (i6 o0)
def R_bitsOnesCount64q1 (a0 : Int) (r : Int) : AH := match r with
 | o0 => ⟨sB [], 0, 0⟩
abbrev G_bitsOnesCount64q1 (a0 : Int) (r : Int) : Prop := Gv P (.func 21) (A_bitsOnesCount64q1 a0) (H_bitsOnesCount64q1 a0) (V_bitsOnesCount64q1 a0 r) (R_bitsOnesCount64q1 a0 r)
abbrev C_bitsOnesCount64q1 (a0 : Int) (r : Int) (ins outs : BL) : CallA := ⟨0, ins, V_bitsOnesCount64q1 a0 r, R_bitsOnesCount64q1 a0 r, outs⟩
def m_bitsOnesCount64q1 (n : Nat) (a0 : Int) : Option (Int) :=
 ((some (IntKind.u64.wrap ((bAnd .u64 (Int.fdiv a0 2) (6148914691236517205 : Int)) + (bAnd .u64 a0 (6148914691236517205 : Int)))))).bind fun c1_ =>
 ((some (IntKind.u64.wrap ((bAnd .u64 (Int.fdiv c1_ 4) (3689348814741910323 : Int)) + (bAnd .u64 c1_ (3689348814741910323 : Int)))))).bind fun c2_ =>
 ((some (bAnd .u64 (IntKind.u64.wrap ((Int.fdiv c2_ 16) + c2_)) (1085102592571150095 : Int)))).bind fun c3_ =>
 ((some (IntKind.u64.wrap ((IntKind.u64.wrap (c3_ + (Int.fdiv c3_ 256))) + (Int.fdiv (IntKind.u64.wrap (c3_ + (Int.fdiv c3_ 256))) 65536))))).bind fun c4_ =>
 ((some (IntKind.u64.wrap (c4_ + (Int.fdiv c4_ 4294967296))))).bind fun c5_ =>
 some (bAnd .i64 (IntKind.i64.wrap c5_) (127 : Int))
theorem m_bitsOnesCount64q1_ok (n : Nat) (a0 : Int) (r : Int) (h : m_bitsOnesCount64q1 n a0 = some r) : Gv P (.func 21) (A_bitsOnesCount64q1 a0) (H_bitsOnesCount64q1 a0) (V_bitsOnesCount64q1 a0 r) (R_bitsOnesCount64q1 a0 r) := by
 unfold m_bitsOnesCount64q1 at h
 obtain ⟨c1_, hc1, h⟩ := oB h
 obtain ⟨c2_, hc2, h⟩ := oB h
 obtain ⟨c3_, hc3, h⟩ := oB h
 obtain ⟨c4_, hc4, h⟩ := oB h
 obtain ⟨c5_, hc5, h⟩ := oB h
 obtain rfl := oI h
 exact runF2 hm ⟨[2], [], 0, 0, [], false, [], [], []⟩ (zz 8 (xnmK (k := .u64) hc1) <|
  zz 16 (xnmK (k := .u64) hc2) <|
  zz 23 (xnmK (k := .u64) hc3) <|
  zz 35 (xnmK (k := .u64) hc4) <|
  zz 41 (xnmK (k := .u64) hc5) <|
  ee) (by kernel_rfl)

def A_classLenq1 (a0 : Int) (a1 : Int) (a2 : Int) (a3 : Int) : List Value := [(Value.agg #[(Value.int .u64 a0), (Value.int .u64 a1), (Value.int .u64 a2), (Value.int .u64 a3)])]
def H_classLenq1 (a0 : Int) (a1 : Int) (a2 : Int) (a3 : Int) : AH := ⟨sB [], 0, 0⟩
def V_classLenq1 (a0 : Int) (a1 : Int) (a2 : Int) (a3 : Int) (r : Int) : Value := match r with
 | o0 => (i6 o0)
def R_classLenq1 (a0 : Int) (a1 : Int) (a2 : Int) (a3 : Int) (r : Int) : AH := match r with
 | o0 => ⟨sB [], 0, 0⟩
abbrev G_classLenq1 (a0 : Int) (a1 : Int) (a2 : Int) (a3 : Int) (r : Int) : Prop := Gv P (.func 13) (A_classLenq1 a0 a1 a2 a3) (H_classLenq1 a0 a1 a2 a3) (V_classLenq1 a0 a1 a2 a3 r) (R_classLenq1 a0 a1 a2 a3 r)
abbrev C_classLenq1 (a0 : Int) (a1 : Int) (a2 : Int) (a3 : Int) (r : Int) (ins outs : BL) : CallA := ⟨0, ins, V_classLenq1 a0 a1 a2 a3 r, R_classLenq1 a0 a1 a2 a3 r, outs⟩
def m_classLenq1 (n : Nat) (a0 : Int) (a1 : Int) (a2 : Int) (a3 : Int) : Option (Int) :=
 (m_bitsOnesCount64q1 n a0).bind fun c1_ =>
 (m_bitsOnesCount64q1 n a1).bind fun c2_ =>
 (m_bitsOnesCount64q1 n a2).bind fun c3_ =>
 ((some (w64 ((w64 ((w64 ((0 : Int) + c1_)) + c2_)) + c3_)))).bind fun c4_ =>
 (m_bitsOnesCount64q1 n a3).bind fun c5_ =>
 some (w64 (c4_ + c5_))
theorem m_classLenq1_ok (n : Nat) (a0 : Int) (a1 : Int) (a2 : Int) (a3 : Int) (r : Int) (h : m_classLenq1 n a0 a1 a2 a3 = some r) : Gv P (.func 13) (A_classLenq1 a0 a1 a2 a3) (H_classLenq1 a0 a1 a2 a3) (V_classLenq1 a0 a1 a2 a3 r) (R_classLenq1 a0 a1 a2 a3 r) := by
 unfold m_classLenq1 at h
 obtain ⟨c1_, hc1, h⟩ := oB h
 obtain ⟨c2_, hc2, h⟩ := oB h
 obtain ⟨c3_, hc3, h⟩ := oB h
 obtain ⟨c4_, hc4, h⟩ := oB h
 obtain ⟨c5_, hc5, h⟩ := oB h
 obtain rfl := oI h
 exact runF2 hm ⟨[2], [], 0, 0, [], false, [], [], []⟩ (yy 22 (.call (C_bitsOnesCount64q1 a0 c1_ [] [])) <|
  ww (m_bitsOnesCount64q1_ok n a0 c1_ hc1) <|
  yy 39 (.call (C_bitsOnesCount64q1 a1 c2_ [] [])) <|
  ww (m_bitsOnesCount64q1_ok n a1 c2_ hc2) <|
  yy 56 (.call (C_bitsOnesCount64q1 a2 c3_ [] [])) <|
  ww (m_bitsOnesCount64q1_ok n a2 c3_ hc3) <|
  zz 57 (xnm hc4) <|
  yy 73 (.call (C_bitsOnesCount64q1 a3 c5_ [] [])) <|
  ww (m_bitsOnesCount64q1_ok n a3 c5_ hc5) <|
  ee) (by kernel_rfl)

def A_viewportkitPickq1 (a0 : Int) (a1 : Int) : List Value := [(i6 a0), (i6 a1)]
def H_viewportkitPickq1 (a0 : Int) (a1 : Int) : AH := ⟨sB [], 0, 0⟩
def V_viewportkitPickq1 (a0 : Int) (a1 : Int) (r : Int) : Value := match r with
 | o0 => (i6 o0)
def R_viewportkitPickq1 (a0 : Int) (a1 : Int) (r : Int) : AH := match r with
 | o0 => ⟨sB [], 0, 0⟩
abbrev G_viewportkitPickq1 (a0 : Int) (a1 : Int) (r : Int) : Prop := Gv P (.func 16) (A_viewportkitPickq1 a0 a1) (H_viewportkitPickq1 a0 a1) (V_viewportkitPickq1 a0 a1 r) (R_viewportkitPickq1 a0 a1 r)
abbrev C_viewportkitPickq1 (a0 : Int) (a1 : Int) (r : Int) (ins outs : BL) : CallA := ⟨0, ins, V_viewportkitPickq1 a0 a1 r, R_viewportkitPickq1 a0 a1 r, outs⟩
def m_viewportkitPickq1 (n : Nat) (a0 : Int) (a1 : Int) : Option (Int) :=
 if a1 < (1 : Int) then
  some 0
 else
  if ¬ (a1 = 0) then
   if (Int.tmod a0 a1) < (0 : Int) then
    some (w64 ((Int.tmod a0 a1) + a1))
   else
    some (Int.tmod a0 a1)
  else none
theorem m_viewportkitPickq1_ok (n : Nat) (a0 : Int) (a1 : Int) (r : Int) (h : m_viewportkitPickq1 n a0 a1 = some r) : Gv P (.func 16) (A_viewportkitPickq1 a0 a1) (H_viewportkitPickq1 a0 a1) (V_viewportkitPickq1 a0 a1 r) (R_viewportkitPickq1 a0 a1 r) := by
 unfold m_viewportkitPickq1 at h
 by_cases hc1 : a1 < (1 : Int)
 ·rw [if_pos hc1] at h
  obtain rfl := oI h
  exact runF2 hm ⟨[4], [], 0, 0, [], false, [], [], []⟩ (zz 5 (xdT hc1) <|
   ee) (by kernel_rfl)
 ·rw [if_neg hc1] at h
  obtain ⟨hc2, h⟩ := gd h
  have k0 := fun {A L l} (k : PL A L l) => zz 5 (xdF hc1) <|
   yy 10 (.pur (i6 (Int.tmod a0 a1))) <|
   ww (p := opBin P .rem 3 (.tmp 8) (.tmp 9) (i6 a0) (i6 a1) Ax.h0 = some ((i6 (Int.tmod a0 a1)), Ax.h0)) (remI hc2) <|
   k
  by_cases hc3 : (Int.tmod a0 a1) < (0 : Int)
  ·rw [if_pos hc3] at h
   obtain rfl := oI h
   exact runF2 hm ⟨[4], [], 0, 0, [], false, [], [], []⟩ (k0 <|
    zz 15 (xdT hc3) <|
    ee) (by kernel_rfl)
  ·rw [if_neg hc3] at h
   obtain rfl := oI h
   exact runF2 hm ⟨[4], [], 0, 0, [], false, [], [], []⟩ (k0 <|
    zz 15 (xdF hc3) <|
    ee) (by kernel_rfl)

def A_viewportlaw01ClassEach_111010y1 (a0 : Int) (a1 : Int) (a2 : Int) (a3 : Int) (a4 : Int) (a5 : Bool) (a6 : Int) (a7 : Int) (a8 : Int) (a9 : Int) (a10 : Int) (a11 : Int) : List Value := [(Value.int .u8 a11)]
def H_viewportlaw01ClassEach_111010y1 (a0 : Int) (a1 : Int) (a2 : Int) (a3 : Int) (a4 : Int) (a5 : Bool) (a6 : Int) (a7 : Int) (a8 : Int) (a9 : Int) (a10 : Int) (a11 : Int) : AH := ⟨sB [(0, (some (rblk P 4 [false, true, false, true, true, true, true, true, true, true, true] .ready none [(2, (pN 2 0)), (3, (pN 3 0)), (4, (pN 4 0)), (5, (pN 5 0)), (7, (pN 6 0)), (35, (Value.func (.func 23) #[] #[(pN 7 0)]))] 1))), (1, (some (.marks true))), (2, (some (.cells (layT [(Value.int .u64 a0), (Value.int .u64 a1), (Value.int .u64 a2), (Value.int .u64 a3)]) 24))), (3, (some (.cells (layT [(i6 a4)]) 3))), (4, (some (.cells (layT [(bO a5)]) 4))), (5, (some (.cells (layT [(Value.slice none 0 0)]) 35))), (6, (some (.cells (layT [(i6 a6)]) 3))), (7, (some (.cells (layT [(Value.int .u64 a7), (Value.int .u64 a8), (Value.int .u64 a9), (Value.int .u64 a10)]) 24)))], 8, 8⟩
def V_viewportlaw01ClassEach_111010y1 (a0 : Int) (a1 : Int) (a2 : Int) (a3 : Int) (a4 : Int) (a5 : Bool) (a6 : Int) (a7 : Int) (a8 : Int) (a9 : Int) (a10 : Int) (a11 : Int) (r : Unit) : Value := match r with
 | _ => (bO false)
def R_viewportlaw01ClassEach_111010y1 (a0 : Int) (a1 : Int) (a2 : Int) (a3 : Int) (a4 : Int) (a5 : Bool) (a6 : Int) (a7 : Int) (a8 : Int) (a9 : Int) (a10 : Int) (a11 : Int) (r : Unit) : AH := match r with
 | _ => ⟨sB [(0, (some (rblk P 4 [false, true, false, true, true, true, true, true, true, true, true] .done (some (.exit 0)) [(2, (pN 2 0)), (3, (pN 3 0)), (4, (pN 4 0)), (5, (pN 5 0)), (7, (pN 6 0)), (35, (Value.func (.func 23) #[] #[(pN 7 0)]))] 1))), (1, (some (.marks true))), (2, (some (.cells (layT [(Value.int .u64 a0), (Value.int .u64 a1), (Value.int .u64 a2), (Value.int .u64 a3)]) 24))), (3, (some (.cells (layT [(i6 a4)]) 3))), (4, (some (.cells (layT [(bO a5)]) 4))), (5, (some (.cells (layT [(Value.slice none 0 0)]) 35))), (6, (some (.cells (layT [(i6 a6)]) 3))), (7, (some (.cells (layT [(Value.int .u64 a7), (Value.int .u64 a8), (Value.int .u64 a9), (Value.int .u64 a10)]) 24)))], 8, 0⟩
abbrev G_viewportlaw01ClassEach_111010y1 (a0 : Int) (a1 : Int) (a2 : Int) (a3 : Int) (a4 : Int) (a5 : Bool) (a6 : Int) (a7 : Int) (a8 : Int) (a9 : Int) (a10 : Int) (a11 : Int) (r : Unit) : Prop := Gv P (.yield 0) (A_viewportlaw01ClassEach_111010y1 a0 a1 a2 a3 a4 a5 a6 a7 a8 a9 a10 a11) (H_viewportlaw01ClassEach_111010y1 a0 a1 a2 a3 a4 a5 a6 a7 a8 a9 a10 a11) (V_viewportlaw01ClassEach_111010y1 a0 a1 a2 a3 a4 a5 a6 a7 a8 a9 a10 a11 r) (R_viewportlaw01ClassEach_111010y1 a0 a1 a2 a3 a4 a5 a6 a7 a8 a9 a10 a11 r)
abbrev C_viewportlaw01ClassEach_111010y1 (a0 : Int) (a1 : Int) (a2 : Int) (a3 : Int) (a4 : Int) (a5 : Bool) (a6 : Int) (a7 : Int) (a8 : Int) (a9 : Int) (a10 : Int) (a11 : Int) (r : Unit) (ins outs : BL) : CallA := ⟨8, ins, V_viewportlaw01ClassEach_111010y1 a0 a1 a2 a3 a4 a5 a6 a7 a8 a9 a10 a11 r, R_viewportlaw01ClassEach_111010y1 a0 a1 a2 a3 a4 a5 a6 a7 a8 a9 a10 a11 r, outs⟩
def m_viewportlaw01ClassEach_111010y1 (n : Nat) (a0 : Int) (a1 : Int) (a2 : Int) (a3 : Int) (a4 : Int) (a5 : Bool) (a6 : Int) (a7 : Int) (a8 : Int) (a9 : Int) (a10 : Int) (a11 : Int) : Option (Unit) :=
 if a6 = a4 then
  some ()
 else
  none
theorem m_viewportlaw01ClassEach_111010y1_ok (n : Nat) (a0 : Int) (a1 : Int) (a2 : Int) (a3 : Int) (a4 : Int) (a5 : Bool) (a6 : Int) (a7 : Int) (a8 : Int) (a9 : Int) (a10 : Int) (a11 : Int) (r : Unit) (h : m_viewportlaw01ClassEach_111010y1 n a0 a1 a2 a3 a4 a5 a6 a7 a8 a9 a10 a11 = some r) : Gv P (.yield 0) (A_viewportlaw01ClassEach_111010y1 a0 a1 a2 a3 a4 a5 a6 a7 a8 a9 a10 a11) (H_viewportlaw01ClassEach_111010y1 a0 a1 a2 a3 a4 a5 a6 a7 a8 a9 a10 a11) (V_viewportlaw01ClassEach_111010y1 a0 a1 a2 a3 a4 a5 a6 a7 a8 a9 a10 a11 r) (R_viewportlaw01ClassEach_111010y1 a0 a1 a2 a3 a4 a5 a6 a7 a8 a9 a10 a11 r) := by
 unfold m_viewportlaw01ClassEach_111010y1 at h
 by_cases hc1 : a6 = a4
 ·rw [if_pos hc1] at h
  obtain rfl := oI h
  exact runY2 hm ⟨[], [(0, 0, false), (1, 1, false), (2, 2, false), (3, 3, false), (4, 4, false), (5, 5, false), (6, 6, false), (7, 7, false)], 8, 0, [], false, [], [], []⟩ (ee) (zz 5 (xeT hc1) <|
   ee) (by kernel_rfl)
 ·rw [if_neg hc1] at h
  cases h

def A_classEach1q2 (a0 : Int) (a1 : Int) (a2 : Int) (a3 : Int) (a4 : Int) (a5 : Bool) (a6 : Int) (a7 : Int) (a8 : Int) (a9 : Int) (a10 : Int) : List Value := [(Value.func (.yield 0) #[] #[]), (pN 7 0)]
def H_classEach1q2 (a0 : Int) (a1 : Int) (a2 : Int) (a3 : Int) (a4 : Int) (a5 : Bool) (a6 : Int) (a7 : Int) (a8 : Int) (a9 : Int) (a10 : Int) : AH := ⟨sB [(0, (some (rblk P 4 [false, true, false, true, true, true, true, true, true, true, true] .ready none [(2, (pN 2 0)), (3, (pN 3 0)), (4, (pN 4 0)), (5, (pN 5 0)), (7, (pN 6 0)), (35, (Value.func (.func 23) #[] #[(pN 7 0)]))] 1))), (1, (some (.marks true))), (2, (some (.cells (layT [(Value.int .u64 a0), (Value.int .u64 a1), (Value.int .u64 a2), (Value.int .u64 a3)]) 24))), (3, (some (.cells (layT [(i6 a4)]) 3))), (4, (some (.cells (layT [(bO a5)]) 4))), (5, (some (.cells (layT [(Value.slice none 0 0)]) 35))), (6, (some (.cells (layT [(i6 a6)]) 3))), (7, (some (.cells (layT [(Value.int .u64 a7), (Value.int .u64 a8), (Value.int .u64 a9), (Value.int .u64 a10)]) 24)))], 8, 8⟩
def V_classEach1q2 (a0 : Int) (a1 : Int) (a2 : Int) (a3 : Int) (a4 : Int) (a5 : Bool) (a6 : Int) (a7 : Int) (a8 : Int) (a9 : Int) (a10 : Int) (r : (Unit) ⊕ (Unit)) : Value := match r with
 | .inl _ => (Value.tuple #[])
 | .inr _ => (Value.tuple #[])
def R_classEach1q2 (a0 : Int) (a1 : Int) (a2 : Int) (a3 : Int) (a4 : Int) (a5 : Bool) (a6 : Int) (a7 : Int) (a8 : Int) (a9 : Int) (a10 : Int) (r : (Unit) ⊕ (Unit)) : AH := match r with
 | .inl _ => ⟨sB [(0, (some (rblk P 4 [false, true, false, true, true, true, true, true, true, true, true] .ready none [(2, (pN 2 0)), (3, (pN 3 0)), (4, (pN 4 0)), (5, (pN 5 0)), (7, (pN 6 0)), (35, (Value.func (.func 23) #[] #[(pN 7 0)]))] 1))), (1, (some (.marks true))), (2, (some (.cells (layT [(Value.int .u64 a0), (Value.int .u64 a1), (Value.int .u64 a2), (Value.int .u64 a3)]) 24))), (3, (some (.cells (layT [(i6 a4)]) 3))), (4, (some (.cells (layT [(bO a5)]) 4))), (5, (some (.cells (layT [(Value.slice none 0 0)]) 35))), (6, (some (.cells (layT [(i6 a6)]) 3))), (7, (some (.cells (layT [(Value.int .u64 a7), (Value.int .u64 a8), (Value.int .u64 a9), (Value.int .u64 a10)]) 24)))], 8, 8⟩
 | .inr _ => ⟨sB [(0, (some (rblk P 4 [false, true, false, true, true, true, true, true, true, true, true] .done (some (.exit 0)) [(2, (pN 2 0)), (3, (pN 3 0)), (4, (pN 4 0)), (5, (pN 5 0)), (7, (pN 6 0)), (35, (Value.func (.func 23) #[] #[(pN 7 0)]))] 1))), (1, (some (.marks true))), (2, (some (.cells (layT [(Value.int .u64 a0), (Value.int .u64 a1), (Value.int .u64 a2), (Value.int .u64 a3)]) 24))), (3, (some (.cells (layT [(i6 a4)]) 3))), (4, (some (.cells (layT [(bO a5)]) 4))), (5, (some (.cells (layT [(Value.slice none 0 0)]) 35))), (6, (some (.cells (layT [(i6 a6)]) 3))), (7, (some (.cells (layT [(Value.int .u64 a7), (Value.int .u64 a8), (Value.int .u64 a9), (Value.int .u64 a10)]) 24)))], 8, 0⟩
abbrev G_classEach1q2 (a0 : Int) (a1 : Int) (a2 : Int) (a3 : Int) (a4 : Int) (a5 : Bool) (a6 : Int) (a7 : Int) (a8 : Int) (a9 : Int) (a10 : Int) (r : (Unit) ⊕ (Unit)) : Prop := Gv P (.func 23) (A_classEach1q2 a0 a1 a2 a3 a4 a5 a6 a7 a8 a9 a10) (H_classEach1q2 a0 a1 a2 a3 a4 a5 a6 a7 a8 a9 a10) (V_classEach1q2 a0 a1 a2 a3 a4 a5 a6 a7 a8 a9 a10 r) (R_classEach1q2 a0 a1 a2 a3 a4 a5 a6 a7 a8 a9 a10 r)
abbrev C_classEach1q2 (a0 : Int) (a1 : Int) (a2 : Int) (a3 : Int) (a4 : Int) (a5 : Bool) (a6 : Int) (a7 : Int) (a8 : Int) (a9 : Int) (a10 : Int) (r : (Unit) ⊕ (Unit)) (ins outs : BL) : CallA := ⟨8, ins, V_classEach1q2 a0 a1 a2 a3 a4 a5 a6 a7 a8 a9 a10 r, R_classEach1q2 a0 a1 a2 a3 a4 a5 a6 a7 a8 a9 a10 r, outs⟩
def S_classEach1q2_1 (x1_0 : Int) (x1_1 : Int) (x1_2 : Int) (x1_3 : Int) (x1_4 : Int) (x1_5 : Bool) (x1_6 : Int) (x1_7 : Int) (x1_8 : Int) (x1_9 : Int) (x1_10 : Int) (x1_11 : Int) (x1_12 : Int) (st : Unit) : XSt := match st with
 | _ => (sT 26 [(0, (Value.func (.yield 0) #[] #[])), (3, (i6 x1_11)), (4, (Value.int .u64 x1_12)), (5, (Value.agg #[(Value.int .u64 x1_7), (Value.int .u64 x1_8), (Value.int .u64 x1_9), (Value.int .u64 x1_10)])), (6, (i6 x1_11))], [], ⟨sB [(0, (some (rblk P 4 [false, true, false, true, true, true, true, true, true, true, true] .ready none [(2, (pN 2 0)), (3, (pN 3 0)), (4, (pN 4 0)), (5, (pN 5 0)), (7, (pN 6 0)), (35, (Value.func (.func 23) #[] #[(pN 7 0)]))] 1))), (1, (some (.marks true))), (2, (some (.cells (layT [(Value.int .u64 x1_0), (Value.int .u64 x1_1), (Value.int .u64 x1_2), (Value.int .u64 x1_3)]) 24))), (3, (some (.cells (layT [(i6 x1_4)]) 3))), (4, (some (.cells (layT [(bO x1_5)]) 4))), (5, (some (.cells (layT [(Value.slice none 0 0)]) 35))), (6, (some (.cells (layT [(i6 x1_6)]) 3))), (7, (some (.cells (layT [(Value.int .u64 x1_7), (Value.int .u64 x1_8), (Value.int .u64 x1_9), (Value.int .u64 x1_10)]) 24)))], 8, 8⟩)
def X_classEach1q2_1 (x1_0 : Int) (x1_1 : Int) (x1_2 : Int) (x1_3 : Int) (x1_4 : Int) (x1_5 : Bool) (x1_6 : Int) (x1_7 : Int) (x1_8 : Int) (x1_9 : Int) (x1_10 : Int) (x1_11 : Int) (x1_12 : Int) (r : (Unit) ⊕ (Unit)) : Ex × XSt := match r with
 | .inl _ => (.exit 2, (sT 26 [(0, (Value.func (.yield 0) #[] #[])), (5, (Value.agg #[(Value.int .u64 x1_7), (Value.int .u64 x1_8), (Value.int .u64 x1_9), (Value.int .u64 x1_10)])), (6, (i6 x1_11))], [], ⟨sB [(0, (some (rblk P 4 [false, true, false, true, true, true, true, true, true, true, true] .ready none [(2, (pN 2 0)), (3, (pN 3 0)), (4, (pN 4 0)), (5, (pN 5 0)), (7, (pN 6 0)), (35, (Value.func (.func 23) #[] #[(pN 7 0)]))] 1))), (1, (some (.marks true))), (2, (some (.cells (layT [(Value.int .u64 x1_0), (Value.int .u64 x1_1), (Value.int .u64 x1_2), (Value.int .u64 x1_3)]) 24))), (3, (some (.cells (layT [(i6 x1_4)]) 3))), (4, (some (.cells (layT [(bO x1_5)]) 4))), (5, (some (.cells (layT [(Value.slice none 0 0)]) 35))), (6, (some (.cells (layT [(i6 x1_6)]) 3))), (7, (some (.cells (layT [(Value.int .u64 x1_7), (Value.int .u64 x1_8), (Value.int .u64 x1_9), (Value.int .u64 x1_10)]) 24)))], 8, 8⟩))
 | .inr _ => (.ret, (sT 26 [], [], ⟨sB [(0, (some (rblk P 4 [false, true, false, true, true, true, true, true, true, true, true] .done (some (.exit 0)) [(2, (pN 2 0)), (3, (pN 3 0)), (4, (pN 4 0)), (5, (pN 5 0)), (7, (pN 6 0)), (35, (Value.func (.func 23) #[] #[(pN 7 0)]))] 1))), (1, (some (.marks true))), (2, (some (.cells (layT [(Value.int .u64 x1_0), (Value.int .u64 x1_1), (Value.int .u64 x1_2), (Value.int .u64 x1_3)]) 24))), (3, (some (.cells (layT [(i6 x1_4)]) 3))), (4, (some (.cells (layT [(bO x1_5)]) 4))), (5, (some (.cells (layT [(Value.slice none 0 0)]) 35))), (6, (some (.cells (layT [(i6 x1_6)]) 3))), (7, (some (.cells (layT [(Value.int .u64 x1_7), (Value.int .u64 x1_8), (Value.int .u64 x1_9), (Value.int .u64 x1_10)]) 24)))], 8, 0⟩))
abbrev Q_classEach1q2_1 (rnd : Option Nat) (x1_0 : Int) (x1_1 : Int) (x1_2 : Int) (x1_3 : Int) (x1_4 : Int) (x1_5 : Bool) (x1_6 : Int) (x1_7 : Int) (x1_8 : Int) (x1_9 : Int) (x1_10 : Int) (x1_11 : Int) (x1_12 : Int) (st : Unit) (c : Ex × XSt) : Prop := CG P rnd (fnN P 23) 8 (codeOf P 23 [false, false, true, false, false, true, true, false, false, true]) (S_classEach1q2_1 x1_0 x1_1 x1_2 x1_3 x1_4 x1_5 x1_6 x1_7 x1_8 x1_9 x1_10 x1_11 x1_12 st) c
abbrev U_classEach1q2_1 (rd : Option Nat) (x1_0 : Int) (x1_1 : Int) (x1_2 : Int) (x1_3 : Int) (x1_4 : Int) (x1_5 : Bool) (x1_6 : Int) (x1_7 : Int) (x1_8 : Int) (x1_9 : Int) (x1_10 : Int) (x1_11 : Int) (x1_12 : Int) (st : Unit) (r : (Unit) ⊕ (Unit)) : Prop := CG P rd (fnN P 23) 8 (codeOf P 23 [false, true, false, false, true, true, false, false, true]) (S_classEach1q2_1 x1_0 x1_1 x1_2 x1_3 x1_4 x1_5 x1_6 x1_7 x1_8 x1_9 x1_10 x1_11 x1_12 st) (X_classEach1q2_1 x1_0 x1_1 x1_2 x1_3 x1_4 x1_5 x1_6 x1_7 x1_8 x1_9 x1_10 x1_11 x1_12 r)
def B_classEach1q2_1 (n : Nat) (x1_0 : Int) (x1_1 : Int) (x1_2 : Int) (x1_3 : Int) (x1_4 : Int) (x1_5 : Bool) (x1_6 : Int) (x1_7 : Int) (x1_8 : Int) (x1_9 : Int) (x1_10 : Int) (x1_11 : Int) (x1_12 : Int) (st : Unit) : Option ((Unit) ⊕ ((Unit) ⊕ (Unit))) := match st with
 | _ =>
  if x1_12 = (0 : Int) then
   some (.inr (.inl ()))
  else
   (m_bitsTrailingZeros64q1 n x1_12).bind fun y1_2_ =>
   ((some (w64 ((w64 (x1_11 * (64 : Int))) + y1_2_)))).bind fun y1_3_ =>
   (m_viewportlaw01ClassEach_111010y1 n x1_0 x1_1 x1_2 x1_3 x1_4 x1_5 x1_6 x1_7 x1_8 x1_9 x1_10 (IntKind.u8.wrap y1_3_)).bind fun _ =>
   some (.inr (.inr ()))
def m_classEach1q2_1 (n : Nat) (x1_0 : Int) (x1_1 : Int) (x1_2 : Int) (x1_3 : Int) (x1_4 : Int) (x1_5 : Bool) (x1_6 : Int) (x1_7 : Int) (x1_8 : Int) (x1_9 : Int) (x1_10 : Int) (x1_11 : Int) (x1_12 : Int) (st : Unit) : Option ((Unit) ⊕ (Unit)) := iterM (B_classEach1q2_1 n x1_0 x1_1 x1_2 x1_3 x1_4 x1_5 x1_6 x1_7 x1_8 x1_9 x1_10 x1_11 x1_12) n st
theorem b_classEach1q2_1 (n : Nat) {rnd : Option Nat} (x1_0 : Int) (x1_1 : Int) (x1_2 : Int) (x1_3 : Int) (x1_4 : Int) (x1_5 : Bool) (x1_6 : Int) (x1_7 : Int) (x1_8 : Int) (x1_9 : Int) (x1_10 : Int) (x1_11 : Int) (x1_12 : Int) (st : Unit) (o : (Unit) ⊕ ((Unit) ⊕ (Unit))) (h : B_classEach1q2_1 n x1_0 x1_1 x1_2 x1_3 x1_4 x1_5 x1_6 x1_7 x1_8 x1_9 x1_10 x1_11 x1_12 st = some o) : CG P rnd (fnN P 23) 8 (codeOf P 23 [false, false, true, false, false, true, true, false, false, true]) (S_classEach1q2_1 x1_0 x1_1 x1_2 x1_3 x1_4 x1_5 x1_6 x1_7 x1_8 x1_9 x1_10 x1_11 x1_12 st) (Sum.elim (fun s => (.normal, S_classEach1q2_1 x1_0 x1_1 x1_2 x1_3 x1_4 x1_5 x1_6 x1_7 x1_8 x1_9 x1_10 x1_11 x1_12 s)) (fun r => X_classEach1q2_1 x1_0 x1_1 x1_2 x1_3 x1_4 x1_5 x1_6 x1_7 x1_8 x1_9 x1_10 x1_11 x1_12 r) o) := by
 unfold B_classEach1q2_1 at h
 dsimp only at h
 by_cases hy1_1 : x1_12 = (0 : Int)
 ·rw [if_pos hy1_1] at h
  obtain rfl := oI h
  exact runC2 hm ⟨[0, 5, 6], [(0, 0, false), (1, 1, false), (2, 2, false), (3, 3, false), (4, 4, false), (5, 5, false), (6, 6, false), (7, 7, false)], 8, 8, [], false, [], [], []⟩ (zz 3 (xnF hy1_1) <|
   ee) (by kernel_rfl)
 ·rw [if_neg hy1_1] at h
  obtain ⟨y1_2_, hy1_2, h⟩ := oB h
  obtain ⟨y1_3_, hy1_3, h⟩ := oB h
  obtain ⟨_, hy1_4, h⟩ := oB h
  obtain rfl := oI h
  exact runC2 hm ⟨[], [(0, 0, false), (1, 1, false), (2, 2, false), (3, 3, false), (4, 4, false), (5, 5, false), (6, 6, false), (7, 7, false)], 8, 0, [], false, [], [], []⟩ (zz 3 (xnT hy1_1) <|
   yy 12 (.call (C_bitsTrailingZeros64q1 x1_12 y1_2_ [] [])) <|
   ww (m_bitsTrailingZeros64q1_ok n x1_12 y1_2_ hy1_2) <|
   zz 13 (xnm hy1_3) <|
   yy 15 (.call (C_viewportlaw01ClassEach_111010y1 x1_0 x1_1 x1_2 x1_3 x1_4 x1_5 x1_6 x1_7 x1_8 x1_9 x1_10 (IntKind.u8.wrap y1_3_) () [(0, 0, false), (1, 1, false), (2, 2, false), (3, 3, false), (4, 4, false), (5, 5, false), (6, 6, false), (7, 7, false)] [(0, 0, false), (1, 1, false), (2, 2, false), (3, 3, false), (4, 4, false), (5, 5, false), (6, 6, false), (7, 7, false)])) <|
   ww (m_viewportlaw01ClassEach_111010y1_ok n x1_0 x1_1 x1_2 x1_3 x1_4 x1_5 x1_6 x1_7 x1_8 x1_9 x1_10 (IntKind.u8.wrap y1_3_) () hy1_4) <|
   ee) (by kernel_rfl)
theorem m_classEach1q2_1_ok (n : Nat) {rnd : Option Nat} (x1_0 : Int) (x1_1 : Int) (x1_2 : Int) (x1_3 : Int) (x1_4 : Int) (x1_5 : Bool) (x1_6 : Int) (x1_7 : Int) (x1_8 : Int) (x1_9 : Int) (x1_10 : Int) (x1_11 : Int) (x1_12 : Int) (st : Unit) (r : (Unit) ⊕ (Unit)) (h : m_classEach1q2_1 n x1_0 x1_1 x1_2 x1_3 x1_4 x1_5 x1_6 x1_7 x1_8 x1_9 x1_10 x1_11 x1_12 st = some r) : CG P rnd (fnN P 23) 8 (codeOf P 23 [false, true, false, false, true, true, false, false, true]) (S_classEach1q2_1 x1_0 x1_1 x1_2 x1_3 x1_4 x1_5 x1_6 x1_7 x1_8 x1_9 x1_10 x1_11 x1_12 st) (X_classEach1q2_1 x1_0 x1_1 x1_2 x1_3 x1_4 x1_5 x1_6 x1_7 x1_8 x1_9 x1_10 x1_11 x1_12 r) :=
 CG.iter (b := codeOf P 23 [false, false, true, false, false, true, true, false, false, true]) (by kernel_rfl) (body := B_classEach1q2_1 n x1_0 x1_1 x1_2 x1_3 x1_4 x1_5 x1_6 x1_7 x1_8 x1_9 x1_10 x1_11 x1_12) (S := S_classEach1q2_1 x1_0 x1_1 x1_2 x1_3 x1_4 x1_5 x1_6 x1_7 x1_8 x1_9 x1_10 x1_11 x1_12) (X := X_classEach1q2_1 x1_0 x1_1 x1_2 x1_3 x1_4 x1_5 x1_6 x1_7 x1_8 x1_9 x1_10 x1_11 x1_12)
  (fun s s' h => b_classEach1q2_1 n x1_0 x1_1 x1_2 x1_3 x1_4 x1_5 x1_6 x1_7 x1_8 x1_9 x1_10 x1_11 x1_12 s (.inl s') h)
  (fun s r h => b_classEach1q2_1 n x1_0 x1_1 x1_2 x1_3 x1_4 x1_5 x1_6 x1_7 x1_8 x1_9 x1_10 x1_11 x1_12 s (.inr r) h)
  (fun r => by intro hx; rcases r with _ | _ <;> cases hx) h
def m_classEach1q2 (n : Nat) (a0 : Int) (a1 : Int) (a2 : Int) (a3 : Int) (a4 : Int) (a5 : Bool) (a6 : Int) (a7 : Int) (a8 : Int) (a9 : Int) (a10 : Int) : Option ((Unit) ⊕ (Unit)) :=
 match m_classEach1q2_1 n a0 a1 a2 a3 a4 a5 a6 a7 a8 a9 a10 0 a7 () with
 | none => none
 | some (.inl _) =>
  match m_classEach1q2_1 n a0 a1 a2 a3 a4 a5 a6 a7 a8 a9 a10 1 a8 () with
  | none => none
  | some (.inl _) =>
   match m_classEach1q2_1 n a0 a1 a2 a3 a4 a5 a6 a7 a8 a9 a10 2 a9 () with
   | none => none
   | some (.inl _) =>
    match m_classEach1q2_1 n a0 a1 a2 a3 a4 a5 a6 a7 a8 a9 a10 3 a10 () with
    | none => none
    | some (.inl _) =>
     some (.inl ())
    | some (.inr _) =>
     some (.inr ())
   | some (.inr _) =>
    some (.inr ())
  | some (.inr _) =>
   some (.inr ())
 | some (.inr _) =>
  some (.inr ())
theorem m_classEach1q2_ok (n : Nat) (a0 : Int) (a1 : Int) (a2 : Int) (a3 : Int) (a4 : Int) (a5 : Bool) (a6 : Int) (a7 : Int) (a8 : Int) (a9 : Int) (a10 : Int) (r : (Unit) ⊕ (Unit)) (h : m_classEach1q2 n a0 a1 a2 a3 a4 a5 a6 a7 a8 a9 a10 = some r) : Gv P (.func 23) (A_classEach1q2 a0 a1 a2 a3 a4 a5 a6 a7 a8 a9 a10) (H_classEach1q2 a0 a1 a2 a3 a4 a5 a6 a7 a8 a9 a10) (V_classEach1q2 a0 a1 a2 a3 a4 a5 a6 a7 a8 a9 a10 r) (R_classEach1q2 a0 a1 a2 a3 a4 a5 a6 a7 a8 a9 a10 r) := by
 unfold m_classEach1q2 at h
 rcases hc1 : m_classEach1q2_1 n a0 a1 a2 a3 a4 a5 a6 a7 a8 a9 a10 0 a7 () with _ | (⟨⟩ | ⟨⟩)
 ·rw [hc1] at h; cases h
 ·rw [hc1] at h
  dsimp only at h
  have k0 := fun {A L l} (k : PL A L l) => ww (p := U_classEach1q2_1 none a0 a1 a2 a3 a4 a5 a6 a7 a8 a9 a10 0 a7 () (.inl ())) (m_classEach1q2_1_ok n a0 a1 a2 a3 a4 a5 a6 a7 a8 a9 a10 0 a7 () (.inl ()) hc1) <|
   ll 17 ⟨⟨[0, 3, 4, 5, 6], [(0, 0, false), (1, 1, false), (2, 2, false), (3, 3, false), (4, 4, false), (5, 5, false), (6, 6, false), (7, 7, false)], 8, 8, [], false, [], [], []⟩, (X_classEach1q2_1 a0 a1 a2 a3 a4 a5 a6 a7 a8 a9 a10 0 a7 (.inl ())).1, (X_classEach1q2_1 a0 a1 a2 a3 a4 a5 a6 a7 a8 a9 a10 0 a7 (.inl ())).2⟩ <|
   k
  rcases hc2 : m_classEach1q2_1 n a0 a1 a2 a3 a4 a5 a6 a7 a8 a9 a10 1 a8 () with _ | (⟨⟩ | ⟨⟩)
  ·rw [hc2] at h; cases h
  ·rw [hc2] at h
   dsimp only at h
   have k2 := fun {A L l} (k : PL A L l) => ww (p := U_classEach1q2_1 none a0 a1 a2 a3 a4 a5 a6 a7 a8 a9 a10 1 a8 () (.inl ())) (m_classEach1q2_1_ok n a0 a1 a2 a3 a4 a5 a6 a7 a8 a9 a10 1 a8 () (.inl ()) hc2) <|
    ll 33 ⟨⟨[0, 3, 4, 5, 6], [(0, 0, false), (1, 1, false), (2, 2, false), (3, 3, false), (4, 4, false), (5, 5, false), (6, 6, false), (7, 7, false)], 8, 8, [], false, [], [], []⟩, (X_classEach1q2_1 a0 a1 a2 a3 a4 a5 a6 a7 a8 a9 a10 1 a8 (.inl ())).1, (X_classEach1q2_1 a0 a1 a2 a3 a4 a5 a6 a7 a8 a9 a10 1 a8 (.inl ())).2⟩ <|
    k
   rcases hc3 : m_classEach1q2_1 n a0 a1 a2 a3 a4 a5 a6 a7 a8 a9 a10 2 a9 () with _ | (⟨⟩ | ⟨⟩)
   ·rw [hc3] at h; cases h
   ·rw [hc3] at h
    dsimp only at h
    have k4 := fun {A L l} (k : PL A L l) => ww (p := U_classEach1q2_1 none a0 a1 a2 a3 a4 a5 a6 a7 a8 a9 a10 2 a9 () (.inl ())) (m_classEach1q2_1_ok n a0 a1 a2 a3 a4 a5 a6 a7 a8 a9 a10 2 a9 () (.inl ()) hc3) <|
     ll 49 ⟨⟨[0, 3, 4, 5, 6], [(0, 0, false), (1, 1, false), (2, 2, false), (3, 3, false), (4, 4, false), (5, 5, false), (6, 6, false), (7, 7, false)], 8, 8, [], false, [], [], []⟩, (X_classEach1q2_1 a0 a1 a2 a3 a4 a5 a6 a7 a8 a9 a10 2 a9 (.inl ())).1, (X_classEach1q2_1 a0 a1 a2 a3 a4 a5 a6 a7 a8 a9 a10 2 a9 (.inl ())).2⟩ <|
     k
    rcases hc4 : m_classEach1q2_1 n a0 a1 a2 a3 a4 a5 a6 a7 a8 a9 a10 3 a10 () with _ | (⟨⟩ | ⟨⟩)
    ·rw [hc4] at h; cases h
    ·rw [hc4] at h
     dsimp only at h
     obtain rfl := oI h
     exact runF2 hm ⟨[], [(0, 0, false), (1, 1, false), (2, 2, false), (3, 3, false), (4, 4, false), (5, 5, false), (6, 6, false), (7, 7, false)], 8, 8, [], false, [], [], []⟩ (k0 <|
      k2 <|
      k4 <|
      ww (p := U_classEach1q2_1 none a0 a1 a2 a3 a4 a5 a6 a7 a8 a9 a10 3 a10 () (.inl ())) (m_classEach1q2_1_ok n a0 a1 a2 a3 a4 a5 a6 a7 a8 a9 a10 3 a10 () (.inl ()) hc4) <|
      ll 65 ⟨⟨[0, 3, 4, 5, 6], [(0, 0, false), (1, 1, false), (2, 2, false), (3, 3, false), (4, 4, false), (5, 5, false), (6, 6, false), (7, 7, false)], 8, 8, [], false, [], [], []⟩, (X_classEach1q2_1 a0 a1 a2 a3 a4 a5 a6 a7 a8 a9 a10 3 a10 (.inl ())).1, (X_classEach1q2_1 a0 a1 a2 a3 a4 a5 a6 a7 a8 a9 a10 3 a10 (.inl ())).2⟩ <|
      ee) (by kernel_rfl)
    ·rw [hc4] at h
     dsimp only at h
     obtain rfl := oI h
     exact runF2 hm ⟨[], [(0, 0, false), (1, 1, false), (2, 2, false), (3, 3, false), (4, 4, false), (5, 5, false), (6, 6, false), (7, 7, false)], 8, 0, [], false, [], [], []⟩ (k0 <|
      k2 <|
      k4 <|
      ww (p := U_classEach1q2_1 none a0 a1 a2 a3 a4 a5 a6 a7 a8 a9 a10 3 a10 () (.inr ())) (m_classEach1q2_1_ok n a0 a1 a2 a3 a4 a5 a6 a7 a8 a9 a10 3 a10 () (.inr ()) hc4) <|
      ll 65 ⟨⟨[0, 3, 4, 5, 6], [(0, 0, false), (1, 1, false), (2, 2, false), (3, 3, false), (4, 4, false), (5, 5, false), (6, 6, false), (7, 7, false)], 8, 8, [], false, [], [], []⟩, (X_classEach1q2_1 a0 a1 a2 a3 a4 a5 a6 a7 a8 a9 a10 3 a10 (.inr ())).1, (X_classEach1q2_1 a0 a1 a2 a3 a4 a5 a6 a7 a8 a9 a10 3 a10 (.inr ())).2⟩ <|
      ee) (by kernel_rfl)
   ·rw [hc3] at h
    dsimp only at h
    obtain rfl := oI h
    exact runF2 hm ⟨[], [(0, 0, false), (1, 1, false), (2, 2, false), (3, 3, false), (4, 4, false), (5, 5, false), (6, 6, false), (7, 7, false)], 8, 0, [], false, [], [], []⟩ (k0 <|
     k2 <|
     ww (p := U_classEach1q2_1 none a0 a1 a2 a3 a4 a5 a6 a7 a8 a9 a10 2 a9 () (.inr ())) (m_classEach1q2_1_ok n a0 a1 a2 a3 a4 a5 a6 a7 a8 a9 a10 2 a9 () (.inr ()) hc3) <|
     ll 49 ⟨⟨[0, 3, 4, 5, 6], [(0, 0, false), (1, 1, false), (2, 2, false), (3, 3, false), (4, 4, false), (5, 5, false), (6, 6, false), (7, 7, false)], 8, 8, [], false, [], [], []⟩, (X_classEach1q2_1 a0 a1 a2 a3 a4 a5 a6 a7 a8 a9 a10 2 a9 (.inr ())).1, (X_classEach1q2_1 a0 a1 a2 a3 a4 a5 a6 a7 a8 a9 a10 2 a9 (.inr ())).2⟩ <|
     ee) (by kernel_rfl)
  ·rw [hc2] at h
   dsimp only at h
   obtain rfl := oI h
   exact runF2 hm ⟨[], [(0, 0, false), (1, 1, false), (2, 2, false), (3, 3, false), (4, 4, false), (5, 5, false), (6, 6, false), (7, 7, false)], 8, 0, [], false, [], [], []⟩ (k0 <|
    ww (p := U_classEach1q2_1 none a0 a1 a2 a3 a4 a5 a6 a7 a8 a9 a10 1 a8 () (.inr ())) (m_classEach1q2_1_ok n a0 a1 a2 a3 a4 a5 a6 a7 a8 a9 a10 1 a8 () (.inr ()) hc2) <|
    ll 33 ⟨⟨[0, 3, 4, 5, 6], [(0, 0, false), (1, 1, false), (2, 2, false), (3, 3, false), (4, 4, false), (5, 5, false), (6, 6, false), (7, 7, false)], 8, 8, [], false, [], [], []⟩, (X_classEach1q2_1 a0 a1 a2 a3 a4 a5 a6 a7 a8 a9 a10 1 a8 (.inr ())).1, (X_classEach1q2_1 a0 a1 a2 a3 a4 a5 a6 a7 a8 a9 a10 1 a8 (.inr ())).2⟩ <|
    ee) (by kernel_rfl)
 ·rw [hc1] at h
  dsimp only at h
  obtain rfl := oI h
  exact runF2 hm ⟨[], [(0, 0, false), (1, 1, false), (2, 2, false), (3, 3, false), (4, 4, false), (5, 5, false), (6, 6, false), (7, 7, false)], 8, 0, [], false, [], [], []⟩ (ww (p := U_classEach1q2_1 none a0 a1 a2 a3 a4 a5 a6 a7 a8 a9 a10 0 a7 () (.inr ())) (m_classEach1q2_1_ok n a0 a1 a2 a3 a4 a5 a6 a7 a8 a9 a10 0 a7 () (.inr ()) hc1) <|
   ll 17 ⟨⟨[0, 3, 4, 5, 6], [(0, 0, false), (1, 1, false), (2, 2, false), (3, 3, false), (4, 4, false), (5, 5, false), (6, 6, false), (7, 7, false)], 8, 8, [], false, [], [], []⟩, (X_classEach1q2_1 a0 a1 a2 a3 a4 a5 a6 a7 a8 a9 a10 0 a7 (.inr ())).1, (X_classEach1q2_1 a0 a1 a2 a3 a4 a5 a6 a7 a8 a9 a10 0 a7 (.inr ())).2⟩ <|
   ee) (by kernel_rfl)

def A_classHasq1 (a0 : Int) (a1 : Int) (a2 : Int) (a3 : Int) (a4 : Int) : List Value := [(Value.agg #[(Value.int .u64 a0), (Value.int .u64 a1), (Value.int .u64 a2), (Value.int .u64 a3)]), (Value.int .u8 a4)]
def H_classHasq1 (a0 : Int) (a1 : Int) (a2 : Int) (a3 : Int) (a4 : Int) : AH := ⟨sB [], 0, 0⟩
def V_classHasq1 (a0 : Int) (a1 : Int) (a2 : Int) (a3 : Int) (a4 : Int) (r : Bool) : Value := match r with
 | o0 => (bO o0)
def R_classHasq1 (a0 : Int) (a1 : Int) (a2 : Int) (a3 : Int) (a4 : Int) (r : Bool) : AH := match r with
 | o0 => ⟨sB [], 0, 0⟩
abbrev G_classHasq1 (a0 : Int) (a1 : Int) (a2 : Int) (a3 : Int) (a4 : Int) (r : Bool) : Prop := Gv P (.func 10) (A_classHasq1 a0 a1 a2 a3 a4) (H_classHasq1 a0 a1 a2 a3 a4) (V_classHasq1 a0 a1 a2 a3 a4 r) (R_classHasq1 a0 a1 a2 a3 a4 r)
abbrev C_classHasq1 (a0 : Int) (a1 : Int) (a2 : Int) (a3 : Int) (a4 : Int) (r : Bool) (ins outs : BL) : CallA := ⟨0, ins, V_classHasq1 a0 a1 a2 a3 a4 r, R_classHasq1 a0 a1 a2 a3 a4 r, outs⟩
def m_classHasq1 (n : Nat) (a0 : Int) (a1 : Int) (a2 : Int) (a3 : Int) (a4 : Int) : Option (Bool) :=
 if ¬ ((64 : Int) = 0) then
  if 0 ≤ (IntKind.u8.wrap (Int.tdiv a4 (64 : Int))) ∧ (IntKind.u8.wrap (Int.tdiv a4 (64 : Int))) < ((4 : Nat) : Int) then
   if ((IntKind.u8.wrap (Int.tdiv a4 (64 : Int)))).toNat < ([a0, a1, a2, a3]).length then
    ((some (([a0, a1, a2, a3]).getD ((IntKind.u8.wrap (Int.tdiv a4 (64 : Int)))).toNat (0)))).bind fun c4_ =>
    if 0 ≤ (Int.tmod a4 (64 : Int)) then
     ((some (bAnd .u64 (shrV .u64 c4_ (Int.tmod a4 (64 : Int))) (1 : Int)))).bind fun c6_ =>
     if c6_ = (1 : Int) then
      some true
     else
      some false
    else none
   else none
  else none
 else none
theorem m_classHasq1_ok (n : Nat) (a0 : Int) (a1 : Int) (a2 : Int) (a3 : Int) (a4 : Int) (r : Bool) (h : m_classHasq1 n a0 a1 a2 a3 a4 = some r) : Gv P (.func 10) (A_classHasq1 a0 a1 a2 a3 a4) (H_classHasq1 a0 a1 a2 a3 a4) (V_classHasq1 a0 a1 a2 a3 a4 r) (R_classHasq1 a0 a1 a2 a3 a4 r) := by
 unfold m_classHasq1 at h
 obtain ⟨hc1, h⟩ := gd h
 obtain ⟨hc2, h⟩ := gd h
 obtain ⟨hc3, h⟩ := gd h
 obtain ⟨c4_, hc4, h⟩ := oB h
 obtain ⟨hc5, h⟩ := gd h
 obtain ⟨c6_, hc6, h⟩ := oB h
 have k0 := fun {A L l} (k : PL A L l) => yy 5 (.pur (Value.int .u8 (IntKind.u8.wrap (Int.tdiv a4 (64 : Int))))) <|
  ww (p := opBin P .quo 5 (.tmp 5) (.const (Value.int .u8 (64 : Int))) (Value.int .u8 a4) (Value.int .u8 (64 : Int)) Ax.h0 = some ((Value.int .u8 (IntKind.u8.wrap (Int.tdiv a4 (64 : Int)))), Ax.h0)) (quo_u8 hc1) <|
  yy 6 (.pur (pN 0 (((IntKind.u8.wrap (Int.tdiv a4 (64 : Int)))).toNat * 1))) <|
  ww (p := opIndexAddr P 24 (pN 0 0) (Value.int .u8 (IntKind.u8.wrap (Int.tdiv a4 (64 : Int)))) Ax.h0 = some ((pN 0 (((IntKind.u8.wrap (Int.tdiv a4 (64 : Int)))).toNat * 1)), Ax.h0)) (ixArr (es := 1) (e := 22) (m := 4) (by kernel_rfl) (by kernel_rfl) hc2) <|
  zz 7 (ok3 hc4 (hc3)) <|
  yy 9 (.pur (Value.int .u8 (Int.tmod a4 (64 : Int)))) <|
  ww (p := opBin P .rem 5 (.tmp 9) (.const (Value.int .u8 (64 : Int))) (Value.int .u8 a4) (Value.int .u8 (64 : Int)) Ax.h0 = some ((Value.int .u8 (Int.tmod a4 (64 : Int))), Ax.h0)) (rem_u8 (by decide)) <|
  yy 10 (.pur (Value.int .u64 (shrV .u64 c4_ (Int.tmod a4 (64 : Int))))) <|
  ww (p := opBin P .shr 22 (.tmp 8) (.tmp 10) (Value.int .u64 c4_) (Value.int .u8 (Int.tmod a4 (64 : Int))) Ax.h0 = some ((Value.int .u64 (shrV .u64 c4_ (Int.tmod a4 (64 : Int)))), Ax.h0)) (shr_u64_u8 hc5) <|
  zz 11 (xnmK (k := .u64) hc6) <|
  k
 by_cases hc7 : c6_ = (1 : Int)
 ·rw [if_pos hc7] at h
  obtain rfl := oI h
  exact runF2 hm ⟨[4], [], 0, 0, [], false, [], [], []⟩ (k0 <|
   zz 12 (xeT hc7) <|
   ee) (by kernel_rfl)
 ·rw [if_neg hc7] at h
  obtain rfl := oI h
  exact runF2 hm ⟨[4], [], 0, 0, [], false, [], [], []⟩ (k0 <|
   zz 12 (xeF hc7) <|
   ee) (by kernel_rfl)

def A_viewportlaw01ClassEach_111010y2 (a0 : Int) (a1 : Int) (a2 : Int) (a3 : Int) (a4 : Int) (a5 : Bool) (a6 : List (Int)) (a7 : Int) (a8 : Int) (a9 : Int) (a10 : Int) (a11 : Int) (a12 : Int) : List Value := [(Value.int .u8 a12)]
def H_viewportlaw01ClassEach_111010y2 (a0 : Int) (a1 : Int) (a2 : Int) (a3 : Int) (a4 : Int) (a5 : Bool) (a6 : List (Int)) (a7 : Int) (a8 : Int) (a9 : Int) (a10 : Int) (a11 : Int) (a12 : Int) : AH := ⟨sB [(0, (some (rblk P 4 [false, true, false, true, true, true, true, true, true, true, true] .ready none [(2, (pN 2 0)), (3, (pN 3 0)), (4, (pN 4 0)), (5, (pN 5 0)), (7, (pN 7 0)), (35, (Value.func (.func 23) #[] #[(pN 8 0)]))] 1))), (1, (some (.marks true))), (2, (some (.cells (layT [(Value.int .u64 a0), (Value.int .u64 a1), (Value.int .u64 a2), (Value.int .u64 a3)]) 24))), (3, (some (.cells (layT [(i6 a4)]) 3))), (4, (some (.cells (layT [(bO a5)]) 4))), (5, (some (.cells (layT [(sN 6 0 (a6).length (Nat.add big 1))]) 35))), (6, (some (.cells (layT (rows rw_y a6)) 5))), (7, (some (.cells (layT [(i6 a7)]) 3))), (8, (some (.cells (layT [(Value.int .u64 a8), (Value.int .u64 a9), (Value.int .u64 a10), (Value.int .u64 a11)]) 24)))], 9, 9⟩
def V_viewportlaw01ClassEach_111010y2 (a0 : Int) (a1 : Int) (a2 : Int) (a3 : Int) (a4 : Int) (a5 : Bool) (a6 : List (Int)) (a7 : Int) (a8 : Int) (a9 : Int) (a10 : Int) (a11 : Int) (a12 : Int) (r : (Unit) ⊕ (Unit)) : Value := match r with
 | .inl _ => (bO false)
 | .inr _ => (bO true)
def R_viewportlaw01ClassEach_111010y2 (a0 : Int) (a1 : Int) (a2 : Int) (a3 : Int) (a4 : Int) (a5 : Bool) (a6 : List (Int)) (a7 : Int) (a8 : Int) (a9 : Int) (a10 : Int) (a11 : Int) (a12 : Int) (r : (Unit) ⊕ (Unit)) : AH := match r with
 | .inl _ => ⟨sB [(0, (some (rblk P 4 [false, true, false, true, true, true, true, true, true, true, true] .done (some (.exit 0)) [(2, (pN 2 0)), (3, (pN 3 0)), (4, (pN 4 0)), (5, (pN 5 0)), (7, (pN 7 0)), (35, (Value.func (.func 23) #[] #[(pN 8 0)]))] 1))), (1, (some (.marks true))), (2, (some (.cells (layT [(Value.int .u64 a0), (Value.int .u64 a1), (Value.int .u64 a2), (Value.int .u64 a3)]) 24))), (3, (some (.cells (layT [(i6 a4)]) 3))), (4, (some (.cells (layT [(bO a5)]) 4))), (5, (some (.cells (layT [(sN 6 0 (a6).length (Nat.add big 1))]) 35))), (6, (some (.cells (layT (rows rw_y a6)) 5))), (7, (some (.cells (layT [(i6 a7)]) 3))), (8, (some (.cells (layT [(Value.int .u64 a8), (Value.int .u64 a9), (Value.int .u64 a10), (Value.int .u64 a11)]) 24)))], 9, 0⟩
 | .inr _ => ⟨sB [(0, (some (rblk P 4 [false, true, false, true, true, true, true, true, true, true, true] .ready none [(2, (pN 2 0)), (3, (pN 3 0)), (4, (pN 4 0)), (5, (pN 5 0)), (7, (pN 7 0)), (35, (Value.func (.func 23) #[] #[(pN 8 0)]))] 1))), (1, (some (.marks true))), (2, (some (.cells (layT [(Value.int .u64 a0), (Value.int .u64 a1), (Value.int .u64 a2), (Value.int .u64 a3)]) 24))), (3, (some (.cells (layT [(i6 a4)]) 3))), (4, (some (.cells (layT [(bO a5)]) 4))), (5, (some (.cells (layT [(sN 6 0 (a6).length (Nat.add big 1))]) 35))), (6, (some (.cells (layT (rows rw_y a6)) 5))), (7, (some (.cells (layT [(i6 (w64 (a7 + (1 : Int))))]) 3))), (8, (some (.cells (layT [(Value.int .u64 a8), (Value.int .u64 a9), (Value.int .u64 a10), (Value.int .u64 a11)]) 24)))], 9, 0⟩
abbrev G_viewportlaw01ClassEach_111010y2 (a0 : Int) (a1 : Int) (a2 : Int) (a3 : Int) (a4 : Int) (a5 : Bool) (a6 : List (Int)) (a7 : Int) (a8 : Int) (a9 : Int) (a10 : Int) (a11 : Int) (a12 : Int) (r : (Unit) ⊕ (Unit)) : Prop := Gv P (.yield 0) (A_viewportlaw01ClassEach_111010y2 a0 a1 a2 a3 a4 a5 a6 a7 a8 a9 a10 a11 a12) (H_viewportlaw01ClassEach_111010y2 a0 a1 a2 a3 a4 a5 a6 a7 a8 a9 a10 a11 a12) (V_viewportlaw01ClassEach_111010y2 a0 a1 a2 a3 a4 a5 a6 a7 a8 a9 a10 a11 a12 r) (R_viewportlaw01ClassEach_111010y2 a0 a1 a2 a3 a4 a5 a6 a7 a8 a9 a10 a11 a12 r)
abbrev C_viewportlaw01ClassEach_111010y2 (a0 : Int) (a1 : Int) (a2 : Int) (a3 : Int) (a4 : Int) (a5 : Bool) (a6 : List (Int)) (a7 : Int) (a8 : Int) (a9 : Int) (a10 : Int) (a11 : Int) (a12 : Int) (r : (Unit) ⊕ (Unit)) (ins outs : BL) : CallA := ⟨9, ins, V_viewportlaw01ClassEach_111010y2 a0 a1 a2 a3 a4 a5 a6 a7 a8 a9 a10 a11 a12 r, R_viewportlaw01ClassEach_111010y2 a0 a1 a2 a3 a4 a5 a6 a7 a8 a9 a10 a11 a12 r, outs⟩
def m_viewportlaw01ClassEach_111010y2 (n : Nat) (a0 : Int) (a1 : Int) (a2 : Int) (a3 : Int) (a4 : Int) (a5 : Bool) (a6 : List (Int)) (a7 : Int) (a8 : Int) (a9 : Int) (a10 : Int) (a11 : Int) (a12 : Int) : Option ((Unit) ⊕ (Unit)) :=
 if a7 = a4 then
  some (.inl ())
 else
  if 0 ≤ a7 ∧ a7 < (((a6).length : Nat) : Int) then
   ((some ((a6).getD (a7).toNat (0)))).bind fun c3_ =>
   if a12 = c3_ then
    (m_classHasq1 n a0 a1 a2 a3 a12).bind fun c5_ =>
    if c5_ = true then
     if a7 > (0 : Int) then
      if 0 ≤ (w64 (a7 - (1 : Int))) ∧ (w64 (a7 - (1 : Int))) < (((a6).length : Nat) : Int) then
       ((some ((a6).getD ((w64 (a7 - (1 : Int)))).toNat (0)))).bind fun c9_ =>
       if c9_ ≥ a12 then
        none
       else
        some (.inr ())
      else none
     else
      some (.inr ())
    else
     none
   else
    none
  else none
theorem m_viewportlaw01ClassEach_111010y2_ok (n : Nat) (a0 : Int) (a1 : Int) (a2 : Int) (a3 : Int) (a4 : Int) (a5 : Bool) (a6 : List (Int)) (a7 : Int) (a8 : Int) (a9 : Int) (a10 : Int) (a11 : Int) (a12 : Int) (r : (Unit) ⊕ (Unit)) (h : m_viewportlaw01ClassEach_111010y2 n a0 a1 a2 a3 a4 a5 a6 a7 a8 a9 a10 a11 a12 = some r) : Gv P (.yield 0) (A_viewportlaw01ClassEach_111010y2 a0 a1 a2 a3 a4 a5 a6 a7 a8 a9 a10 a11 a12) (H_viewportlaw01ClassEach_111010y2 a0 a1 a2 a3 a4 a5 a6 a7 a8 a9 a10 a11 a12) (V_viewportlaw01ClassEach_111010y2 a0 a1 a2 a3 a4 a5 a6 a7 a8 a9 a10 a11 a12 r) (R_viewportlaw01ClassEach_111010y2 a0 a1 a2 a3 a4 a5 a6 a7 a8 a9 a10 a11 a12 r) := by
 unfold m_viewportlaw01ClassEach_111010y2 at h
 by_cases hc1 : a7 = a4
 ·rw [if_pos hc1] at h
  obtain rfl := oI h
  exact runY2 hm ⟨[], [(0, 0, false), (1, 1, false), (2, 2, false), (3, 3, false), (4, 4, false), (5, 5, false), (6, 6, true), (7, 7, false), (8, 8, false)], 9, 0, [], false, [], [], []⟩ (ee) (zz 5 (xeT hc1) <|
   ww (rows_flat rwf_y a6 5) <|
   ee) (by kernel_rfl)
 ·rw [if_neg hc1] at h
  obtain ⟨hc2, h⟩ := gd h
  obtain ⟨c3_, hc3, h⟩ := oB h
  have k0 := fun {A L l} (k : PL A L l) => zz 5 (xeF hc1) <|
   zz 12 (xk1 6 U1 hc2) <|
   zz 13 (ok2 hc3 (toNatLt hc2)) <|
   k
  by_cases hc4 : a12 = c3_
  ·rw [if_pos hc4] at h
   obtain ⟨c5_, hc5, h⟩ := oB h
   have k3 := fun {A L l} (k : PL A L l) => zz 14 (xnF hc4) <|
    yy 18 (.call (C_classHasq1 a0 a1 a2 a3 a12 c5_ [] [])) <|
    ww (m_classHasq1_ok n a0 a1 a2 a3 a12 c5_ hc5) <|
    k
   by_cases hc6 : c5_ = true
   ·rw [if_pos hc6] at h
    have k6 := fun {A L l} (k : PL A L l) => yy 19 (vf) <|
     ww (p := (Value.bool (!c5_)) = (Value.bool false)) (vBn hc6) <|
     k
    by_cases hc7 : a7 > (0 : Int)
    ·rw [if_pos hc7] at h
     obtain ⟨hc8, h⟩ := gd h
     obtain ⟨c9_, hc9, h⟩ := oB h
     have k8 := fun {A L l} (k : PL A L l) => zz 23 (xdT hc7) <|
      zz 28 (xk1 6 U1 hc8) <|
      zz 29 (ok2 hc9 (toNatLt hc8)) <|
      k
     by_cases hc10 : c9_ ≥ a12
     ·rw [if_pos hc10] at h
      cases h
     ·rw [if_neg hc10] at h
      obtain rfl := oI h
      exact runY2 hm ⟨[], [(0, 0, false), (1, 1, false), (2, 2, false), (3, 3, false), (4, 4, false), (5, 5, false), (6, 6, true), (7, 7, false), (8, 8, false)], 9, 0, [], false, [], [], []⟩ (ee) (k0 <|
       k3 <|
       k6 <|
       k8 <|
       zz 31 (xdF hc10) <|
       ww (rows_flat rwf_y a6 5) <|
       ee) (by kernel_rfl)
    ·rw [if_neg hc7] at h
     obtain rfl := oI h
     exact runY2 hm ⟨[], [(0, 0, false), (1, 1, false), (2, 2, false), (3, 3, false), (4, 4, false), (5, 5, false), (6, 6, true), (7, 7, false), (8, 8, false)], 9, 0, [], false, [], [], []⟩ (ee) (k0 <|
      k3 <|
      k6 <|
      zz 23 (xdF hc7) <|
      ww (rows_flat rwf_y a6 5) <|
      ee) (by kernel_rfl)
   ·rw [if_neg hc6] at h
    cases h
  ·rw [if_neg hc4] at h
   cases h

def A_classEach1q3 (a0 : Int) (a1 : Int) (a2 : Int) (a3 : Int) (a4 : Int) (a5 : Bool) (a6 : List (Int)) (a7 : Int) (a8 : Int) (a9 : Int) (a10 : Int) (a11 : Int) : List Value := [(Value.func (.yield 0) #[] #[]), (pN 8 0)]
def H_classEach1q3 (a0 : Int) (a1 : Int) (a2 : Int) (a3 : Int) (a4 : Int) (a5 : Bool) (a6 : List (Int)) (a7 : Int) (a8 : Int) (a9 : Int) (a10 : Int) (a11 : Int) : AH := ⟨sB [(0, (some (rblk P 4 [false, true, false, true, true, true, true, true, true, true, true] .ready none [(2, (pN 2 0)), (3, (pN 3 0)), (4, (pN 4 0)), (5, (pN 5 0)), (7, (pN 7 0)), (35, (Value.func (.func 23) #[] #[(pN 8 0)]))] 1))), (1, (some (.marks true))), (2, (some (.cells (layT [(Value.int .u64 a0), (Value.int .u64 a1), (Value.int .u64 a2), (Value.int .u64 a3)]) 24))), (3, (some (.cells (layT [(i6 a4)]) 3))), (4, (some (.cells (layT [(bO a5)]) 4))), (5, (some (.cells (layT [(sN 6 0 (a6).length (Nat.add big 1))]) 35))), (6, (some (.cells (layT (rows rw_y a6)) 5))), (7, (some (.cells (layT [(i6 a7)]) 3))), (8, (some (.cells (layT [(Value.int .u64 a8), (Value.int .u64 a9), (Value.int .u64 a10), (Value.int .u64 a11)]) 24)))], 9, 9⟩
def V_classEach1q3 (a0 : Int) (a1 : Int) (a2 : Int) (a3 : Int) (a4 : Int) (a5 : Bool) (a6 : List (Int)) (a7 : Int) (a8 : Int) (a9 : Int) (a10 : Int) (a11 : Int) (r : (Int) ⊕ (Int)) : Value := match r with
 | .inl o0 => (Value.tuple #[])
 | .inr o0 => (Value.tuple #[])
def R_classEach1q3 (a0 : Int) (a1 : Int) (a2 : Int) (a3 : Int) (a4 : Int) (a5 : Bool) (a6 : List (Int)) (a7 : Int) (a8 : Int) (a9 : Int) (a10 : Int) (a11 : Int) (r : (Int) ⊕ (Int)) : AH := match r with
 | .inl o0 => ⟨sB [(0, (some (rblk P 4 [false, true, false, true, true, true, true, true, true, true, true] .ready none [(2, (pN 2 0)), (3, (pN 3 0)), (4, (pN 4 0)), (5, (pN 5 0)), (7, (pN 7 0)), (35, (Value.func (.func 23) #[] #[(pN 8 0)]))] 1))), (1, (some (.marks true))), (2, (some (.cells (layT [(Value.int .u64 a0), (Value.int .u64 a1), (Value.int .u64 a2), (Value.int .u64 a3)]) 24))), (3, (some (.cells (layT [(i6 a4)]) 3))), (4, (some (.cells (layT [(bO a5)]) 4))), (5, (some (.cells (layT [(sN 6 0 (a6).length (Nat.add big 1))]) 35))), (6, (some (.cells (layT (rows rw_y a6)) 5))), (7, (some (.cells (layT [(i6 o0)]) 3))), (8, (some (.cells (layT [(Value.int .u64 a8), (Value.int .u64 a9), (Value.int .u64 a10), (Value.int .u64 a11)]) 24)))], 9, 0⟩
 | .inr o0 => ⟨sB [(0, (some (rblk P 4 [false, true, false, true, true, true, true, true, true, true, true] .done (some (.exit 0)) [(2, (pN 2 0)), (3, (pN 3 0)), (4, (pN 4 0)), (5, (pN 5 0)), (7, (pN 7 0)), (35, (Value.func (.func 23) #[] #[(pN 8 0)]))] 1))), (1, (some (.marks true))), (2, (some (.cells (layT [(Value.int .u64 a0), (Value.int .u64 a1), (Value.int .u64 a2), (Value.int .u64 a3)]) 24))), (3, (some (.cells (layT [(i6 a4)]) 3))), (4, (some (.cells (layT [(bO a5)]) 4))), (5, (some (.cells (layT [(sN 6 0 (a6).length (Nat.add big 1))]) 35))), (6, (some (.cells (layT (rows rw_y a6)) 5))), (7, (some (.cells (layT [(i6 o0)]) 3))), (8, (some (.cells (layT [(Value.int .u64 a8), (Value.int .u64 a9), (Value.int .u64 a10), (Value.int .u64 a11)]) 24)))], 9, 0⟩
abbrev G_classEach1q3 (a0 : Int) (a1 : Int) (a2 : Int) (a3 : Int) (a4 : Int) (a5 : Bool) (a6 : List (Int)) (a7 : Int) (a8 : Int) (a9 : Int) (a10 : Int) (a11 : Int) (r : (Int) ⊕ (Int)) : Prop := Gv P (.func 23) (A_classEach1q3 a0 a1 a2 a3 a4 a5 a6 a7 a8 a9 a10 a11) (H_classEach1q3 a0 a1 a2 a3 a4 a5 a6 a7 a8 a9 a10 a11) (V_classEach1q3 a0 a1 a2 a3 a4 a5 a6 a7 a8 a9 a10 a11 r) (R_classEach1q3 a0 a1 a2 a3 a4 a5 a6 a7 a8 a9 a10 a11 r)
abbrev C_classEach1q3 (a0 : Int) (a1 : Int) (a2 : Int) (a3 : Int) (a4 : Int) (a5 : Bool) (a6 : List (Int)) (a7 : Int) (a8 : Int) (a9 : Int) (a10 : Int) (a11 : Int) (r : (Int) ⊕ (Int)) (ins outs : BL) : CallA := ⟨9, ins, V_classEach1q3 a0 a1 a2 a3 a4 a5 a6 a7 a8 a9 a10 a11 r, R_classEach1q3 a0 a1 a2 a3 a4 a5 a6 a7 a8 a9 a10 a11 r, outs⟩
def S_classEach1q3_1 (x1_0 : Int) (x1_1 : Int) (x1_2 : Int) (x1_3 : Int) (x1_4 : Int) (x1_5 : Bool) (x1_6 : List (Int)) (x1_8 : Int) (x1_9 : Int) (x1_10 : Int) (x1_11 : Int) (x1_12 : Int) (st : Int × Int) : XSt := match st with
 | (x1_7, x1_13) => (sT 26 [(0, (Value.func (.yield 0) #[] #[])), (3, (i6 x1_12)), (4, (Value.int .u64 x1_13)), (5, (Value.agg #[(Value.int .u64 x1_8), (Value.int .u64 x1_9), (Value.int .u64 x1_10), (Value.int .u64 x1_11)])), (6, (i6 x1_12))], [], ⟨sB [(0, (some (rblk P 4 [false, true, false, true, true, true, true, true, true, true, true] .ready none [(2, (pN 2 0)), (3, (pN 3 0)), (4, (pN 4 0)), (5, (pN 5 0)), (7, (pN 7 0)), (35, (Value.func (.func 23) #[] #[(pN 8 0)]))] 1))), (1, (some (.marks true))), (2, (some (.cells (layT [(Value.int .u64 x1_0), (Value.int .u64 x1_1), (Value.int .u64 x1_2), (Value.int .u64 x1_3)]) 24))), (3, (some (.cells (layT [(i6 x1_4)]) 3))), (4, (some (.cells (layT [(bO x1_5)]) 4))), (5, (some (.cells (layT [(sN 6 0 (x1_6).length (Nat.add big 1))]) 35))), (6, (some (.cells (layT (rows rw_y x1_6)) 5))), (7, (some (.cells (layT [(i6 x1_7)]) 3))), (8, (some (.cells (layT [(Value.int .u64 x1_8), (Value.int .u64 x1_9), (Value.int .u64 x1_10), (Value.int .u64 x1_11)]) 24)))], 9, 0⟩)
def X_classEach1q3_1 (x1_0 : Int) (x1_1 : Int) (x1_2 : Int) (x1_3 : Int) (x1_4 : Int) (x1_5 : Bool) (x1_6 : List (Int)) (x1_8 : Int) (x1_9 : Int) (x1_10 : Int) (x1_11 : Int) (x1_12 : Int) (r : (Int) ⊕ (Int)) : Ex × XSt := match r with
 | .inl z1_0 => (.exit 2, (sT 26 [(0, (Value.func (.yield 0) #[] #[])), (5, (Value.agg #[(Value.int .u64 x1_8), (Value.int .u64 x1_9), (Value.int .u64 x1_10), (Value.int .u64 x1_11)])), (6, (i6 x1_12))], [], ⟨sB [(0, (some (rblk P 4 [false, true, false, true, true, true, true, true, true, true, true] .ready none [(2, (pN 2 0)), (3, (pN 3 0)), (4, (pN 4 0)), (5, (pN 5 0)), (7, (pN 7 0)), (35, (Value.func (.func 23) #[] #[(pN 8 0)]))] 1))), (1, (some (.marks true))), (2, (some (.cells (layT [(Value.int .u64 x1_0), (Value.int .u64 x1_1), (Value.int .u64 x1_2), (Value.int .u64 x1_3)]) 24))), (3, (some (.cells (layT [(i6 x1_4)]) 3))), (4, (some (.cells (layT [(bO x1_5)]) 4))), (5, (some (.cells (layT [(sN 6 0 (x1_6).length (Nat.add big 1))]) 35))), (6, (some (.cells (layT (rows rw_y x1_6)) 5))), (7, (some (.cells (layT [(i6 z1_0)]) 3))), (8, (some (.cells (layT [(Value.int .u64 x1_8), (Value.int .u64 x1_9), (Value.int .u64 x1_10), (Value.int .u64 x1_11)]) 24)))], 9, 0⟩))
 | .inr z1_0 => (.ret, (sT 26 [], [], ⟨sB [(0, (some (rblk P 4 [false, true, false, true, true, true, true, true, true, true, true] .done (some (.exit 0)) [(2, (pN 2 0)), (3, (pN 3 0)), (4, (pN 4 0)), (5, (pN 5 0)), (7, (pN 7 0)), (35, (Value.func (.func 23) #[] #[(pN 8 0)]))] 1))), (1, (some (.marks true))), (2, (some (.cells (layT [(Value.int .u64 x1_0), (Value.int .u64 x1_1), (Value.int .u64 x1_2), (Value.int .u64 x1_3)]) 24))), (3, (some (.cells (layT [(i6 x1_4)]) 3))), (4, (some (.cells (layT [(bO x1_5)]) 4))), (5, (some (.cells (layT [(sN 6 0 (x1_6).length (Nat.add big 1))]) 35))), (6, (some (.cells (layT (rows rw_y x1_6)) 5))), (7, (some (.cells (layT [(i6 z1_0)]) 3))), (8, (some (.cells (layT [(Value.int .u64 x1_8), (Value.int .u64 x1_9), (Value.int .u64 x1_10), (Value.int .u64 x1_11)]) 24)))], 9, 0⟩))
abbrev Q_classEach1q3_1 (rnd : Option Nat) (x1_0 : Int) (x1_1 : Int) (x1_2 : Int) (x1_3 : Int) (x1_4 : Int) (x1_5 : Bool) (x1_6 : List (Int)) (x1_8 : Int) (x1_9 : Int) (x1_10 : Int) (x1_11 : Int) (x1_12 : Int) (st : Int × Int) (c : Ex × XSt) : Prop := CG P rnd (fnN P 23) 9 (codeOf P 23 [false, false, true, false, false, true, true, false, false, true]) (S_classEach1q3_1 x1_0 x1_1 x1_2 x1_3 x1_4 x1_5 x1_6 x1_8 x1_9 x1_10 x1_11 x1_12 st) c
abbrev U_classEach1q3_1 (rd : Option Nat) (x1_0 : Int) (x1_1 : Int) (x1_2 : Int) (x1_3 : Int) (x1_4 : Int) (x1_5 : Bool) (x1_6 : List (Int)) (x1_8 : Int) (x1_9 : Int) (x1_10 : Int) (x1_11 : Int) (x1_12 : Int) (st : Int × Int) (r : (Int) ⊕ (Int)) : Prop := CG P rd (fnN P 23) 9 (codeOf P 23 [false, true, false, false, true, true, false, false, true]) (S_classEach1q3_1 x1_0 x1_1 x1_2 x1_3 x1_4 x1_5 x1_6 x1_8 x1_9 x1_10 x1_11 x1_12 st) (X_classEach1q3_1 x1_0 x1_1 x1_2 x1_3 x1_4 x1_5 x1_6 x1_8 x1_9 x1_10 x1_11 x1_12 r)
def B_classEach1q3_1 (n : Nat) (x1_0 : Int) (x1_1 : Int) (x1_2 : Int) (x1_3 : Int) (x1_4 : Int) (x1_5 : Bool) (x1_6 : List (Int)) (x1_8 : Int) (x1_9 : Int) (x1_10 : Int) (x1_11 : Int) (x1_12 : Int) (st : Int × Int) : Option ((Int × Int) ⊕ ((Int) ⊕ (Int))) := match st with
 | (x1_7, x1_13) =>
  if x1_13 = (0 : Int) then
   some (.inr (.inl x1_7))
  else
   (m_bitsTrailingZeros64q1 n x1_13).bind fun y1_2_ =>
   ((some (w64 ((w64 (x1_12 * (64 : Int))) + y1_2_)))).bind fun y1_3_ =>
   match m_viewportlaw01ClassEach_111010y2 n x1_0 x1_1 x1_2 x1_3 x1_4 x1_5 x1_6 x1_7 x1_8 x1_9 x1_10 x1_11 (IntKind.u8.wrap y1_3_) with
   | none => none
   | some (.inl _) =>
    some (.inr (.inr x1_7))
   | some (.inr _) =>
    some (.inl ((w64 (x1_7 + (1 : Int))), (bAnd .u64 x1_13 (IntKind.u64.wrap (x1_13 - (1 : Int))))))
def m_classEach1q3_1 (n : Nat) (x1_0 : Int) (x1_1 : Int) (x1_2 : Int) (x1_3 : Int) (x1_4 : Int) (x1_5 : Bool) (x1_6 : List (Int)) (x1_8 : Int) (x1_9 : Int) (x1_10 : Int) (x1_11 : Int) (x1_12 : Int) (st : Int × Int) : Option ((Int) ⊕ (Int)) := iterM (B_classEach1q3_1 n x1_0 x1_1 x1_2 x1_3 x1_4 x1_5 x1_6 x1_8 x1_9 x1_10 x1_11 x1_12) n st
theorem b_classEach1q3_1 (n : Nat) {rnd : Option Nat} (x1_0 : Int) (x1_1 : Int) (x1_2 : Int) (x1_3 : Int) (x1_4 : Int) (x1_5 : Bool) (x1_6 : List (Int)) (x1_8 : Int) (x1_9 : Int) (x1_10 : Int) (x1_11 : Int) (x1_12 : Int) (st : Int × Int) (o : (Int × Int) ⊕ ((Int) ⊕ (Int))) (h : B_classEach1q3_1 n x1_0 x1_1 x1_2 x1_3 x1_4 x1_5 x1_6 x1_8 x1_9 x1_10 x1_11 x1_12 st = some o) : CG P rnd (fnN P 23) 9 (codeOf P 23 [false, false, true, false, false, true, true, false, false, true]) (S_classEach1q3_1 x1_0 x1_1 x1_2 x1_3 x1_4 x1_5 x1_6 x1_8 x1_9 x1_10 x1_11 x1_12 st) (Sum.elim (fun s => (.normal, S_classEach1q3_1 x1_0 x1_1 x1_2 x1_3 x1_4 x1_5 x1_6 x1_8 x1_9 x1_10 x1_11 x1_12 s)) (fun r => X_classEach1q3_1 x1_0 x1_1 x1_2 x1_3 x1_4 x1_5 x1_6 x1_8 x1_9 x1_10 x1_11 x1_12 r) o) := by
 obtain ⟨x1_7, x1_13⟩ := st
 unfold B_classEach1q3_1 at h
 dsimp only at h
 by_cases hy1_1 : x1_13 = (0 : Int)
 ·rw [if_pos hy1_1] at h
  obtain rfl := oI h
  exact runC2 hm ⟨[0, 5, 6], [(0, 0, false), (1, 1, false), (2, 2, false), (3, 3, false), (4, 4, false), (5, 5, false), (6, 6, true), (7, 7, false), (8, 8, false)], 9, 0, [], false, [], [], []⟩ (zz 3 (xnF hy1_1) <|
   ww (rows_flat rwf_y x1_6 5) <|
   ee) (by kernel_rfl)
 ·rw [if_neg hy1_1] at h
  obtain ⟨y1_2_, hy1_2, h⟩ := oB h
  obtain ⟨y1_3_, hy1_3, h⟩ := oB h
  have k0 := fun {A L l} (k : PL A L l) => zz 3 (xnT hy1_1) <|
   yy 12 (.call (C_bitsTrailingZeros64q1 x1_13 y1_2_ [] [])) <|
   ww (m_bitsTrailingZeros64q1_ok n x1_13 y1_2_ hy1_2) <|
   zz 13 (xnm hy1_3) <|
   k
  rcases hy1_4 : m_viewportlaw01ClassEach_111010y2 n x1_0 x1_1 x1_2 x1_3 x1_4 x1_5 x1_6 x1_7 x1_8 x1_9 x1_10 x1_11 (IntKind.u8.wrap y1_3_) with _ | (⟨⟩ | ⟨⟩)
  ·rw [hy1_4] at h; cases h
  ·rw [hy1_4] at h
   dsimp only at h
   obtain rfl := oI h
   exact runC2 hm ⟨[], [(0, 0, false), (1, 1, false), (2, 2, false), (3, 3, false), (4, 4, false), (5, 5, false), (6, 6, true), (7, 7, false), (8, 8, false)], 9, 0, [], false, [], [], []⟩ (k0 <|
    yy 15 (.call (C_viewportlaw01ClassEach_111010y2 x1_0 x1_1 x1_2 x1_3 x1_4 x1_5 x1_6 x1_7 x1_8 x1_9 x1_10 x1_11 (IntKind.u8.wrap y1_3_) (.inl ()) [(0, 0, false), (1, 1, false), (2, 2, false), (3, 3, false), (4, 4, false), (5, 5, false), (6, 6, true), (7, 7, false), (8, 8, false)] [(0, 0, false), (1, 1, false), (2, 2, false), (3, 3, false), (4, 4, false), (5, 5, false), (6, 6, true), (7, 7, false), (8, 8, false)])) <|
    ww (m_viewportlaw01ClassEach_111010y2_ok n x1_0 x1_1 x1_2 x1_3 x1_4 x1_5 x1_6 x1_7 x1_8 x1_9 x1_10 x1_11 (IntKind.u8.wrap y1_3_) (.inl ()) hy1_4) <|
    ww (rows_flat rwf_y x1_6 5) <|
    ww (rows_flat rwf_y x1_6 5) <|
    ww (rows_flat rwf_y x1_6 5) <|
    ee) (by kernel_rfl)
  ·rw [hy1_4] at h
   dsimp only at h
   obtain rfl := oI h
   exact runC2 hm ⟨[0, 3, 4, 5, 6], [(0, 0, false), (1, 1, false), (2, 2, false), (3, 3, false), (4, 4, false), (5, 5, false), (6, 6, true), (7, 7, false), (8, 8, false)], 9, 0, [], false, [], [], []⟩ (k0 <|
    yy 15 (.call (C_viewportlaw01ClassEach_111010y2 x1_0 x1_1 x1_2 x1_3 x1_4 x1_5 x1_6 x1_7 x1_8 x1_9 x1_10 x1_11 (IntKind.u8.wrap y1_3_) (.inr ()) [(0, 0, false), (1, 1, false), (2, 2, false), (3, 3, false), (4, 4, false), (5, 5, false), (6, 6, true), (7, 7, false), (8, 8, false)] [(0, 0, false), (1, 1, false), (2, 2, false), (3, 3, false), (4, 4, false), (5, 5, false), (6, 6, true), (7, 7, false), (8, 8, false)])) <|
    ww (m_viewportlaw01ClassEach_111010y2_ok n x1_0 x1_1 x1_2 x1_3 x1_4 x1_5 x1_6 x1_7 x1_8 x1_9 x1_10 x1_11 (IntKind.u8.wrap y1_3_) (.inr ()) hy1_4) <|
    ww (rows_flat rwf_y x1_6 5) <|
    ww (rows_flat rwf_y x1_6 5) <|
    ww (rows_flat rwf_y x1_6 5) <|
    ee) (by kernel_rfl)
theorem m_classEach1q3_1_ok (n : Nat) {rnd : Option Nat} (x1_0 : Int) (x1_1 : Int) (x1_2 : Int) (x1_3 : Int) (x1_4 : Int) (x1_5 : Bool) (x1_6 : List (Int)) (x1_8 : Int) (x1_9 : Int) (x1_10 : Int) (x1_11 : Int) (x1_12 : Int) (st : Int × Int) (r : (Int) ⊕ (Int)) (h : m_classEach1q3_1 n x1_0 x1_1 x1_2 x1_3 x1_4 x1_5 x1_6 x1_8 x1_9 x1_10 x1_11 x1_12 st = some r) : CG P rnd (fnN P 23) 9 (codeOf P 23 [false, true, false, false, true, true, false, false, true]) (S_classEach1q3_1 x1_0 x1_1 x1_2 x1_3 x1_4 x1_5 x1_6 x1_8 x1_9 x1_10 x1_11 x1_12 st) (X_classEach1q3_1 x1_0 x1_1 x1_2 x1_3 x1_4 x1_5 x1_6 x1_8 x1_9 x1_10 x1_11 x1_12 r) :=
 CG.iter (b := codeOf P 23 [false, false, true, false, false, true, true, false, false, true]) (by kernel_rfl) (body := B_classEach1q3_1 n x1_0 x1_1 x1_2 x1_3 x1_4 x1_5 x1_6 x1_8 x1_9 x1_10 x1_11 x1_12) (S := S_classEach1q3_1 x1_0 x1_1 x1_2 x1_3 x1_4 x1_5 x1_6 x1_8 x1_9 x1_10 x1_11 x1_12) (X := X_classEach1q3_1 x1_0 x1_1 x1_2 x1_3 x1_4 x1_5 x1_6 x1_8 x1_9 x1_10 x1_11 x1_12)
  (fun s s' h => b_classEach1q3_1 n x1_0 x1_1 x1_2 x1_3 x1_4 x1_5 x1_6 x1_8 x1_9 x1_10 x1_11 x1_12 s (.inl s') h)
  (fun s r h => b_classEach1q3_1 n x1_0 x1_1 x1_2 x1_3 x1_4 x1_5 x1_6 x1_8 x1_9 x1_10 x1_11 x1_12 s (.inr r) h)
  (fun r => by intro hx; rcases r with _ | _ <;> cases hx) h
def m_classEach1q3 (n : Nat) (a0 : Int) (a1 : Int) (a2 : Int) (a3 : Int) (a4 : Int) (a5 : Bool) (a6 : List (Int)) (a7 : Int) (a8 : Int) (a9 : Int) (a10 : Int) (a11 : Int) : Option ((Int) ⊕ (Int)) :=
 match m_classEach1q3_1 n a0 a1 a2 a3 a4 a5 a6 a8 a9 a10 a11 0 (a7, a8) with
 | none => none
 | some (.inl c1_) =>
  match m_classEach1q3_1 n a0 a1 a2 a3 a4 a5 a6 a8 a9 a10 a11 1 (c1_, a9) with
  | none => none
  | some (.inl c2_) =>
   match m_classEach1q3_1 n a0 a1 a2 a3 a4 a5 a6 a8 a9 a10 a11 2 (c2_, a10) with
   | none => none
   | some (.inl c3_) =>
    match m_classEach1q3_1 n a0 a1 a2 a3 a4 a5 a6 a8 a9 a10 a11 3 (c3_, a11) with
    | none => none
    | some (.inl c4_) =>
     some (.inl c4_)
    | some (.inr c4_) =>
     some (.inr c4_)
   | some (.inr c3_) =>
    some (.inr c3_)
  | some (.inr c2_) =>
   some (.inr c2_)
 | some (.inr c1_) =>
  some (.inr c1_)
theorem m_classEach1q3_ok (n : Nat) (a0 : Int) (a1 : Int) (a2 : Int) (a3 : Int) (a4 : Int) (a5 : Bool) (a6 : List (Int)) (a7 : Int) (a8 : Int) (a9 : Int) (a10 : Int) (a11 : Int) (r : (Int) ⊕ (Int)) (h : m_classEach1q3 n a0 a1 a2 a3 a4 a5 a6 a7 a8 a9 a10 a11 = some r) : Gv P (.func 23) (A_classEach1q3 a0 a1 a2 a3 a4 a5 a6 a7 a8 a9 a10 a11) (H_classEach1q3 a0 a1 a2 a3 a4 a5 a6 a7 a8 a9 a10 a11) (V_classEach1q3 a0 a1 a2 a3 a4 a5 a6 a7 a8 a9 a10 a11 r) (R_classEach1q3 a0 a1 a2 a3 a4 a5 a6 a7 a8 a9 a10 a11 r) := by
 unfold m_classEach1q3 at h
 rcases hc1 : m_classEach1q3_1 n a0 a1 a2 a3 a4 a5 a6 a8 a9 a10 a11 0 (a7, a8) with _ | (c1_ | c1_)
 ·rw [hc1] at h; cases h
 ·rw [hc1] at h
  dsimp only at h
  have k0 := fun {A L l} (k : PL A L l) => ww (p := U_classEach1q3_1 none a0 a1 a2 a3 a4 a5 a6 a8 a9 a10 a11 0 (a7, a8) (.inl c1_)) (m_classEach1q3_1_ok n a0 a1 a2 a3 a4 a5 a6 a8 a9 a10 a11 0 (a7, a8) (.inl c1_) hc1) <|
   ww (rows_flat rwf_y a6 5) <|
   ll 17 ⟨⟨[0, 3, 4, 5, 6], [(0, 0, false), (1, 1, false), (2, 2, false), (3, 3, false), (4, 4, false), (5, 5, false), (6, 6, true), (7, 7, false), (8, 8, false)], 9, 0, [], false, [], [], []⟩, (X_classEach1q3_1 a0 a1 a2 a3 a4 a5 a6 a8 a9 a10 a11 0 (.inl c1_)).1, (X_classEach1q3_1 a0 a1 a2 a3 a4 a5 a6 a8 a9 a10 a11 0 (.inl c1_)).2⟩ <|
   k
  rcases hc2 : m_classEach1q3_1 n a0 a1 a2 a3 a4 a5 a6 a8 a9 a10 a11 1 (c1_, a9) with _ | (c2_ | c2_)
  ·rw [hc2] at h; cases h
  ·rw [hc2] at h
   dsimp only at h
   have k3 := fun {A L l} (k : PL A L l) => ww (p := U_classEach1q3_1 none a0 a1 a2 a3 a4 a5 a6 a8 a9 a10 a11 1 (c1_, a9) (.inl c2_)) (m_classEach1q3_1_ok n a0 a1 a2 a3 a4 a5 a6 a8 a9 a10 a11 1 (c1_, a9) (.inl c2_) hc2) <|
    ww (rows_flat rwf_y a6 5) <|
    ll 33 ⟨⟨[0, 3, 4, 5, 6], [(0, 0, false), (1, 1, false), (2, 2, false), (3, 3, false), (4, 4, false), (5, 5, false), (6, 6, true), (7, 7, false), (8, 8, false)], 9, 0, [], false, [], [], []⟩, (X_classEach1q3_1 a0 a1 a2 a3 a4 a5 a6 a8 a9 a10 a11 1 (.inl c2_)).1, (X_classEach1q3_1 a0 a1 a2 a3 a4 a5 a6 a8 a9 a10 a11 1 (.inl c2_)).2⟩ <|
    k
   rcases hc3 : m_classEach1q3_1 n a0 a1 a2 a3 a4 a5 a6 a8 a9 a10 a11 2 (c2_, a10) with _ | (c3_ | c3_)
   ·rw [hc3] at h; cases h
   ·rw [hc3] at h
    dsimp only at h
    have k6 := fun {A L l} (k : PL A L l) => ww (p := U_classEach1q3_1 none a0 a1 a2 a3 a4 a5 a6 a8 a9 a10 a11 2 (c2_, a10) (.inl c3_)) (m_classEach1q3_1_ok n a0 a1 a2 a3 a4 a5 a6 a8 a9 a10 a11 2 (c2_, a10) (.inl c3_) hc3) <|
     ww (rows_flat rwf_y a6 5) <|
     ll 49 ⟨⟨[0, 3, 4, 5, 6], [(0, 0, false), (1, 1, false), (2, 2, false), (3, 3, false), (4, 4, false), (5, 5, false), (6, 6, true), (7, 7, false), (8, 8, false)], 9, 0, [], false, [], [], []⟩, (X_classEach1q3_1 a0 a1 a2 a3 a4 a5 a6 a8 a9 a10 a11 2 (.inl c3_)).1, (X_classEach1q3_1 a0 a1 a2 a3 a4 a5 a6 a8 a9 a10 a11 2 (.inl c3_)).2⟩ <|
     k
    rcases hc4 : m_classEach1q3_1 n a0 a1 a2 a3 a4 a5 a6 a8 a9 a10 a11 3 (c3_, a11) with _ | (c4_ | c4_)
    ·rw [hc4] at h; cases h
    ·rw [hc4] at h
     dsimp only at h
     obtain rfl := oI h
     exact runF2 hm ⟨[], [(0, 0, false), (1, 1, false), (2, 2, false), (3, 3, false), (4, 4, false), (5, 5, false), (6, 6, true), (7, 7, false), (8, 8, false)], 9, 0, [], false, [], [], []⟩ (k0 <|
      k3 <|
      k6 <|
      ww (p := U_classEach1q3_1 none a0 a1 a2 a3 a4 a5 a6 a8 a9 a10 a11 3 (c3_, a11) (.inl c4_)) (m_classEach1q3_1_ok n a0 a1 a2 a3 a4 a5 a6 a8 a9 a10 a11 3 (c3_, a11) (.inl c4_) hc4) <|
      ww (rows_flat rwf_y a6 5) <|
      ll 65 ⟨⟨[0, 3, 4, 5, 6], [(0, 0, false), (1, 1, false), (2, 2, false), (3, 3, false), (4, 4, false), (5, 5, false), (6, 6, true), (7, 7, false), (8, 8, false)], 9, 0, [], false, [], [], []⟩, (X_classEach1q3_1 a0 a1 a2 a3 a4 a5 a6 a8 a9 a10 a11 3 (.inl c4_)).1, (X_classEach1q3_1 a0 a1 a2 a3 a4 a5 a6 a8 a9 a10 a11 3 (.inl c4_)).2⟩ <|
      ww (rows_flat rwf_y a6 5) <|
      ee) (by kernel_rfl)
    ·rw [hc4] at h
     dsimp only at h
     obtain rfl := oI h
     exact runF2 hm ⟨[], [(0, 0, false), (1, 1, false), (2, 2, false), (3, 3, false), (4, 4, false), (5, 5, false), (6, 6, true), (7, 7, false), (8, 8, false)], 9, 0, [], false, [], [], []⟩ (k0 <|
      k3 <|
      k6 <|
      ww (p := U_classEach1q3_1 none a0 a1 a2 a3 a4 a5 a6 a8 a9 a10 a11 3 (c3_, a11) (.inr c4_)) (m_classEach1q3_1_ok n a0 a1 a2 a3 a4 a5 a6 a8 a9 a10 a11 3 (c3_, a11) (.inr c4_) hc4) <|
      ww (rows_flat rwf_y a6 5) <|
      ll 65 ⟨⟨[0, 3, 4, 5, 6], [(0, 0, false), (1, 1, false), (2, 2, false), (3, 3, false), (4, 4, false), (5, 5, false), (6, 6, true), (7, 7, false), (8, 8, false)], 9, 0, [], false, [], [], []⟩, (X_classEach1q3_1 a0 a1 a2 a3 a4 a5 a6 a8 a9 a10 a11 3 (.inr c4_)).1, (X_classEach1q3_1 a0 a1 a2 a3 a4 a5 a6 a8 a9 a10 a11 3 (.inr c4_)).2⟩ <|
      ww (rows_flat rwf_y a6 5) <|
      ee) (by kernel_rfl)
   ·rw [hc3] at h
    dsimp only at h
    obtain rfl := oI h
    exact runF2 hm ⟨[], [(0, 0, false), (1, 1, false), (2, 2, false), (3, 3, false), (4, 4, false), (5, 5, false), (6, 6, true), (7, 7, false), (8, 8, false)], 9, 0, [], false, [], [], []⟩ (k0 <|
     k3 <|
     ww (p := U_classEach1q3_1 none a0 a1 a2 a3 a4 a5 a6 a8 a9 a10 a11 2 (c2_, a10) (.inr c3_)) (m_classEach1q3_1_ok n a0 a1 a2 a3 a4 a5 a6 a8 a9 a10 a11 2 (c2_, a10) (.inr c3_) hc3) <|
     ww (rows_flat rwf_y a6 5) <|
     ll 49 ⟨⟨[0, 3, 4, 5, 6], [(0, 0, false), (1, 1, false), (2, 2, false), (3, 3, false), (4, 4, false), (5, 5, false), (6, 6, true), (7, 7, false), (8, 8, false)], 9, 0, [], false, [], [], []⟩, (X_classEach1q3_1 a0 a1 a2 a3 a4 a5 a6 a8 a9 a10 a11 2 (.inr c3_)).1, (X_classEach1q3_1 a0 a1 a2 a3 a4 a5 a6 a8 a9 a10 a11 2 (.inr c3_)).2⟩ <|
     ww (rows_flat rwf_y a6 5) <|
     ee) (by kernel_rfl)
  ·rw [hc2] at h
   dsimp only at h
   obtain rfl := oI h
   exact runF2 hm ⟨[], [(0, 0, false), (1, 1, false), (2, 2, false), (3, 3, false), (4, 4, false), (5, 5, false), (6, 6, true), (7, 7, false), (8, 8, false)], 9, 0, [], false, [], [], []⟩ (k0 <|
    ww (p := U_classEach1q3_1 none a0 a1 a2 a3 a4 a5 a6 a8 a9 a10 a11 1 (c1_, a9) (.inr c2_)) (m_classEach1q3_1_ok n a0 a1 a2 a3 a4 a5 a6 a8 a9 a10 a11 1 (c1_, a9) (.inr c2_) hc2) <|
    ww (rows_flat rwf_y a6 5) <|
    ll 33 ⟨⟨[0, 3, 4, 5, 6], [(0, 0, false), (1, 1, false), (2, 2, false), (3, 3, false), (4, 4, false), (5, 5, false), (6, 6, true), (7, 7, false), (8, 8, false)], 9, 0, [], false, [], [], []⟩, (X_classEach1q3_1 a0 a1 a2 a3 a4 a5 a6 a8 a9 a10 a11 1 (.inr c2_)).1, (X_classEach1q3_1 a0 a1 a2 a3 a4 a5 a6 a8 a9 a10 a11 1 (.inr c2_)).2⟩ <|
    ww (rows_flat rwf_y a6 5) <|
    ee) (by kernel_rfl)
 ·rw [hc1] at h
  dsimp only at h
  obtain rfl := oI h
  exact runF2 hm ⟨[], [(0, 0, false), (1, 1, false), (2, 2, false), (3, 3, false), (4, 4, false), (5, 5, false), (6, 6, true), (7, 7, false), (8, 8, false)], 9, 0, [], false, [], [], []⟩ (ww (p := U_classEach1q3_1 none a0 a1 a2 a3 a4 a5 a6 a8 a9 a10 a11 0 (a7, a8) (.inr c1_)) (m_classEach1q3_1_ok n a0 a1 a2 a3 a4 a5 a6 a8 a9 a10 a11 0 (a7, a8) (.inr c1_) hc1) <|
   ww (rows_flat rwf_y a6 5) <|
   ll 17 ⟨⟨[0, 3, 4, 5, 6], [(0, 0, false), (1, 1, false), (2, 2, false), (3, 3, false), (4, 4, false), (5, 5, false), (6, 6, true), (7, 7, false), (8, 8, false)], 9, 0, [], false, [], [], []⟩, (X_classEach1q3_1 a0 a1 a2 a3 a4 a5 a6 a8 a9 a10 a11 0 (.inr c1_)).1, (X_classEach1q3_1 a0 a1 a2 a3 a4 a5 a6 a8 a9 a10 a11 0 (.inr c1_)).2⟩ <|
   ww (rows_flat rwf_y a6 5) <|
   ee) (by kernel_rfl)

def A_viewportlaw01ClassEach (g00 : Int) (g01 : Int) (g02 : Int) (g03 : Int) (g1 : Int) : List Value := [(Value.agg #[(Value.int .u64 g00), (Value.int .u64 g01), (Value.int .u64 g02), (Value.int .u64 g03)]), (i6 g1)]
def H_viewportlaw01ClassEach (g00 : Int) (g01 : Int) (g02 : Int) (g03 : Int) (g1 : Int) : AH := ⟨sB [], 0, 0⟩
def V_viewportlaw01ClassEach (g00 : Int) (g01 : Int) (g02 : Int) (g03 : Int) (g1 : Int) (r : Unit) : Value := match r with
 | _ => (bO true)
def R_viewportlaw01ClassEach (g00 : Int) (g01 : Int) (g02 : Int) (g03 : Int) (g1 : Int) (r : Unit) : AH := match r with
 | _ => ⟨sB [(0, (some (.marks false))), (1, (some (.cells (layT [(bO true)]) 4)))], 2, 0⟩
abbrev G_viewportlaw01ClassEach (g00 : Int) (g01 : Int) (g02 : Int) (g03 : Int) (g1 : Int) (r : Unit) : Prop := Gv P (.func 4) (A_viewportlaw01ClassEach g00 g01 g02 g03 g1) (H_viewportlaw01ClassEach g00 g01 g02 g03 g1) (V_viewportlaw01ClassEach g00 g01 g02 g03 g1 r) (R_viewportlaw01ClassEach g00 g01 g02 g03 g1 r)
abbrev C_viewportlaw01ClassEach (g00 : Int) (g01 : Int) (g02 : Int) (g03 : Int) (g1 : Int) (r : Unit) (ins outs : BL) : CallA := ⟨0, ins, V_viewportlaw01ClassEach g00 g01 g02 g03 g1 r, R_viewportlaw01ClassEach g00 g01 g02 g03 g1 r, outs⟩
def m_viewportlaw01ClassEach (n : Nat) (g00 : Int) (g01 : Int) (g02 : Int) (g03 : Int) (g1 : Int) : Option (Unit) :=
 (m_viewportlaw01lives n).bind fun _ =>
 (m_viewportlaw01allq1 n g00 g01 g02 g03).bind fun t => match t with
 | (c2_0, c2_1) =>
  match c2_0 with
  | [] =>
   if c2_1 = true then
    (m_classLenq1 n g00 g01 g02 g03).bind fun c4_ =>
    if (0 : Int) = c4_ then
     (m_viewportkitPickq1 n g1 1).bind fun c6_ =>
     (m_classEachq1 n g00 g01 g02 g03).bind fun _ =>
     match m_classEach1q2 n g00 g01 g02 g03 c6_ false 0 g00 g01 g02 g03 with
     | none => none
     | some (.inl _) =>
      if 0 = c6_ then
       some ()
      else
       none
     | some (.inr _) =>
      if 0 = c6_ then
       some ()
      else
       none
    else
     none
   else
    none
  | c2_0a :: c2_0t =>
   if c2_1 = true then
    (m_classLenq1 n g00 g01 g02 g03).bind fun c4_ =>
    if ((((c2_0a :: c2_0t)).length : Nat) : Int) = c4_ then
     ((some (w64 (((((c2_0a :: c2_0t)).length : Nat) : Int) + (1 : Int))))).bind fun c6_ =>
     (m_viewportkitPickq1 n g1 c6_).bind fun c7_ =>
     (m_classEachq1 n g00 g01 g02 g03).bind fun _ =>
     match m_classEach1q3 n g00 g01 g02 g03 c7_ false (c2_0a :: c2_0t) 0 g00 g01 g02 g03 with
     | none => none
     | some (.inl c9_) =>
      if c9_ = c7_ then
       some ()
      else
       none
     | some (.inr c9_) =>
      if c9_ = c7_ then
       some ()
      else
       none
    else
     none
   else
    none
theorem m_viewportlaw01ClassEach_ok (n : Nat) (g00 : Int) (g01 : Int) (g02 : Int) (g03 : Int) (g1 : Int) (r : Unit) (h : m_viewportlaw01ClassEach n g00 g01 g02 g03 g1 = some r) : Gv P (.func 4) (A_viewportlaw01ClassEach g00 g01 g02 g03 g1) (H_viewportlaw01ClassEach g00 g01 g02 g03 g1) (V_viewportlaw01ClassEach g00 g01 g02 g03 g1 r) (R_viewportlaw01ClassEach g00 g01 g02 g03 g1 r) := by
 unfold m_viewportlaw01ClassEach at h
 obtain ⟨_, hc1, h⟩ := oB h
 obtain ⟨⟨c2_0, c2_1⟩, hc2, h⟩ := oB h
 dsimp only at h
 have k0 := fun {A L l} (k : PL A L l) => yy 6 (.call ⟨0, [], (Value.bool true), Ax.h0, []⟩) <|
  ww (m_viewportlaw01lives_ok n  () hc1) <|
  k
 cases c2_0 with
 | nil =>
  dsimp only at h
  have k2 := fun {A L l} (k : PL A L l) => yy 11 (.call (C_viewportlaw01allq1 g00 g01 g02 g03 (([] : List (Int)), c2_1) [] [(4, 1, false), (6, 3, false)])) <|
   ww (m_viewportlaw01allq1_ok n g00 g01 g02 g03 (([] : List (Int)), c2_1) hc2) <|
   k
  by_cases hc3 : c2_1 = true
  ·rw [if_pos hc3] at h
   obtain ⟨c4_, hc4, h⟩ := oB h
   have k4 := fun {A L l} (k : PL A L l) => yy 21 (vf) <|
    ww (p := (Value.bool (!c2_1)) = (Value.bool false)) (vBn hc3) <|
    yy 26 (.call (C_classLenq1 g00 g01 g02 g03 c4_ [] [])) <|
    ww (m_classLenq1_ok n g00 g01 g02 g03 c4_ hc4) <|
    k
   by_cases hc5 : (0 : Int) = c4_
   ·rw [if_pos hc5] at h
    obtain ⟨c6_, hc6, h⟩ := oB h
    obtain ⟨_, hc7, h⟩ := oB h
    have k8 := fun {A L l} (k : PL A L l) => zz 27 (xnF hc5) <|
     yy 35 (.call (C_viewportkitPickq1 g1 1 c6_ [] [])) <|
     ww (m_viewportkitPickq1_ok n g1 1 c6_ hc6) <|
     yy 42 (.call (C_classEachq1 g00 g01 g02 g03 () [] [(9, 0, false)])) <|
     ww (m_classEachq1_ok n g00 g01 g02 g03 () hc7) <|
     k
    rcases hc8 : m_classEach1q2 n g00 g01 g02 g03 c6_ false 0 g00 g01 g02 g03 with _ | (⟨⟩ | ⟨⟩)
    ·rw [hc8] at h; cases h
    ·rw [hc8] at h
     dsimp only at h
     have k13 := fun {A L l} (k : PL A L l) => yy 53 (.rng (C_classEach1q2 g00 g01 g02 g03 c6_ false 0 g00 g01 g02 g03 (.inl ()) [(0, 11, false), (1, 10, false), (2, 0, false), (3, 1, false), (4, 2, false), (5, 7, false), (6, 8, false), (7, 9, false)] [(11, 0, false), (10, 1, false), (0, 2, false), (1, 3, false), (2, 4, false), (7, 5, false), (8, 6, false), (9, 7, false)]) [2, 3, 4, 5, 7, 35]) <|
      ww (m_classEach1q2_ok n g00 g01 g02 g03 c6_ false 0 g00 g01 g02 g03 (.inl ()) hc8) <|
      k
     by_cases hc9 : 0 = c6_
     ·rw [if_pos hc9] at h
      obtain rfl := oI h
      exact runF2 hm ⟨[4], [(0, 10, false), (1, 2, false)], 2, 0, [], false, [], [], []⟩ (k0 <|
       k2 <|
       k4 <|
       k8 <|
       k13 <|
       zz 57 (xeT hc9) <|
       ee) (by kernel_rfl)
     ·rw [if_neg hc9] at h
      cases h
    ·rw [hc8] at h
     dsimp only at h
     have k13 := fun {A L l} (k : PL A L l) => yy 53 (.rng (C_classEach1q2 g00 g01 g02 g03 c6_ false 0 g00 g01 g02 g03 (.inr ()) [(0, 11, false), (1, 10, false), (2, 0, false), (3, 1, false), (4, 2, false), (5, 7, false), (6, 8, false), (7, 9, false)] [(11, 0, false), (10, 1, false), (0, 2, false), (1, 3, false), (2, 4, false), (7, 5, false), (8, 6, false), (9, 7, false)]) [2, 3, 4, 5, 7, 35]) <|
      ww (m_classEach1q2_ok n g00 g01 g02 g03 c6_ false 0 g00 g01 g02 g03 (.inr ()) hc8) <|
      k
     by_cases hc9 : 0 = c6_
     ·rw [if_pos hc9] at h
      obtain rfl := oI h
      exact runF2 hm ⟨[4], [(0, 10, false), (1, 2, false)], 2, 0, [], false, [], [], []⟩ (k0 <|
       k2 <|
       k4 <|
       k8 <|
       k13 <|
       zz 57 (xeT hc9) <|
       ee) (by kernel_rfl)
     ·rw [if_neg hc9] at h
      cases h
   ·rw [if_neg hc5] at h
    cases h
  ·rw [if_neg hc3] at h
   cases h
 | cons c2_0a c2_0t =>
  dsimp only at h
  have k2 := fun {A L l} (k : PL A L l) => yy 11 (.call (C_viewportlaw01allq1 g00 g01 g02 g03 ((c2_0a :: c2_0t), c2_1) [] [(4, 1, false), (5, 2, true), (6, 3, false)])) <|
   ww (m_viewportlaw01allq1_ok n g00 g01 g02 g03 ((c2_0a :: c2_0t), c2_1) hc2) <|
   ww (rows_flat rwf_y (c2_0a :: c2_0t) 5) <|
   k
  by_cases hc3 : c2_1 = true
  ·rw [if_pos hc3] at h
   obtain ⟨c4_, hc4, h⟩ := oB h
   have k5 := fun {A L l} (k : PL A L l) => yy 21 (vf) <|
    ww (p := (Value.bool (!c2_1)) = (Value.bool false)) (vBn hc3) <|
    yy 26 (.call (C_classLenq1 g00 g01 g02 g03 c4_ [] [])) <|
    ww (m_classLenq1_ok n g00 g01 g02 g03 c4_ hc4) <|
    k
   by_cases hc5 : ((((c2_0a :: c2_0t)).length : Nat) : Int) = c4_
   ·rw [if_pos hc5] at h
    obtain ⟨c6_, hc6, h⟩ := oB h
    obtain ⟨c7_, hc7, h⟩ := oB h
    obtain ⟨_, hc8, h⟩ := oB h
    have k9 := fun {A L l} (k : PL A L l) => zz 27 (xnF hc5) <|
     zz 34 (xnm hc6) <|
     yy 35 (.call (C_viewportkitPickq1 g1 c6_ c7_ [] [])) <|
     ww (m_viewportkitPickq1_ok n g1 c6_ c7_ hc7) <|
     yy 42 (.call (C_classEachq1 g00 g01 g02 g03 () [] [(9, 0, false)])) <|
     ww (m_classEachq1_ok n g00 g01 g02 g03 () hc8) <|
     k
    rcases hc9 : m_classEach1q3 n g00 g01 g02 g03 c7_ false (c2_0a :: c2_0t) 0 g00 g01 g02 g03 with _ | (c9_ | c9_)
    ·rw [hc9] at h; cases h
    ·rw [hc9] at h
     dsimp only at h
     have k15 := fun {A L l} (k : PL A L l) => yy 53 (.rng (C_classEach1q3 g00 g01 g02 g03 c7_ false (c2_0a :: c2_0t) 0 g00 g01 g02 g03 (.inl c9_) [(0, 11, false), (1, 10, false), (2, 0, false), (3, 1, false), (4, 2, false), (5, 7, false), (6, 5, true), (7, 8, false), (8, 9, false)] [(11, 0, false), (10, 1, false), (0, 2, false), (1, 3, false), (2, 4, false), (7, 5, false), (5, 6, true), (8, 7, false), (9, 8, false)]) [2, 3, 4, 5, 7, 35]) <|
      ww (m_classEach1q3_ok n g00 g01 g02 g03 c7_ false (c2_0a :: c2_0t) 0 g00 g01 g02 g03 (.inl c9_) hc9) <|
      ww (rows_flat rwf_y (c2_0a :: c2_0t) 5) <|
      ww (rows_flat rwf_y (c2_0a :: c2_0t) 5) <|
      k
     by_cases hc10 : c9_ = c7_
     ·rw [if_pos hc10] at h
      obtain rfl := oI h
      exact runF2 hm ⟨[4], [(0, 10, false), (1, 2, false)], 2, 0, [], false, [], [], []⟩ (k0 <|
       k2 <|
       k5 <|
       k9 <|
       k15 <|
       zz 57 (xeT hc10) <|
       ee) (by kernel_rfl)
     ·rw [if_neg hc10] at h
      cases h
    ·rw [hc9] at h
     dsimp only at h
     have k15 := fun {A L l} (k : PL A L l) => yy 53 (.rng (C_classEach1q3 g00 g01 g02 g03 c7_ false (c2_0a :: c2_0t) 0 g00 g01 g02 g03 (.inr c9_) [(0, 11, false), (1, 10, false), (2, 0, false), (3, 1, false), (4, 2, false), (5, 7, false), (6, 5, true), (7, 8, false), (8, 9, false)] [(11, 0, false), (10, 1, false), (0, 2, false), (1, 3, false), (2, 4, false), (7, 5, false), (5, 6, true), (8, 7, false), (9, 8, false)]) [2, 3, 4, 5, 7, 35]) <|
      ww (m_classEach1q3_ok n g00 g01 g02 g03 c7_ false (c2_0a :: c2_0t) 0 g00 g01 g02 g03 (.inr c9_) hc9) <|
      ww (rows_flat rwf_y (c2_0a :: c2_0t) 5) <|
      ww (rows_flat rwf_y (c2_0a :: c2_0t) 5) <|
      k
     by_cases hc10 : c9_ = c7_
     ·rw [if_pos hc10] at h
      obtain rfl := oI h
      exact runF2 hm ⟨[4], [(0, 10, false), (1, 2, false)], 2, 0, [], false, [], [], []⟩ (k0 <|
       k2 <|
       k5 <|
       k9 <|
       k15 <|
       zz 57 (xeT hc10) <|
       ee) (by kernel_rfl)
     ·rw [if_neg hc10] at h
      cases h
   ·rw [if_neg hc5] at h
    cases h
  ·rw [if_neg hc3] at h
   cases h

end Go.Proofs.YtagobfiiaaiblaaDoor.cea01
