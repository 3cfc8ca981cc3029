/-
  What functions do, told by pure functions. No condition.
-/
import Derived.Test.YtagobfiiaaiblaaDoorCseLives
set_option linter.unusedSimpArgs false
set_option linter.unusedVariables false
set_option linter.unusedSectionVars false
set_option linter.unnecessarySimpa false
set_option maxRecDepth 100000
noncomputable section
namespace Go.Proofs.YtagobfiiaaiblaaDoor.cse01
open Go Go.Proofs.YtagobfiiaaiblaaDoor Ax
variable [Args]
def rw_u (x : Int) : List Value := [Value.int .u64 x]
theorem rwf_u : RowF rw_u 1 := ⟨fun _ => rfl, fun a v h => by
 simp only [rw_u, List.mem_cons, List.not_mem_nil, or_false] at h
 rcases h with rfl <;> rfl, fun _ => rfl⟩
def rw_y (x : Int) : List Value := [Value.int .u8 x]
theorem rwf_y : RowF rw_y 1 := ⟨fun _ => rfl, fun a v h => by
 simp only [rw_y, List.mem_cons, List.not_mem_nil, or_false] at h
 rcases h with rfl <;> rfl, fun _ => rfl⟩
abbrev op1 (L : List (Int)) (i : Nat) (r : Int) : Prop := (layT (rows rw_u L)).get (i * 1) = some (Value.int .u64 r)
theorem ok1 {L : List (Int)} {i : Nat} {r : Int} (hr : some (L.getD i (0)) = some r) (h : i < L.length) : OB (.ld (Value.int .u64 r)) (op1 L i r) := by cases hr; exact ⟨rows_ld rwf_u (0) (i := i) (j := 0) (i * 1) rfl h (by decide) rfl⟩

def m_viewportlaw01lives (n : Nat) : Option Unit := some ()
theorem m_viewportlaw01lives_ok (n : Nat) (r : Unit) (h : m_viewportlaw01lives n = some r) : Gv P (.func 6) [] Ax.h0 (.bool true) Ax.h0 := lives_gv

def A_classUnionq1 (a0 : Int) (a1 : Int) (a2 : Int) (a3 : Int) (a4 : Int) (a5 : Int) (a6 : Int) (a7 : Int) : List Value := [(Value.agg #[(Value.int .u64 a0), (Value.int .u64 a1), (Value.int .u64 a2), (Value.int .u64 a3)]), (Value.agg #[(Value.int .u64 a4), (Value.int .u64 a5), (Value.int .u64 a6), (Value.int .u64 a7)])]
def H_classUnionq1 (a0 : Int) (a1 : Int) (a2 : Int) (a3 : Int) (a4 : Int) (a5 : Int) (a6 : Int) (a7 : Int) : AH := ⟨sB [], 0, 0⟩
def V_classUnionq1 (a0 : Int) (a1 : Int) (a2 : Int) (a3 : Int) (a4 : Int) (a5 : Int) (a6 : Int) (a7 : Int) (r : Int × Int × Int × Int) : Value := match r with
 | (o0, o1, o2, o3) => (Value.agg #[(Value.int .u64 o0), (Value.int .u64 o1), (Value.int .u64 o2), (Value.int .u64 o3)])
def R_classUnionq1 (a0 : Int) (a1 : Int) (a2 : Int) (a3 : Int) (a4 : Int) (a5 : Int) (a6 : Int) (a7 : Int) (r : Int × Int × Int × Int) : AH := match r with
 | (o0, o1, o2, o3) => ⟨sB [(0, (some (.cells (layT [(Value.int .u64 o0), (Value.int .u64 o1), (Value.int .u64 o2), (Value.int .u64 o3)]) 24)))], 1, 0⟩
abbrev G_classUnionq1 (a0 : Int) (a1 : Int) (a2 : Int) (a3 : Int) (a4 : Int) (a5 : Int) (a6 : Int) (a7 : Int) (r : Int × Int × Int × Int) : Prop := Gv P (.func 7) (A_classUnionq1 a0 a1 a2 a3 a4 a5 a6 a7) (H_classUnionq1 a0 a1 a2 a3 a4 a5 a6 a7) (V_classUnionq1 a0 a1 a2 a3 a4 a5 a6 a7 r) (R_classUnionq1 a0 a1 a2 a3 a4 a5 a6 a7 r)
abbrev C_classUnionq1 (a0 : Int) (a1 : Int) (a2 : Int) (a3 : Int) (a4 : Int) (a5 : Int) (a6 : Int) (a7 : Int) (r : Int × Int × Int × Int) (ins outs : BL) : CallA := ⟨0, ins, V_classUnionq1 a0 a1 a2 a3 a4 a5 a6 a7 r, R_classUnionq1 a0 a1 a2 a3 a4 a5 a6 a7 r, outs⟩
def m_classUnionq1 (n : Nat) (a0 : Int) (a1 : Int) (a2 : Int) (a3 : Int) (a4 : Int) (a5 : Int) (a6 : Int) (a7 : Int) : Option (Int × Int × Int × Int) :=
 some ((bOr .u64 a0 a4), (bOr .u64 a1 a5), (bOr .u64 a2 a6), (bOr .u64 a3 a7))
theorem m_classUnionq1_ok (n : Nat) (a0 : Int) (a1 : Int) (a2 : Int) (a3 : Int) (a4 : Int) (a5 : Int) (a6 : Int) (a7 : Int) (r : Int × Int × Int × Int) (h : m_classUnionq1 n a0 a1 a2 a3 a4 a5 a6 a7 = some r) : Gv P (.func 7) (A_classUnionq1 a0 a1 a2 a3 a4 a5 a6 a7) (H_classUnionq1 a0 a1 a2 a3 a4 a5 a6 a7) (V_classUnionq1 a0 a1 a2 a3 a4 a5 a6 a7 r) (R_classUnionq1 a0 a1 a2 a3 a4 a5 a6 a7 r) := by
 unfold m_classUnionq1 at h
 obtain rfl := oI h
 exact runF2 hm ⟨[4], [(0, 2, false)], 1, 0, [], false, [], [], []⟩ (ee) (by kernel_rfl)

def A_classMeetq1 (a0 : Int) (a1 : Int) (a2 : Int) (a3 : Int) (a4 : Int) (a5 : Int) (a6 : Int) (a7 : Int) : List Value := [(Value.agg #[(Value.int .u64 a0), (Value.int .u64 a1), (Value.int .u64 a2), (Value.int .u64 a3)]), (Value.agg #[(Value.int .u64 a4), (Value.int .u64 a5), (Value.int .u64 a6), (Value.int .u64 a7)])]
def H_classMeetq1 (a0 : Int) (a1 : Int) (a2 : Int) (a3 : Int) (a4 : Int) (a5 : Int) (a6 : Int) (a7 : Int) : AH := ⟨sB [], 0, 0⟩
def V_classMeetq1 (a0 : Int) (a1 : Int) (a2 : Int) (a3 : Int) (a4 : Int) (a5 : Int) (a6 : Int) (a7 : Int) (r : Int × Int × Int × Int) : Value := match r with
 | (o0, o1, o2, o3) => (Value.agg #[(Value.int .u64 o0), (Value.int .u64 o1), (Value.int .u64 o2), (Value.int .u64 o3)])
def R_classMeetq1 (a0 : Int) (a1 : Int) (a2 : Int) (a3 : Int) (a4 : Int) (a5 : Int) (a6 : Int) (a7 : Int) (r : Int × Int × Int × Int) : AH := match r with
 | (o0, o1, o2, o3) => ⟨sB [(0, (some (.cells (layT [(Value.int .u64 o0), (Value.int .u64 o1), (Value.int .u64 o2), (Value.int .u64 o3)]) 24)))], 1, 0⟩
abbrev G_classMeetq1 (a0 : Int) (a1 : Int) (a2 : Int) (a3 : Int) (a4 : Int) (a5 : Int) (a6 : Int) (a7 : Int) (r : Int × Int × Int × Int) : Prop := Gv P (.func 8) (A_classMeetq1 a0 a1 a2 a3 a4 a5 a6 a7) (H_classMeetq1 a0 a1 a2 a3 a4 a5 a6 a7) (V_classMeetq1 a0 a1 a2 a3 a4 a5 a6 a7 r) (R_classMeetq1 a0 a1 a2 a3 a4 a5 a6 a7 r)
abbrev C_classMeetq1 (a0 : Int) (a1 : Int) (a2 : Int) (a3 : Int) (a4 : Int) (a5 : Int) (a6 : Int) (a7 : Int) (r : Int × Int × Int × Int) (ins outs : BL) : CallA := ⟨0, ins, V_classMeetq1 a0 a1 a2 a3 a4 a5 a6 a7 r, R_classMeetq1 a0 a1 a2 a3 a4 a5 a6 a7 r, outs⟩
def m_classMeetq1 (n : Nat) (a0 : Int) (a1 : Int) (a2 : Int) (a3 : Int) (a4 : Int) (a5 : Int) (a6 : Int) (a7 : Int) : Option (Int × Int × Int × Int) :=
 some ((bAnd .u64 a0 a4), (bAnd .u64 a1 a5), (bAnd .u64 a2 a6), (bAnd .u64 a3 a7))
theorem m_classMeetq1_ok (n : Nat) (a0 : Int) (a1 : Int) (a2 : Int) (a3 : Int) (a4 : Int) (a5 : Int) (a6 : Int) (a7 : Int) (r : Int × Int × Int × Int) (h : m_classMeetq1 n a0 a1 a2 a3 a4 a5 a6 a7 = some r) : Gv P (.func 8) (A_classMeetq1 a0 a1 a2 a3 a4 a5 a6 a7) (H_classMeetq1 a0 a1 a2 a3 a4 a5 a6 a7) (V_classMeetq1 a0 a1 a2 a3 a4 a5 a6 a7 r) (R_classMeetq1 a0 a1 a2 a3 a4 a5 a6 a7 r) := by
 unfold m_classMeetq1 at h
 obtain rfl := oI h
 exact runF2 hm ⟨[4], [(0, 2, false)], 1, 0, [], false, [], [], []⟩ (ee) (by kernel_rfl)

def A_classNotq1 (a0 : Int) (a1 : Int) (a2 : Int) (a3 : Int) : List Value := [(Value.agg #[(Value.int .u64 a0), (Value.int .u64 a1), (Value.int .u64 a2), (Value.int .u64 a3)])]
def H_classNotq1 (a0 : Int) (a1 : Int) (a2 : Int) (a3 : Int) : AH := ⟨sB [], 0, 0⟩
def V_classNotq1 (a0 : Int) (a1 : Int) (a2 : Int) (a3 : Int) (r : Int × Int × Int × Int) : Value := match r with
 | (o0, o1, o2, o3) => (Value.agg #[(Value.int .u64 o0), (Value.int .u64 o1), (Value.int .u64 o2), (Value.int .u64 o3)])
def R_classNotq1 (a0 : Int) (a1 : Int) (a2 : Int) (a3 : Int) (r : Int × Int × Int × Int) : AH := match r with
 | (o0, o1, o2, o3) => ⟨sB [(0, (some (.cells (layT [(Value.int .u64 o0), (Value.int .u64 o1), (Value.int .u64 o2), (Value.int .u64 o3)]) 24)))], 1, 0⟩
abbrev G_classNotq1 (a0 : Int) (a1 : Int) (a2 : Int) (a3 : Int) (r : Int × Int × Int × Int) : Prop := Gv P (.func 9) (A_classNotq1 a0 a1 a2 a3) (H_classNotq1 a0 a1 a2 a3) (V_classNotq1 a0 a1 a2 a3 r) (R_classNotq1 a0 a1 a2 a3 r)
abbrev C_classNotq1 (a0 : Int) (a1 : Int) (a2 : Int) (a3 : Int) (r : Int × Int × Int × Int) (ins outs : BL) : CallA := ⟨0, ins, V_classNotq1 a0 a1 a2 a3 r, R_classNotq1 a0 a1 a2 a3 r, outs⟩
def m_classNotq1 (n : Nat) (a0 : Int) (a1 : Int) (a2 : Int) (a3 : Int) : Option (Int × Int × Int × Int) :=
 some ((bNot .u64 a0), (bNot .u64 a1), (bNot .u64 a2), (bNot .u64 a3))
theorem m_classNotq1_ok (n : Nat) (a0 : Int) (a1 : Int) (a2 : Int) (a3 : Int) (r : Int × Int × Int × Int) (h : m_classNotq1 n a0 a1 a2 a3 = some r) : Gv P (.func 9) (A_classNotq1 a0 a1 a2 a3) (H_classNotq1 a0 a1 a2 a3) (V_classNotq1 a0 a1 a2 a3 r) (R_classNotq1 a0 a1 a2 a3 r) := by
 unfold m_classNotq1 at h
 obtain rfl := oI h
 exact runF2 hm ⟨[2], [(0, 1, false)], 1, 0, [], false, [], [], []⟩ (ee) (by kernel_rfl)

def A_classHasq1 (a0 : Int) (a1 : Int) (a2 : Int) (a3 : Int) (a4 : Int) : List Value := [(Value.agg #[(Value.int .u64 a0), (Value.int .u64 a1), (Value.int .u64 a2), (Value.int .u64 a3)]), (Value.int .u8 a4)]
def H_classHasq1 (a0 : Int) (a1 : Int) (a2 : Int) (a3 : Int) (a4 : Int) : AH := ⟨sB [], 0, 0⟩
def V_classHasq1 (a0 : Int) (a1 : Int) (a2 : Int) (a3 : Int) (a4 : Int) (r : Bool) : Value := match r with
 | o0 => (bO o0)
def R_classHasq1 (a0 : Int) (a1 : Int) (a2 : Int) (a3 : Int) (a4 : Int) (r : Bool) : AH := match r with
 | o0 => ⟨sB [], 0, 0⟩
abbrev G_classHasq1 (a0 : Int) (a1 : Int) (a2 : Int) (a3 : Int) (a4 : Int) (r : Bool) : Prop := Gv P (.func 10) (A_classHasq1 a0 a1 a2 a3 a4) (H_classHasq1 a0 a1 a2 a3 a4) (V_classHasq1 a0 a1 a2 a3 a4 r) (R_classHasq1 a0 a1 a2 a3 a4 r)
abbrev C_classHasq1 (a0 : Int) (a1 : Int) (a2 : Int) (a3 : Int) (a4 : Int) (r : Bool) (ins outs : BL) : CallA := ⟨0, ins, V_classHasq1 a0 a1 a2 a3 a4 r, R_classHasq1 a0 a1 a2 a3 a4 r, outs⟩
def m_classHasq1 (n : Nat) (a0 : Int) (a1 : Int) (a2 : Int) (a3 : Int) (a4 : Int) : Option (Bool) :=
 if ¬ ((64 : Int) = 0) then
  if 0 ≤ (IntKind.u8.wrap (Int.tdiv a4 (64 : Int))) ∧ (IntKind.u8.wrap (Int.tdiv a4 (64 : Int))) < ((4 : Nat) : Int) then
   if ((IntKind.u8.wrap (Int.tdiv a4 (64 : Int)))).toNat < ([a0, a1, a2, a3]).length then
    ((some (([a0, a1, a2, a3]).getD ((IntKind.u8.wrap (Int.tdiv a4 (64 : Int)))).toNat (0)))).bind fun c4_ =>
    if 0 ≤ (Int.tmod a4 (64 : Int)) then
     ((some (bAnd .u64 (shrV .u64 c4_ (Int.tmod a4 (64 : Int))) (1 : Int)))).bind fun c6_ =>
     if c6_ = (1 : Int) then
      some true
     else
      some false
    else none
   else none
  else none
 else none
theorem m_classHasq1_ok (n : Nat) (a0 : Int) (a1 : Int) (a2 : Int) (a3 : Int) (a4 : Int) (r : Bool) (h : m_classHasq1 n a0 a1 a2 a3 a4 = some r) : Gv P (.func 10) (A_classHasq1 a0 a1 a2 a3 a4) (H_classHasq1 a0 a1 a2 a3 a4) (V_classHasq1 a0 a1 a2 a3 a4 r) (R_classHasq1 a0 a1 a2 a3 a4 r) := by
 unfold m_classHasq1 at h
 obtain ⟨hc1, h⟩ := gd h
 obtain ⟨hc2, h⟩ := gd h
 obtain ⟨hc3, h⟩ := gd h
 obtain ⟨c4_, hc4, h⟩ := oB h
 obtain ⟨hc5, h⟩ := gd h
 obtain ⟨c6_, hc6, h⟩ := oB h
 have k0 := fun {A L l} (k : PL A L l) => yy 5 (.pur (Value.int .u8 (IntKind.u8.wrap (Int.tdiv a4 (64 : Int))))) <|
  ww (p := opBin P .quo 5 (.tmp 5) (.const (Value.int .u8 (64 : Int))) (Value.int .u8 a4) (Value.int .u8 (64 : Int)) Ax.h0 = some ((Value.int .u8 (IntKind.u8.wrap (Int.tdiv a4 (64 : Int)))), Ax.h0)) (quo_u8 hc1) <|
  yy 6 (.pur (pN 0 (((IntKind.u8.wrap (Int.tdiv a4 (64 : Int)))).toNat * 1))) <|
  ww (p := opIndexAddr P 24 (pN 0 0) (Value.int .u8 (IntKind.u8.wrap (Int.tdiv a4 (64 : Int)))) Ax.h0 = some ((pN 0 (((IntKind.u8.wrap (Int.tdiv a4 (64 : Int)))).toNat * 1)), Ax.h0)) (ixArr (es := 1) (e := 22) (m := 4) (by kernel_rfl) (by kernel_rfl) hc2) <|
  zz 7 (ok1 hc4 (hc3)) <|
  yy 9 (.pur (Value.int .u8 (Int.tmod a4 (64 : Int)))) <|
  ww (p := opBin P .rem 5 (.tmp 9) (.const (Value.int .u8 (64 : Int))) (Value.int .u8 a4) (Value.int .u8 (64 : Int)) Ax.h0 = some ((Value.int .u8 (Int.tmod a4 (64 : Int))), Ax.h0)) (rem_u8 (by decide)) <|
  yy 10 (.pur (Value.int .u64 (shrV .u64 c4_ (Int.tmod a4 (64 : Int))))) <|
  ww (p := opBin P .shr 22 (.tmp 8) (.tmp 10) (Value.int .u64 c4_) (Value.int .u8 (Int.tmod a4 (64 : Int))) Ax.h0 = some ((Value.int .u64 (shrV .u64 c4_ (Int.tmod a4 (64 : Int)))), Ax.h0)) (shr_u64_u8 hc5) <|
  zz 11 (xnmK (k := .u64) hc6) <|
  k
 by_cases hc7 : c6_ = (1 : Int)
 ·rw [if_pos hc7] at h
  obtain rfl := oI h
  exact runF2 hm ⟨[4], [], 0, 0, [], false, [], [], []⟩ (k0 <|
   zz 12 (xeT hc7) <|
   ee) (by kernel_rfl)
 ·rw [if_neg hc7] at h
  obtain rfl := oI h
  exact runF2 hm ⟨[4], [], 0, 0, [], false, [], [], []⟩ (k0 <|
   zz 12 (xeF hc7) <|
   ee) (by kernel_rfl)

def A_bitsOnesCount64q1 (a0 : Int) : List Value := [(Value.int .u64 a0)]
def H_bitsOnesCount64q1 (a0 : Int) : AH := ⟨sB [], 0, 0⟩
def V_bitsOnesCount64q1 (a0 : Int) (r : Int) : Value := match r with
 | o0 => (i6 o0)
def R_bitsOnesCount64q1 (a0 : Int) (r : Int) : AH := match r with
 | o0 => ⟨sB [], 0, 0⟩
abbrev G_bitsOnesCount64q1 (a0 : Int) (r : Int) : Prop := Gv P (.func 21) (A_bitsOnesCount64q1 a0) (H_bitsOnesCount64q1 a0) (V_bitsOnesCount64q1 a0 r) (R_bitsOnesCount64q1 a0 r)
abbrev C_bitsOnesCount64q1 (a0 : Int) (r : Int) (ins outs : BL) : CallA := ⟨0, ins, V_bitsOnesCount64q1 a0 r, R_bitsOnesCount64q1 a0 r, outs⟩
def m_bitsOnesCount64q1 (n : Nat) (a0 : Int) : Option (Int) :=
 ((some (IntKind.u64.wrap ((bAnd .u64 (Int.fdiv a0 2) (6148914691236517205 : Int)) + (bAnd .u64 a0 (6148914691236517205 : Int)))))).bind fun c1_ =>
 ((some (IntKind.u64.wrap ((bAnd .u64 (Int.fdiv c1_ 4) (3689348814741910323 : Int)) + (bAnd .u64 c1_ (3689348814741910323 : Int)))))).bind fun c2_ =>
 ((some (bAnd .u64 (IntKind.u64.wrap ((Int.fdiv c2_ 16) + c2_)) (1085102592571150095 : Int)))).bind fun c3_ =>
 ((some (IntKind.u64.wrap ((IntKind.u64.wrap (c3_ + (Int.fdiv c3_ 256))) + (Int.fdiv (IntKind.u64.wrap (c3_ + (Int.fdiv c3_ 256))) 65536))))).bind fun c4_ =>
 ((some (IntKind.u64.wrap (c4_ + (Int.fdiv c4_ 4294967296))))).bind fun c5_ =>
 some (bAnd .i64 (IntKind.i64.wrap c5_) (127 : Int))
theorem m_bitsOnesCount64q1_ok (n : Nat) (a0 : Int) (r : Int) (h : m_bitsOnesCount64q1 n a0 = some r) : Gv P (.func 21) (A_bitsOnesCount64q1 a0) (H_bitsOnesCount64q1 a0) (V_bitsOnesCount64q1 a0 r) (R_bitsOnesCount64q1 a0 r) := by
 unfold m_bitsOnesCount64q1 at h
 obtain ⟨c1_, hc1, h⟩ := oB h
 obtain ⟨c2_, hc2, h⟩ := oB h
 obtain ⟨c3_, hc3, h⟩ := oB h
 obtain ⟨c4_, hc4, h⟩ := oB h
 obtain ⟨c5_, hc5, h⟩ := oB h
 obtain rfl := oI h
 exact runF2 hm ⟨[2], [], 0, 0, [], false, [], [], []⟩ (zz 8 (xnmK (k := .u64) hc1) <|
  zz 16 (xnmK (k := .u64) hc2) <|
  zz 23 (xnmK (k := .u64) hc3) <|
  zz 35 (xnmK (k := .u64) hc4) <|
  zz 41 (xnmK (k := .u64) hc5) <|
  ee) (by kernel_rfl)

def A_classLenq1 (a0 : Int) (a1 : Int) (a2 : Int) (a3 : Int) : List Value := [(Value.agg #[(Value.int .u64 a0), (Value.int .u64 a1), (Value.int .u64 a2), (Value.int .u64 a3)])]
def H_classLenq1 (a0 : Int) (a1 : Int) (a2 : Int) (a3 : Int) : AH := ⟨sB [], 0, 0⟩
def V_classLenq1 (a0 : Int) (a1 : Int) (a2 : Int) (a3 : Int) (r : Int) : Value := match r with
 | o0 => (i6 o0)
def R_classLenq1 (a0 : Int) (a1 : Int) (a2 : Int) (a3 : Int) (r : Int) : AH := match r with
 | o0 => ⟨sB [], 0, 0⟩
abbrev G_classLenq1 (a0 : Int) (a1 : Int) (a2 : Int) (a3 : Int) (r : Int) : Prop := Gv P (.func 13) (A_classLenq1 a0 a1 a2 a3) (H_classLenq1 a0 a1 a2 a3) (V_classLenq1 a0 a1 a2 a3 r) (R_classLenq1 a0 a1 a2 a3 r)
abbrev C_classLenq1 (a0 : Int) (a1 : Int) (a2 : Int) (a3 : Int) (r : Int) (ins outs : BL) : CallA := ⟨0, ins, V_classLenq1 a0 a1 a2 a3 r, R_classLenq1 a0 a1 a2 a3 r, outs⟩
def m_classLenq1 (n : Nat) (a0 : Int) (a1 : Int) (a2 : Int) (a3 : Int) : Option (Int) :=
 (m_bitsOnesCount64q1 n a0).bind fun c1_ =>
 (m_bitsOnesCount64q1 n a1).bind fun c2_ =>
 (m_bitsOnesCount64q1 n a2).bind fun c3_ =>
 ((some (w64 ((w64 ((w64 ((0 : Int) + c1_)) + c2_)) + c3_)))).bind fun c4_ =>
 (m_bitsOnesCount64q1 n a3).bind fun c5_ =>
 some (w64 (c4_ + c5_))
theorem m_classLenq1_ok (n : Nat) (a0 : Int) (a1 : Int) (a2 : Int) (a3 : Int) (r : Int) (h : m_classLenq1 n a0 a1 a2 a3 = some r) : Gv P (.func 13) (A_classLenq1 a0 a1 a2 a3) (H_classLenq1 a0 a1 a2 a3) (V_classLenq1 a0 a1 a2 a3 r) (R_classLenq1 a0 a1 a2 a3 r) := by
 unfold m_classLenq1 at h
 obtain ⟨c1_, hc1, h⟩ := oB h
 obtain ⟨c2_, hc2, h⟩ := oB h
 obtain ⟨c3_, hc3, h⟩ := oB h
 obtain ⟨c4_, hc4, h⟩ := oB h
 obtain ⟨c5_, hc5, h⟩ := oB h
 obtain rfl := oI h
 exact runF2 hm ⟨[2], [], 0, 0, [], false, [], [], []⟩ (yy 22 (.call (C_bitsOnesCount64q1 a0 c1_ [] [])) <|
  ww (m_bitsOnesCount64q1_ok n a0 c1_ hc1) <|
  yy 39 (.call (C_bitsOnesCount64q1 a1 c2_ [] [])) <|
  ww (m_bitsOnesCount64q1_ok n a1 c2_ hc2) <|
  yy 56 (.call (C_bitsOnesCount64q1 a2 c3_ [] [])) <|
  ww (m_bitsOnesCount64q1_ok n a2 c3_ hc3) <|
  zz 57 (xnm hc4) <|
  yy 73 (.call (C_bitsOnesCount64q1 a3 c5_ [] [])) <|
  ww (m_bitsOnesCount64q1_ok n a3 c5_ hc5) <|
  ee) (by kernel_rfl)

def A_classEachq1 (a0 : Int) (a1 : Int) (a2 : Int) (a3 : Int) : List Value := [(Value.agg #[(Value.int .u64 a0), (Value.int .u64 a1), (Value.int .u64 a2), (Value.int .u64 a3)])]
def H_classEachq1 (a0 : Int) (a1 : Int) (a2 : Int) (a3 : Int) : AH := ⟨sB [], 0, 0⟩
def V_classEachq1 (a0 : Int) (a1 : Int) (a2 : Int) (a3 : Int) (r : Unit) : Value := match r with
 | _ => (Value.func (.func 23) #[] #[(pN 0 0)])
def R_classEachq1 (a0 : Int) (a1 : Int) (a2 : Int) (a3 : Int) (r : Unit) : AH := match r with
 | _ => ⟨sB [(0, (some (.cells (layT [(Value.int .u64 a0), (Value.int .u64 a1), (Value.int .u64 a2), (Value.int .u64 a3)]) 24)))], 1, 0⟩
abbrev G_classEachq1 (a0 : Int) (a1 : Int) (a2 : Int) (a3 : Int) (r : Unit) : Prop := Gv P (.func 17) (A_classEachq1 a0 a1 a2 a3) (H_classEachq1 a0 a1 a2 a3) (V_classEachq1 a0 a1 a2 a3 r) (R_classEachq1 a0 a1 a2 a3 r)
abbrev C_classEachq1 (a0 : Int) (a1 : Int) (a2 : Int) (a3 : Int) (r : Unit) (ins outs : BL) : CallA := ⟨0, ins, V_classEachq1 a0 a1 a2 a3 r, R_classEachq1 a0 a1 a2 a3 r, outs⟩
def m_classEachq1 (n : Nat) (a0 : Int) (a1 : Int) (a2 : Int) (a3 : Int) : Option (Unit) :=
 some ()
theorem m_classEachq1_ok (n : Nat) (a0 : Int) (a1 : Int) (a2 : Int) (a3 : Int) (r : Unit) (h : m_classEachq1 n a0 a1 a2 a3 = some r) : Gv P (.func 17) (A_classEachq1 a0 a1 a2 a3) (H_classEachq1 a0 a1 a2 a3) (V_classEachq1 a0 a1 a2 a3 r) (R_classEachq1 a0 a1 a2 a3 r) := by
 unfold m_classEachq1 at h
 obtain rfl := oI h
 exact runF2 hm ⟨[2], [(0, 0, false)], 1, 0, [], false, [], [], []⟩ (ee) (by kernel_rfl)

def A_bitsTrailingZeros64q1 (a0 : Int) : List Value := [(Value.int .u64 a0)]
def H_bitsTrailingZeros64q1 (a0 : Int) : AH := ⟨sB [], 0, 0⟩
def V_bitsTrailingZeros64q1 (a0 : Int) (r : Int) : Value := match r with
 | o0 => (i6 o0)
def R_bitsTrailingZeros64q1 (a0 : Int) (r : Int) : AH := match r with
 | o0 => ⟨sB [], 0, 0⟩
abbrev G_bitsTrailingZeros64q1 (a0 : Int) (r : Int) : Prop := Gv P (.func 24) (A_bitsTrailingZeros64q1 a0) (H_bitsTrailingZeros64q1 a0) (V_bitsTrailingZeros64q1 a0 r) (R_bitsTrailingZeros64q1 a0 r)
abbrev C_bitsTrailingZeros64q1 (a0 : Int) (r : Int) (ins outs : BL) : CallA := ⟨0, ins, V_bitsTrailingZeros64q1 a0 r, R_bitsTrailingZeros64q1 a0 r, outs⟩
def m_bitsTrailingZeros64q1 (n : Nat) (a0 : Int) : Option (Int) :=
 if a0 = (0 : Int) then
  some 64
 else
  ((some (IntKind.u64.wrap ((bAnd .u64 a0 (IntKind.u64.wrap ((0 : Int) - a0))) * (285870213051353865 : Int))))).bind fun c2_ =>
  if 0 ≤ (Int.fdiv c2_ 288230376151711744) ∧ (Int.fdiv c2_ 288230376151711744) < ((64 : Nat) : Int) then
   some (IntKind.i64.wrap ((tb_deBruijn64tab).getD ((Int.fdiv c2_ 288230376151711744)).toNat 0))
  else none
theorem m_bitsTrailingZeros64q1_ok (n : Nat) (a0 : Int) (r : Int) (h : m_bitsTrailingZeros64q1 n a0 = some r) : Gv P (.func 24) (A_bitsTrailingZeros64q1 a0) (H_bitsTrailingZeros64q1 a0) (V_bitsTrailingZeros64q1 a0 r) (R_bitsTrailingZeros64q1 a0 r) := by
 unfold m_bitsTrailingZeros64q1 at h
 by_cases hc1 : a0 = (0 : Int)
 ·rw [if_pos hc1] at h
  obtain rfl := oI h
  exact runF2 hm ⟨[2], [], 0, 0, [], false, [], [], []⟩ (zz 5 (xeT hc1) <|
   ee) (by kernel_rfl)
 ·rw [if_neg hc1] at h
  obtain ⟨c2_, hc2, h⟩ := oB h
  obtain ⟨hc3, h⟩ := gd h
  obtain rfl := oI h
  exact runF2 hm ⟨[2], [], 0, 0, [], false, [], [], []⟩ (zz 5 (xeF hc1) <|
   zz 12 (xnmK (k := .u64) hc2) <|
   yy 14 (.pur (Value.pointer (some ⟨0, ((Int.fdiv c2_ 288230376151711744)).toNat, some 0⟩))) <|
   ww (p := opIndexAddr P 54 (Value.pointer (some ⟨0, 0, some 0⟩)) (Value.int .u64 (Int.fdiv c2_ 288230376151711744)) Ax.h0 = some ((Value.pointer (some ⟨0, ((Int.fdiv c2_ 288230376151711744)).toNat, some 0⟩)), Ax.h0)) (ixTab (e := 5) (m := 64) (by kernel_rfl) (by kernel_rfl) hc3) <|
   yy 15 (.ld (Value.int .u8 ((tb_deBruijn64tab).getD ((Int.fdiv c2_ 288230376151711744)).toNat 0))) <|
   ww (p := Lg P 5 (Value.pointer (some ⟨0, ((Int.fdiv c2_ 288230376151711744)).toNat, some 0⟩)) (Value.int .u8 ((tb_deBruijn64tab).getD ((Int.fdiv c2_ 288230376151711744)).toNat 0))) (ldTab (g := 0) (L := tb_deBruijn64tab) rfl (by kernel_rfl) (toNatLt hc3)) <|
   ee) (by kernel_rfl)

def A_classBytes_11010y1 (a0 : Int) (a1 : Int) (a2 : Int) (a3 : Int) (a4 : Int) : List Value := [(Value.int .u8 a4)]
def H_classBytes_11010y1 (a0 : Int) (a1 : Int) (a2 : Int) (a3 : Int) (a4 : Int) : AH := ⟨sB [(0, (some (rblk P 11 [false, true, false, true, true] .ready none [(3, (pN 2 0)), (9, (Value.func (.func 23) #[] #[(pN 4 0)]))] 1))), (1, (some (.marks true))), (2, (some (.cells (layT [(sN 3 0 0 (Nat.add big 1))]) 35))), (3, (some (.cells (layT []) 5))), (4, (some (.cells (layT [(Value.int .u64 a0), (Value.int .u64 a1), (Value.int .u64 a2), (Value.int .u64 a3)]) 24)))], 5, 5⟩
def V_classBytes_11010y1 (a0 : Int) (a1 : Int) (a2 : Int) (a3 : Int) (a4 : Int) (r : Unit) : Value := match r with
 | _ => (bO true)
def R_classBytes_11010y1 (a0 : Int) (a1 : Int) (a2 : Int) (a3 : Int) (a4 : Int) (r : Unit) : AH := match r with
 | _ => ⟨sB [(0, (some (rblk P 11 [false, true, false, true, true] .ready none [(3, (pN 2 0)), (9, (Value.func (.func 23) #[] #[(pN 4 0)]))] 1))), (1, (some (.marks true))), (2, (some (.cells (layT [(sN 5 0 1 (Nat.add big 1))]) 35))), (4, (some (.cells (layT [(Value.int .u64 a0), (Value.int .u64 a1), (Value.int .u64 a2), (Value.int .u64 a3)]) 24))), (5, (some (.cells (layT [(Value.int .u8 a4)]) 5)))], 6, 0⟩
abbrev G_classBytes_11010y1 (a0 : Int) (a1 : Int) (a2 : Int) (a3 : Int) (a4 : Int) (r : Unit) : Prop := Gv P (.yield 0) (A_classBytes_11010y1 a0 a1 a2 a3 a4) (H_classBytes_11010y1 a0 a1 a2 a3 a4) (V_classBytes_11010y1 a0 a1 a2 a3 a4 r) (R_classBytes_11010y1 a0 a1 a2 a3 a4 r)
abbrev C_classBytes_11010y1 (a0 : Int) (a1 : Int) (a2 : Int) (a3 : Int) (a4 : Int) (r : Unit) (ins outs : BL) : CallA := ⟨5, ins, V_classBytes_11010y1 a0 a1 a2 a3 a4 r, R_classBytes_11010y1 a0 a1 a2 a3 a4 r, outs⟩
def m_classBytes_11010y1 (n : Nat) (a0 : Int) (a1 : Int) (a2 : Int) (a3 : Int) (a4 : Int) : Option (Unit) :=
 some ()
theorem m_classBytes_11010y1_ok (n : Nat) (a0 : Int) (a1 : Int) (a2 : Int) (a3 : Int) (a4 : Int) (r : Unit) (h : m_classBytes_11010y1 n a0 a1 a2 a3 a4 = some r) : Gv P (.yield 0) (A_classBytes_11010y1 a0 a1 a2 a3 a4) (H_classBytes_11010y1 a0 a1 a2 a3 a4) (V_classBytes_11010y1 a0 a1 a2 a3 a4 r) (R_classBytes_11010y1 a0 a1 a2 a3 a4 r) := by
 unfold m_classBytes_11010y1 at h
 obtain rfl := oI h
 exact runY2 hm ⟨[], [(0, 0, false), (1, 1, false), (2, 2, false), (4, 4, false), (5, 6, false)], 6, 0, [], false, [], [], []⟩ (ee) (ee) (by kernel_rfl)

def A_classBytes_11010y2 (a0 : List (Int)) (a1 : Int) (a2 : Int) (a3 : Int) (a4 : Int) (a5 : Int) : List Value := [(Value.int .u8 a5)]
def H_classBytes_11010y2 (a0 : List (Int)) (a1 : Int) (a2 : Int) (a3 : Int) (a4 : Int) (a5 : Int) : AH := ⟨sB [(0, (some (rblk P 11 [false, true, false, true, true] .ready none [(3, (pN 2 0)), (9, (Value.func (.func 23) #[] #[(pN 4 0)]))] 1))), (1, (some (.marks true))), (2, (some (.cells (layT [(sN 3 0 (a0).length (Nat.add big 1))]) 35))), (3, (some (.cells (layT (rows rw_y a0)) 5))), (4, (some (.cells (layT [(Value.int .u64 a1), (Value.int .u64 a2), (Value.int .u64 a3), (Value.int .u64 a4)]) 24)))], 5, 5⟩
def V_classBytes_11010y2 (a0 : List (Int)) (a1 : Int) (a2 : Int) (a3 : Int) (a4 : Int) (a5 : Int) (r : Unit) : Value := match r with
 | _ => (bO true)
def R_classBytes_11010y2 (a0 : List (Int)) (a1 : Int) (a2 : Int) (a3 : Int) (a4 : Int) (a5 : Int) (r : Unit) : AH := match r with
 | _ => ⟨sB [(0, (some (rblk P 11 [false, true, false, true, true] .ready none [(3, (pN 2 0)), (9, (Value.func (.func 23) #[] #[(pN 4 0)]))] 1))), (1, (some (.marks true))), (2, (some (.cells (layT [(sN 5 0 ((a0 ++ [a5])).length (Nat.add big 1))]) 35))), (4, (some (.cells (layT [(Value.int .u64 a1), (Value.int .u64 a2), (Value.int .u64 a3), (Value.int .u64 a4)]) 24))), (5, (some (.cells (layT (rows rw_y (a0 ++ [a5]))) 5)))], 6, 0⟩
abbrev G_classBytes_11010y2 (a0 : List (Int)) (a1 : Int) (a2 : Int) (a3 : Int) (a4 : Int) (a5 : Int) (r : Unit) : Prop := Gv P (.yield 0) (A_classBytes_11010y2 a0 a1 a2 a3 a4 a5) (H_classBytes_11010y2 a0 a1 a2 a3 a4 a5) (V_classBytes_11010y2 a0 a1 a2 a3 a4 a5 r) (R_classBytes_11010y2 a0 a1 a2 a3 a4 a5 r)
abbrev C_classBytes_11010y2 (a0 : List (Int)) (a1 : Int) (a2 : Int) (a3 : Int) (a4 : Int) (a5 : Int) (r : Unit) (ins outs : BL) : CallA := ⟨5, ins, V_classBytes_11010y2 a0 a1 a2 a3 a4 a5 r, R_classBytes_11010y2 a0 a1 a2 a3 a4 a5 r, outs⟩
def m_classBytes_11010y2 (n : Nat) (a0 : List (Int)) (a1 : Int) (a2 : Int) (a3 : Int) (a4 : Int) (a5 : Int) : Option (Unit) :=
 if ((a0).length + 1) * 1 ≤ 140737488355328 then
  some ()
 else none
theorem m_classBytes_11010y2_ok (n : Nat) (a0 : List (Int)) (a1 : Int) (a2 : Int) (a3 : Int) (a4 : Int) (a5 : Int) (r : Unit) (h : m_classBytes_11010y2 n a0 a1 a2 a3 a4 a5 = some r) : Gv P (.yield 0) (A_classBytes_11010y2 a0 a1 a2 a3 a4 a5) (H_classBytes_11010y2 a0 a1 a2 a3 a4 a5) (V_classBytes_11010y2 a0 a1 a2 a3 a4 a5 r) (R_classBytes_11010y2 a0 a1 a2 a3 a4 a5 r) := by
 unfold m_classBytes_11010y2 at h
 obtain ⟨hc1, h⟩ := gd h
 obtain rfl := oI h
 exact runY2 hm ⟨[], [(0, 0, false), (1, 1, false), (2, 2, false), (4, 4, false), (5, 6, true)], 6, 0, [], false, [], [], []⟩ (ee) (yy 4 (.app ⟨none, rows rw_y a0, (rows rw_y (a0 ++ [a5])), ((a0 ++ [a5])).length, false⟩) <|
  ww (p := 0 < 1) ((by decide)) <|
  ww (p := rdT (layT (rows rw_y a0)) (Nat.mul (a0).length 1) 0 = some (rows rw_y a0)) (rows_rd rwf_y _ _ rfl) <|
  ww (p := fits (Nat.add (a0).length 1) 1 = true) (fits_ok hc1 (by have := hc1; show (_ : Nat) + _ ≤ _; omega)) <|
  ww (p := allCells [(Value.int .u8 a5)] = true) (rfl) <|
  ww (p := allCells (rows rw_y a0) = true) (rows_cells rwf_y _) <|
  ww (p := rows rw_y a0 ++ [(Value.int .u8 a5)] = (rows rw_y (a0 ++ [a5]))) (rows_app rw_y a0 [a5]) <|
  ww (p := Nat.add (a0).length 1 = ((a0 ++ [a5])).length) (by simp) <|
  ww (rows_flat rwf_y (a0 ++ [a5]) 5) <|
  ee) (by kernel_rfl)

def A_classEach1q1 (a0 : Int) (a1 : Int) (a2 : Int) (a3 : Int) : List Value := [(Value.func (.yield 0) #[] #[]), (pN 4 0)]
def H_classEach1q1 (a0 : Int) (a1 : Int) (a2 : Int) (a3 : Int) : AH := ⟨sB [(0, (some (rblk P 11 [false, true, false, true, true] .ready none [(3, (pN 2 0)), (9, (Value.func (.func 23) #[] #[(pN 4 0)]))] 1))), (1, (some (.marks true))), (2, (some (.cells (layT [(sN 3 0 0 (Nat.add big 1))]) 35))), (3, (some (.cells (layT []) 5))), (4, (some (.cells (layT [(Value.int .u64 a0), (Value.int .u64 a1), (Value.int .u64 a2), (Value.int .u64 a3)]) 24)))], 5, 5⟩
def V_classEach1q1 (a0 : Int) (a1 : Int) (a2 : Int) (a3 : Int) (r : List (Int)) : Value := match r with
 | o0 => (Value.tuple #[])
def R_classEach1q1 (a0 : Int) (a1 : Int) (a2 : Int) (a3 : Int) (r : List (Int)) : AH := match r with
 | o0 => ⟨sB [(0, (some (rblk P 11 [false, true, false, true, true] .ready none [(3, (pN 2 0)), (9, (Value.func (.func 23) #[] #[(pN 4 0)]))] 1))), (1, (some (.marks true))), (2, (some (.cells (layT [(sN 5 0 (o0).length (Nat.add big 1))]) 35))), (4, (some (.cells (layT [(Value.int .u64 a0), (Value.int .u64 a1), (Value.int .u64 a2), (Value.int .u64 a3)]) 24))), (5, (some (.cells (layT (rows rw_y o0)) 5)))], 6, 0⟩
abbrev G_classEach1q1 (a0 : Int) (a1 : Int) (a2 : Int) (a3 : Int) (r : List (Int)) : Prop := Gv P (.func 23) (A_classEach1q1 a0 a1 a2 a3) (H_classEach1q1 a0 a1 a2 a3) (V_classEach1q1 a0 a1 a2 a3 r) (R_classEach1q1 a0 a1 a2 a3 r)
abbrev C_classEach1q1 (a0 : Int) (a1 : Int) (a2 : Int) (a3 : Int) (r : List (Int)) (ins outs : BL) : CallA := ⟨5, ins, V_classEach1q1 a0 a1 a2 a3 r, R_classEach1q1 a0 a1 a2 a3 r, outs⟩
def S_classEach1q1_1 (x1_1 : Int) (x1_2 : Int) (x1_3 : Int) (x1_4 : Int) (x1_5 : Int) (st : List (Int) × Int) : XSt := match st with
 | (x1_0, x1_6) => (sT 26 [(0, (Value.func (.yield 0) #[] #[])), (3, (i6 x1_5)), (4, (Value.int .u64 x1_6)), (5, (Value.agg #[(Value.int .u64 x1_1), (Value.int .u64 x1_2), (Value.int .u64 x1_3), (Value.int .u64 x1_4)])), (6, (i6 x1_5))], [], ⟨sB [(0, (some (rblk P 11 [false, true, false, true, true] .ready none [(3, (pN 2 0)), (9, (Value.func (.func 23) #[] #[(pN 4 0)]))] 1))), (1, (some (.marks true))), (2, (some (.cells (layT [(sN 5 0 (x1_0).length (Nat.add big 1))]) 35))), (4, (some (.cells (layT [(Value.int .u64 x1_1), (Value.int .u64 x1_2), (Value.int .u64 x1_3), (Value.int .u64 x1_4)]) 24))), (5, (some (.cells (layT (rows rw_y x1_0)) 5)))], 6, 0⟩)
def X_classEach1q1_1 (x1_1 : Int) (x1_2 : Int) (x1_3 : Int) (x1_4 : Int) (x1_5 : Int) (r : List (Int)) : Ex × XSt := match r with
 | z1_0 => (.exit 2, (sT 26 [(0, (Value.func (.yield 0) #[] #[])), (5, (Value.agg #[(Value.int .u64 x1_1), (Value.int .u64 x1_2), (Value.int .u64 x1_3), (Value.int .u64 x1_4)])), (6, (i6 x1_5))], [], ⟨sB [(0, (some (rblk P 11 [false, true, false, true, true] .ready none [(3, (pN 2 0)), (9, (Value.func (.func 23) #[] #[(pN 4 0)]))] 1))), (1, (some (.marks true))), (2, (some (.cells (layT [(sN 5 0 (z1_0).length (Nat.add big 1))]) 35))), (4, (some (.cells (layT [(Value.int .u64 x1_1), (Value.int .u64 x1_2), (Value.int .u64 x1_3), (Value.int .u64 x1_4)]) 24))), (5, (some (.cells (layT (rows rw_y z1_0)) 5)))], 6, 0⟩))
abbrev Q_classEach1q1_1 (rnd : Option Nat) (x1_1 : Int) (x1_2 : Int) (x1_3 : Int) (x1_4 : Int) (x1_5 : Int) (st : List (Int) × Int) (c : Ex × XSt) : Prop := CG P rnd (fnN P 23) 5 (codeOf P 23 [false, false, true, false, false, true, true, false, false, true]) (S_classEach1q1_1 x1_1 x1_2 x1_3 x1_4 x1_5 st) c
abbrev U_classEach1q1_1 (rd : Option Nat) (x1_1 : Int) (x1_2 : Int) (x1_3 : Int) (x1_4 : Int) (x1_5 : Int) (st : List (Int) × Int) (r : List (Int)) : Prop := CG P rd (fnN P 23) 5 (codeOf P 23 [false, true, false, false, true, true, false, false, true]) (S_classEach1q1_1 x1_1 x1_2 x1_3 x1_4 x1_5 st) (X_classEach1q1_1 x1_1 x1_2 x1_3 x1_4 x1_5 r)
def B_classEach1q1_1 (n : Nat) (x1_1 : Int) (x1_2 : Int) (x1_3 : Int) (x1_4 : Int) (x1_5 : Int) (st : List (Int) × Int) : Option ((List (Int) × Int) ⊕ (List (Int))) := match st with
 | (x1_0, x1_6) =>
  if x1_6 = (0 : Int) then
   some (.inr x1_0)
  else
   (m_bitsTrailingZeros64q1 n x1_6).bind fun y1_2_ =>
   ((some (w64 ((w64 (x1_5 * (64 : Int))) + y1_2_)))).bind fun y1_3_ =>
   (m_classBytes_11010y2 n x1_0 x1_1 x1_2 x1_3 x1_4 (IntKind.u8.wrap y1_3_)).bind fun _ =>
   some (.inl ((x1_0 ++ [(IntKind.u8.wrap y1_3_)]), (bAnd .u64 x1_6 (IntKind.u64.wrap (x1_6 - (1 : Int))))))
def m_classEach1q1_1 (n : Nat) (x1_1 : Int) (x1_2 : Int) (x1_3 : Int) (x1_4 : Int) (x1_5 : Int) (st : List (Int) × Int) : Option (List (Int)) := iterM (B_classEach1q1_1 n x1_1 x1_2 x1_3 x1_4 x1_5) n st
theorem b_classEach1q1_1 (n : Nat) {rnd : Option Nat} (x1_1 : Int) (x1_2 : Int) (x1_3 : Int) (x1_4 : Int) (x1_5 : Int) (st : List (Int) × Int) (o : (List (Int) × Int) ⊕ (List (Int))) (h : B_classEach1q1_1 n x1_1 x1_2 x1_3 x1_4 x1_5 st = some o) : CG P rnd (fnN P 23) 5 (codeOf P 23 [false, false, true, false, false, true, true, false, false, true]) (S_classEach1q1_1 x1_1 x1_2 x1_3 x1_4 x1_5 st) (Sum.elim (fun s => (.normal, S_classEach1q1_1 x1_1 x1_2 x1_3 x1_4 x1_5 s)) (fun r => X_classEach1q1_1 x1_1 x1_2 x1_3 x1_4 x1_5 r) o) := by
 obtain ⟨x1_0, x1_6⟩ := st
 unfold B_classEach1q1_1 at h
 dsimp only at h
 by_cases hy1_1 : x1_6 = (0 : Int)
 ·rw [if_pos hy1_1] at h
  obtain rfl := oI h
  exact runC2 hm ⟨[0, 5, 6], [(0, 0, false), (1, 1, false), (2, 2, false), (4, 4, false), (5, 5, true)], 6, 0, [], false, [], [], []⟩ (zz 3 (xnF hy1_1) <|
   ww (rows_flat rwf_y x1_0 5) <|
   ee) (by kernel_rfl)
 ·rw [if_neg hy1_1] at h
  obtain ⟨y1_2_, hy1_2, h⟩ := oB h
  obtain ⟨y1_3_, hy1_3, h⟩ := oB h
  obtain ⟨_, hy1_4, h⟩ := oB h
  obtain rfl := oI h
  exact runC2 hm ⟨[0, 3, 4, 5, 6], [(0, 0, false), (1, 1, false), (2, 2, false), (4, 4, false), (5, 6, true)], 6, 0, [], false, [], [], []⟩ (zz 3 (xnT hy1_1) <|
   yy 12 (.call (C_bitsTrailingZeros64q1 x1_6 y1_2_ [] [])) <|
   ww (m_bitsTrailingZeros64q1_ok n x1_6 y1_2_ hy1_2) <|
   zz 13 (xnm hy1_3) <|
   yy 15 (.call (C_classBytes_11010y2 x1_0 x1_1 x1_2 x1_3 x1_4 (IntKind.u8.wrap y1_3_) () [(0, 0, false), (1, 1, false), (2, 2, false), (3, 5, true), (4, 4, false)] [(0, 0, false), (1, 1, false), (2, 2, false), (4, 4, false), (6, 5, true)])) <|
   ww (m_classBytes_11010y2_ok n x1_0 x1_1 x1_2 x1_3 x1_4 (IntKind.u8.wrap y1_3_) () hy1_4) <|
   ww (rows_flat rwf_y x1_0 5) <|
   ww (rows_flat rwf_y (x1_0 ++ [(IntKind.u8.wrap y1_3_)]) 5) <|
   ww (rows_flat rwf_y (x1_0 ++ [(IntKind.u8.wrap y1_3_)]) 5) <|
   ee) (by kernel_rfl)
theorem m_classEach1q1_1_ok (n : Nat) {rnd : Option Nat} (x1_1 : Int) (x1_2 : Int) (x1_3 : Int) (x1_4 : Int) (x1_5 : Int) (st : List (Int) × Int) (r : List (Int)) (h : m_classEach1q1_1 n x1_1 x1_2 x1_3 x1_4 x1_5 st = some r) : CG P rnd (fnN P 23) 5 (codeOf P 23 [false, true, false, false, true, true, false, false, true]) (S_classEach1q1_1 x1_1 x1_2 x1_3 x1_4 x1_5 st) (X_classEach1q1_1 x1_1 x1_2 x1_3 x1_4 x1_5 r) :=
 CG.iter (b := codeOf P 23 [false, false, true, false, false, true, true, false, false, true]) (by kernel_rfl) (body := B_classEach1q1_1 n x1_1 x1_2 x1_3 x1_4 x1_5) (S := S_classEach1q1_1 x1_1 x1_2 x1_3 x1_4 x1_5) (X := X_classEach1q1_1 x1_1 x1_2 x1_3 x1_4 x1_5)
  (fun s s' h => b_classEach1q1_1 n x1_1 x1_2 x1_3 x1_4 x1_5 s (.inl s') h)
  (fun s r h => b_classEach1q1_1 n x1_1 x1_2 x1_3 x1_4 x1_5 s (.inr r) h)
  (fun r => by intro hx; cases hx) h
def m_classEach1q1 (n : Nat) (a0 : Int) (a1 : Int) (a2 : Int) (a3 : Int) : Option (List (Int)) :=
 (m_classEach1q1_1 n a0 a1 a2 a3 0 ([], a0)).bind fun c1_ =>
 (m_classEach1q1_1 n a0 a1 a2 a3 1 (c1_, a1)).bind fun c2_ =>
 (m_classEach1q1_1 n a0 a1 a2 a3 2 (c2_, a2)).bind fun c3_ =>
 (m_classEach1q1_1 n a0 a1 a2 a3 3 (c3_, a3)).bind fun c4_ =>
 some c4_
theorem m_classEach1q1_ok (n : Nat) (a0 : Int) (a1 : Int) (a2 : Int) (a3 : Int) (r : List (Int)) (h : m_classEach1q1 n a0 a1 a2 a3 = some r) : Gv P (.func 23) (A_classEach1q1 a0 a1 a2 a3) (H_classEach1q1 a0 a1 a2 a3) (V_classEach1q1 a0 a1 a2 a3 r) (R_classEach1q1 a0 a1 a2 a3 r) := by
 unfold m_classEach1q1 at h
 obtain ⟨c1_, hc1, h⟩ := oB h
 obtain ⟨c2_, hc2, h⟩ := oB h
 obtain ⟨c3_, hc3, h⟩ := oB h
 obtain ⟨c4_, hc4, h⟩ := oB h
 obtain rfl := oI h
 exact runF2 hm ⟨[], [(0, 0, false), (1, 1, false), (2, 2, false), (4, 4, false), (5, 5, true)], 6, 0, [], false, [], [], []⟩ (ww (p := U_classEach1q1_1 none a0 a1 a2 a3 0 ([], a0) c1_) (m_classEach1q1_1_ok n a0 a1 a2 a3 0 ([], a0) c1_ hc1) <|
  ll 17 ⟨⟨[0, 3, 4, 5, 6], [(0, 0, false), (1, 1, false), (2, 2, false), (4, 4, false), (5, 3, false)], 6, 0, [], false, [], [], []⟩, (X_classEach1q1_1 a0 a1 a2 a3 0 c1_).1, (X_classEach1q1_1 a0 a1 a2 a3 0 c1_).2⟩ <|
  ww (p := U_classEach1q1_1 none a0 a1 a2 a3 1 (c1_, a1) c2_) (m_classEach1q1_1_ok n a0 a1 a2 a3 1 (c1_, a1) c2_ hc2) <|
  ww (rows_flat rwf_y c1_ 5) <|
  ll 33 ⟨⟨[0, 3, 4, 5, 6], [(0, 0, false), (1, 1, false), (2, 2, false), (4, 4, false), (5, 5, true)], 6, 0, [], false, [], [], []⟩, (X_classEach1q1_1 a0 a1 a2 a3 1 c2_).1, (X_classEach1q1_1 a0 a1 a2 a3 1 c2_).2⟩ <|
  ww (p := U_classEach1q1_1 none a0 a1 a2 a3 2 (c2_, a2) c3_) (m_classEach1q1_1_ok n a0 a1 a2 a3 2 (c2_, a2) c3_ hc3) <|
  ww (rows_flat rwf_y c2_ 5) <|
  ll 49 ⟨⟨[0, 3, 4, 5, 6], [(0, 0, false), (1, 1, false), (2, 2, false), (4, 4, false), (5, 5, true)], 6, 0, [], false, [], [], []⟩, (X_classEach1q1_1 a0 a1 a2 a3 2 c3_).1, (X_classEach1q1_1 a0 a1 a2 a3 2 c3_).2⟩ <|
  ww (p := U_classEach1q1_1 none a0 a1 a2 a3 3 (c3_, a3) c4_) (m_classEach1q1_1_ok n a0 a1 a2 a3 3 (c3_, a3) c4_ hc4) <|
  ww (rows_flat rwf_y c3_ 5) <|
  ll 65 ⟨⟨[0, 3, 4, 5, 6], [(0, 0, false), (1, 1, false), (2, 2, false), (4, 4, false), (5, 5, true)], 6, 0, [], false, [], [], []⟩, (X_classEach1q1_1 a0 a1 a2 a3 3 c4_).1, (X_classEach1q1_1 a0 a1 a2 a3 3 c4_).2⟩ <|
  ww (rows_flat rwf_y c4_ 5) <|
  ee) (by kernel_rfl)

def A_classBytesq1 (a0 : Int) (a1 : Int) (a2 : Int) (a3 : Int) : List Value := [(Value.agg #[(Value.int .u64 a0), (Value.int .u64 a1), (Value.int .u64 a2), (Value.int .u64 a3)])]
def H_classBytesq1 (a0 : Int) (a1 : Int) (a2 : Int) (a3 : Int) : AH := ⟨sB [], 0, 0⟩
def V_classBytesq1 (a0 : Int) (a1 : Int) (a2 : Int) (a3 : Int) (r : ByteArray) : Value := match r with
 | o0 => (Value.string o0)
def R_classBytesq1 (a0 : Int) (a1 : Int) (a2 : Int) (a3 : Int) (r : ByteArray) : AH := match r with
 | o0 => ⟨sB [(0, (some (.marks false)))], 1, 0⟩
abbrev G_classBytesq1 (a0 : Int) (a1 : Int) (a2 : Int) (a3 : Int) (r : ByteArray) : Prop := Gv P (.func 11) (A_classBytesq1 a0 a1 a2 a3) (H_classBytesq1 a0 a1 a2 a3) (V_classBytesq1 a0 a1 a2 a3 r) (R_classBytesq1 a0 a1 a2 a3 r)
abbrev C_classBytesq1 (a0 : Int) (a1 : Int) (a2 : Int) (a3 : Int) (r : ByteArray) (ins outs : BL) : CallA := ⟨0, ins, V_classBytesq1 a0 a1 a2 a3 r, R_classBytesq1 a0 a1 a2 a3 r, outs⟩
def m_classBytesq1 (n : Nat) (a0 : Int) (a1 : Int) (a2 : Int) (a3 : Int) : Option (ByteArray) :=
 (m_classLenq1 n a0 a1 a2 a3).bind fun c1_ =>
 if 0 ≤ c1_ then
  if (c1_).toNat * 1 ≤ 140737488355328 then
   (m_classEachq1 n a0 a1 a2 a3).bind fun _ =>
   (m_classEach1q1 n a0 a1 a2 a3).bind fun c5_ =>
   some (txtOf (List.take (c5_).length c5_))
  else none
 else none
theorem m_classBytesq1_ok (n : Nat) (a0 : Int) (a1 : Int) (a2 : Int) (a3 : Int) (r : ByteArray) (h : m_classBytesq1 n a0 a1 a2 a3 = some r) : Gv P (.func 11) (A_classBytesq1 a0 a1 a2 a3) (H_classBytesq1 a0 a1 a2 a3) (V_classBytesq1 a0 a1 a2 a3 r) (R_classBytesq1 a0 a1 a2 a3 r) := by
 unfold m_classBytesq1 at h
 obtain ⟨c1_, hc1, h⟩ := oB h
 obtain ⟨hc2, h⟩ := gd h
 obtain ⟨hc3, h⟩ := gd h
 obtain ⟨_, hc4, h⟩ := oB h
 obtain ⟨c5_, hc5, h⟩ := oB h
 obtain rfl := oI h
 exact runF2 hm ⟨[2], [(0, 4, false)], 1, 0, [], false, [], [], []⟩ (yy 5 (.call (C_classLenq1 a0 a1 a2 a3 c1_ [] [])) <|
  ww (m_classLenq1_ok n a0 a1 a2 a3 c1_ hc1) <|
  yy 6 (.mk (c1_).toNat []) <|
  ww (p := natOf (i6 c1_) = some (c1_).toNat) (natOf_toNat hc2) <|
  ww (p := fits (c1_).toNat 1 = true) (fits_ok hc3 (by omega)) <|
  yy 12 (.call (C_classEachq1 a0 a1 a2 a3 () [] [(3, 0, false)])) <|
  ww (m_classEachq1_ok n a0 a1 a2 a3 () hc4) <|
  yy 14 (.rng (C_classEach1q1 a0 a1 a2 a3 c5_ [(0, 5, false), (1, 4, false), (2, 2, false), (3, 1, false), (4, 3, false)] [(5, 0, false), (4, 1, false), (2, 2, false), (3, 4, false), (6, 5, true)]) [3, 9]) <|
  ww (m_classEach1q1_ok n a0 a1 a2 a3 c5_ hc5) <|
  ww (rows_flat rwf_y c5_ 5) <|
  yy 17 (.str (Value.string (txtOf (List.take (c5_).length c5_)))) <|
  ww (p := ∃ r, (oc (rdT (layT (rows rw_y c5_)) (c5_).length 0) none fun l => bytesL l) = some r ∧ (Value.string (txtOf (List.take (c5_).length c5_))) = .string ⟨⟨r⟩⟩) (str_rows rwf_y (fun _ => rfl) _ _ (Nat.le_refl _)) <|
  ee) (by kernel_rfl)

def A_cmpisNaNstringq1 (a0 : ByteArray) : List Value := [(Value.string a0)]
def H_cmpisNaNstringq1 (a0 : ByteArray) : AH := ⟨sB [], 0, 0⟩
def V_cmpisNaNstringq1 (a0 : ByteArray) (r : Bool) : Value := match r with
 | o0 => (bO o0)
def R_cmpisNaNstringq1 (a0 : ByteArray) (r : Bool) : AH := match r with
 | o0 => ⟨sB [], 0, 0⟩
abbrev G_cmpisNaNstringq1 (a0 : ByteArray) (r : Bool) : Prop := Gv P (.func 28) (A_cmpisNaNstringq1 a0) (H_cmpisNaNstringq1 a0) (V_cmpisNaNstringq1 a0 r) (R_cmpisNaNstringq1 a0 r)
abbrev C_cmpisNaNstringq1 (a0 : ByteArray) (r : Bool) (ins outs : BL) : CallA := ⟨0, ins, V_cmpisNaNstringq1 a0 r, R_cmpisNaNstringq1 a0 r, outs⟩
def m_cmpisNaNstringq1 (n : Nat) (a0 : ByteArray) : Option (Bool) :=
 if (a0).data.toList = (a0).data.toList then
  some false
 else
  some true
theorem m_cmpisNaNstringq1_ok (n : Nat) (a0 : ByteArray) (r : Bool) (h : m_cmpisNaNstringq1 n a0 = some r) : Gv P (.func 28) (A_cmpisNaNstringq1 a0) (H_cmpisNaNstringq1 a0) (V_cmpisNaNstringq1 a0 r) (R_cmpisNaNstringq1 a0 r) := by
 unfold m_cmpisNaNstringq1 at h
 by_cases hc1 : (a0).data.toList = (a0).data.toList
 ·rw [if_pos hc1] at h
  obtain rfl := oI h
  exact runF2 hm ⟨[2], [], 0, 0, [], false, [], [], []⟩ (yy 5 (vf) <|
   ww (p := (Value.bool (!((a0).toList == (a0).toList))) = (Value.bool false)) (by rw [vsEqT hc1] <;> rfl) <|
   ee) (by kernel_rfl)
 ·rw [if_neg hc1] at h
  obtain rfl := oI h
  exact runF2 hm ⟨[2], [], 0, 0, [], false, [], [], []⟩ (yy 5 (vt) <|
   ww (p := (Value.bool (!((a0).toList == (a0).toList))) = (Value.bool true)) (by rw [vsEqF hc1] <;> rfl) <|
   ee) (by kernel_rfl)

def A_cmpComparestringq1 (a0 : ByteArray) (a1 : ByteArray) : List Value := [(Value.string a0), (Value.string a1)]
def H_cmpComparestringq1 (a0 : ByteArray) (a1 : ByteArray) : AH := ⟨sB [], 0, 0⟩
def V_cmpComparestringq1 (a0 : ByteArray) (a1 : ByteArray) (r : Int) : Value := match r with
 | o0 => (i6 o0)
def R_cmpComparestringq1 (a0 : ByteArray) (a1 : ByteArray) (r : Int) : AH := match r with
 | o0 => ⟨sB [], 0, 0⟩
abbrev G_cmpComparestringq1 (a0 : ByteArray) (a1 : ByteArray) (r : Int) : Prop := Gv P (.func 20) (A_cmpComparestringq1 a0 a1) (H_cmpComparestringq1 a0 a1) (V_cmpComparestringq1 a0 a1 r) (R_cmpComparestringq1 a0 a1 r)
abbrev C_cmpComparestringq1 (a0 : ByteArray) (a1 : ByteArray) (r : Int) (ins outs : BL) : CallA := ⟨0, ins, V_cmpComparestringq1 a0 a1 r, R_cmpComparestringq1 a0 a1 r, outs⟩
def m_cmpComparestringq1 (n : Nat) (a0 : ByteArray) (a1 : ByteArray) : Option (Int) :=
 (m_cmpisNaNstringq1 n a0).bind fun c1_ =>
 (m_cmpisNaNstringq1 n a1).bind fun c2_ =>
 if c1_ = true then
  if c2_ = true then
   some 0
  else
   some (-1)
 else
  if c2_ = true then
   some 1
  else
   if Go.Op.bytesLess (a0).data.toList (a1).data.toList = true then
    some (-1)
   else
    if (a0).data.toList = (a1).data.toList then
     some 0
    else
     some 1
theorem m_cmpComparestringq1_ok (n : Nat) (a0 : ByteArray) (a1 : ByteArray) (r : Int) (h : m_cmpComparestringq1 n a0 a1 = some r) : Gv P (.func 20) (A_cmpComparestringq1 a0 a1) (H_cmpComparestringq1 a0 a1) (V_cmpComparestringq1 a0 a1 r) (R_cmpComparestringq1 a0 a1 r) := by
 unfold m_cmpComparestringq1 at h
 obtain ⟨c1_, hc1, h⟩ := oB h
 obtain ⟨c2_, hc2, h⟩ := oB h
 have k0 := fun {A L l} (k : PL A L l) => yy 4 (.call (C_cmpisNaNstringq1 a0 c1_ [] [])) <|
  ww (m_cmpisNaNstringq1_ok n a0 c1_ hc1) <|
  yy 8 (.call (C_cmpisNaNstringq1 a1 c2_ [] [])) <|
  ww (m_cmpisNaNstringq1_ok n a1 c2_ hc2) <|
  k
 by_cases hc3 : c1_ = true
 ·rw [if_pos hc3] at h
  have k4 := fun {A L l} (k : PL A L l) => zz 13 (xbT hc3) <|
   k
  by_cases hc4 : c2_ = true
  ·rw [if_pos hc4] at h
   obtain rfl := oI h
   exact runF2 hm ⟨[4], [], 0, 0, [], false, [], [], []⟩ (k0 <|
    k4 <|
    zz 17 (xbT hc4) <|
    ee) (by kernel_rfl)
  ·rw [if_neg hc4] at h
   obtain rfl := oI h
   exact runF2 hm ⟨[4], [], 0, 0, [], false, [], [], []⟩ (k0 <|
    k4 <|
    zz 17 (xbF hc4) <|
    ee) (by kernel_rfl)
 ·rw [if_neg hc3] at h
  have k4 := fun {A L l} (k : PL A L l) => zz 13 (xbF hc3) <|
   k
  by_cases hc4 : c2_ = true
  ·rw [if_pos hc4] at h
   obtain rfl := oI h
   exact runF2 hm ⟨[4], [], 0, 0, [], false, [], [], []⟩ (k0 <|
    k4 <|
    zz 17 (xbT hc4) <|
    ee) (by kernel_rfl)
  ·rw [if_neg hc4] at h
   have k5 := fun {A L l} (k : PL A L l) => zz 17 (xbF hc4) <|
    k
   by_cases hc5 : Go.Op.bytesLess (a0).data.toList (a1).data.toList = true
   ·rw [if_pos hc5] at h
    obtain rfl := oI h
    exact runF2 hm ⟨[4], [], 0, 0, [], false, [], [], []⟩ (k0 <|
     k4 <|
     k5 <|
     yy 22 (vt) <|
     ww (p := (Value.bool (Go.Op.bytesLess (a0).toList (a1).toList)) = (Value.bool true)) (by rw [vsLtT hc5] <;> rfl) <|
     ee) (by kernel_rfl)
   ·rw [if_neg hc5] at h
    have k6 := fun {A L l} (k : PL A L l) => yy 22 (vf) <|
     ww (p := (Value.bool (Go.Op.bytesLess (a0).toList (a1).toList)) = (Value.bool false)) (by rw [vsLtF hc5] <;> rfl) <|
     k
    by_cases hc6 : (a0).data.toList = (a1).data.toList
    ·rw [if_pos hc6] at h
     obtain rfl := oI h
     exact runF2 hm ⟨[4], [], 0, 0, [], false, [], [], []⟩ (k0 <|
      k4 <|
      k5 <|
      k6 <|
      yy 28 (vf) <|
      ww (p := (Value.bool (!((Go.Op.bytesLess (a0).toList (a1).toList) || ((a0).toList == (a1).toList)))) = (Value.bool false)) (by rw [vsLtF hc5, vsEqT hc6] <;> rfl) <|
      ee) (by kernel_rfl)
    ·rw [if_neg hc6] at h
     obtain rfl := oI h
     exact runF2 hm ⟨[4], [], 0, 0, [], false, [], [], []⟩ (k0 <|
      k4 <|
      k5 <|
      k6 <|
      yy 28 (vt) <|
      ww (p := (Value.bool (!((Go.Op.bytesLess (a0).toList (a1).toList) || ((a0).toList == (a1).toList)))) = (Value.bool true)) (by rw [vsLtF hc5, vsEqF hc6] <;> rfl) <|
      ee) (by kernel_rfl)

def A_classCompareq1 (a0 : Int) (a1 : Int) (a2 : Int) (a3 : Int) (a4 : Int) (a5 : Int) (a6 : Int) (a7 : Int) : List Value := [(Value.agg #[(Value.int .u64 a0), (Value.int .u64 a1), (Value.int .u64 a2), (Value.int .u64 a3)]), (Value.agg #[(Value.int .u64 a4), (Value.int .u64 a5), (Value.int .u64 a6), (Value.int .u64 a7)])]
def H_classCompareq1 (a0 : Int) (a1 : Int) (a2 : Int) (a3 : Int) (a4 : Int) (a5 : Int) (a6 : Int) (a7 : Int) : AH := ⟨sB [], 0, 0⟩
def V_classCompareq1 (a0 : Int) (a1 : Int) (a2 : Int) (a3 : Int) (a4 : Int) (a5 : Int) (a6 : Int) (a7 : Int) (r : Int) : Value := match r with
 | o0 => (i6 o0)
def R_classCompareq1 (a0 : Int) (a1 : Int) (a2 : Int) (a3 : Int) (a4 : Int) (a5 : Int) (a6 : Int) (a7 : Int) (r : Int) : AH := match r with
 | o0 => ⟨sB [], 0, 0⟩
abbrev G_classCompareq1 (a0 : Int) (a1 : Int) (a2 : Int) (a3 : Int) (a4 : Int) (a5 : Int) (a6 : Int) (a7 : Int) (r : Int) : Prop := Gv P (.func 12) (A_classCompareq1 a0 a1 a2 a3 a4 a5 a6 a7) (H_classCompareq1 a0 a1 a2 a3 a4 a5 a6 a7) (V_classCompareq1 a0 a1 a2 a3 a4 a5 a6 a7 r) (R_classCompareq1 a0 a1 a2 a3 a4 a5 a6 a7 r)
abbrev C_classCompareq1 (a0 : Int) (a1 : Int) (a2 : Int) (a3 : Int) (a4 : Int) (a5 : Int) (a6 : Int) (a7 : Int) (r : Int) (ins outs : BL) : CallA := ⟨0, ins, V_classCompareq1 a0 a1 a2 a3 a4 a5 a6 a7 r, R_classCompareq1 a0 a1 a2 a3 a4 a5 a6 a7 r, outs⟩
def m_classCompareq1 (n : Nat) (a0 : Int) (a1 : Int) (a2 : Int) (a3 : Int) (a4 : Int) (a5 : Int) (a6 : Int) (a7 : Int) : Option (Int) :=
 (m_classBytesq1 n a0 a1 a2 a3).bind fun c1_ =>
 (m_classBytesq1 n a4 a5 a6 a7).bind fun c2_ =>
 (m_cmpComparestringq1 n c1_ c2_).bind fun c3_ =>
 some c3_
theorem m_classCompareq1_ok (n : Nat) (a0 : Int) (a1 : Int) (a2 : Int) (a3 : Int) (a4 : Int) (a5 : Int) (a6 : Int) (a7 : Int) (r : Int) (h : m_classCompareq1 n a0 a1 a2 a3 a4 a5 a6 a7 = some r) : Gv P (.func 12) (A_classCompareq1 a0 a1 a2 a3 a4 a5 a6 a7) (H_classCompareq1 a0 a1 a2 a3 a4 a5 a6 a7) (V_classCompareq1 a0 a1 a2 a3 a4 a5 a6 a7 r) (R_classCompareq1 a0 a1 a2 a3 a4 a5 a6 a7 r) := by
 unfold m_classCompareq1 at h
 obtain ⟨c1_, hc1, h⟩ := oB h
 obtain ⟨c2_, hc2, h⟩ := oB h
 obtain ⟨c3_, hc3, h⟩ := oB h
 obtain rfl := oI h
 exact runF2 hm ⟨[4], [], 0, 0, [], false, [], [], []⟩ (yy 6 (.call (C_classBytesq1 a0 a1 a2 a3 c1_ [] [])) <|
  ww (m_classBytesq1_ok n a0 a1 a2 a3 c1_ hc1) <|
  yy 8 (.call (C_classBytesq1 a4 a5 a6 a7 c2_ [] [])) <|
  ww (m_classBytesq1_ok n a4 a5 a6 a7 c2_ hc2) <|
  yy 9 (.call (C_cmpComparestringq1 c1_ c2_ c3_ [] [])) <|
  ww (m_cmpComparestringq1_ok n c1_ c2_ c3_ hc3) <|
  ee) (by kernel_rfl)

def A_classwithq1 (a0 : Int) (a1 : Int) (a2 : Int) (a3 : Int) (a4 : Int) : List Value := [(Value.agg #[(Value.int .u64 a0), (Value.int .u64 a1), (Value.int .u64 a2), (Value.int .u64 a3)]), (Value.int .u8 a4)]
def H_classwithq1 (a0 : Int) (a1 : Int) (a2 : Int) (a3 : Int) (a4 : Int) : AH := ⟨sB [], 0, 0⟩
def V_classwithq1 (a0 : Int) (a1 : Int) (a2 : Int) (a3 : Int) (a4 : Int) (r : Int × Int × Int × Int) : Value := match r with
 | (o0, o1, o2, o3) => (Value.agg #[(Value.int .u64 o0), (Value.int .u64 o1), (Value.int .u64 o2), (Value.int .u64 o3)])
def R_classwithq1 (a0 : Int) (a1 : Int) (a2 : Int) (a3 : Int) (a4 : Int) (r : Int × Int × Int × Int) : AH := match r with
 | (o0, o1, o2, o3) => ⟨sB [(0, (some (.cells (layT [(Value.int .u64 o0), (Value.int .u64 o1), (Value.int .u64 o2), (Value.int .u64 o3)]) 24)))], 1, 0⟩
abbrev G_classwithq1 (a0 : Int) (a1 : Int) (a2 : Int) (a3 : Int) (a4 : Int) (r : Int × Int × Int × Int) : Prop := Gv P (.func 22) (A_classwithq1 a0 a1 a2 a3 a4) (H_classwithq1 a0 a1 a2 a3 a4) (V_classwithq1 a0 a1 a2 a3 a4 r) (R_classwithq1 a0 a1 a2 a3 a4 r)
abbrev C_classwithq1 (a0 : Int) (a1 : Int) (a2 : Int) (a3 : Int) (a4 : Int) (r : Int × Int × Int × Int) (ins outs : BL) : CallA := ⟨0, ins, V_classwithq1 a0 a1 a2 a3 a4 r, R_classwithq1 a0 a1 a2 a3 a4 r, outs⟩
def m_classwithq1 (n : Nat) (a0 : Int) (a1 : Int) (a2 : Int) (a3 : Int) (a4 : Int) : Option (Int × Int × Int × Int) :=
 if ¬ ((64 : Int) = 0) then
  if 0 ≤ (IntKind.u8.wrap (Int.tdiv a4 (64 : Int))) ∧ (IntKind.u8.wrap (Int.tdiv a4 (64 : Int))) < ((4 : Nat) : Int) then
   if ((IntKind.u8.wrap (Int.tdiv a4 (64 : Int)))).toNat < ([a0, a1, a2, a3]).length then
    ((some (([a0, a1, a2, a3]).getD ((IntKind.u8.wrap (Int.tdiv a4 (64 : Int)))).toNat (0)))).bind fun c4_ =>
    if 0 ≤ (Int.tmod a4 (64 : Int)) then
     ((some (bOr .u64 c4_ (shlV .u64 (1 : Int) (Int.tmod a4 (64 : Int)))))).bind fun c6_ =>
     if ((([a0, a1, a2, a3]).set ((IntKind.u8.wrap (Int.tdiv a4 (64 : Int)))).toNat c6_)).length = 4 then
      some ((((([a0, a1, a2, a3]).set ((IntKind.u8.wrap (Int.tdiv a4 (64 : Int)))).toNat c6_)).getD 0 0), (((([a0, a1, a2, a3]).set ((IntKind.u8.wrap (Int.tdiv a4 (64 : Int)))).toNat c6_)).getD 1 0), (((([a0, a1, a2, a3]).set ((IntKind.u8.wrap (Int.tdiv a4 (64 : Int)))).toNat c6_)).getD 2 0), (((([a0, a1, a2, a3]).set ((IntKind.u8.wrap (Int.tdiv a4 (64 : Int)))).toNat c6_)).getD 3 0))
     else none
    else none
   else none
  else none
 else none
theorem m_classwithq1_ok (n : Nat) (a0 : Int) (a1 : Int) (a2 : Int) (a3 : Int) (a4 : Int) (r : Int × Int × Int × Int) (h : m_classwithq1 n a0 a1 a2 a3 a4 = some r) : Gv P (.func 22) (A_classwithq1 a0 a1 a2 a3 a4) (H_classwithq1 a0 a1 a2 a3 a4) (V_classwithq1 a0 a1 a2 a3 a4 r) (R_classwithq1 a0 a1 a2 a3 a4 r) := by
 unfold m_classwithq1 at h
 obtain ⟨hc1, h⟩ := gd h
 obtain ⟨hc2, h⟩ := gd h
 obtain ⟨hc3, h⟩ := gd h
 obtain ⟨c4_, hc4, h⟩ := oB h
 obtain ⟨hc5, h⟩ := gd h
 obtain ⟨c6_, hc6, h⟩ := oB h
 obtain ⟨hc7, h⟩ := gd h
 obtain rfl := oI h
 exact runF2 hm ⟨[4], [(0, 1, false)], 1, 0, [], false, [], [], []⟩ (yy 5 (.pur (Value.int .u8 (IntKind.u8.wrap (Int.tdiv a4 (64 : Int))))) <|
  ww (p := opBin P .quo 5 (.tmp 5) (.const (Value.int .u8 (64 : Int))) (Value.int .u8 a4) (Value.int .u8 (64 : Int)) Ax.h0 = some ((Value.int .u8 (IntKind.u8.wrap (Int.tdiv a4 (64 : Int)))), Ax.h0)) (quo_u8 hc1) <|
  yy 6 (.pur (pN 0 (((IntKind.u8.wrap (Int.tdiv a4 (64 : Int)))).toNat * 1))) <|
  ww (p := opIndexAddr P 24 (pN 0 0) (Value.int .u8 (IntKind.u8.wrap (Int.tdiv a4 (64 : Int)))) Ax.h0 = some ((pN 0 (((IntKind.u8.wrap (Int.tdiv a4 (64 : Int)))).toNat * 1)), Ax.h0)) (ixArr (es := 1) (e := 22) (m := 4) (by kernel_rfl) (by kernel_rfl) hc2) <|
  zz 7 (ok1 hc4 (hc3)) <|
  yy 9 (.pur (Value.int .u8 (Int.tmod a4 (64 : Int)))) <|
  ww (p := opBin P .rem 5 (.tmp 9) (.const (Value.int .u8 (64 : Int))) (Value.int .u8 a4) (Value.int .u8 (64 : Int)) Ax.h0 = some ((Value.int .u8 (Int.tmod a4 (64 : Int))), Ax.h0)) (rem_u8 (by decide)) <|
  yy 10 (.pur (Value.int .u64 (shlV .u64 (1 : Int) (Int.tmod a4 (64 : Int))))) <|
  ww (p := opBin P .shl 22 (.const (Value.int .u64 (1 : Int))) (.tmp 10) (Value.int .u64 (1 : Int)) (Value.int .u8 (Int.tmod a4 (64 : Int))) Ax.h0 = some ((Value.int .u64 (shlV .u64 (1 : Int) (Int.tmod a4 (64 : Int)))), Ax.h0)) (shl_u64_u8 hc5) <|
  zz 11 (xnmK (k := .u64) hc6) <|
  yy 12 (.pur (pN 0 (((IntKind.u8.wrap (Int.tdiv a4 (64 : Int)))).toNat * 1))) <|
  ww (p := opIndexAddr P 24 (pN 0 0) (Value.int .u8 (IntKind.u8.wrap (Int.tdiv a4 (64 : Int)))) Ax.h0 = some ((pN 0 (((IntKind.u8.wrap (Int.tdiv a4 (64 : Int)))).toNat * 1)), Ax.h0)) (ixArr (es := 1) (e := 22) (m := 4) (by kernel_rfl) (by kernel_rfl) hc2) <|
  yy 13 (.sto (layT (rows rw_u (([a0, a1, a2, a3]).set ((IntKind.u8.wrap (Int.tdiv a4 (64 : Int)))).toNat c6_)))) <|
  ww (p := ∃ old, rdT (layT (rows rw_u [a0, a1, a2, a3])) 1 (((IntKind.u8.wrap (Int.tdiv a4 (64 : Int)))).toNat * 1) = some old) (Exists.elim (rows_st rwf_u (0) (i := ((IntKind.u8.wrap (Int.tdiv a4 (64 : Int)))).toNat) (j := 0) (l := [(Value.int .u64 c6_)]) c6_ (((IntKind.u8.wrap (Int.tdiv a4 (64 : Int)))).toNat * 1) rfl (hc3) (Nat.le_of_ble_eq_true rfl) rfl) fun o h => ⟨o, h.1⟩) <|
  ww (p := layL [(Value.int .u64 c6_)] (((IntKind.u8.wrap (Int.tdiv a4 (64 : Int)))).toNat * 1) (layT (rows rw_u [a0, a1, a2, a3])) = layT (rows rw_u (([a0, a1, a2, a3]).set ((IntKind.u8.wrap (Int.tdiv a4 (64 : Int)))).toNat c6_))) (Exists.elim (rows_st rwf_u (0) (i := ((IntKind.u8.wrap (Int.tdiv a4 (64 : Int)))).toNat) (j := 0) (l := [(Value.int .u64 c6_)]) c6_ (((IntKind.u8.wrap (Int.tdiv a4 (64 : Int)))).toNat * 1) rfl (hc3) (Nat.le_of_ble_eq_true rfl) rfl) fun o h => h.2) <|
  yy 15 (.ld (Value.agg #[(Value.int .u64 (((([a0, a1, a2, a3]).set ((IntKind.u8.wrap (Int.tdiv a4 (64 : Int)))).toNat c6_)).getD 0 0)), (Value.int .u64 (((([a0, a1, a2, a3]).set ((IntKind.u8.wrap (Int.tdiv a4 (64 : Int)))).toNat c6_)).getD 1 0)), (Value.int .u64 (((([a0, a1, a2, a3]).set ((IntKind.u8.wrap (Int.tdiv a4 (64 : Int)))).toNat c6_)).getD 2 0)), (Value.int .u64 (((([a0, a1, a2, a3]).set ((IntKind.u8.wrap (Int.tdiv a4 (64 : Int)))).toNat c6_)).getD 3 0))])) <|
  ww (p := rdT (layT (rows rw_u (([a0, a1, a2, a3]).set ((IntKind.u8.wrap (Int.tdiv a4 (64 : Int)))).toNat c6_))) 4 0 = some [(Value.int .u64 (((([a0, a1, a2, a3]).set ((IntKind.u8.wrap (Int.tdiv a4 (64 : Int)))).toNat c6_)).getD 0 0)), (Value.int .u64 (((([a0, a1, a2, a3]).set ((IntKind.u8.wrap (Int.tdiv a4 (64 : Int)))).toNat c6_)).getD 1 0)), (Value.int .u64 (((([a0, a1, a2, a3]).set ((IntKind.u8.wrap (Int.tdiv a4 (64 : Int)))).toNat c6_)).getD 2 0)), (Value.int .u64 (((([a0, a1, a2, a3]).set ((IntKind.u8.wrap (Int.tdiv a4 (64 : Int)))).toNat c6_)).getD 3 0))]) (arr_rd4R rwf_u 0 hc7) <|
  ee) (by kernel_rfl)

def A_classOfq1 (a0 : ByteArray) : List Value := [(Value.string a0)]
def H_classOfq1 (a0 : ByteArray) : AH := ⟨sB [], 0, 0⟩
def V_classOfq1 (a0 : ByteArray) (r : Int × Int × Int × Int) : Value := match r with
 | (o0, o1, o2, o3) => (Value.agg #[(Value.int .u64 o0), (Value.int .u64 o1), (Value.int .u64 o2), (Value.int .u64 o3)])
def R_classOfq1 (a0 : ByteArray) (r : Int × Int × Int × Int) : AH := match r with
 | (o0, o1, o2, o3) => ⟨sB [(0, (some (.cells (layT [(Value.int .u64 o0), (Value.int .u64 o1), (Value.int .u64 o2), (Value.int .u64 o3)]) 24)))], 1, 0⟩
abbrev G_classOfq1 (a0 : ByteArray) (r : Int × Int × Int × Int) : Prop := Gv P (.func 14) (A_classOfq1 a0) (H_classOfq1 a0) (V_classOfq1 a0 r) (R_classOfq1 a0 r)
abbrev C_classOfq1 (a0 : ByteArray) (r : Int × Int × Int × Int) (ins outs : BL) : CallA := ⟨0, ins, V_classOfq1 a0 r, R_classOfq1 a0 r, outs⟩
def S_classOfq1_1 (x1_0 : ByteArray) (x1_5 : Int) (st : Int × Int × Int × Int × Int) : XSt := match st with
 | (x1_1, x1_2, x1_3, x1_4, x1_6) => (sT 17 [(0, (Value.string x1_0)), (2, (pN 0 0)), (3, (pN 1 0)), (6, (i6 x1_5)), (7, (i6 x1_6))], [], ⟨sB [(0, (some (.cells (layT [(Value.int .u64 (0 : Int)), (Value.int .u64 (0 : Int)), (Value.int .u64 (0 : Int)), (Value.int .u64 (0 : Int))]) 24))), (1, (some (.cells (layT [(Value.int .u64 x1_1), (Value.int .u64 x1_2), (Value.int .u64 x1_3), (Value.int .u64 x1_4)]) 24)))], 2, 0⟩)
def X_classOfq1_1 (x1_0 : ByteArray) (x1_5 : Int) (r : Int × Int × Int × Int) : Ex × XSt := match r with
 | (z1_0, z1_1, z1_2, z1_3) => (.exit 0, (sT 17 [(2, (pN 0 0)), (3, (pN 1 0))], [], ⟨sB [(0, (some (.cells (layT [(Value.int .u64 (0 : Int)), (Value.int .u64 (0 : Int)), (Value.int .u64 (0 : Int)), (Value.int .u64 (0 : Int))]) 24))), (1, (some (.cells (layT [(Value.int .u64 z1_0), (Value.int .u64 z1_1), (Value.int .u64 z1_2), (Value.int .u64 z1_3)]) 24)))], 2, 0⟩))
abbrev Q_classOfq1_1 (rnd : Option Nat) (x1_0 : ByteArray) (x1_5 : Int) (st : Int × Int × Int × Int × Int) (c : Ex × XSt) : Prop := CG P rnd (fnN P 14) 0 (codeOf P 14 [false, false, true, false, true, true]) (S_classOfq1_1 x1_0 x1_5 st) c
abbrev U_classOfq1_1 (rd : Option Nat) (x1_0 : ByteArray) (x1_5 : Int) (st : Int × Int × Int × Int × Int) (r : Int × Int × Int × Int) : Prop := CG P rd (fnN P 14) 0 (codeOf P 14 [false, true, false, true, true]) (S_classOfq1_1 x1_0 x1_5 st) (X_classOfq1_1 x1_0 x1_5 r)
def B_classOfq1_1 (n : Nat) (x1_0 : ByteArray) (x1_5 : Int) (st : Int × Int × Int × Int × Int) : Option ((Int × Int × Int × Int × Int) ⊕ (Int × Int × Int × Int)) := match st with
 | (x1_1, x1_2, x1_3, x1_4, x1_6) =>
  if x1_6 < x1_5 then
   if 0 ≤ x1_6 ∧ x1_6 < (((x1_0).size : Nat) : Int) then
    (m_classwithq1 n x1_1 x1_2 x1_3 x1_4 (byteAt x1_0 (x1_6).toNat)).bind fun t => match t with
    | (y1_3_0, y1_3_1, y1_3_2, y1_3_3) =>
     some (.inl (y1_3_0, y1_3_1, y1_3_2, y1_3_3, (w64 (x1_6 + (1 : Int)))))
   else none
  else
   some (.inr (x1_1, x1_2, x1_3, x1_4))
def m_classOfq1_1 (n : Nat) (x1_0 : ByteArray) (x1_5 : Int) (st : Int × Int × Int × Int × Int) : Option (Int × Int × Int × Int) := iterM (B_classOfq1_1 n x1_0 x1_5) n st
theorem b_classOfq1_1 (n : Nat) {rnd : Option Nat} (x1_0 : ByteArray) (x1_5 : Int) (st : Int × Int × Int × Int × Int) (o : (Int × Int × Int × Int × Int) ⊕ (Int × Int × Int × Int)) (h : B_classOfq1_1 n x1_0 x1_5 st = some o) : CG P rnd (fnN P 14) 0 (codeOf P 14 [false, false, true, false, true, true]) (S_classOfq1_1 x1_0 x1_5 st) (Sum.elim (fun s => (.normal, S_classOfq1_1 x1_0 x1_5 s)) (fun r => X_classOfq1_1 x1_0 x1_5 r) o) := by
 obtain ⟨x1_1, x1_2, x1_3, x1_4, x1_6⟩ := st
 unfold B_classOfq1_1 at h
 dsimp only at h
 by_cases hy1_1 : x1_6 < x1_5
 ·rw [if_pos hy1_1] at h
  obtain ⟨hy1_2, h⟩ := gd h
  obtain ⟨⟨y1_3_0, y1_3_1, y1_3_2, y1_3_3⟩, hy1_3, h⟩ := oB h
  dsimp only at h
  obtain rfl := oI h
  exact runC2 hm ⟨[0, 2, 3, 6, 7], [(0, 0, false), (1, 1, false)], 2, 0, [], false, [], [], []⟩ (zz 1 (xdT hy1_1) <|
   yy 12 (.pur (Value.int .u8 (byteAt x1_0 (x1_6).toNat))) <|
   ww (p := opIndex P 9 (Value.string x1_0) (i6 x1_6) Ax.h0 = some ((Value.int .u8 (byteAt x1_0 (x1_6).toNat)), Ax.h0)) (ixStr (by kernel_rfl) hy1_2) <|
   yy 13 (.call (C_classwithq1 x1_1 x1_2 x1_3 x1_4 (byteAt x1_0 (x1_6).toNat) (y1_3_0, y1_3_1, y1_3_2, y1_3_3) [] [(2, 0, false)])) <|
   ww (m_classwithq1_ok n x1_1 x1_2 x1_3 x1_4 (byteAt x1_0 (x1_6).toNat) (y1_3_0, y1_3_1, y1_3_2, y1_3_3) hy1_3) <|
   ee) (by kernel_rfl)
 ·rw [if_neg hy1_1] at h
  obtain rfl := oI h
  exact runC2 hm ⟨[2, 3], [(0, 0, false), (1, 1, false)], 2, 0, [], false, [], [], []⟩ (zz 1 (xdF hy1_1) <|
   ee) (by kernel_rfl)
theorem m_classOfq1_1_ok (n : Nat) {rnd : Option Nat} (x1_0 : ByteArray) (x1_5 : Int) (st : Int × Int × Int × Int × Int) (r : Int × Int × Int × Int) (h : m_classOfq1_1 n x1_0 x1_5 st = some r) : CG P rnd (fnN P 14) 0 (codeOf P 14 [false, true, false, true, true]) (S_classOfq1_1 x1_0 x1_5 st) (X_classOfq1_1 x1_0 x1_5 r) :=
 CG.iter (b := codeOf P 14 [false, false, true, false, true, true]) (by kernel_rfl) (body := B_classOfq1_1 n x1_0 x1_5) (S := S_classOfq1_1 x1_0 x1_5) (X := X_classOfq1_1 x1_0 x1_5)
  (fun s s' h => b_classOfq1_1 n x1_0 x1_5 s (.inl s') h)
  (fun s r h => b_classOfq1_1 n x1_0 x1_5 s (.inr r) h)
  (fun r => by intro hx; cases hx) h
def m_classOfq1 (n : Nat) (a0 : ByteArray) : Option (Int × Int × Int × Int) :=
 (m_classOfq1_1 n a0 (((a0).size : Nat) : Int) (0, 0, 0, 0, 0)).bind fun t => match t with
 | (c1_0, c1_1, c1_2, c1_3) =>
  some (c1_0, c1_1, c1_2, c1_3)
theorem m_classOfq1_ok (n : Nat) (a0 : ByteArray) (r : Int × Int × Int × Int) (h : m_classOfq1 n a0 = some r) : Gv P (.func 14) (A_classOfq1 a0) (H_classOfq1 a0) (V_classOfq1 a0 r) (R_classOfq1 a0 r) := by
 unfold m_classOfq1 at h
 obtain ⟨⟨c1_0, c1_1, c1_2, c1_3⟩, hc1, h⟩ := oB h
 dsimp only at h
 obtain rfl := oI h
 exact runF2 hm ⟨[2], [(0, 0, false)], 1, 0, [], false, [], [], []⟩ (ww (p := U_classOfq1_1 none a0 (((a0).size : Nat) : Int) (0, 0, 0, 0, 0) (c1_0, c1_1, c1_2, c1_3)) (m_classOfq1_1_ok n a0 (((a0).size : Nat) : Int) (0, 0, 0, 0, 0) (c1_0, c1_1, c1_2, c1_3) hc1) <|
  ll 10 ⟨⟨[0, 2, 3, 6, 7], [(0, 0, false), (1, 1, false)], 2, 0, [], false, [], [], []⟩, (X_classOfq1_1 a0 (((a0).size : Nat) : Int) (c1_0, c1_1, c1_2, c1_3)).1, (X_classOfq1_1 a0 (((a0).size : Nat) : Int) (c1_0, c1_1, c1_2, c1_3)).2⟩ <|
  ee) (by kernel_rfl)

def A_viewportlaw01ClassSets (g00 : Int) (g01 : Int) (g02 : Int) (g03 : Int) (g10 : Int) (g11 : Int) (g12 : Int) (g13 : Int) : List Value := [(Value.agg #[(Value.int .u64 g00), (Value.int .u64 g01), (Value.int .u64 g02), (Value.int .u64 g03)]), (Value.agg #[(Value.int .u64 g10), (Value.int .u64 g11), (Value.int .u64 g12), (Value.int .u64 g13)])]
def H_viewportlaw01ClassSets (g00 : Int) (g01 : Int) (g02 : Int) (g03 : Int) (g10 : Int) (g11 : Int) (g12 : Int) (g13 : Int) : AH := ⟨sB [], 0, 0⟩
def V_viewportlaw01ClassSets (g00 : Int) (g01 : Int) (g02 : Int) (g03 : Int) (g10 : Int) (g11 : Int) (g12 : Int) (g13 : Int) (r : Unit) : Value := match r with
 | _ => (bO true)
def R_viewportlaw01ClassSets (g00 : Int) (g01 : Int) (g02 : Int) (g03 : Int) (g10 : Int) (g11 : Int) (g12 : Int) (g13 : Int) (r : Unit) : AH := match r with
 | _ => ⟨sB [], 0, 0⟩
abbrev G_viewportlaw01ClassSets (g00 : Int) (g01 : Int) (g02 : Int) (g03 : Int) (g10 : Int) (g11 : Int) (g12 : Int) (g13 : Int) (r : Unit) : Prop := Gv P (.func 3) (A_viewportlaw01ClassSets g00 g01 g02 g03 g10 g11 g12 g13) (H_viewportlaw01ClassSets g00 g01 g02 g03 g10 g11 g12 g13) (V_viewportlaw01ClassSets g00 g01 g02 g03 g10 g11 g12 g13 r) (R_viewportlaw01ClassSets g00 g01 g02 g03 g10 g11 g12 g13 r)
abbrev C_viewportlaw01ClassSets (g00 : Int) (g01 : Int) (g02 : Int) (g03 : Int) (g10 : Int) (g11 : Int) (g12 : Int) (g13 : Int) (r : Unit) (ins outs : BL) : CallA := ⟨0, ins, V_viewportlaw01ClassSets g00 g01 g02 g03 g10 g11 g12 g13 r, R_viewportlaw01ClassSets g00 g01 g02 g03 g10 g11 g12 g13 r, outs⟩
def S_viewportlaw01ClassSets_2 (x2_0 : List (Int)) (x2_1 : Int) (x2_2 : Int) (x2_3 : Int) (x2_4 : Int) (x2_5 : Int) (x2_6 : ByteArray) (st : Int) : XSt := match st with
 | x2_7 => (sT 133 [(2, (pN 0 0)), (3, (pN 1 0)), (8, (i6 x2_5)), (12, (Value.string x2_6)), (13, (i6 x2_7))], [], ⟨sB [(0, (some (.cells (layT (rows rw_u x2_0)) 24))), (1, (some (.cells (layT [(Value.int .u64 x2_1), (Value.int .u64 x2_2), (Value.int .u64 x2_3), (Value.int .u64 x2_4)]) 24)))], 2, 0⟩)
def X_viewportlaw01ClassSets_2 (x2_0 : List (Int)) (x2_1 : Int) (x2_2 : Int) (x2_3 : Int) (x2_4 : Int) (x2_5 : Int) (x2_6 : ByteArray) (r : Unit) : Ex × XSt := match r with
 | _ => (.exit 2, (sT 133 [(2, (pN 0 0)), (3, (pN 1 0)), (8, (i6 x2_5)), (12, (Value.string x2_6))], [], ⟨sB [(0, (some (.cells (layT (rows rw_u x2_0)) 24))), (1, (some (.cells (layT [(Value.int .u64 x2_1), (Value.int .u64 x2_2), (Value.int .u64 x2_3), (Value.int .u64 x2_4)]) 24)))], 2, 0⟩))
abbrev Q_viewportlaw01ClassSets_2 (rnd : Option Nat) (x2_0 : List (Int)) (x2_1 : Int) (x2_2 : Int) (x2_3 : Int) (x2_4 : Int) (x2_5 : Int) (x2_6 : ByteArray) (st : Int) (c : Ex × XSt) : Prop := CG P rnd (fnN P 3) 0 (codeOf P 3 [false, false, true, false, true, true, true, true, true, true]) (S_viewportlaw01ClassSets_2 x2_0 x2_1 x2_2 x2_3 x2_4 x2_5 x2_6 st) c
abbrev U_viewportlaw01ClassSets_2 (rd : Option Nat) (x2_0 : List (Int)) (x2_1 : Int) (x2_2 : Int) (x2_3 : Int) (x2_4 : Int) (x2_5 : Int) (x2_6 : ByteArray) (st : Int) (r : Unit) : Prop := CG P rd (fnN P 3) 0 (codeOf P 3 [false, true, false, true, true, true, true, true, true]) (S_viewportlaw01ClassSets_2 x2_0 x2_1 x2_2 x2_3 x2_4 x2_5 x2_6 st) (X_viewportlaw01ClassSets_2 x2_0 x2_1 x2_2 x2_3 x2_4 x2_5 x2_6 r)
def B_viewportlaw01ClassSets_2 (n : Nat) (x2_0 : List (Int)) (x2_1 : Int) (x2_2 : Int) (x2_3 : Int) (x2_4 : Int) (x2_5 : Int) (x2_6 : ByteArray) (st : Int) : Option ((Int) ⊕ (Unit)) := match st with
 | x2_7 =>
  if x2_7 < (((x2_6).size : Nat) : Int) then
   if 0 ≤ (w64 (x2_7 - (1 : Int))) ∧ (w64 (x2_7 - (1 : Int))) < (((x2_6).size : Nat) : Int) then
    if 0 ≤ x2_7 ∧ x2_7 < (((x2_6).size : Nat) : Int) then
     if (byteAt x2_6 ((w64 (x2_7 - (1 : Int)))).toNat) ≥ (byteAt x2_6 (x2_7).toNat) then
      none
     else
      some (.inl (w64 (x2_7 + (1 : Int))))
    else none
   else none
  else
   some (.inr ())
def m_viewportlaw01ClassSets_2 (n : Nat) (x2_0 : List (Int)) (x2_1 : Int) (x2_2 : Int) (x2_3 : Int) (x2_4 : Int) (x2_5 : Int) (x2_6 : ByteArray) (st : Int) : Option (Unit) := iterM (B_viewportlaw01ClassSets_2 n x2_0 x2_1 x2_2 x2_3 x2_4 x2_5 x2_6) n st
theorem b_viewportlaw01ClassSets_2 (n : Nat) {rnd : Option Nat} (x2_0 : List (Int)) (x2_1 : Int) (x2_2 : Int) (x2_3 : Int) (x2_4 : Int) (x2_5 : Int) (x2_6 : ByteArray) (x2_7 : Int) (o : (Int) ⊕ (Unit)) (h : B_viewportlaw01ClassSets_2 n x2_0 x2_1 x2_2 x2_3 x2_4 x2_5 x2_6 x2_7 = some o) : CG P rnd (fnN P 3) 0 (codeOf P 3 [false, false, true, false, true, true, true, true, true, true]) (S_viewportlaw01ClassSets_2 x2_0 x2_1 x2_2 x2_3 x2_4 x2_5 x2_6 x2_7) (Sum.elim (fun s => (.normal, S_viewportlaw01ClassSets_2 x2_0 x2_1 x2_2 x2_3 x2_4 x2_5 x2_6 s)) (fun r => X_viewportlaw01ClassSets_2 x2_0 x2_1 x2_2 x2_3 x2_4 x2_5 x2_6 r) o) := by
 unfold B_viewportlaw01ClassSets_2 at h
 dsimp only at h
 by_cases hy2_1 : x2_7 < (((x2_6).size : Nat) : Int)
 ·rw [if_pos hy2_1] at h
  obtain ⟨hy2_2, h⟩ := gd h
  obtain ⟨hy2_3, h⟩ := gd h
  have k0 := fun {A L l} (k : PL A L l) => zz 5 (xdT hy2_1) <|
   yy 13 (.pur (Value.int .u8 (byteAt x2_6 ((w64 (x2_7 - (1 : Int)))).toNat))) <|
   ww (p := opIndex P 9 (Value.string x2_6) (i6 (w64 (x2_7 - (1 : Int)))) Ax.h0 = some ((Value.int .u8 (byteAt x2_6 ((w64 (x2_7 - (1 : Int)))).toNat)), Ax.h0)) (ixStr (by kernel_rfl) hy2_2) <|
   yy 16 (.pur (Value.int .u8 (byteAt x2_6 (x2_7).toNat))) <|
   ww (p := opIndex P 9 (Value.string x2_6) (i6 x2_7) Ax.h0 = some ((Value.int .u8 (byteAt x2_6 (x2_7).toNat)), Ax.h0)) (ixStr (by kernel_rfl) hy2_3) <|
   k
  by_cases hy2_4 : (byteAt x2_6 ((w64 (x2_7 - (1 : Int)))).toNat) ≥ (byteAt x2_6 (x2_7).toNat)
  ·rw [if_pos hy2_4] at h
   cases h
  ·rw [if_neg hy2_4] at h
   obtain rfl := oI h
   exact runC2 hm ⟨[2, 3, 8, 12, 13], [(0, 0, true), (1, 1, false)], 2, 0, [], false, [], [], []⟩ (k0 <|
    zz 17 (xdF hy2_4) <|
    ww (rows_flat rwf_u x2_0 24) <|
    ee) (by kernel_rfl)
 ·rw [if_neg hy2_1] at h
  obtain rfl := oI h
  exact runC2 hm ⟨[2, 3, 8, 12], [(0, 0, true), (1, 1, false)], 2, 0, [], false, [], [], []⟩ (zz 5 (xdF hy2_1) <|
   ww (rows_flat rwf_u x2_0 24) <|
   ee) (by kernel_rfl)
theorem m_viewportlaw01ClassSets_2_ok (n : Nat) {rnd : Option Nat} (x2_0 : List (Int)) (x2_1 : Int) (x2_2 : Int) (x2_3 : Int) (x2_4 : Int) (x2_5 : Int) (x2_6 : ByteArray) (st : Int) (r : Unit) (h : m_viewportlaw01ClassSets_2 n x2_0 x2_1 x2_2 x2_3 x2_4 x2_5 x2_6 st = some r) : CG P rnd (fnN P 3) 0 (codeOf P 3 [false, true, false, true, true, true, true, true, true]) (S_viewportlaw01ClassSets_2 x2_0 x2_1 x2_2 x2_3 x2_4 x2_5 x2_6 st) (X_viewportlaw01ClassSets_2 x2_0 x2_1 x2_2 x2_3 x2_4 x2_5 x2_6 r) :=
 CG.iter (b := codeOf P 3 [false, false, true, false, true, true, true, true, true, true]) (by kernel_rfl) (body := B_viewportlaw01ClassSets_2 n x2_0 x2_1 x2_2 x2_3 x2_4 x2_5 x2_6) (S := S_viewportlaw01ClassSets_2 x2_0 x2_1 x2_2 x2_3 x2_4 x2_5 x2_6) (X := X_viewportlaw01ClassSets_2 x2_0 x2_1 x2_2 x2_3 x2_4 x2_5 x2_6)
  (fun s s' h => b_viewportlaw01ClassSets_2 n x2_0 x2_1 x2_2 x2_3 x2_4 x2_5 x2_6 s (.inl s') h)
  (fun s r h => b_viewportlaw01ClassSets_2 n x2_0 x2_1 x2_2 x2_3 x2_4 x2_5 x2_6 s (.inr r) h)
  (fun r => by intro hx; cases hx) h
def S_viewportlaw01ClassSets_1 (x1_0 : List (Int)) (x1_1 : Int) (x1_2 : Int) (x1_3 : Int) (x1_4 : Int) (x1_5 : Int) (x1_6 : Int) (x1_7 : Int) (x1_8 : Int) (x1_9 : Int) (x1_10 : Int) (x1_11 : Int) (x1_12 : Int) (x1_13 : Int) (x1_14 : Int) (x1_15 : Int) (x1_16 : Int) (st : Int × Int) : XSt := match st with
 | (x1_17, x1_18) => (sT 133 [(2, (pN 0 0)), (3, (pN 1 0)), (5, (pN 2 0)), (6, (pN 3 0)), (7, (pN 4 0)), (8, (i6 x1_17)), (9, (i6 x1_18))], [], ⟨sB [(0, (some (.cells (layT (rows rw_u x1_0)) 24))), (1, (some (.cells (layT [(Value.int .u64 x1_1), (Value.int .u64 x1_2), (Value.int .u64 x1_3), (Value.int .u64 x1_4)]) 24))), (2, (some (.cells (layT [(Value.int .u64 x1_5), (Value.int .u64 x1_6), (Value.int .u64 x1_7), (Value.int .u64 x1_8)]) 24))), (3, (some (.cells (layT [(Value.int .u64 x1_9), (Value.int .u64 x1_10), (Value.int .u64 x1_11), (Value.int .u64 x1_12)]) 24))), (4, (some (.cells (layT [(Value.int .u64 x1_13), (Value.int .u64 x1_14), (Value.int .u64 x1_15), (Value.int .u64 x1_16)]) 24)))], 5, 0⟩)
def X_viewportlaw01ClassSets_1 (x1_0 : List (Int)) (x1_1 : Int) (x1_2 : Int) (x1_3 : Int) (x1_4 : Int) (x1_5 : Int) (x1_6 : Int) (x1_7 : Int) (x1_8 : Int) (x1_9 : Int) (x1_10 : Int) (x1_11 : Int) (x1_12 : Int) (x1_13 : Int) (x1_14 : Int) (x1_15 : Int) (x1_16 : Int) (r : Int) : Ex × XSt := match r with
 | z1_0 => (.exit 0, (sT 133 [(2, (pN 0 0)), (3, (pN 1 0)), (8, (i6 z1_0))], [], ⟨sB [(0, (some (.cells (layT (rows rw_u x1_0)) 24))), (1, (some (.cells (layT [(Value.int .u64 x1_1), (Value.int .u64 x1_2), (Value.int .u64 x1_3), (Value.int .u64 x1_4)]) 24)))], 2, 0⟩))
abbrev Q_viewportlaw01ClassSets_1 (rnd : Option Nat) (x1_0 : List (Int)) (x1_1 : Int) (x1_2 : Int) (x1_3 : Int) (x1_4 : Int) (x1_5 : Int) (x1_6 : Int) (x1_7 : Int) (x1_8 : Int) (x1_9 : Int) (x1_10 : Int) (x1_11 : Int) (x1_12 : Int) (x1_13 : Int) (x1_14 : Int) (x1_15 : Int) (x1_16 : Int) (st : Int × Int) (c : Ex × XSt) : Prop := CG P rnd (fnN P 3) 0 (codeOf P 3 [false, false, true, false, true, true, true, true]) (S_viewportlaw01ClassSets_1 x1_0 x1_1 x1_2 x1_3 x1_4 x1_5 x1_6 x1_7 x1_8 x1_9 x1_10 x1_11 x1_12 x1_13 x1_14 x1_15 x1_16 st) c
abbrev U_viewportlaw01ClassSets_1 (rd : Option Nat) (x1_0 : List (Int)) (x1_1 : Int) (x1_2 : Int) (x1_3 : Int) (x1_4 : Int) (x1_5 : Int) (x1_6 : Int) (x1_7 : Int) (x1_8 : Int) (x1_9 : Int) (x1_10 : Int) (x1_11 : Int) (x1_12 : Int) (x1_13 : Int) (x1_14 : Int) (x1_15 : Int) (x1_16 : Int) (st : Int × Int) (r : Int) : Prop := CG P rd (fnN P 3) 0 (codeOf P 3 [false, true, false, true, true, true, true]) (S_viewportlaw01ClassSets_1 x1_0 x1_1 x1_2 x1_3 x1_4 x1_5 x1_6 x1_7 x1_8 x1_9 x1_10 x1_11 x1_12 x1_13 x1_14 x1_15 x1_16 st) (X_viewportlaw01ClassSets_1 x1_0 x1_1 x1_2 x1_3 x1_4 x1_5 x1_6 x1_7 x1_8 x1_9 x1_10 x1_11 x1_12 x1_13 x1_14 x1_15 x1_16 r)
def B_viewportlaw01ClassSets_1 (n : Nat) (x1_0 : List (Int)) (x1_1 : Int) (x1_2 : Int) (x1_3 : Int) (x1_4 : Int) (x1_5 : Int) (x1_6 : Int) (x1_7 : Int) (x1_8 : Int) (x1_9 : Int) (x1_10 : Int) (x1_11 : Int) (x1_12 : Int) (x1_13 : Int) (x1_14 : Int) (x1_15 : Int) (x1_16 : Int) (st : Int × Int) : Option ((Int × Int) ⊕ (Int)) := match st with
 | (x1_17, x1_18) =>
  if x1_18 < (256 : Int) then
   if (x1_0).length = 4 then
    (m_classHasq1 n ((x1_0).getD 0 0) ((x1_0).getD 1 0) ((x1_0).getD 2 0) ((x1_0).getD 3 0) (IntKind.u8.wrap x1_18)).bind fun y1_3_ =>
    (m_classHasq1 n x1_1 x1_2 x1_3 x1_4 (IntKind.u8.wrap x1_18)).bind fun y1_4_ =>
    if y1_3_ = true then
     (m_classHasq1 n x1_5 x1_6 x1_7 x1_8 (IntKind.u8.wrap x1_18)).bind fun y1_6_ =>
     if y1_6_ = true then
      (m_classHasq1 n x1_9 x1_10 x1_11 x1_12 (IntKind.u8.wrap x1_18)).bind fun y1_8_ =>
      if y1_8_ = true then
       if y1_4_ = true then
        (m_classHasq1 n x1_13 x1_14 x1_15 x1_16 (IntKind.u8.wrap x1_18)).bind fun y1_11_ =>
        if y1_11_ = true then
         none
        else
         if ¬ ((64 : Int) = 0) then
          if 0 ≤ (IntKind.i64.wrap (Int.tdiv x1_18 (64 : Int))) ∧ (IntKind.i64.wrap (Int.tdiv x1_18 (64 : Int))) < ((4 : Nat) : Int) then
           if ((IntKind.i64.wrap (Int.tdiv x1_18 (64 : Int)))).toNat < (x1_0).length then
            ((some ((x1_0).getD ((IntKind.i64.wrap (Int.tdiv x1_18 (64 : Int)))).toNat (0)))).bind fun y1_16_ =>
            if 0 ≤ (IntKind.u64.wrap (Int.tmod x1_18 (64 : Int))) then
             ((some (bAnd .u64 (shrV .u64 y1_16_ (IntKind.u64.wrap (Int.tmod x1_18 (64 : Int)))) (1 : Int)))).bind fun y1_18_ =>
             if y1_18_ = (1 : Int) then
              some (.inl ((w64 (x1_17 + (1 : Int))), (w64 (x1_18 + (1 : Int)))))
             else
              none
            else none
           else none
          else none
         else none
       else
        none
      else
       if y1_4_ = true then
        none
       else
        (m_classHasq1 n x1_13 x1_14 x1_15 x1_16 (IntKind.u8.wrap x1_18)).bind fun y1_11_ =>
        if y1_11_ = true then
         none
        else
         if ¬ ((64 : Int) = 0) then
          if 0 ≤ (IntKind.i64.wrap (Int.tdiv x1_18 (64 : Int))) ∧ (IntKind.i64.wrap (Int.tdiv x1_18 (64 : Int))) < ((4 : Nat) : Int) then
           if ((IntKind.i64.wrap (Int.tdiv x1_18 (64 : Int)))).toNat < (x1_0).length then
            ((some ((x1_0).getD ((IntKind.i64.wrap (Int.tdiv x1_18 (64 : Int)))).toNat (0)))).bind fun y1_16_ =>
            if 0 ≤ (IntKind.u64.wrap (Int.tmod x1_18 (64 : Int))) then
             ((some (bAnd .u64 (shrV .u64 y1_16_ (IntKind.u64.wrap (Int.tmod x1_18 (64 : Int)))) (1 : Int)))).bind fun y1_18_ =>
             if y1_18_ = (1 : Int) then
              some (.inl ((w64 (x1_17 + (1 : Int))), (w64 (x1_18 + (1 : Int)))))
             else
              none
            else none
           else none
          else none
         else none
     else
      none
    else
     (m_classHasq1 n x1_5 x1_6 x1_7 x1_8 (IntKind.u8.wrap x1_18)).bind fun y1_6_ =>
     if y1_6_ = true then
      if y1_4_ = true then
       (m_classHasq1 n x1_9 x1_10 x1_11 x1_12 (IntKind.u8.wrap x1_18)).bind fun y1_9_ =>
       if y1_9_ = true then
        none
       else
        (m_classHasq1 n x1_13 x1_14 x1_15 x1_16 (IntKind.u8.wrap x1_18)).bind fun y1_11_ =>
        if y1_11_ = true then
         if ¬ ((64 : Int) = 0) then
          if 0 ≤ (IntKind.i64.wrap (Int.tdiv x1_18 (64 : Int))) ∧ (IntKind.i64.wrap (Int.tdiv x1_18 (64 : Int))) < ((4 : Nat) : Int) then
           if ((IntKind.i64.wrap (Int.tdiv x1_18 (64 : Int)))).toNat < (x1_0).length then
            ((some ((x1_0).getD ((IntKind.i64.wrap (Int.tdiv x1_18 (64 : Int)))).toNat (0)))).bind fun y1_16_ =>
            if 0 ≤ (IntKind.u64.wrap (Int.tmod x1_18 (64 : Int))) then
             ((some (bAnd .u64 (shrV .u64 y1_16_ (IntKind.u64.wrap (Int.tmod x1_18 (64 : Int)))) (1 : Int)))).bind fun y1_18_ =>
             if y1_18_ = (1 : Int) then
              none
             else
              some (.inl (x1_17, (w64 (x1_18 + (1 : Int)))))
            else none
           else none
          else none
         else none
        else
         none
      else
       none
     else
      if y1_4_ = true then
       none
      else
       (m_classHasq1 n x1_9 x1_10 x1_11 x1_12 (IntKind.u8.wrap x1_18)).bind fun y1_9_ =>
       if y1_9_ = true then
        none
       else
        (m_classHasq1 n x1_13 x1_14 x1_15 x1_16 (IntKind.u8.wrap x1_18)).bind fun y1_11_ =>
        if y1_11_ = true then
         if ¬ ((64 : Int) = 0) then
          if 0 ≤ (IntKind.i64.wrap (Int.tdiv x1_18 (64 : Int))) ∧ (IntKind.i64.wrap (Int.tdiv x1_18 (64 : Int))) < ((4 : Nat) : Int) then
           if ((IntKind.i64.wrap (Int.tdiv x1_18 (64 : Int)))).toNat < (x1_0).length then
            ((some ((x1_0).getD ((IntKind.i64.wrap (Int.tdiv x1_18 (64 : Int)))).toNat (0)))).bind fun y1_16_ =>
            if 0 ≤ (IntKind.u64.wrap (Int.tmod x1_18 (64 : Int))) then
             ((some (bAnd .u64 (shrV .u64 y1_16_ (IntKind.u64.wrap (Int.tmod x1_18 (64 : Int)))) (1 : Int)))).bind fun y1_18_ =>
             if y1_18_ = (1 : Int) then
              none
             else
              some (.inl (x1_17, (w64 (x1_18 + (1 : Int)))))
            else none
           else none
          else none
         else none
        else
         none
   else none
  else
   some (.inr x1_17)
def m_viewportlaw01ClassSets_1 (n : Nat) (x1_0 : List (Int)) (x1_1 : Int) (x1_2 : Int) (x1_3 : Int) (x1_4 : Int) (x1_5 : Int) (x1_6 : Int) (x1_7 : Int) (x1_8 : Int) (x1_9 : Int) (x1_10 : Int) (x1_11 : Int) (x1_12 : Int) (x1_13 : Int) (x1_14 : Int) (x1_15 : Int) (x1_16 : Int) (st : Int × Int) : Option (Int) := iterM (B_viewportlaw01ClassSets_1 n x1_0 x1_1 x1_2 x1_3 x1_4 x1_5 x1_6 x1_7 x1_8 x1_9 x1_10 x1_11 x1_12 x1_13 x1_14 x1_15 x1_16) n st
theorem b_viewportlaw01ClassSets_1 (n : Nat) {rnd : Option Nat} (x1_0 : List (Int)) (x1_1 : Int) (x1_2 : Int) (x1_3 : Int) (x1_4 : Int) (x1_5 : Int) (x1_6 : Int) (x1_7 : Int) (x1_8 : Int) (x1_9 : Int) (x1_10 : Int) (x1_11 : Int) (x1_12 : Int) (x1_13 : Int) (x1_14 : Int) (x1_15 : Int) (x1_16 : Int) (st : Int × Int) (o : (Int × Int) ⊕ (Int)) (h : B_viewportlaw01ClassSets_1 n x1_0 x1_1 x1_2 x1_3 x1_4 x1_5 x1_6 x1_7 x1_8 x1_9 x1_10 x1_11 x1_12 x1_13 x1_14 x1_15 x1_16 st = some o) : CG P rnd (fnN P 3) 0 (codeOf P 3 [false, false, true, false, true, true, true, true]) (S_viewportlaw01ClassSets_1 x1_0 x1_1 x1_2 x1_3 x1_4 x1_5 x1_6 x1_7 x1_8 x1_9 x1_10 x1_11 x1_12 x1_13 x1_14 x1_15 x1_16 st) (Sum.elim (fun s => (.normal, S_viewportlaw01ClassSets_1 x1_0 x1_1 x1_2 x1_3 x1_4 x1_5 x1_6 x1_7 x1_8 x1_9 x1_10 x1_11 x1_12 x1_13 x1_14 x1_15 x1_16 s)) (fun r => X_viewportlaw01ClassSets_1 x1_0 x1_1 x1_2 x1_3 x1_4 x1_5 x1_6 x1_7 x1_8 x1_9 x1_10 x1_11 x1_12 x1_13 x1_14 x1_15 x1_16 r) o) := by
 obtain ⟨x1_17, x1_18⟩ := st
 unfold B_viewportlaw01ClassSets_1 at h
 dsimp only at h
 by_cases hy1_1 : x1_18 < (256 : Int)
 ·rw [if_pos hy1_1] at h
  obtain ⟨hy1_2, h⟩ := gd h
  obtain ⟨y1_3_, hy1_3, h⟩ := oB h
  obtain ⟨y1_4_, hy1_4, h⟩ := oB h
  have k0 := fun {A L l} (k : PL A L l) => zz 3 (xdT hy1_1) <|
   yy 8 (.ld (Value.agg #[(Value.int .u64 ((x1_0).getD 0 0)), (Value.int .u64 ((x1_0).getD 1 0)), (Value.int .u64 ((x1_0).getD 2 0)), (Value.int .u64 ((x1_0).getD 3 0))])) <|
   ww (p := rdT (layT (rows rw_u x1_0)) 4 0 = some [(Value.int .u64 ((x1_0).getD 0 0)), (Value.int .u64 ((x1_0).getD 1 0)), (Value.int .u64 ((x1_0).getD 2 0)), (Value.int .u64 ((x1_0).getD 3 0))]) (arr_rd4R rwf_u 0 hy1_2) <|
   yy 11 (.call (C_classHasq1 ((x1_0).getD 0 0) ((x1_0).getD 1 0) ((x1_0).getD 2 0) ((x1_0).getD 3 0) (IntKind.u8.wrap x1_18) y1_3_ [] [])) <|
   ww (m_classHasq1_ok n ((x1_0).getD 0 0) ((x1_0).getD 1 0) ((x1_0).getD 2 0) ((x1_0).getD 3 0) (IntKind.u8.wrap x1_18) y1_3_ hy1_3) <|
   yy 15 (.call (C_classHasq1 x1_1 x1_2 x1_3 x1_4 (IntKind.u8.wrap x1_18) y1_4_ [] [])) <|
   ww (m_classHasq1_ok n x1_1 x1_2 x1_3 x1_4 (IntKind.u8.wrap x1_18) y1_4_ hy1_4) <|
   k
  by_cases hy1_5 : y1_3_ = true
  ·rw [if_pos hy1_5] at h
   obtain ⟨y1_6_, hy1_6, h⟩ := oB h
   have k7 := fun {A L l} (k : PL A L l) => zz 21 (xbT hy1_5) <|
    yy 29 (.call (C_classHasq1 x1_5 x1_6 x1_7 x1_8 (IntKind.u8.wrap x1_18) y1_6_ [] [])) <|
    ww (m_classHasq1_ok n x1_5 x1_6 x1_7 x1_8 (IntKind.u8.wrap x1_18) y1_6_ hy1_6) <|
    zz 31 (xbT hy1_5) <|
    k
   by_cases hy1_7 : y1_6_ = true
   ·rw [if_pos hy1_7] at h
    obtain ⟨y1_8_, hy1_8, h⟩ := oB h
    have k11 := fun {A L l} (k : PL A L l) => yy 34 (vf) <|
     ww (p := (Value.bool (!(y1_6_ == true))) = (Value.bool false)) (vNeB hy1_7 rfl) <|
     yy 39 (.call (C_classHasq1 x1_9 x1_10 x1_11 x1_12 (IntKind.u8.wrap x1_18) y1_8_ [] [])) <|
     ww (m_classHasq1_ok n x1_9 x1_10 x1_11 x1_12 (IntKind.u8.wrap x1_18) y1_8_ hy1_8) <|
     zz 41 (xbT hy1_5) <|
     k
    by_cases hy1_9 : y1_8_ = true
    ·rw [if_pos hy1_9] at h
     by_cases hy1_10 : y1_4_ = true
     ·rw [if_pos hy1_10] at h
      obtain ⟨y1_11_, hy1_11, h⟩ := oB h
      have k16 := fun {A L l} (k : PL A L l) => yy 44 (vf) <|
       ww (p := (Value.bool (!(y1_8_ == y1_4_))) = (Value.bool false)) (vNeB hy1_9 hy1_10) <|
       yy 50 (.call (C_classHasq1 x1_13 x1_14 x1_15 x1_16 (IntKind.u8.wrap x1_18) y1_11_ [] [])) <|
       ww (m_classHasq1_ok n x1_13 x1_14 x1_15 x1_16 (IntKind.u8.wrap x1_18) y1_11_ hy1_11) <|
       k
      by_cases hy1_12 : y1_11_ = true
      ·rw [if_pos hy1_12] at h
       cases h
      ·rw [if_neg hy1_12] at h
       obtain ⟨hy1_13, h⟩ := gd h
       obtain ⟨hy1_14, h⟩ := gd h
       obtain ⟨hy1_15, h⟩ := gd h
       obtain ⟨y1_16_, hy1_16, h⟩ := oB h
       obtain ⟨hy1_17, h⟩ := gd h
       obtain ⟨y1_18_, hy1_18, h⟩ := oB h
       have k20 := fun {A L l} (k : PL A L l) => yy 52 (vf) <|
        ww (p := (Value.bool (y1_11_ == y1_3_)) = (Value.bool false)) (vEqB (Bool.eq_false_iff.2 hy1_12) hy1_5) <|
        yy 57 (.pur (i6 (IntKind.i64.wrap (Int.tdiv x1_18 (64 : Int))))) <|
        ww (p := opBin P .quo 3 (.tmp 70) (.const (i6 (64 : Int))) (i6 x1_18) (i6 (64 : Int)) Ax.h0 = some ((i6 (IntKind.i64.wrap (Int.tdiv x1_18 (64 : Int)))), Ax.h0)) (quo_i64 hy1_13) <|
        yy 58 (.pur (pN 0 (((IntKind.i64.wrap (Int.tdiv x1_18 (64 : Int)))).toNat * 1))) <|
        ww (p := opIndexAddr P 24 (pN 0 0) (i6 (IntKind.i64.wrap (Int.tdiv x1_18 (64 : Int)))) Ax.h0 = some ((pN 0 (((IntKind.i64.wrap (Int.tdiv x1_18 (64 : Int)))).toNat * 1)), Ax.h0)) (ixArr (es := 1) (e := 22) (m := 4) (by kernel_rfl) (by kernel_rfl) hy1_14) <|
        zz 59 (ok1 hy1_16 (hy1_15)) <|
        yy 61 (.pur (i6 (Int.tmod x1_18 (64 : Int)))) <|
        ww (p := opBin P .rem 3 (.tmp 74) (.const (i6 (64 : Int))) (i6 x1_18) (i6 (64 : Int)) Ax.h0 = some ((i6 (Int.tmod x1_18 (64 : Int))), Ax.h0)) (remI hy1_13) <|
        yy 63 (.pur (Value.int .u64 (shrV .u64 y1_16_ (IntKind.u64.wrap (Int.tmod x1_18 (64 : Int)))))) <|
        ww (p := opBin P .shr 22 (.tmp 73) (.tmp 76) (Value.int .u64 y1_16_) (Value.int .u64 (IntKind.u64.wrap (Int.tmod x1_18 (64 : Int)))) Ax.h0 = some ((Value.int .u64 (shrV .u64 y1_16_ (IntKind.u64.wrap (Int.tmod x1_18 (64 : Int))))), Ax.h0)) (shr_u64_u64 hy1_17) <|
        zz 64 (xnmK (k := .u64) hy1_18) <|
        k
       by_cases hy1_19 : y1_18_ = (1 : Int)
       ·rw [if_pos hy1_19] at h
        obtain rfl := oI h
        exact runC2 hm ⟨[2, 3, 5, 6, 7, 8, 9], [(0, 0, true), (1, 1, false), (2, 2, false), (3, 3, false), (4, 4, false)], 5, 0, [], false, [], [], []⟩ (k0 <|
         k7 <|
         k11 <|
         k16 <|
         k20 <|
         zz 65 (xeT hy1_19) <|
         yy 66 (vf) <|
         ww (p := (Value.bool (!(y1_3_ == true))) = (Value.bool false)) (vNeB hy1_5 rfl) <|
         ww (rows_flat rwf_u x1_0 24) <|
         ee) (by kernel_rfl)
       ·rw [if_neg hy1_19] at h
        cases h
     ·rw [if_neg hy1_10] at h
      cases h
    ·rw [if_neg hy1_9] at h
     by_cases hy1_10 : y1_4_ = true
     ·rw [if_pos hy1_10] at h
      cases h
     ·rw [if_neg hy1_10] at h
      obtain ⟨y1_11_, hy1_11, h⟩ := oB h
      have k16 := fun {A L l} (k : PL A L l) => yy 44 (vf) <|
       ww (p := (Value.bool (!(y1_8_ == y1_4_))) = (Value.bool false)) (vNeB (Bool.eq_false_iff.2 hy1_9) (Bool.eq_false_iff.2 hy1_10)) <|
       yy 50 (.call (C_classHasq1 x1_13 x1_14 x1_15 x1_16 (IntKind.u8.wrap x1_18) y1_11_ [] [])) <|
       ww (m_classHasq1_ok n x1_13 x1_14 x1_15 x1_16 (IntKind.u8.wrap x1_18) y1_11_ hy1_11) <|
       k
      by_cases hy1_12 : y1_11_ = true
      ·rw [if_pos hy1_12] at h
       cases h
      ·rw [if_neg hy1_12] at h
       obtain ⟨hy1_13, h⟩ := gd h
       obtain ⟨hy1_14, h⟩ := gd h
       obtain ⟨hy1_15, h⟩ := gd h
       obtain ⟨y1_16_, hy1_16, h⟩ := oB h
       obtain ⟨hy1_17, h⟩ := gd h
       obtain ⟨y1_18_, hy1_18, h⟩ := oB h
       have k20 := fun {A L l} (k : PL A L l) => yy 52 (vf) <|
        ww (p := (Value.bool (y1_11_ == y1_3_)) = (Value.bool false)) (vEqB (Bool.eq_false_iff.2 hy1_12) hy1_5) <|
        yy 57 (.pur (i6 (IntKind.i64.wrap (Int.tdiv x1_18 (64 : Int))))) <|
        ww (p := opBin P .quo 3 (.tmp 70) (.const (i6 (64 : Int))) (i6 x1_18) (i6 (64 : Int)) Ax.h0 = some ((i6 (IntKind.i64.wrap (Int.tdiv x1_18 (64 : Int)))), Ax.h0)) (quo_i64 hy1_13) <|
        yy 58 (.pur (pN 0 (((IntKind.i64.wrap (Int.tdiv x1_18 (64 : Int)))).toNat * 1))) <|
        ww (p := opIndexAddr P 24 (pN 0 0) (i6 (IntKind.i64.wrap (Int.tdiv x1_18 (64 : Int)))) Ax.h0 = some ((pN 0 (((IntKind.i64.wrap (Int.tdiv x1_18 (64 : Int)))).toNat * 1)), Ax.h0)) (ixArr (es := 1) (e := 22) (m := 4) (by kernel_rfl) (by kernel_rfl) hy1_14) <|
        zz 59 (ok1 hy1_16 (hy1_15)) <|
        yy 61 (.pur (i6 (Int.tmod x1_18 (64 : Int)))) <|
        ww (p := opBin P .rem 3 (.tmp 74) (.const (i6 (64 : Int))) (i6 x1_18) (i6 (64 : Int)) Ax.h0 = some ((i6 (Int.tmod x1_18 (64 : Int))), Ax.h0)) (remI hy1_13) <|
        yy 63 (.pur (Value.int .u64 (shrV .u64 y1_16_ (IntKind.u64.wrap (Int.tmod x1_18 (64 : Int)))))) <|
        ww (p := opBin P .shr 22 (.tmp 73) (.tmp 76) (Value.int .u64 y1_16_) (Value.int .u64 (IntKind.u64.wrap (Int.tmod x1_18 (64 : Int)))) Ax.h0 = some ((Value.int .u64 (shrV .u64 y1_16_ (IntKind.u64.wrap (Int.tmod x1_18 (64 : Int))))), Ax.h0)) (shr_u64_u64 hy1_17) <|
        zz 64 (xnmK (k := .u64) hy1_18) <|
        k
       by_cases hy1_19 : y1_18_ = (1 : Int)
       ·rw [if_pos hy1_19] at h
        obtain rfl := oI h
        exact runC2 hm ⟨[2, 3, 5, 6, 7, 8, 9], [(0, 0, true), (1, 1, false), (2, 2, false), (3, 3, false), (4, 4, false)], 5, 0, [], false, [], [], []⟩ (k0 <|
         k7 <|
         k11 <|
         k16 <|
         k20 <|
         zz 65 (xeT hy1_19) <|
         yy 66 (vf) <|
         ww (p := (Value.bool (!(y1_3_ == true))) = (Value.bool false)) (vNeB hy1_5 rfl) <|
         ww (rows_flat rwf_u x1_0 24) <|
         ee) (by kernel_rfl)
       ·rw [if_neg hy1_19] at h
        cases h
   ·rw [if_neg hy1_7] at h
    cases h
  ·rw [if_neg hy1_5] at h
   obtain ⟨y1_6_, hy1_6, h⟩ := oB h
   have k7 := fun {A L l} (k : PL A L l) => zz 21 (xbF hy1_5) <|
    yy 26 (.call (C_classHasq1 x1_5 x1_6 x1_7 x1_8 (IntKind.u8.wrap x1_18) y1_6_ [] [])) <|
    ww (m_classHasq1_ok n x1_5 x1_6 x1_7 x1_8 (IntKind.u8.wrap x1_18) y1_6_ hy1_6) <|
    zz 28 (xbF hy1_5) <|
    k
   by_cases hy1_7 : y1_6_ = true
   ·rw [if_pos hy1_7] at h
    by_cases hy1_8 : y1_4_ = true
    ·rw [if_pos hy1_8] at h
     obtain ⟨y1_9_, hy1_9, h⟩ := oB h
     have k11 := fun {A L l} (k : PL A L l) => yy 31 (vf) <|
      ww (p := (Value.bool (!(y1_6_ == y1_4_))) = (Value.bool false)) (vNeB hy1_7 hy1_8) <|
      yy 36 (.call (C_classHasq1 x1_9 x1_10 x1_11 x1_12 (IntKind.u8.wrap x1_18) y1_9_ [] [])) <|
      ww (m_classHasq1_ok n x1_9 x1_10 x1_11 x1_12 (IntKind.u8.wrap x1_18) y1_9_ hy1_9) <|
      zz 38 (xbF hy1_5) <|
      k
     by_cases hy1_10 : y1_9_ = true
     ·rw [if_pos hy1_10] at h
      cases h
     ·rw [if_neg hy1_10] at h
      obtain ⟨y1_11_, hy1_11, h⟩ := oB h
      have k16 := fun {A L l} (k : PL A L l) => yy 41 (vf) <|
       ww (p := (Value.bool (!(y1_9_ == false))) = (Value.bool false)) (vNeB (Bool.eq_false_iff.2 hy1_10) rfl) <|
       yy 47 (.call (C_classHasq1 x1_13 x1_14 x1_15 x1_16 (IntKind.u8.wrap x1_18) y1_11_ [] [])) <|
       ww (m_classHasq1_ok n x1_13 x1_14 x1_15 x1_16 (IntKind.u8.wrap x1_18) y1_11_ hy1_11) <|
       k
      by_cases hy1_12 : y1_11_ = true
      ·rw [if_pos hy1_12] at h
       obtain ⟨hy1_13, h⟩ := gd h
       obtain ⟨hy1_14, h⟩ := gd h
       obtain ⟨hy1_15, h⟩ := gd h
       obtain ⟨y1_16_, hy1_16, h⟩ := oB h
       obtain ⟨hy1_17, h⟩ := gd h
       obtain ⟨y1_18_, hy1_18, h⟩ := oB h
       have k20 := fun {A L l} (k : PL A L l) => yy 49 (vf) <|
        ww (p := (Value.bool (y1_11_ == y1_3_)) = (Value.bool false)) (vEqB hy1_12 (Bool.eq_false_iff.2 hy1_5)) <|
        yy 54 (.pur (i6 (IntKind.i64.wrap (Int.tdiv x1_18 (64 : Int))))) <|
        ww (p := opBin P .quo 3 (.tmp 70) (.const (i6 (64 : Int))) (i6 x1_18) (i6 (64 : Int)) Ax.h0 = some ((i6 (IntKind.i64.wrap (Int.tdiv x1_18 (64 : Int)))), Ax.h0)) (quo_i64 hy1_13) <|
        yy 55 (.pur (pN 0 (((IntKind.i64.wrap (Int.tdiv x1_18 (64 : Int)))).toNat * 1))) <|
        ww (p := opIndexAddr P 24 (pN 0 0) (i6 (IntKind.i64.wrap (Int.tdiv x1_18 (64 : Int)))) Ax.h0 = some ((pN 0 (((IntKind.i64.wrap (Int.tdiv x1_18 (64 : Int)))).toNat * 1)), Ax.h0)) (ixArr (es := 1) (e := 22) (m := 4) (by kernel_rfl) (by kernel_rfl) hy1_14) <|
        zz 56 (ok1 hy1_16 (hy1_15)) <|
        yy 58 (.pur (i6 (Int.tmod x1_18 (64 : Int)))) <|
        ww (p := opBin P .rem 3 (.tmp 74) (.const (i6 (64 : Int))) (i6 x1_18) (i6 (64 : Int)) Ax.h0 = some ((i6 (Int.tmod x1_18 (64 : Int))), Ax.h0)) (remI hy1_13) <|
        yy 60 (.pur (Value.int .u64 (shrV .u64 y1_16_ (IntKind.u64.wrap (Int.tmod x1_18 (64 : Int)))))) <|
        ww (p := opBin P .shr 22 (.tmp 73) (.tmp 76) (Value.int .u64 y1_16_) (Value.int .u64 (IntKind.u64.wrap (Int.tmod x1_18 (64 : Int)))) Ax.h0 = some ((Value.int .u64 (shrV .u64 y1_16_ (IntKind.u64.wrap (Int.tmod x1_18 (64 : Int))))), Ax.h0)) (shr_u64_u64 hy1_17) <|
        zz 61 (xnmK (k := .u64) hy1_18) <|
        k
       by_cases hy1_19 : y1_18_ = (1 : Int)
       ·rw [if_pos hy1_19] at h
        cases h
       ·rw [if_neg hy1_19] at h
        obtain rfl := oI h
        exact runC2 hm ⟨[2, 3, 5, 6, 7, 8, 9], [(0, 0, true), (1, 1, false), (2, 2, false), (3, 3, false), (4, 4, false)], 5, 0, [], false, [], [], []⟩ (k0 <|
         k7 <|
         k11 <|
         k16 <|
         k20 <|
         zz 62 (xeF hy1_19) <|
         yy 63 (vf) <|
         ww (p := (Value.bool (!(y1_3_ == false))) = (Value.bool false)) (vNeB (Bool.eq_false_iff.2 hy1_5) rfl) <|
         ww (rows_flat rwf_u x1_0 24) <|
         ee) (by kernel_rfl)
      ·rw [if_neg hy1_12] at h
       cases h
    ·rw [if_neg hy1_8] at h
     cases h
   ·rw [if_neg hy1_7] at h
    by_cases hy1_8 : y1_4_ = true
    ·rw [if_pos hy1_8] at h
     cases h
    ·rw [if_neg hy1_8] at h
     obtain ⟨y1_9_, hy1_9, h⟩ := oB h
     have k11 := fun {A L l} (k : PL A L l) => yy 31 (vf) <|
      ww (p := (Value.bool (!(y1_6_ == y1_4_))) = (Value.bool false)) (vNeB (Bool.eq_false_iff.2 hy1_7) (Bool.eq_false_iff.2 hy1_8)) <|
      yy 36 (.call (C_classHasq1 x1_9 x1_10 x1_11 x1_12 (IntKind.u8.wrap x1_18) y1_9_ [] [])) <|
      ww (m_classHasq1_ok n x1_9 x1_10 x1_11 x1_12 (IntKind.u8.wrap x1_18) y1_9_ hy1_9) <|
      zz 38 (xbF hy1_5) <|
      k
     by_cases hy1_10 : y1_9_ = true
     ·rw [if_pos hy1_10] at h
      cases h
     ·rw [if_neg hy1_10] at h
      obtain ⟨y1_11_, hy1_11, h⟩ := oB h
      have k16 := fun {A L l} (k : PL A L l) => yy 41 (vf) <|
       ww (p := (Value.bool (!(y1_9_ == false))) = (Value.bool false)) (vNeB (Bool.eq_false_iff.2 hy1_10) rfl) <|
       yy 47 (.call (C_classHasq1 x1_13 x1_14 x1_15 x1_16 (IntKind.u8.wrap x1_18) y1_11_ [] [])) <|
       ww (m_classHasq1_ok n x1_13 x1_14 x1_15 x1_16 (IntKind.u8.wrap x1_18) y1_11_ hy1_11) <|
       k
      by_cases hy1_12 : y1_11_ = true
      ·rw [if_pos hy1_12] at h
       obtain ⟨hy1_13, h⟩ := gd h
       obtain ⟨hy1_14, h⟩ := gd h
       obtain ⟨hy1_15, h⟩ := gd h
       obtain ⟨y1_16_, hy1_16, h⟩ := oB h
       obtain ⟨hy1_17, h⟩ := gd h
       obtain ⟨y1_18_, hy1_18, h⟩ := oB h
       have k20 := fun {A L l} (k : PL A L l) => yy 49 (vf) <|
        ww (p := (Value.bool (y1_11_ == y1_3_)) = (Value.bool false)) (vEqB hy1_12 (Bool.eq_false_iff.2 hy1_5)) <|
        yy 54 (.pur (i6 (IntKind.i64.wrap (Int.tdiv x1_18 (64 : Int))))) <|
        ww (p := opBin P .quo 3 (.tmp 70) (.const (i6 (64 : Int))) (i6 x1_18) (i6 (64 : Int)) Ax.h0 = some ((i6 (IntKind.i64.wrap (Int.tdiv x1_18 (64 : Int)))), Ax.h0)) (quo_i64 hy1_13) <|
        yy 55 (.pur (pN 0 (((IntKind.i64.wrap (Int.tdiv x1_18 (64 : Int)))).toNat * 1))) <|
        ww (p := opIndexAddr P 24 (pN 0 0) (i6 (IntKind.i64.wrap (Int.tdiv x1_18 (64 : Int)))) Ax.h0 = some ((pN 0 (((IntKind.i64.wrap (Int.tdiv x1_18 (64 : Int)))).toNat * 1)), Ax.h0)) (ixArr (es := 1) (e := 22) (m := 4) (by kernel_rfl) (by kernel_rfl) hy1_14) <|
        zz 56 (ok1 hy1_16 (hy1_15)) <|
        yy 58 (.pur (i6 (Int.tmod x1_18 (64 : Int)))) <|
        ww (p := opBin P .rem 3 (.tmp 74) (.const (i6 (64 : Int))) (i6 x1_18) (i6 (64 : Int)) Ax.h0 = some ((i6 (Int.tmod x1_18 (64 : Int))), Ax.h0)) (remI hy1_13) <|
        yy 60 (.pur (Value.int .u64 (shrV .u64 y1_16_ (IntKind.u64.wrap (Int.tmod x1_18 (64 : Int)))))) <|
        ww (p := opBin P .shr 22 (.tmp 73) (.tmp 76) (Value.int .u64 y1_16_) (Value.int .u64 (IntKind.u64.wrap (Int.tmod x1_18 (64 : Int)))) Ax.h0 = some ((Value.int .u64 (shrV .u64 y1_16_ (IntKind.u64.wrap (Int.tmod x1_18 (64 : Int))))), Ax.h0)) (shr_u64_u64 hy1_17) <|
        zz 61 (xnmK (k := .u64) hy1_18) <|
        k
       by_cases hy1_19 : y1_18_ = (1 : Int)
       ·rw [if_pos hy1_19] at h
        cases h
       ·rw [if_neg hy1_19] at h
        obtain rfl := oI h
        exact runC2 hm ⟨[2, 3, 5, 6, 7, 8, 9], [(0, 0, true), (1, 1, false), (2, 2, false), (3, 3, false), (4, 4, false)], 5, 0, [], false, [], [], []⟩ (k0 <|
         k7 <|
         k11 <|
         k16 <|
         k20 <|
         zz 62 (xeF hy1_19) <|
         yy 63 (vf) <|
         ww (p := (Value.bool (!(y1_3_ == false))) = (Value.bool false)) (vNeB (Bool.eq_false_iff.2 hy1_5) rfl) <|
         ww (rows_flat rwf_u x1_0 24) <|
         ee) (by kernel_rfl)
      ·rw [if_neg hy1_12] at h
       cases h
 ·rw [if_neg hy1_1] at h
  obtain rfl := oI h
  exact runC2 hm ⟨[2, 3, 8], [(0, 0, true), (1, 1, false)], 2, 0, [], false, [], [], []⟩ (zz 3 (xdF hy1_1) <|
   ww (rows_flat rwf_u x1_0 24) <|
   ee) (by kernel_rfl)
theorem m_viewportlaw01ClassSets_1_ok (n : Nat) {rnd : Option Nat} (x1_0 : List (Int)) (x1_1 : Int) (x1_2 : Int) (x1_3 : Int) (x1_4 : Int) (x1_5 : Int) (x1_6 : Int) (x1_7 : Int) (x1_8 : Int) (x1_9 : Int) (x1_10 : Int) (x1_11 : Int) (x1_12 : Int) (x1_13 : Int) (x1_14 : Int) (x1_15 : Int) (x1_16 : Int) (st : Int × Int) (r : Int) (h : m_viewportlaw01ClassSets_1 n x1_0 x1_1 x1_2 x1_3 x1_4 x1_5 x1_6 x1_7 x1_8 x1_9 x1_10 x1_11 x1_12 x1_13 x1_14 x1_15 x1_16 st = some r) : CG P rnd (fnN P 3) 0 (codeOf P 3 [false, true, false, true, true, true, true]) (S_viewportlaw01ClassSets_1 x1_0 x1_1 x1_2 x1_3 x1_4 x1_5 x1_6 x1_7 x1_8 x1_9 x1_10 x1_11 x1_12 x1_13 x1_14 x1_15 x1_16 st) (X_viewportlaw01ClassSets_1 x1_0 x1_1 x1_2 x1_3 x1_4 x1_5 x1_6 x1_7 x1_8 x1_9 x1_10 x1_11 x1_12 x1_13 x1_14 x1_15 x1_16 r) :=
 CG.iter (b := codeOf P 3 [false, false, true, false, true, true, true, true]) (by kernel_rfl) (body := B_viewportlaw01ClassSets_1 n x1_0 x1_1 x1_2 x1_3 x1_4 x1_5 x1_6 x1_7 x1_8 x1_9 x1_10 x1_11 x1_12 x1_13 x1_14 x1_15 x1_16) (S := S_viewportlaw01ClassSets_1 x1_0 x1_1 x1_2 x1_3 x1_4 x1_5 x1_6 x1_7 x1_8 x1_9 x1_10 x1_11 x1_12 x1_13 x1_14 x1_15 x1_16) (X := X_viewportlaw01ClassSets_1 x1_0 x1_1 x1_2 x1_3 x1_4 x1_5 x1_6 x1_7 x1_8 x1_9 x1_10 x1_11 x1_12 x1_13 x1_14 x1_15 x1_16)
  (fun s s' h => b_viewportlaw01ClassSets_1 n x1_0 x1_1 x1_2 x1_3 x1_4 x1_5 x1_6 x1_7 x1_8 x1_9 x1_10 x1_11 x1_12 x1_13 x1_14 x1_15 x1_16 s (.inl s') h)
  (fun s r h => b_viewportlaw01ClassSets_1 n x1_0 x1_1 x1_2 x1_3 x1_4 x1_5 x1_6 x1_7 x1_8 x1_9 x1_10 x1_11 x1_12 x1_13 x1_14 x1_15 x1_16 s (.inr r) h)
  (fun r => by intro hx; cases hx) h
def m_viewportlaw01ClassSets (n : Nat) (g00 : Int) (g01 : Int) (g02 : Int) (g03 : Int) (g10 : Int) (g11 : Int) (g12 : Int) (g13 : Int) : Option (Unit) :=
 (m_viewportlaw01lives n).bind fun _ =>
 (m_classUnionq1 n g00 g01 g02 g03 g10 g11 g12 g13).bind fun t => match t with
 | (c2_0, c2_1, c2_2, c2_3) =>
  (m_classMeetq1 n g00 g01 g02 g03 g10 g11 g12 g13).bind fun t => match t with
  | (c3_0, c3_1, c3_2, c3_3) =>
   (m_classNotq1 n g00 g01 g02 g03).bind fun t => match t with
   | (c4_0, c4_1, c4_2, c4_3) =>
    (m_viewportlaw01ClassSets_1 n [g00, g01, g02, g03] g10 g11 g12 g13 c2_0 c2_1 c2_2 c2_3 c3_0 c3_1 c3_2 c3_3 c4_0 c4_1 c4_2 c4_3 (0, 0)).bind fun c5_ =>
    (m_classBytesq1 n g00 g01 g02 g03).bind fun c6_ =>
    (m_viewportlaw01ClassSets_2 n [g00, g01, g02, g03] g10 g11 g12 g13 c5_ c6_ 1).bind fun _ =>
    (m_classCompareq1 n g00 g01 g02 g03 g10 g11 g12 g13).bind fun c8_ =>
    (m_classLenq1 n g00 g01 g02 g03).bind fun c9_ =>
    if c9_ = c5_ then
     if (((c6_).size : Nat) : Int) = c5_ then
      (m_classOfq1 n c6_).bind fun t => match t with
      | (c12_0, c12_1, c12_2, c12_3) =>
       if ((c12_0 == g00) && ((c12_1 == g01) && ((c12_2 == g02) && ((c12_3 == g03) && true)))) = true then
        if c8_ = (0 : Int) then
         if ((g00 == g10) && ((g01 == g11) && ((g02 == g12) && ((g03 == g13) && true)))) = true then
          (m_classCompareq1 n g10 g11 g12 g13 g00 g01 g02 g03).bind fun c16_ =>
          if c8_ = (w64 ((0 : Int) - c16_)) then
           some ()
          else
           none
         else
          none
        else
         if ((g00 == g10) && ((g01 == g11) && ((g02 == g12) && ((g03 == g13) && true)))) = true then
          none
         else
          (m_classCompareq1 n g10 g11 g12 g13 g00 g01 g02 g03).bind fun c16_ =>
          if c8_ = (w64 ((0 : Int) - c16_)) then
           some ()
          else
           none
       else
        none
     else
      none
    else
     none
theorem m_viewportlaw01ClassSets_ok (n : Nat) (g00 : Int) (g01 : Int) (g02 : Int) (g03 : Int) (g10 : Int) (g11 : Int) (g12 : Int) (g13 : Int) (r : Unit) (h : m_viewportlaw01ClassSets n g00 g01 g02 g03 g10 g11 g12 g13 = some r) : Gv P (.func 3) (A_viewportlaw01ClassSets g00 g01 g02 g03 g10 g11 g12 g13) (H_viewportlaw01ClassSets g00 g01 g02 g03 g10 g11 g12 g13) (V_viewportlaw01ClassSets g00 g01 g02 g03 g10 g11 g12 g13 r) (R_viewportlaw01ClassSets g00 g01 g02 g03 g10 g11 g12 g13 r) := by
 unfold m_viewportlaw01ClassSets at h
 obtain ⟨_, hc1, h⟩ := oB h
 obtain ⟨⟨c2_0, c2_1, c2_2, c2_3⟩, hc2, h⟩ := oB h
 dsimp only at h
 obtain ⟨⟨c3_0, c3_1, c3_2, c3_3⟩, hc3, h⟩ := oB h
 dsimp only at h
 obtain ⟨⟨c4_0, c4_1, c4_2, c4_3⟩, hc4, h⟩ := oB h
 dsimp only at h
 obtain ⟨c5_, hc5, h⟩ := oB h
 obtain ⟨c6_, hc6, h⟩ := oB h
 obtain ⟨_, hc7, h⟩ := oB h
 obtain ⟨c8_, hc8, h⟩ := oB h
 obtain ⟨c9_, hc9, h⟩ := oB h
 have k0 := fun {A L l} (k : PL A L l) => yy 6 (.call ⟨0, [], (Value.bool true), Ax.h0, []⟩) <|
  ww (m_viewportlaw01lives_ok n  () hc1) <|
  yy 12 (.call (C_classUnionq1 g00 g01 g02 g03 g10 g11 g12 g13 (c2_0, c2_1, c2_2, c2_3) [] [(13, 0, false)])) <|
  ww (m_classUnionq1_ok n g00 g01 g02 g03 g10 g11 g12 g13 (c2_0, c2_1, c2_2, c2_3) hc2) <|
  yy 15 (.call (C_classMeetq1 g00 g01 g02 g03 g10 g11 g12 g13 (c3_0, c3_1, c3_2, c3_3) [] [(14, 0, false)])) <|
  ww (m_classMeetq1_ok n g00 g01 g02 g03 g10 g11 g12 g13 (c3_0, c3_1, c3_2, c3_3) hc3) <|
  yy 17 (.call (C_classNotq1 g00 g01 g02 g03 (c4_0, c4_1, c4_2, c4_3) [] [(15, 0, false)])) <|
  ww (m_classNotq1_ok n g00 g01 g02 g03 (c4_0, c4_1, c4_2, c4_3) hc4) <|
  ww (p := U_viewportlaw01ClassSets_1 none [g00, g01, g02, g03] g10 g11 g12 g13 c2_0 c2_1 c2_2 c2_3 c3_0 c3_1 c3_2 c3_3 c4_0 c4_1 c4_2 c4_3 (0, 0) c5_) (m_viewportlaw01ClassSets_1_ok n [g00, g01, g02, g03] g10 g11 g12 g13 c2_0 c2_1 c2_2 c2_3 c3_0 c3_1 c3_2 c3_3 c4_0 c4_1 c4_2 c4_3 (0, 0) c5_ hc5) <|
  ll 30 ⟨⟨[2, 3, 5, 6, 7, 8, 9], [(0, 0, false), (1, 1, false), (2, 10, false), (3, 11, false), (4, 12, false)], 5, 0, [], false, [], [], []⟩, (X_viewportlaw01ClassSets_1 [g00, g01, g02, g03] g10 g11 g12 g13 c2_0 c2_1 c2_2 c2_3 c3_0 c3_1 c3_2 c3_3 c4_0 c4_1 c4_2 c4_3 c5_).1, (X_viewportlaw01ClassSets_1 [g00, g01, g02, g03] g10 g11 g12 g13 c2_0 c2_1 c2_2 c2_3 c3_0 c3_1 c3_2 c3_3 c4_0 c4_1 c4_2 c4_3 c5_).2⟩ <|
  yy 33 (.call (C_classBytesq1 g00 g01 g02 g03 c6_ [] [])) <|
  ww (m_classBytesq1_ok n g00 g01 g02 g03 c6_ hc6) <|
  ww (p := U_viewportlaw01ClassSets_2 none [g00, g01, g02, g03] g10 g11 g12 g13 c5_ c6_ 1 ()) (m_viewportlaw01ClassSets_2_ok n [g00, g01, g02, g03] g10 g11 g12 g13 c5_ c6_ 1 () hc7) <|
  ww (rows_flat rwf_u [g00, g01, g02, g03] 24) <|
  ll 39 ⟨⟨[2, 3, 8, 12, 13], [(0, 0, true), (1, 1, false)], 2, 0, [], false, [], [], []⟩, (X_viewportlaw01ClassSets_2 [g00, g01, g02, g03] g10 g11 g12 g13 c5_ c6_ ()).1, (X_viewportlaw01ClassSets_2 [g00, g01, g02, g03] g10 g11 g12 g13 c5_ c6_ ()).2⟩ <|
  yy 43 (.call (C_classCompareq1 g00 g01 g02 g03 g10 g11 g12 g13 c8_ [] [])) <|
  ww (m_classCompareq1_ok n g00 g01 g02 g03 g10 g11 g12 g13 c8_ hc8) <|
  yy 47 (.call (C_classLenq1 g00 g01 g02 g03 c9_ [] [])) <|
  ww (m_classLenq1_ok n g00 g01 g02 g03 c9_ hc9) <|
  k
 by_cases hc10 : c9_ = c5_
 ·rw [if_pos hc10] at h
  have k19 := fun {A L l} (k : PL A L l) => zz 49 (xeT hc10) <|
   k
  by_cases hc11 : (((c6_).size : Nat) : Int) = c5_
  ·rw [if_pos hc11] at h
   obtain ⟨⟨c12_0, c12_1, c12_2, c12_3⟩, hc12, h⟩ := oB h
   dsimp only at h
   have k20 := fun {A L l} (k : PL A L l) => zz 54 (xeT hc11) <|
    yy 58 (.call (C_classOfq1 c6_ (c12_0, c12_1, c12_2, c12_3) [] [(2, 0, false)])) <|
    ww (m_classOfq1_ok n c6_ (c12_0, c12_1, c12_2, c12_3) hc12) <|
    k
   by_cases hc13 : ((c12_0 == g00) && ((c12_1 == g01) && ((c12_2 == g02) && ((c12_3 == g03) && true)))) = true
   ·rw [if_pos hc13] at h
    have k23 := fun {A L l} (k : PL A L l) => zz 62 (xbT hc13) <|
     k
    by_cases hc14 : c8_ = (0 : Int)
    ·rw [if_pos hc14] at h
     have k24 := fun {A L l} (k : PL A L l) => zz 64 (xeT hc14) <|
      k
     by_cases hc15 : ((g00 == g10) && ((g01 == g11) && ((g02 == g12) && ((g03 == g13) && true)))) = true
     ·rw [if_pos hc15] at h
      obtain ⟨c16_, hc16, h⟩ := oB h
      have k25 := fun {A L l} (k : PL A L l) => yy 68 (vt) <|
       ww (p := (Value.bool (true == ((g00 == g10) && ((g01 == g11) && ((g02 == g12) && ((g03 == g13) && true)))))) = (Value.bool true)) (vEqB rfl hc15) <|
       yy 74 (.call (C_classCompareq1 g10 g11 g12 g13 g00 g01 g02 g03 c16_ [] [])) <|
       ww (m_classCompareq1_ok n g10 g11 g12 g13 g00 g01 g02 g03 c16_ hc16) <|
       k
      by_cases hc17 : c8_ = (w64 ((0 : Int) - c16_))
      ·rw [if_pos hc17] at h
       obtain rfl := oI h
       exact runF2 hm ⟨[4], [], 0, 0, [], false, [], [], []⟩ (k0 <|
        k19 <|
        k20 <|
        k23 <|
        k24 <|
        k25 <|
        zz 76 (xeT hc17) <|
        ee) (by kernel_rfl)
      ·rw [if_neg hc17] at h
       cases h
     ·rw [if_neg hc15] at h
      cases h
    ·rw [if_neg hc14] at h
     have k24 := fun {A L l} (k : PL A L l) => zz 64 (xeF hc14) <|
      k
     by_cases hc15 : ((g00 == g10) && ((g01 == g11) && ((g02 == g12) && ((g03 == g13) && true)))) = true
     ·rw [if_pos hc15] at h
      cases h
     ·rw [if_neg hc15] at h
      obtain ⟨c16_, hc16, h⟩ := oB h
      have k25 := fun {A L l} (k : PL A L l) => yy 68 (vt) <|
       ww (p := (Value.bool (false == ((g00 == g10) && ((g01 == g11) && ((g02 == g12) && ((g03 == g13) && true)))))) = (Value.bool true)) (vEqB rfl (Bool.eq_false_iff.2 hc15)) <|
       yy 74 (.call (C_classCompareq1 g10 g11 g12 g13 g00 g01 g02 g03 c16_ [] [])) <|
       ww (m_classCompareq1_ok n g10 g11 g12 g13 g00 g01 g02 g03 c16_ hc16) <|
       k
      by_cases hc17 : c8_ = (w64 ((0 : Int) - c16_))
      ·rw [if_pos hc17] at h
       obtain rfl := oI h
       exact runF2 hm ⟨[4], [], 0, 0, [], false, [], [], []⟩ (k0 <|
        k19 <|
        k20 <|
        k23 <|
        k24 <|
        k25 <|
        zz 76 (xeT hc17) <|
        ee) (by kernel_rfl)
      ·rw [if_neg hc17] at h
       cases h
   ·rw [if_neg hc13] at h
    cases h
  ·rw [if_neg hc11] at h
   cases h
 ·rw [if_neg hc10] at h
  cases h

end Go.Proofs.YtagobfiiaaiblaaDoor.cse01
