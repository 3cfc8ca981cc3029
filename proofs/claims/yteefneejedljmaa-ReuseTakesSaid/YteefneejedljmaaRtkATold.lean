/-
  What functions do, told by pure functions. No condition.
-/
import Derived.Test.YteefneejedljmaaRtkLives
set_option linter.unusedSimpArgs false
set_option linter.unusedVariables false
set_option linter.unusedSectionVars false
set_option linter.unnecessarySimpa false
set_option maxRecDepth 100000
noncomputable section
namespace Go.Proofs.Yteefneejedljmaa.rtk
open Go Go.Proofs.Yteefneejedljmaa Ax
abbrev R8 [Nest] : Type := Int × Int × Int × Int × Int × Int × NL × Int
variable [Args]
def rw_b (x : Bool) : List Value := [Value.bool x]
theorem rwf_b : RowF rw_b 1 := ⟨fun _ => rfl, fun a v h => by
 simp only [rw_b, List.mem_cons, List.not_mem_nil, or_false] at h
 rcases h with rfl <;> rfl, fun _ => rfl⟩
def rw_iii (x : Int × Int × Int) : List Value := [Value.int .i64 (x.1), Value.int .i64 (x.2.1), Value.int .i64 (x.2.2)]
theorem rwf_iii : RowF rw_iii 3 := ⟨fun _ => rfl, fun a v h => by
 simp only [rw_iii, List.mem_cons, List.not_mem_nil, or_false] at h
 rcases h with rfl | rfl | rfl <;> rfl, fun _ => rfl⟩
abbrev xp1 (b n k : Nat) (i : Int) : Prop := IA P 22 (sW b 0 n k) i (pW b (i.toNat * 8))
theorem xk1 (b k : Nat) {n : Nat} {i : Int} (h : 0 ≤ i ∧ i < (n : Int)) : OB (.pur (pW b (i.toNat * 8))) (xp1 b n k i) := ⟨ixW (e := 33) (by kernel_rfl) (by kernel_rfl) h.1 h.2⟩
abbrev lp2 (i : Nat) (r : R8) : Prop := Lg P 33 (pW 0 (i * 8)) (Value.agg #[(i6 (r.1)), (i6 (r.2.1)), (i6 (r.2.2.1)), (i6 (r.2.2.2.1)), (i6 (r.2.2.2.2.1)), (i6 (r.2.2.2.2.2.1)), (nlV (r.2.2.2.2.2.2.1)), (Value.int .u64 (r.2.2.2.2.2.2.2))])
theorem lk2 {i : Nat} {r : Int × Int × Int × Int × Int × Int × NL × Int} (hr : some ((Args.A).getD i (0, 0, 0, 0, 0, 0, nl0, 0)) = some r) (h : i < (Args.A).length) : OB (.ld (Value.agg #[(i6 (r.1)), (i6 (r.2.1)), (i6 (r.2.2.1)), (i6 (r.2.2.2.1)), (i6 (r.2.2.2.2.1)), (i6 (r.2.2.2.2.2.1)), (nlV (r.2.2.2.2.2.2.1)), (Value.int .u64 (r.2.2.2.2.2.2.2))])) (lp2 i r) := by cases hr; exact ⟨ldWA rwf_iiiiiiLu (0, 0, 0, 0, 0, 0, nl0, 0) (i := i) (q := 0) (L := Args.A) (n := 8) (i * 8) rfl rfl (by kernel_rfl) (by kernel_rfl) h (by decide) rfl⟩
abbrev fp3 (o : Nat) : Prop := FA P 33 (pW 0 o) 1 (pW 0 (Nat.add o 1))
theorem fk3 (o : Nat) : OB (.pur (pW 0 (Nat.add o 1))) (fp3 o) := ⟨by unfold fp3 FA; kernel_rfl⟩
abbrev lp4 (i : Nat) (r : R8) : Prop := Lg P 3 (pW 0 (Nat.add (i * 8) 1)) (i6 (r.2.1))
theorem lk4 {i : Nat} {r : Int × Int × Int × Int × Int × Int × NL × Int} (hr : some ((Args.A).getD i (0, 0, 0, 0, 0, 0, nl0, 0)) = some r) (h : i < (Args.A).length) : OB (.ld (i6 (r.2.1))) (lp4 i r) := by cases hr; exact ⟨ldWS rwf_iiiiiiLu (0, 0, 0, 0, 0, 0, nl0, 0) (i := i) (q := 1) (L := Args.A) (Nat.add (i * 8) 1) rfl rfl (by kernel_rfl) h (by decide) rfl⟩
abbrev fp5 (o : Nat) : Prop := FA P 33 (pW 0 o) 2 (pW 0 (Nat.add o 2))
theorem fk5 (o : Nat) : OB (.pur (pW 0 (Nat.add o 2))) (fp5 o) := ⟨by unfold fp5 FA; kernel_rfl⟩
abbrev lp6 (i : Nat) (r : R8) : Prop := Lg P 3 (pW 0 (Nat.add (i * 8) 2)) (i6 (r.2.2.1))
theorem lk6 {i : Nat} {r : Int × Int × Int × Int × Int × Int × NL × Int} (hr : some ((Args.A).getD i (0, 0, 0, 0, 0, 0, nl0, 0)) = some r) (h : i < (Args.A).length) : OB (.ld (i6 (r.2.2.1))) (lp6 i r) := by cases hr; exact ⟨ldWS rwf_iiiiiiLu (0, 0, 0, 0, 0, 0, nl0, 0) (i := i) (q := 2) (L := Args.A) (Nat.add (i * 8) 2) rfl rfl (by kernel_rfl) h (by decide) rfl⟩
abbrev fp7 (o : Nat) : Prop := FA P 33 (pW 0 o) 6 (pW 0 (Nat.add o 6))
theorem fk7 (o : Nat) : OB (.pur (pW 0 (Nat.add o 6))) (fp7 o) := ⟨by unfold fp7 FA; kernel_rfl⟩
abbrev lp8 (i : Nat) (r : R8) : Prop := Lg P 30 (pW 0 (Nat.add (i * 8) 6)) (nlV (r.2.2.2.2.2.2.1))
theorem lk8 {i : Nat} {r : Int × Int × Int × Int × Int × Int × NL × Int} (hr : some ((Args.A).getD i (0, 0, 0, 0, 0, 0, nl0, 0)) = some r) (h : i < (Args.A).length) : OB (.ld (nlV (r.2.2.2.2.2.2.1))) (lp8 i r) := by cases hr; exact ⟨ldWS rwf_iiiiiiLu (0, 0, 0, 0, 0, 0, nl0, 0) (i := i) (q := 6) (L := Args.A) (Nat.add (i * 8) 6) rfl rfl (by kernel_rfl) h (by decide) rfl⟩
abbrev xp9 (b n k : Nat) (i : Int) : Prop := IA P 30 (sW b 0 n k) i (pW b i.toNat)
theorem xk9 (b k : Nat) {n : Nat} {i : Int} (h : 0 ≤ i ∧ i < (n : Int)) : OB (.pur (pW b i.toNat)) (xp9 b n k i) := ⟨ixW1 (e := 3) (by kernel_rfl) (by kernel_rfl) h⟩
theorem nk10 {x : NL} {i : Nat} {v : Int} (hv : some (x.l.getD i 0) = some v) (h : i < x.l.length) : OB (.ld (i6 v)) (Lg P 3 (pW (Nat.add x.num 64) i) (i6 v)) := by cases hv; exact ⟨ldN x (by kernel_rfl) h⟩
abbrev fp11 (o : Nat) : Prop := FA P 33 (pW 0 o) 4 (pW 0 (Nat.add o 4))
theorem fk11 (o : Nat) : OB (.pur (pW 0 (Nat.add o 4))) (fp11 o) := ⟨by unfold fp11 FA; kernel_rfl⟩
abbrev lp12 (i : Nat) (r : R8) : Prop := Lg P 3 (pW 0 (Nat.add (i * 8) 4)) (i6 (r.2.2.2.2.1))
theorem lk12 {i : Nat} {r : Int × Int × Int × Int × Int × Int × NL × Int} (hr : some ((Args.A).getD i (0, 0, 0, 0, 0, 0, nl0, 0)) = some r) (h : i < (Args.A).length) : OB (.ld (i6 (r.2.2.2.2.1))) (lp12 i r) := by cases hr; exact ⟨ldWS rwf_iiiiiiLu (0, 0, 0, 0, 0, 0, nl0, 0) (i := i) (q := 4) (L := Args.A) (Nat.add (i * 8) 4) rfl rfl (by kernel_rfl) h (by decide) rfl⟩
abbrev fp13 (o : Nat) : Prop := FA P 33 (pW 0 o) 0 (pW 0 (Nat.add o 0))
theorem fk13 (o : Nat) : OB (.pur (pW 0 (Nat.add o 0))) (fp13 o) := ⟨by unfold fp13 FA; kernel_rfl⟩
abbrev lp14 (i : Nat) (r : R8) : Prop := Lg P 3 (pW 0 (Nat.add (i * 8) 0)) (i6 (r.1))
theorem lk14 {i : Nat} {r : Int × Int × Int × Int × Int × Int × NL × Int} (hr : some ((Args.A).getD i (0, 0, 0, 0, 0, 0, nl0, 0)) = some r) (h : i < (Args.A).length) : OB (.ld (i6 (r.1))) (lp14 i r) := by cases hr; exact ⟨ldWS rwf_iiiiiiLu (0, 0, 0, 0, 0, 0, nl0, 0) (i := i) (q := 0) (L := Args.A) (Nat.add (i * 8) 0) rfl rfl (by kernel_rfl) h (by decide) rfl⟩
abbrev xp15 (b n k : Nat) (i : Int) : Prop := IA P 69 (sN b 0 n k) i (pN b (i.toNat * 3))
theorem xk15 (b k : Nat) {n : Nat} {i : Int} (h : 0 ≤ i ∧ i < (n : Int)) : OB (.pur (pN b (i.toNat * 3))) (xp15 b n k i) := ⟨ixS (e := 72) (by kernel_rfl) (by kernel_rfl) h.1 h.2⟩
abbrev op16 (L : List (Int × Int × Int)) (i : Nat) (r : Int × Int × Int) : Prop := (layT (rows rw_iii L)).get (Nat.add (i * 3) 0) = some (i6 (r.1))
theorem ok16 {L : List (Int × Int × Int)} {i : Nat} {r : Int × Int × Int} (hr : some (L.getD i (0, 0, 0)) = some r) (h : i < L.length) : OB (.ld (i6 (r.1))) (op16 L i r) := by cases hr; exact ⟨rows_ld rwf_iii (0, 0, 0) (i := i) (j := 0) (Nat.add (i * 3) 0) rfl h (by decide) rfl⟩
abbrev op17 (L : List (Int × Int × Int)) (i : Nat) (r : Int × Int × Int) : Prop := (layT (rows rw_iii L)).get (Nat.add (i * 3) 1) = some (i6 (r.2.1))
theorem ok17 {L : List (Int × Int × Int)} {i : Nat} {r : Int × Int × Int} (hr : some (L.getD i (0, 0, 0)) = some r) (h : i < L.length) : OB (.ld (i6 (r.2.1))) (op17 L i r) := by cases hr; exact ⟨rows_ld rwf_iii (0, 0, 0) (i := i) (j := 1) (Nat.add (i * 3) 1) rfl h (by decide) rfl⟩
abbrev op18 (L : List (Int × Int × Int)) (i : Nat) (r : Int × Int × Int) : Prop := (layT (rows rw_iii L)).get (Nat.add (i * 3) 2) = some (i6 (r.2.2))
theorem ok18 {L : List (Int × Int × Int)} {i : Nat} {r : Int × Int × Int} (hr : some (L.getD i (0, 0, 0)) = some r) (h : i < L.length) : OB (.ld (i6 (r.2.2))) (op18 L i r) := by cases hr; exact ⟨rows_ld rwf_iii (0, 0, 0) (i := i) (j := 2) (Nat.add (i * 3) 2) rfl h (by decide) rfl⟩
theorem snoc_cons {α : Type} (l : List α) (x : α) : ∃ a t, l ++ [x] = a :: t := by
 cases l with
 | nil => exact ⟨_, _, rfl⟩
 | cons a t => exact ⟨_, _, rfl⟩
theorem set_cons {α : Type} {x v : α} {l : List α} {n : Nat} : ∃ a t, (x :: l).set n v = a :: t := by cases n <;> exact ⟨_, _, rfl⟩
abbrev xp19 (b n k : Nat) (i : Int) : Prop := IA P 43 (sN b 0 n k) i (pN b (i.toNat * 1))
theorem xk19 (b k : Nat) {n : Nat} {i : Int} (h : 0 ≤ i ∧ i < (n : Int)) : OB (.pur (pN b (i.toNat * 1))) (xp19 b n k i) := ⟨ixS (e := 4) (by kernel_rfl) (by kernel_rfl) h.1 h.2⟩
abbrev op20 (L : List (Bool)) (i : Nat) (r : Bool) : Prop := (layT (rows rw_b L)).get (i * 1) = some (bO r)
theorem ok20 {L : List (Bool)} {i : Nat} {r : Bool} (hr : some (L.getD i (false)) = some r) (h : i < L.length) : OB (.ld (bO r)) (op20 L i r) := by cases hr; exact ⟨rows_ld rwf_b (false) (i := i) (j := 0) (i * 1) rfl h (by decide) rfl⟩
abbrev xp21 (b n k : Nat) (i : Int) : Prop := IA P 30 (sN b 0 n k) i (pN b i.toNat)
theorem xk21 (b k : Nat) {n : Nat} {i : Int} (h : 0 ≤ i ∧ i < (n : Int)) : OB (.pur (pN b i.toNat)) (xp21 b n k i) := ⟨ixS1 (e := 3) (by kernel_rfl) (by kernel_rfl) h⟩
abbrev xp22 (b n k : Nat) (i : Int) : Prop := IA P 22 (sN b 0 n k) i (pN b (i.toNat * 8))
theorem xk22 (b k : Nat) {n : Nat} {i : Int} (h : 0 ≤ i ∧ i < (n : Int)) : OB (.pur (pN b (i.toNat * 8))) (xp22 b n k i) := ⟨ixS (e := 33) (by kernel_rfl) (by kernel_rfl) h.1 h.2⟩
abbrev op23 (L : List R8) (i : Nat) (r : R8) : Prop := (layT (rows rw_iiiiiiLu L)).get (Nat.add (i * 8) 1) = some (i6 (r.2.1))
theorem ok23 {L : List R8} {i : Nat} {r : Int × Int × Int × Int × Int × Int × NL × Int} (hr : some (L.getD i (0, 0, 0, 0, 0, 0, nl0, 0)) = some r) (h : i < L.length) : OB (.ld (i6 (r.2.1))) (op23 L i r) := by cases hr; exact ⟨rows_ld rwf_iiiiiiLu (0, 0, 0, 0, 0, 0, nl0, 0) (i := i) (j := 1) (Nat.add (i * 8) 1) rfl h (by decide) rfl⟩
abbrev op24 (L : List R8) (i : Nat) (r : R8) : Prop := (layT (rows rw_iiiiiiLu L)).get (Nat.add (i * 8) 2) = some (i6 (r.2.2.1))
theorem ok24 {L : List R8} {i : Nat} {r : Int × Int × Int × Int × Int × Int × NL × Int} (hr : some (L.getD i (0, 0, 0, 0, 0, 0, nl0, 0)) = some r) (h : i < L.length) : OB (.ld (i6 (r.2.2.1))) (op24 L i r) := by cases hr; exact ⟨rows_ld rwf_iiiiiiLu (0, 0, 0, 0, 0, 0, nl0, 0) (i := i) (j := 2) (Nat.add (i * 8) 2) rfl h (by decide) rfl⟩
abbrev op25 (L : List R8) (i : Nat) (r : R8) : Prop := (layT (rows rw_iiiiiiLu L)).get (Nat.add (i * 8) 6) = some (nlV (r.2.2.2.2.2.2.1))
theorem ok25 {L : List R8} {i : Nat} {r : Int × Int × Int × Int × Int × Int × NL × Int} (hr : some (L.getD i (0, 0, 0, 0, 0, 0, nl0, 0)) = some r) (h : i < L.length) : OB (.ld (nlV (r.2.2.2.2.2.2.1))) (op25 L i r) := by cases hr; exact ⟨rows_ld rwf_iiiiiiLu (0, 0, 0, 0, 0, 0, nl0, 0) (i := i) (j := 6) (Nat.add (i * 8) 6) rfl h (by decide) rfl⟩
abbrev op26 (L : List R8) (i : Nat) (r : R8) : Prop := (layT (rows rw_iiiiiiLu L)).get (Nat.add (i * 8) 4) = some (i6 (r.2.2.2.2.1))
theorem ok26 {L : List R8} {i : Nat} {r : Int × Int × Int × Int × Int × Int × NL × Int} (hr : some (L.getD i (0, 0, 0, 0, 0, 0, nl0, 0)) = some r) (h : i < L.length) : OB (.ld (i6 (r.2.2.2.2.1))) (op26 L i r) := by cases hr; exact ⟨rows_ld rwf_iiiiiiLu (0, 0, 0, 0, 0, 0, nl0, 0) (i := i) (j := 4) (Nat.add (i * 8) 4) rfl h (by decide) rfl⟩
abbrev op27 (L : List R8) (i : Nat) (r : R8) : Prop := (layT (rows rw_iiiiiiLu L)).get (Nat.add (i * 8) 0) = some (i6 (r.1))
theorem ok27 {L : List R8} {i : Nat} {r : Int × Int × Int × Int × Int × Int × NL × Int} (hr : some (L.getD i (0, 0, 0, 0, 0, 0, nl0, 0)) = some r) (h : i < L.length) : OB (.ld (i6 (r.1))) (op27 L i r) := by cases hr; exact ⟨rows_ld rwf_iiiiiiLu (0, 0, 0, 0, 0, 0, nl0, 0) (i := i) (j := 0) (Nat.add (i * 8) 0) rfl h (by decide) rfl⟩
abbrev op28 (L : List R8) (i : Nat) (r : R8) : Prop := (layT (rows rw_iiiiiiLu L)).get (Nat.add (i * 8) 7) = some (Value.int .u64 (r.2.2.2.2.2.2.2))
theorem ok28 {L : List R8} {i : Nat} {r : Int × Int × Int × Int × Int × Int × NL × Int} (hr : some (L.getD i (0, 0, 0, 0, 0, 0, nl0, 0)) = some r) (h : i < L.length) : OB (.ld (Value.int .u64 (r.2.2.2.2.2.2.2))) (op28 L i r) := by cases hr; exact ⟨rows_ld rwf_iiiiiiLu (0, 0, 0, 0, 0, 0, nl0, 0) (i := i) (j := 7) (Nat.add (i * 8) 7) rfl h (by decide) rfl⟩
abbrev op29 (L : List R8) (i : Nat) (r : R8) : Prop := (layT (rows rw_iiiiiiLu L)).get (Nat.add (i * 8) 5) = some (i6 (r.2.2.2.2.2.1))
theorem ok29 {L : List R8} {i : Nat} {r : Int × Int × Int × Int × Int × Int × NL × Int} (hr : some (L.getD i (0, 0, 0, 0, 0, 0, nl0, 0)) = some r) (h : i < L.length) : OB (.ld (i6 (r.2.2.2.2.2.1))) (op29 L i r) := by cases hr; exact ⟨rows_ld rwf_iiiiiiLu (0, 0, 0, 0, 0, 0, nl0, 0) (i := i) (j := 5) (Nat.add (i * 8) 5) rfl h (by decide) rfl⟩

def m_Vlives (n : Nat) : Option Unit := some ()
theorem m_Vlives_ok (n : Nat) (r : Unit) (h : m_Vlives n = some r) : Gv P (.func 4) [] Ax.h0 (.bool true) Ax.h0 := lives_gv

def A_LPq1 (a0 : Int) : List Value := [(sW 0 0 (Args.A).length Args.cA), (i6 a0)]
def H_LPq1 (a0 : Int) : AH := ⟨sB [], 0, 0⟩
def V_LPq1 (a0 : Int) (r : Bool) : Value := match r with
 | o0 => (bO o0)
def R_LPq1 (a0 : Int) (r : Bool) : AH := match r with
 | o0 => ⟨sB [], 0, 0⟩
abbrev G_LPq1 (a0 : Int) (r : Bool) : Prop := Gv P (.func 5) (A_LPq1 a0) (H_LPq1 a0) (V_LPq1 a0 r) (R_LPq1 a0 r)
abbrev C_LPq1 (a0 : Int) (r : Bool) (ins outs : BL) : CallA := ⟨0, ins, V_LPq1 a0 r, R_LPq1 a0 r, outs⟩
def S_LPq1_1 (x1_0 : Int) (st : Int × Int) : XSt := match st with
 | (x1_1, x1_2) => (sT 66 [(0, (sW 0 0 (Args.A).length Args.cA)), (1, (i6 x1_0)), (5, (i6 x1_1)), (6, (i6 x1_2))], [], ⟨sB [], 0, 0⟩)
def X_LPq1_1 (x1_0 : Int) (r : (Unit) ⊕ (Int)) : Ex × XSt := match r with
 | .inl _ => (.ret, (sT 66 [(4, (bO false))], [], ⟨sB [], 0, 0⟩))
 | .inr z1_0 => (.exit 0, (sT 66 [(0, (sW 0 0 (Args.A).length Args.cA)), (1, (i6 x1_0)), (5, (i6 z1_0))], [], ⟨sB [], 0, 0⟩))
abbrev Q_LPq1_1 (rnd : Option Nat) (x1_0 : Int) (st : Int × Int) (c : Ex × XSt) : Prop := CG P rnd (fnN P 5) 0 (codeOf P 5 [false, false, true, false, true, true]) (S_LPq1_1 x1_0 st) c
abbrev U_LPq1_1 (rd : Option Nat) (x1_0 : Int) (st : Int × Int) (r : (Unit) ⊕ (Int)) : Prop := CG P rd (fnN P 5) 0 (codeOf P 5 [false, true, false, true, true]) (S_LPq1_1 x1_0 st) (X_LPq1_1 x1_0 r)
def B_LPq1_1 (n : Nat) (x1_0 : Int) (st : Int × Int) : Option ((Int × Int) ⊕ ((Unit) ⊕ (Int))) := match st with
 | (x1_1, x1_2) =>
  if x1_2 < (Args.A.length : Int) then
   if x1_2 ≤ x1_0 then
    if 0 ≤ x1_2 ∧ x1_2 < (Args.A.length : Int) then
     ((some ((Args.A).getD (x1_2).toNat (0, 0, 0, 0, 0, 0, nl0, 0)))).bind fun y1_4_ =>
     ((some (w64 (x1_1 + (y1_4_.2.2.2.2.2.2.1.l.length : Int))))).bind fun y1_5_ =>
     if (y1_4_.2.2.1) > (1048576 : Int) then
      some (.inr (.inl ()))
     else
      if (y1_4_.2.2.2.2.1) > (1048576 : Int) then
       some (.inr (.inl ()))
      else
       if (y1_4_.2.2.2.2.2.1) > (1048576 : Int) then
        some (.inr (.inl ()))
       else
        if (y1_4_.2.2.1) < (-1048576 : Int) then
         some (.inr (.inl ()))
        else
         if (y1_4_.2.2.2.2.1) < (-1048576 : Int) then
          some (.inr (.inl ()))
         else
          if (y1_4_.2.2.2.2.2.1) < (-1048576 : Int) then
           some (.inr (.inl ()))
          else
           some (.inl (y1_5_, (w64 (x1_2 + (1 : Int)))))
    else none
   else
    some (.inr (.inr x1_1))
  else
   some (.inr (.inr x1_1))
def m_LPq1_1 (n : Nat) (x1_0 : Int) (st : Int × Int) : Option ((Unit) ⊕ (Int)) := iterM (B_LPq1_1 n x1_0) n st
theorem q_LPq1_1_0 (n : Nat) {rnd : Option Nat} (x1_0 x1_1 x1_2 : Int) (hy1_1 : x1_2 < (Args.A.length : Int)) (hy1_2 : x1_2 ≤ x1_0) (hy1_3 : 0 ≤ x1_2 ∧ x1_2 < (Args.A.length : Int)) (y1_4_ : R8) (hy1_4 : (some ((Args.A).getD (x1_2).toNat (0, 0, 0, 0, 0, 0, nl0, 0))) = some y1_4_) (y1_5_ : Int) (hy1_5 : (some (w64 (x1_1 + (y1_4_.2.2.2.2.2.2.1.l.length : Int)))) = some y1_5_) (hy1_6 : (y1_4_.2.2.1) > (1048576 : Int)) : Q_LPq1_1 rnd x1_0 (x1_1, x1_2) (X_LPq1_1 x1_0 (.inl ())) :=
 runC2 hm (L := lT []) ⟨[4], [], 0, 0, [], false, []⟩ (zz 5 (xdT hy1_1) <|
zz 9 (xdT hy1_2) <|
zz 17 (xk1 0 Args.cA hy1_3) <|
zz 18 (lk2 hy1_4 (toNatLt hy1_3)) <|
zz 26 (xnm hy1_5) <|
zz 31 (xdT hy1_6) <|
ee) (by kernel_rfl)
theorem q_LPq1_1_1 (n : Nat) {rnd : Option Nat} (x1_0 x1_1 x1_2 : Int) (hy1_1 : x1_2 < (Args.A.length : Int)) (hy1_2 : x1_2 ≤ x1_0) (hy1_3 : 0 ≤ x1_2 ∧ x1_2 < (Args.A.length : Int)) (y1_4_ : R8) (hy1_4 : (some ((Args.A).getD (x1_2).toNat (0, 0, 0, 0, 0, 0, nl0, 0))) = some y1_4_) (y1_5_ : Int) (hy1_5 : (some (w64 (x1_1 + (y1_4_.2.2.2.2.2.2.1.l.length : Int)))) = some y1_5_) (hy1_6 : ¬ ((y1_4_.2.2.1) > (1048576 : Int))) (hy1_7 : (y1_4_.2.2.2.2.1) > (1048576 : Int)) : Q_LPq1_1 rnd x1_0 (x1_1, x1_2) (X_LPq1_1 x1_0 (.inl ())) :=
 runC2 hm (L := lT []) ⟨[4], [], 0, 0, [], false, []⟩ (zz 5 (xdT hy1_1) <|
zz 9 (xdT hy1_2) <|
zz 17 (xk1 0 Args.cA hy1_3) <|
zz 18 (lk2 hy1_4 (toNatLt hy1_3)) <|
zz 26 (xnm hy1_5) <|
zz 31 (xdF hy1_6) <|
zz 35 (xdT hy1_7) <|
ee) (by kernel_rfl)
theorem q_LPq1_1_2 (n : Nat) {rnd : Option Nat} (x1_0 x1_1 x1_2 : Int) (hy1_1 : x1_2 < (Args.A.length : Int)) (hy1_2 : x1_2 ≤ x1_0) (hy1_3 : 0 ≤ x1_2 ∧ x1_2 < (Args.A.length : Int)) (y1_4_ : R8) (hy1_4 : (some ((Args.A).getD (x1_2).toNat (0, 0, 0, 0, 0, 0, nl0, 0))) = some y1_4_) (y1_5_ : Int) (hy1_5 : (some (w64 (x1_1 + (y1_4_.2.2.2.2.2.2.1.l.length : Int)))) = some y1_5_) (hy1_6 : ¬ ((y1_4_.2.2.1) > (1048576 : Int))) (hy1_7 : ¬ ((y1_4_.2.2.2.2.1) > (1048576 : Int))) (hy1_8 : (y1_4_.2.2.2.2.2.1) > (1048576 : Int)) : Q_LPq1_1 rnd x1_0 (x1_1, x1_2) (X_LPq1_1 x1_0 (.inl ())) :=
 runC2 hm (L := lT []) ⟨[4], [], 0, 0, [], false, []⟩ (zz 5 (xdT hy1_1) <|
zz 9 (xdT hy1_2) <|
zz 17 (xk1 0 Args.cA hy1_3) <|
zz 18 (lk2 hy1_4 (toNatLt hy1_3)) <|
zz 26 (xnm hy1_5) <|
zz 31 (xdF hy1_6) <|
zz 35 (xdF hy1_7) <|
zz 40 (xdT hy1_8) <|
ee) (by kernel_rfl)
theorem q_LPq1_1_3 (n : Nat) {rnd : Option Nat} (x1_0 x1_1 x1_2 : Int) (hy1_1 : x1_2 < (Args.A.length : Int)) (hy1_2 : x1_2 ≤ x1_0) (hy1_3 : 0 ≤ x1_2 ∧ x1_2 < (Args.A.length : Int)) (y1_4_ : R8) (hy1_4 : (some ((Args.A).getD (x1_2).toNat (0, 0, 0, 0, 0, 0, nl0, 0))) = some y1_4_) (y1_5_ : Int) (hy1_5 : (some (w64 (x1_1 + (y1_4_.2.2.2.2.2.2.1.l.length : Int)))) = some y1_5_) (hy1_6 : ¬ ((y1_4_.2.2.1) > (1048576 : Int))) (hy1_7 : ¬ ((y1_4_.2.2.2.2.1) > (1048576 : Int))) (hy1_8 : ¬ ((y1_4_.2.2.2.2.2.1) > (1048576 : Int))) (hy1_9 : (y1_4_.2.2.1) < (-1048576 : Int)) : Q_LPq1_1 rnd x1_0 (x1_1, x1_2) (X_LPq1_1 x1_0 (.inl ())) :=
 runC2 hm (L := lT []) ⟨[4], [], 0, 0, [], false, []⟩ (zz 5 (xdT hy1_1) <|
zz 9 (xdT hy1_2) <|
zz 17 (xk1 0 Args.cA hy1_3) <|
zz 18 (lk2 hy1_4 (toNatLt hy1_3)) <|
zz 26 (xnm hy1_5) <|
zz 31 (xdF hy1_6) <|
zz 35 (xdF hy1_7) <|
zz 40 (xdF hy1_8) <|
zz 45 (xdT hy1_9) <|
ee) (by kernel_rfl)
theorem q_LPq1_1_4 (n : Nat) {rnd : Option Nat} (x1_0 x1_1 x1_2 : Int) (hy1_1 : x1_2 < (Args.A.length : Int)) (hy1_2 : x1_2 ≤ x1_0) (hy1_3 : 0 ≤ x1_2 ∧ x1_2 < (Args.A.length : Int)) (y1_4_ : R8) (hy1_4 : (some ((Args.A).getD (x1_2).toNat (0, 0, 0, 0, 0, 0, nl0, 0))) = some y1_4_) (y1_5_ : Int) (hy1_5 : (some (w64 (x1_1 + (y1_4_.2.2.2.2.2.2.1.l.length : Int)))) = some y1_5_) (hy1_6 : ¬ ((y1_4_.2.2.1) > (1048576 : Int))) (hy1_7 : ¬ ((y1_4_.2.2.2.2.1) > (1048576 : Int))) (hy1_8 : ¬ ((y1_4_.2.2.2.2.2.1) > (1048576 : Int))) (hy1_9 : ¬ ((y1_4_.2.2.1) < (-1048576 : Int))) (hy1_10 : (y1_4_.2.2.2.2.1) < (-1048576 : Int)) : Q_LPq1_1 rnd x1_0 (x1_1, x1_2) (X_LPq1_1 x1_0 (.inl ())) :=
 runC2 hm (L := lT []) ⟨[4], [], 0, 0, [], false, []⟩ (zz 5 (xdT hy1_1) <|
zz 9 (xdT hy1_2) <|
zz 17 (xk1 0 Args.cA hy1_3) <|
zz 18 (lk2 hy1_4 (toNatLt hy1_3)) <|
zz 26 (xnm hy1_5) <|
zz 31 (xdF hy1_6) <|
zz 35 (xdF hy1_7) <|
zz 40 (xdF hy1_8) <|
zz 45 (xdF hy1_9) <|
zz 50 (xdT hy1_10) <|
ee) (by kernel_rfl)
theorem q_LPq1_1_5 (n : Nat) {rnd : Option Nat} (x1_0 x1_1 x1_2 : Int) (hy1_1 : x1_2 < (Args.A.length : Int)) (hy1_2 : x1_2 ≤ x1_0) (hy1_3 : 0 ≤ x1_2 ∧ x1_2 < (Args.A.length : Int)) (y1_4_ : R8) (hy1_4 : (some ((Args.A).getD (x1_2).toNat (0, 0, 0, 0, 0, 0, nl0, 0))) = some y1_4_) (y1_5_ : Int) (hy1_5 : (some (w64 (x1_1 + (y1_4_.2.2.2.2.2.2.1.l.length : Int)))) = some y1_5_) (hy1_6 : ¬ ((y1_4_.2.2.1) > (1048576 : Int))) (hy1_7 : ¬ ((y1_4_.2.2.2.2.1) > (1048576 : Int))) (hy1_8 : ¬ ((y1_4_.2.2.2.2.2.1) > (1048576 : Int))) (hy1_9 : ¬ ((y1_4_.2.2.1) < (-1048576 : Int))) (hy1_10 : ¬ ((y1_4_.2.2.2.2.1) < (-1048576 : Int))) (hy1_11 : (y1_4_.2.2.2.2.2.1) < (-1048576 : Int)) : Q_LPq1_1 rnd x1_0 (x1_1, x1_2) (X_LPq1_1 x1_0 (.inl ())) :=
 runC2 hm (L := lT []) ⟨[4], [], 0, 0, [], false, []⟩ (zz 5 (xdT hy1_1) <|
zz 9 (xdT hy1_2) <|
zz 17 (xk1 0 Args.cA hy1_3) <|
zz 18 (lk2 hy1_4 (toNatLt hy1_3)) <|
zz 26 (xnm hy1_5) <|
zz 31 (xdF hy1_6) <|
zz 35 (xdF hy1_7) <|
zz 40 (xdF hy1_8) <|
zz 45 (xdF hy1_9) <|
zz 50 (xdF hy1_10) <|
zz 55 (xdT hy1_11) <|
ee) (by kernel_rfl)
theorem q_LPq1_1_6 (n : Nat) {rnd : Option Nat} (x1_0 x1_1 x1_2 : Int) (hy1_1 : x1_2 < (Args.A.length : Int)) (hy1_2 : x1_2 ≤ x1_0) (hy1_3 : 0 ≤ x1_2 ∧ x1_2 < (Args.A.length : Int)) (y1_4_ : R8) (hy1_4 : (some ((Args.A).getD (x1_2).toNat (0, 0, 0, 0, 0, 0, nl0, 0))) = some y1_4_) (y1_5_ : Int) (hy1_5 : (some (w64 (x1_1 + (y1_4_.2.2.2.2.2.2.1.l.length : Int)))) = some y1_5_) (hy1_6 : ¬ ((y1_4_.2.2.1) > (1048576 : Int))) (hy1_7 : ¬ ((y1_4_.2.2.2.2.1) > (1048576 : Int))) (hy1_8 : ¬ ((y1_4_.2.2.2.2.2.1) > (1048576 : Int))) (hy1_9 : ¬ ((y1_4_.2.2.1) < (-1048576 : Int))) (hy1_10 : ¬ ((y1_4_.2.2.2.2.1) < (-1048576 : Int))) (hy1_11 : ¬ ((y1_4_.2.2.2.2.2.1) < (-1048576 : Int))) : Q_LPq1_1 rnd x1_0 (x1_1, x1_2) (.normal, S_LPq1_1 x1_0 (y1_5_, (w64 (x1_2 + (1 : Int))))) :=
 runC2 hm (L := lT []) ⟨[0, 1, 5, 6], [], 0, 0, [], false, []⟩ (zz 5 (xdT hy1_1) <|
zz 9 (xdT hy1_2) <|
zz 17 (xk1 0 Args.cA hy1_3) <|
zz 18 (lk2 hy1_4 (toNatLt hy1_3)) <|
zz 26 (xnm hy1_5) <|
zz 31 (xdF hy1_6) <|
zz 35 (xdF hy1_7) <|
zz 40 (xdF hy1_8) <|
zz 45 (xdF hy1_9) <|
zz 50 (xdF hy1_10) <|
zz 55 (xdF hy1_11) <|
ee) (by kernel_rfl)
theorem q_LPq1_1_7 (n : Nat) {rnd : Option Nat} (x1_0 x1_1 x1_2 : Int) (hy1_1 : x1_2 < (Args.A.length : Int)) (hy1_2 : ¬ (x1_2 ≤ x1_0)) : Q_LPq1_1 rnd x1_0 (x1_1, x1_2) (X_LPq1_1 x1_0 (.inr x1_1)) :=
 runC2 hm (L := lT []) ⟨[0, 1, 5], [], 0, 0, [], false, []⟩ (zz 5 (xdT hy1_1) <|
zz 9 (xdF hy1_2) <|
ee) (by kernel_rfl)
theorem q_LPq1_1_8 (n : Nat) {rnd : Option Nat} (x1_0 x1_1 x1_2 : Int) (hy1_1 : ¬ (x1_2 < (Args.A.length : Int))) : Q_LPq1_1 rnd x1_0 (x1_1, x1_2) (X_LPq1_1 x1_0 (.inr x1_1)) :=
 runC2 hm (L := lT []) ⟨[0, 1, 5], [], 0, 0, [], false, []⟩ (zz 5 (xdF hy1_1) <|
ee) (by kernel_rfl)
theorem m_LPq1_1_ok (n : Nat) {rnd : Option Nat} (x1_0 : Int) (st : Int × Int) (r : (Unit) ⊕ (Int)) (h : m_LPq1_1 n x1_0 st = some r) : CG P rnd (fnN P 5) 0 (codeOf P 5 [false, true, false, true, true]) (S_LPq1_1 x1_0 st) (X_LPq1_1 x1_0 r) :=
 CG.iter (b := codeOf P 5 [false, false, true, false, true, true]) (by kernel_rfl) (body := B_LPq1_1 n x1_0) (S := S_LPq1_1 x1_0) (X := X_LPq1_1 x1_0)
  (fun s s' h => by
  obtain ⟨x1_1, x1_2⟩ := s
  unfold B_LPq1_1 at h
  dsimp only at h
  by_cases hy1_1 : x1_2 < (Args.A.length : Int)
  ·rw [if_pos hy1_1] at h
   by_cases hy1_2 : x1_2 ≤ x1_0
   ·rw [if_pos hy1_2] at h
    by_cases hy1_3 : 0 ≤ x1_2 ∧ x1_2 < (Args.A.length : Int)
    ·rw [if_pos hy1_3] at h
     obtain ⟨y1_4_, hy1_4, h⟩ := Option.bind_eq_some_iff.1 h
     obtain ⟨y1_5_, hy1_5, h⟩ := Option.bind_eq_some_iff.1 h
     by_cases hy1_6 : (y1_4_.2.2.1) > (1048576 : Int)
     ·rw [if_pos hy1_6] at h
      cases h
     ·rw [if_neg hy1_6] at h
      by_cases hy1_7 : (y1_4_.2.2.2.2.1) > (1048576 : Int)
      ·rw [if_pos hy1_7] at h
       cases h
      ·rw [if_neg hy1_7] at h
       by_cases hy1_8 : (y1_4_.2.2.2.2.2.1) > (1048576 : Int)
       ·rw [if_pos hy1_8] at h
        cases h
       ·rw [if_neg hy1_8] at h
        by_cases hy1_9 : (y1_4_.2.2.1) < (-1048576 : Int)
        ·rw [if_pos hy1_9] at h
         cases h
        ·rw [if_neg hy1_9] at h
         by_cases hy1_10 : (y1_4_.2.2.2.2.1) < (-1048576 : Int)
         ·rw [if_pos hy1_10] at h
          cases h
         ·rw [if_neg hy1_10] at h
          by_cases hy1_11 : (y1_4_.2.2.2.2.2.1) < (-1048576 : Int)
          ·rw [if_pos hy1_11] at h
           cases h
          ·rw [if_neg hy1_11] at h
           obtain rfl := Sum.inl.inj (oI h); exact q_LPq1_1_6 n x1_0 x1_1 x1_2 hy1_1 hy1_2 hy1_3 y1_4_ hy1_4 y1_5_ hy1_5 hy1_6 hy1_7 hy1_8 hy1_9 hy1_10 hy1_11
    ·rw [if_neg hy1_3] at h; cases h
   ·rw [if_neg hy1_2] at h
    cases h
  ·rw [if_neg hy1_1] at h
   cases h)
  (fun s r h => by
  obtain ⟨x1_1, x1_2⟩ := s
  unfold B_LPq1_1 at h
  dsimp only at h
  by_cases hy1_1 : x1_2 < (Args.A.length : Int)
  ·rw [if_pos hy1_1] at h
   by_cases hy1_2 : x1_2 ≤ x1_0
   ·rw [if_pos hy1_2] at h
    by_cases hy1_3 : 0 ≤ x1_2 ∧ x1_2 < (Args.A.length : Int)
    ·rw [if_pos hy1_3] at h
     obtain ⟨y1_4_, hy1_4, h⟩ := Option.bind_eq_some_iff.1 h
     obtain ⟨y1_5_, hy1_5, h⟩ := Option.bind_eq_some_iff.1 h
     by_cases hy1_6 : (y1_4_.2.2.1) > (1048576 : Int)
     ·rw [if_pos hy1_6] at h
      obtain rfl := Sum.inr.inj (oI h); exact q_LPq1_1_0 n x1_0 x1_1 x1_2 hy1_1 hy1_2 hy1_3 y1_4_ hy1_4 y1_5_ hy1_5 hy1_6
     ·rw [if_neg hy1_6] at h
      by_cases hy1_7 : (y1_4_.2.2.2.2.1) > (1048576 : Int)
      ·rw [if_pos hy1_7] at h
       obtain rfl := Sum.inr.inj (oI h); exact q_LPq1_1_1 n x1_0 x1_1 x1_2 hy1_1 hy1_2 hy1_3 y1_4_ hy1_4 y1_5_ hy1_5 hy1_6 hy1_7
      ·rw [if_neg hy1_7] at h
       by_cases hy1_8 : (y1_4_.2.2.2.2.2.1) > (1048576 : Int)
       ·rw [if_pos hy1_8] at h
        obtain rfl := Sum.inr.inj (oI h); exact q_LPq1_1_2 n x1_0 x1_1 x1_2 hy1_1 hy1_2 hy1_3 y1_4_ hy1_4 y1_5_ hy1_5 hy1_6 hy1_7 hy1_8
       ·rw [if_neg hy1_8] at h
        by_cases hy1_9 : (y1_4_.2.2.1) < (-1048576 : Int)
        ·rw [if_pos hy1_9] at h
         obtain rfl := Sum.inr.inj (oI h); exact q_LPq1_1_3 n x1_0 x1_1 x1_2 hy1_1 hy1_2 hy1_3 y1_4_ hy1_4 y1_5_ hy1_5 hy1_6 hy1_7 hy1_8 hy1_9
        ·rw [if_neg hy1_9] at h
         by_cases hy1_10 : (y1_4_.2.2.2.2.1) < (-1048576 : Int)
         ·rw [if_pos hy1_10] at h
          obtain rfl := Sum.inr.inj (oI h); exact q_LPq1_1_4 n x1_0 x1_1 x1_2 hy1_1 hy1_2 hy1_3 y1_4_ hy1_4 y1_5_ hy1_5 hy1_6 hy1_7 hy1_8 hy1_9 hy1_10
         ·rw [if_neg hy1_10] at h
          by_cases hy1_11 : (y1_4_.2.2.2.2.2.1) < (-1048576 : Int)
          ·rw [if_pos hy1_11] at h
           obtain rfl := Sum.inr.inj (oI h); exact q_LPq1_1_5 n x1_0 x1_1 x1_2 hy1_1 hy1_2 hy1_3 y1_4_ hy1_4 y1_5_ hy1_5 hy1_6 hy1_7 hy1_8 hy1_9 hy1_10 hy1_11
          ·rw [if_neg hy1_11] at h
           cases h
    ·rw [if_neg hy1_3] at h; cases h
   ·rw [if_neg hy1_2] at h
    obtain rfl := Sum.inr.inj (oI h); exact q_LPq1_1_7 n x1_0 x1_1 x1_2 hy1_1 hy1_2
  ·rw [if_neg hy1_1] at h
   obtain rfl := Sum.inr.inj (oI h); exact q_LPq1_1_8 n x1_0 x1_1 x1_2 hy1_1)
  (fun r => by intro hx; rcases r with _ | _ <;> cases hx) h
def m_LPq1 (n : Nat) (a0 : Int) : Option (Bool) :=
 match m_LPq1_1 n a0 (0, 0) with
 | none => none
 | some (.inl _) =>
  some false
 | some (.inr c1_) =>
  if (Args.A.length : Int) ≤ a0 then
   if c1_ ≤ (w64 ((2 : Int) * a0)) then
    some true
   else
    some false
  else
   some false
theorem m_LPq1_ok (n : Nat) (a0 : Int) (r : Bool) (h : m_LPq1 n a0 = some r) : Gv P (.func 5) (A_LPq1 a0) (H_LPq1 a0) (V_LPq1 a0 r) (R_LPq1 a0 r) := by
 unfold m_LPq1 at h
 rcases hc1 : m_LPq1_1 n a0 (0, 0) with _ | (⟨⟩ | c1_)
 ·rw [hc1] at h; cases h
 ·rw [hc1] at h
  dsimp only at h
  obtain rfl := oI h; exact runF2 hm (L := lT [(8, ⟨⟨[0, 1, 5, 6], [], 0, 0, [], false, []⟩, (X_LPq1_1 a0 (.inl ())).1, (X_LPq1_1 a0 (.inl ())).2⟩)]) ⟨[4], [], 0, 0, [], false, []⟩ (ww (p := U_LPq1_1 none a0 (0, 0) (.inl ())) (m_LPq1_1_ok n a0 (0, 0) (.inl ()) hc1) ee) (by kernel_rfl)
 ·rw [hc1] at h
  dsimp only at h
  by_cases hc2 : (Args.A.length : Int) ≤ a0
  ·rw [if_pos hc2] at h
   by_cases hc3 : c1_ ≤ (w64 ((2 : Int) * a0))
   ·rw [if_pos hc3] at h
    obtain rfl := oI h; exact runF2 hm (L := lT [(8, ⟨⟨[0, 1, 5, 6], [], 0, 0, [], false, []⟩, (X_LPq1_1 a0 (.inr c1_)).1, (X_LPq1_1 a0 (.inr c1_)).2⟩)]) ⟨[4], [], 0, 0, [], false, []⟩ (ww (p := U_LPq1_1 none a0 (0, 0) (.inr c1_)) (m_LPq1_1_ok n a0 (0, 0) (.inr c1_) hc1) <|
zz 13 (xdT hc2) <|
zz 18 (xdT hc3) ee) (by kernel_rfl)
   ·rw [if_neg hc3] at h
    obtain rfl := oI h; exact runF2 hm (L := lT [(8, ⟨⟨[0, 1, 5, 6], [], 0, 0, [], false, []⟩, (X_LPq1_1 a0 (.inr c1_)).1, (X_LPq1_1 a0 (.inr c1_)).2⟩)]) ⟨[4], [], 0, 0, [], false, []⟩ (ww (p := U_LPq1_1 none a0 (0, 0) (.inr c1_)) (m_LPq1_1_ok n a0 (0, 0) (.inr c1_) hc1) <|
zz 13 (xdT hc2) <|
zz 18 (xdF hc3) ee) (by kernel_rfl)
  ·rw [if_neg hc2] at h
   obtain rfl := oI h; exact runF2 hm (L := lT [(8, ⟨⟨[0, 1, 5, 6], [], 0, 0, [], false, []⟩, (X_LPq1_1 a0 (.inr c1_)).1, (X_LPq1_1 a0 (.inr c1_)).2⟩)]) ⟨[4], [], 0, 0, [], false, []⟩ (ww (p := U_LPq1_1 none a0 (0, 0) (.inr c1_)) (m_LPq1_1_ok n a0 (0, 0) (.inr c1_) hc1) <|
zz 13 (xdF hc2) ee) (by kernel_rfl)

def A_Rleafq1 (a0 : Int) : List Value := [(i6 a0)]
def H_Rleafq1 (a0 : Int) : AH := ⟨sB [], 0, 0⟩
def V_Rleafq1 (a0 : Int) (r : Bool) : Value := match r with
 | o0 => (bO o0)
def R_Rleafq1 (a0 : Int) (r : Bool) : AH := match r with
 | o0 => ⟨sB [], 0, 0⟩
abbrev G_Rleafq1 (a0 : Int) (r : Bool) : Prop := Gv P (.func 25) (A_Rleafq1 a0) (H_Rleafq1 a0) (V_Rleafq1 a0 r) (R_Rleafq1 a0 r)
abbrev C_Rleafq1 (a0 : Int) (r : Bool) (ins outs : BL) : CallA := ⟨0, ins, V_Rleafq1 a0 r, R_Rleafq1 a0 r, outs⟩
def m_Rleafq1 (n : Nat) (a0 : Int) : Option (Bool) :=
 if a0 = (1 : Int) then
  some false
 else
  if a0 = (2 : Int) then
   some false
  else
   some true
theorem m_Rleafq1_ok (n : Nat) (a0 : Int) (r : Bool) (h : m_Rleafq1 n a0 = some r) : Gv P (.func 25) (A_Rleafq1 a0) (H_Rleafq1 a0) (V_Rleafq1 a0 r) (R_Rleafq1 a0 r) := by
 unfold m_Rleafq1 at h
 by_cases hc1 : a0 = (1 : Int)
 ·rw [if_pos hc1] at h
  obtain rfl := oI h; exact runF2 hm (L := lT []) ⟨[2], [], 0, 0, [], false, []⟩ (zz 4 (xnF hc1) ee) (by kernel_rfl)
 ·rw [if_neg hc1] at h
  by_cases hc2 : a0 = (2 : Int)
  ·rw [if_pos hc2] at h
   obtain rfl := oI h; exact runF2 hm (L := lT []) ⟨[2], [], 0, 0, [], false, []⟩ (zz 4 (xnT hc1) <|
zz 7 (xnF hc2) ee) (by kernel_rfl)
  ·rw [if_neg hc2] at h
   obtain rfl := oI h; exact runF2 hm (L := lT []) ⟨[2], [], 0, 0, [], false, []⟩ (zz 4 (xnT hc1) <|
zz 7 (xnT hc2) ee) (by kernel_rfl)

def A_Rbareq1 (a0 : Int) (a1 : Int) (a2 : Int) (a3 : Int) (a4 : Int) (a5 : Int) (a6 : NL) (a7 : Int) : List Value := [(Value.agg #[(i6 a0), (i6 a1), (i6 a2), (i6 a3), (i6 a4), (i6 a5), (nlV a6), (Value.int .u64 a7)])]
def H_Rbareq1 (a0 : Int) (a1 : Int) (a2 : Int) (a3 : Int) (a4 : Int) (a5 : Int) (a6 : NL) (a7 : Int) : AH := ⟨sB [], 0, 0⟩
def V_Rbareq1 (a0 : Int) (a1 : Int) (a2 : Int) (a3 : Int) (a4 : Int) (a5 : Int) (a6 : NL) (a7 : Int) (r : Bool) : Value := match r with
 | o0 => (bO o0)
def R_Rbareq1 (a0 : Int) (a1 : Int) (a2 : Int) (a3 : Int) (a4 : Int) (a5 : Int) (a6 : NL) (a7 : Int) (r : Bool) : AH := match r with
 | o0 => ⟨sB [], 0, 0⟩
abbrev G_Rbareq1 (a0 : Int) (a1 : Int) (a2 : Int) (a3 : Int) (a4 : Int) (a5 : Int) (a6 : NL) (a7 : Int) (r : Bool) : Prop := Gv P (.func 13) (A_Rbareq1 a0 a1 a2 a3 a4 a5 a6 a7) (H_Rbareq1 a0 a1 a2 a3 a4 a5 a6 a7) (V_Rbareq1 a0 a1 a2 a3 a4 a5 a6 a7 r) (R_Rbareq1 a0 a1 a2 a3 a4 a5 a6 a7 r)
abbrev C_Rbareq1 (a0 : Int) (a1 : Int) (a2 : Int) (a3 : Int) (a4 : Int) (a5 : Int) (a6 : NL) (a7 : Int) (r : Bool) (ins outs : BL) : CallA := ⟨0, ins, V_Rbareq1 a0 a1 a2 a3 a4 a5 a6 a7 r, R_Rbareq1 a0 a1 a2 a3 a4 a5 a6 a7 r, outs⟩
def m_Rbareq1 (n : Nat) (a0 : Int) (a1 : Int) (a2 : Int) (a3 : Int) (a4 : Int) (a5 : Int) (a6 : NL) (a7 : Int) : Option (Bool) :=
 if a1 < (1 : Int) then
  some false
 else
  if a1 > (6 : Int) then
   some false
  else
   if a2 < (0 : Int) then
    some false
   else
    if a2 > a4 then
     some false
    else
     if a5 ≤ a2 then
      some false
     else
      if a1 = (3 : Int) then
       if a3 < a2 then
        some false
       else
        if a3 > a4 then
         some false
        else
         if a1 = (4 : Int) then
          if a2 = a4 then
           (m_Rleafq1 n a1).bind fun c11_ =>
           if c11_ = true then
            if (a6.l.length : Int) = (0 : Int) then
             some true
            else
             some false
           else
            some true
          else
           some false
         else
          (m_Rleafq1 n a1).bind fun c10_ =>
          if c10_ = true then
           if (a6.l.length : Int) = (0 : Int) then
            some true
           else
            some false
          else
           some true
      else
       if a1 = (5 : Int) then
        if a3 < a2 then
         some false
        else
         if a3 > a4 then
          some false
         else
          if a1 = (4 : Int) then
           if a2 = a4 then
            (m_Rleafq1 n a1).bind fun c12_ =>
            if c12_ = true then
             if (a6.l.length : Int) = (0 : Int) then
              some true
             else
              some false
            else
             some true
           else
            some false
          else
           (m_Rleafq1 n a1).bind fun c11_ =>
           if c11_ = true then
            if (a6.l.length : Int) = (0 : Int) then
             some true
            else
             some false
           else
            some true
       else
        if a1 = (6 : Int) then
         if a3 < a2 then
          some false
         else
          if a3 > a4 then
           some false
          else
           if a1 = (4 : Int) then
            if a2 = a4 then
             (m_Rleafq1 n a1).bind fun c13_ =>
             if c13_ = true then
              if (a6.l.length : Int) = (0 : Int) then
               some true
              else
               some false
             else
              some true
            else
             some false
           else
            (m_Rleafq1 n a1).bind fun c12_ =>
            if c12_ = true then
             if (a6.l.length : Int) = (0 : Int) then
              some true
             else
              some false
            else
             some true
        else
         if a3 = a2 then
          if a1 = (4 : Int) then
           if a2 = a4 then
            (m_Rleafq1 n a1).bind fun c12_ =>
            if c12_ = true then
             if (a6.l.length : Int) = (0 : Int) then
              some true
             else
              some false
            else
             some true
           else
            some false
          else
           (m_Rleafq1 n a1).bind fun c11_ =>
           if c11_ = true then
            if (a6.l.length : Int) = (0 : Int) then
             some true
            else
             some false
           else
            some true
         else
          some false
theorem m_Rbareq1_ok (n : Nat) (a0 : Int) (a1 : Int) (a2 : Int) (a3 : Int) (a4 : Int) (a5 : Int) (a6 : NL) (a7 : Int) (r : Bool) (h : m_Rbareq1 n a0 a1 a2 a3 a4 a5 a6 a7 = some r) : Gv P (.func 13) (A_Rbareq1 a0 a1 a2 a3 a4 a5 a6 a7) (H_Rbareq1 a0 a1 a2 a3 a4 a5 a6 a7) (V_Rbareq1 a0 a1 a2 a3 a4 a5 a6 a7 r) (R_Rbareq1 a0 a1 a2 a3 a4 a5 a6 a7 r) := by
 unfold m_Rbareq1 at h
 by_cases hc1 : a1 < (1 : Int)
 ·rw [if_pos hc1] at h
  obtain rfl := oI h; exact runF2 hm (L := lT []) ⟨[2], [], 0, 0, [], false, []⟩ (zz 7 (xdT hc1) ee) (by kernel_rfl)
 ·rw [if_neg hc1] at h
  by_cases hc2 : a1 > (6 : Int)
  ·rw [if_pos hc2] at h
   obtain rfl := oI h; exact runF2 hm (L := lT []) ⟨[2], [], 0, 0, [], false, []⟩ (zz 7 (xdF hc1) <|
zz 11 (xdT hc2) ee) (by kernel_rfl)
  ·rw [if_neg hc2] at h
   by_cases hc3 : a2 < (0 : Int)
   ·rw [if_pos hc3] at h
    obtain rfl := oI h; exact runF2 hm (L := lT []) ⟨[2], [], 0, 0, [], false, []⟩ (zz 7 (xdF hc1) <|
zz 11 (xdF hc2) <|
zz 16 (xdT hc3) ee) (by kernel_rfl)
   ·rw [if_neg hc3] at h
    by_cases hc4 : a2 > a4
    ·rw [if_pos hc4] at h
     obtain rfl := oI h; exact runF2 hm (L := lT []) ⟨[2], [], 0, 0, [], false, []⟩ (zz 7 (xdF hc1) <|
zz 11 (xdF hc2) <|
zz 16 (xdF hc3) <|
zz 23 (xdT hc4) ee) (by kernel_rfl)
    ·rw [if_neg hc4] at h
     by_cases hc5 : a5 ≤ a2
     ·rw [if_pos hc5] at h
      obtain rfl := oI h; exact runF2 hm (L := lT []) ⟨[2], [], 0, 0, [], false, []⟩ (zz 7 (xdF hc1) <|
zz 11 (xdF hc2) <|
zz 16 (xdF hc3) <|
zz 23 (xdF hc4) <|
zz 30 (xdT hc5) ee) (by kernel_rfl)
     ·rw [if_neg hc5] at h
      by_cases hc6 : a1 = (3 : Int)
      ·rw [if_pos hc6] at h
       by_cases hc7 : a3 < a2
       ·rw [if_pos hc7] at h
        obtain rfl := oI h; exact runF2 hm (L := lT []) ⟨[2], [], 0, 0, [], false, []⟩ (zz 7 (xdF hc1) <|
zz 11 (xdF hc2) <|
zz 16 (xdF hc3) <|
zz 23 (xdF hc4) <|
zz 30 (xdF hc5) <|
zz 36 (xeT hc6) <|
zz 56 (xdT hc7) ee) (by kernel_rfl)
       ·rw [if_neg hc7] at h
        by_cases hc8 : a3 > a4
        ·rw [if_pos hc8] at h
         obtain rfl := oI h; exact runF2 hm (L := lT []) ⟨[2], [], 0, 0, [], false, []⟩ (zz 7 (xdF hc1) <|
zz 11 (xdF hc2) <|
zz 16 (xdF hc3) <|
zz 23 (xdF hc4) <|
zz 30 (xdF hc5) <|
zz 36 (xeT hc6) <|
zz 56 (xdF hc7) <|
zz 62 (xdT hc8) ee) (by kernel_rfl)
        ·rw [if_neg hc8] at h
         by_cases hc9 : a1 = (4 : Int)
         ·rw [if_pos hc9] at h
          by_cases hc10 : a2 = a4
          ·rw [if_pos hc10] at h
           obtain ⟨c11_, hc11, h⟩ := Option.bind_eq_some_iff.1 h
           by_cases hc12 : c11_ = true
           ·rw [if_pos hc12] at h
            by_cases hc13 : (a6.l.length : Int) = (0 : Int)
            ·rw [if_pos hc13] at h
             obtain rfl := oI h; exact runF2 hm (L := lT []) ⟨[2], [], 0, 0, [], false, []⟩ (zz 7 (xdF hc1) <|
zz 11 (xdF hc2) <|
zz 16 (xdF hc3) <|
zz 23 (xdF hc4) <|
zz 30 (xdF hc5) <|
zz 36 (xeT hc6) <|
zz 56 (xdF hc7) <|
zz 62 (xdF hc8) <|
zz 80 (xnF hc9) <|
zz 86 (xeT hc10) <|
yy 91 (.call (C_Rleafq1 a1 c11_ [] [])) <|
ww (m_Rleafq1_ok n a1 c11_ hc11) <|
yy 92 (vf) <|
ww (p := (Value.bool (!c11_)) = (Value.bool false)) (vBn hc12) <|
zz 97 (xeT hc13) ee) (by kernel_rfl)
            ·rw [if_neg hc13] at h
             obtain rfl := oI h; exact runF2 hm (L := lT []) ⟨[2], [], 0, 0, [], false, []⟩ (zz 7 (xdF hc1) <|
zz 11 (xdF hc2) <|
zz 16 (xdF hc3) <|
zz 23 (xdF hc4) <|
zz 30 (xdF hc5) <|
zz 36 (xeT hc6) <|
zz 56 (xdF hc7) <|
zz 62 (xdF hc8) <|
zz 80 (xnF hc9) <|
zz 86 (xeT hc10) <|
yy 91 (.call (C_Rleafq1 a1 c11_ [] [])) <|
ww (m_Rleafq1_ok n a1 c11_ hc11) <|
yy 92 (vf) <|
ww (p := (Value.bool (!c11_)) = (Value.bool false)) (vBn hc12) <|
zz 97 (xeF hc13) ee) (by kernel_rfl)
           ·rw [if_neg hc12] at h
            obtain rfl := oI h; exact runF2 hm (L := lT []) ⟨[2], [], 0, 0, [], false, []⟩ (zz 7 (xdF hc1) <|
zz 11 (xdF hc2) <|
zz 16 (xdF hc3) <|
zz 23 (xdF hc4) <|
zz 30 (xdF hc5) <|
zz 36 (xeT hc6) <|
zz 56 (xdF hc7) <|
zz 62 (xdF hc8) <|
zz 80 (xnF hc9) <|
zz 86 (xeT hc10) <|
yy 91 (.call (C_Rleafq1 a1 c11_ [] [])) <|
ww (m_Rleafq1_ok n a1 c11_ hc11) <|
yy 92 (vt) <|
ww (p := (Value.bool (!c11_)) = (Value.bool true)) (vBn (Bool.eq_false_iff.2 hc12)) ee) (by kernel_rfl)
          ·rw [if_neg hc10] at h
           obtain rfl := oI h; exact runF2 hm (L := lT []) ⟨[2], [], 0, 0, [], false, []⟩ (zz 7 (xdF hc1) <|
zz 11 (xdF hc2) <|
zz 16 (xdF hc3) <|
zz 23 (xdF hc4) <|
zz 30 (xdF hc5) <|
zz 36 (xeT hc6) <|
zz 56 (xdF hc7) <|
zz 62 (xdF hc8) <|
zz 80 (xnF hc9) <|
zz 86 (xeF hc10) ee) (by kernel_rfl)
         ·rw [if_neg hc9] at h
          obtain ⟨c10_, hc10, h⟩ := Option.bind_eq_some_iff.1 h
          by_cases hc11 : c10_ = true
          ·rw [if_pos hc11] at h
           by_cases hc12 : (a6.l.length : Int) = (0 : Int)
           ·rw [if_pos hc12] at h
            obtain rfl := oI h; exact runF2 hm (L := lT []) ⟨[2], [], 0, 0, [], false, []⟩ (zz 7 (xdF hc1) <|
zz 11 (xdF hc2) <|
zz 16 (xdF hc3) <|
zz 23 (xdF hc4) <|
zz 30 (xdF hc5) <|
zz 36 (xeT hc6) <|
zz 56 (xdF hc7) <|
zz 62 (xdF hc8) <|
zz 80 (xnT hc9) <|
yy 91 (.call (C_Rleafq1 a1 c10_ [] [])) <|
ww (m_Rleafq1_ok n a1 c10_ hc10) <|
yy 92 (vf) <|
ww (p := (Value.bool (!c10_)) = (Value.bool false)) (vBn hc11) <|
zz 97 (xeT hc12) ee) (by kernel_rfl)
           ·rw [if_neg hc12] at h
            obtain rfl := oI h; exact runF2 hm (L := lT []) ⟨[2], [], 0, 0, [], false, []⟩ (zz 7 (xdF hc1) <|
zz 11 (xdF hc2) <|
zz 16 (xdF hc3) <|
zz 23 (xdF hc4) <|
zz 30 (xdF hc5) <|
zz 36 (xeT hc6) <|
zz 56 (xdF hc7) <|
zz 62 (xdF hc8) <|
zz 80 (xnT hc9) <|
yy 91 (.call (C_Rleafq1 a1 c10_ [] [])) <|
ww (m_Rleafq1_ok n a1 c10_ hc10) <|
yy 92 (vf) <|
ww (p := (Value.bool (!c10_)) = (Value.bool false)) (vBn hc11) <|
zz 97 (xeF hc12) ee) (by kernel_rfl)
          ·rw [if_neg hc11] at h
           obtain rfl := oI h; exact runF2 hm (L := lT []) ⟨[2], [], 0, 0, [], false, []⟩ (zz 7 (xdF hc1) <|
zz 11 (xdF hc2) <|
zz 16 (xdF hc3) <|
zz 23 (xdF hc4) <|
zz 30 (xdF hc5) <|
zz 36 (xeT hc6) <|
zz 56 (xdF hc7) <|
zz 62 (xdF hc8) <|
zz 80 (xnT hc9) <|
yy 91 (.call (C_Rleafq1 a1 c10_ [] [])) <|
ww (m_Rleafq1_ok n a1 c10_ hc10) <|
yy 92 (vt) <|
ww (p := (Value.bool (!c10_)) = (Value.bool true)) (vBn (Bool.eq_false_iff.2 hc11)) ee) (by kernel_rfl)
      ·rw [if_neg hc6] at h
       by_cases hc7 : a1 = (5 : Int)
       ·rw [if_pos hc7] at h
        by_cases hc8 : a3 < a2
        ·rw [if_pos hc8] at h
         obtain rfl := oI h; exact runF2 hm (L := lT []) ⟨[2], [], 0, 0, [], false, []⟩ (zz 7 (xdF hc1) <|
zz 11 (xdF hc2) <|
zz 16 (xdF hc3) <|
zz 23 (xdF hc4) <|
zz 30 (xdF hc5) <|
zz 36 (xeF hc6) <|
zz 40 (xeT hc7) <|
zz 56 (xdT hc8) ee) (by kernel_rfl)
        ·rw [if_neg hc8] at h
         by_cases hc9 : a3 > a4
         ·rw [if_pos hc9] at h
          obtain rfl := oI h; exact runF2 hm (L := lT []) ⟨[2], [], 0, 0, [], false, []⟩ (zz 7 (xdF hc1) <|
zz 11 (xdF hc2) <|
zz 16 (xdF hc3) <|
zz 23 (xdF hc4) <|
zz 30 (xdF hc5) <|
zz 36 (xeF hc6) <|
zz 40 (xeT hc7) <|
zz 56 (xdF hc8) <|
zz 62 (xdT hc9) ee) (by kernel_rfl)
         ·rw [if_neg hc9] at h
          by_cases hc10 : a1 = (4 : Int)
          ·rw [if_pos hc10] at h
           by_cases hc11 : a2 = a4
           ·rw [if_pos hc11] at h
            obtain ⟨c12_, hc12, h⟩ := Option.bind_eq_some_iff.1 h
            by_cases hc13 : c12_ = true
            ·rw [if_pos hc13] at h
             by_cases hc14 : (a6.l.length : Int) = (0 : Int)
             ·rw [if_pos hc14] at h
              obtain rfl := oI h; exact runF2 hm (L := lT []) ⟨[2], [], 0, 0, [], false, []⟩ (zz 7 (xdF hc1) <|
zz 11 (xdF hc2) <|
zz 16 (xdF hc3) <|
zz 23 (xdF hc4) <|
zz 30 (xdF hc5) <|
zz 36 (xeF hc6) <|
zz 40 (xeT hc7) <|
zz 56 (xdF hc8) <|
zz 62 (xdF hc9) <|
zz 80 (xnF hc10) <|
zz 86 (xeT hc11) <|
yy 91 (.call (C_Rleafq1 a1 c12_ [] [])) <|
ww (m_Rleafq1_ok n a1 c12_ hc12) <|
yy 92 (vf) <|
ww (p := (Value.bool (!c12_)) = (Value.bool false)) (vBn hc13) <|
zz 97 (xeT hc14) ee) (by kernel_rfl)
             ·rw [if_neg hc14] at h
              obtain rfl := oI h; exact runF2 hm (L := lT []) ⟨[2], [], 0, 0, [], false, []⟩ (zz 7 (xdF hc1) <|
zz 11 (xdF hc2) <|
zz 16 (xdF hc3) <|
zz 23 (xdF hc4) <|
zz 30 (xdF hc5) <|
zz 36 (xeF hc6) <|
zz 40 (xeT hc7) <|
zz 56 (xdF hc8) <|
zz 62 (xdF hc9) <|
zz 80 (xnF hc10) <|
zz 86 (xeT hc11) <|
yy 91 (.call (C_Rleafq1 a1 c12_ [] [])) <|
ww (m_Rleafq1_ok n a1 c12_ hc12) <|
yy 92 (vf) <|
ww (p := (Value.bool (!c12_)) = (Value.bool false)) (vBn hc13) <|
zz 97 (xeF hc14) ee) (by kernel_rfl)
            ·rw [if_neg hc13] at h
             obtain rfl := oI h; exact runF2 hm (L := lT []) ⟨[2], [], 0, 0, [], false, []⟩ (zz 7 (xdF hc1) <|
zz 11 (xdF hc2) <|
zz 16 (xdF hc3) <|
zz 23 (xdF hc4) <|
zz 30 (xdF hc5) <|
zz 36 (xeF hc6) <|
zz 40 (xeT hc7) <|
zz 56 (xdF hc8) <|
zz 62 (xdF hc9) <|
zz 80 (xnF hc10) <|
zz 86 (xeT hc11) <|
yy 91 (.call (C_Rleafq1 a1 c12_ [] [])) <|
ww (m_Rleafq1_ok n a1 c12_ hc12) <|
yy 92 (vt) <|
ww (p := (Value.bool (!c12_)) = (Value.bool true)) (vBn (Bool.eq_false_iff.2 hc13)) ee) (by kernel_rfl)
           ·rw [if_neg hc11] at h
            obtain rfl := oI h; exact runF2 hm (L := lT []) ⟨[2], [], 0, 0, [], false, []⟩ (zz 7 (xdF hc1) <|
zz 11 (xdF hc2) <|
zz 16 (xdF hc3) <|
zz 23 (xdF hc4) <|
zz 30 (xdF hc5) <|
zz 36 (xeF hc6) <|
zz 40 (xeT hc7) <|
zz 56 (xdF hc8) <|
zz 62 (xdF hc9) <|
zz 80 (xnF hc10) <|
zz 86 (xeF hc11) ee) (by kernel_rfl)
          ·rw [if_neg hc10] at h
           obtain ⟨c11_, hc11, h⟩ := Option.bind_eq_some_iff.1 h
           by_cases hc12 : c11_ = true
           ·rw [if_pos hc12] at h
            by_cases hc13 : (a6.l.length : Int) = (0 : Int)
            ·rw [if_pos hc13] at h
             obtain rfl := oI h; exact runF2 hm (L := lT []) ⟨[2], [], 0, 0, [], false, []⟩ (zz 7 (xdF hc1) <|
zz 11 (xdF hc2) <|
zz 16 (xdF hc3) <|
zz 23 (xdF hc4) <|
zz 30 (xdF hc5) <|
zz 36 (xeF hc6) <|
zz 40 (xeT hc7) <|
zz 56 (xdF hc8) <|
zz 62 (xdF hc9) <|
zz 80 (xnT hc10) <|
yy 91 (.call (C_Rleafq1 a1 c11_ [] [])) <|
ww (m_Rleafq1_ok n a1 c11_ hc11) <|
yy 92 (vf) <|
ww (p := (Value.bool (!c11_)) = (Value.bool false)) (vBn hc12) <|
zz 97 (xeT hc13) ee) (by kernel_rfl)
            ·rw [if_neg hc13] at h
             obtain rfl := oI h; exact runF2 hm (L := lT []) ⟨[2], [], 0, 0, [], false, []⟩ (zz 7 (xdF hc1) <|
zz 11 (xdF hc2) <|
zz 16 (xdF hc3) <|
zz 23 (xdF hc4) <|
zz 30 (xdF hc5) <|
zz 36 (xeF hc6) <|
zz 40 (xeT hc7) <|
zz 56 (xdF hc8) <|
zz 62 (xdF hc9) <|
zz 80 (xnT hc10) <|
yy 91 (.call (C_Rleafq1 a1 c11_ [] [])) <|
ww (m_Rleafq1_ok n a1 c11_ hc11) <|
yy 92 (vf) <|
ww (p := (Value.bool (!c11_)) = (Value.bool false)) (vBn hc12) <|
zz 97 (xeF hc13) ee) (by kernel_rfl)
           ·rw [if_neg hc12] at h
            obtain rfl := oI h; exact runF2 hm (L := lT []) ⟨[2], [], 0, 0, [], false, []⟩ (zz 7 (xdF hc1) <|
zz 11 (xdF hc2) <|
zz 16 (xdF hc3) <|
zz 23 (xdF hc4) <|
zz 30 (xdF hc5) <|
zz 36 (xeF hc6) <|
zz 40 (xeT hc7) <|
zz 56 (xdF hc8) <|
zz 62 (xdF hc9) <|
zz 80 (xnT hc10) <|
yy 91 (.call (C_Rleafq1 a1 c11_ [] [])) <|
ww (m_Rleafq1_ok n a1 c11_ hc11) <|
yy 92 (vt) <|
ww (p := (Value.bool (!c11_)) = (Value.bool true)) (vBn (Bool.eq_false_iff.2 hc12)) ee) (by kernel_rfl)
       ·rw [if_neg hc7] at h
        by_cases hc8 : a1 = (6 : Int)
        ·rw [if_pos hc8] at h
         by_cases hc9 : a3 < a2
         ·rw [if_pos hc9] at h
          obtain rfl := oI h; exact runF2 hm (L := lT []) ⟨[2], [], 0, 0, [], false, []⟩ (zz 7 (xdF hc1) <|
zz 11 (xdF hc2) <|
zz 16 (xdF hc3) <|
zz 23 (xdF hc4) <|
zz 30 (xdF hc5) <|
zz 36 (xeF hc6) <|
zz 40 (xeF hc7) <|
zz 45 (xeT hc8) <|
zz 56 (xdT hc9) ee) (by kernel_rfl)
         ·rw [if_neg hc9] at h
          by_cases hc10 : a3 > a4
          ·rw [if_pos hc10] at h
           obtain rfl := oI h; exact runF2 hm (L := lT []) ⟨[2], [], 0, 0, [], false, []⟩ (zz 7 (xdF hc1) <|
zz 11 (xdF hc2) <|
zz 16 (xdF hc3) <|
zz 23 (xdF hc4) <|
zz 30 (xdF hc5) <|
zz 36 (xeF hc6) <|
zz 40 (xeF hc7) <|
zz 45 (xeT hc8) <|
zz 56 (xdF hc9) <|
zz 62 (xdT hc10) ee) (by kernel_rfl)
          ·rw [if_neg hc10] at h
           by_cases hc11 : a1 = (4 : Int)
           ·rw [if_pos hc11] at h
            by_cases hc12 : a2 = a4
            ·rw [if_pos hc12] at h
             obtain ⟨c13_, hc13, h⟩ := Option.bind_eq_some_iff.1 h
             by_cases hc14 : c13_ = true
             ·rw [if_pos hc14] at h
              by_cases hc15 : (a6.l.length : Int) = (0 : Int)
              ·rw [if_pos hc15] at h
               obtain rfl := oI h; exact runF2 hm (L := lT []) ⟨[2], [], 0, 0, [], false, []⟩ (zz 7 (xdF hc1) <|
zz 11 (xdF hc2) <|
zz 16 (xdF hc3) <|
zz 23 (xdF hc4) <|
zz 30 (xdF hc5) <|
zz 36 (xeF hc6) <|
zz 40 (xeF hc7) <|
zz 45 (xeT hc8) <|
zz 56 (xdF hc9) <|
zz 62 (xdF hc10) <|
zz 80 (xnF hc11) <|
zz 86 (xeT hc12) <|
yy 91 (.call (C_Rleafq1 a1 c13_ [] [])) <|
ww (m_Rleafq1_ok n a1 c13_ hc13) <|
yy 92 (vf) <|
ww (p := (Value.bool (!c13_)) = (Value.bool false)) (vBn hc14) <|
zz 97 (xeT hc15) ee) (by kernel_rfl)
              ·rw [if_neg hc15] at h
               obtain rfl := oI h; exact runF2 hm (L := lT []) ⟨[2], [], 0, 0, [], false, []⟩ (zz 7 (xdF hc1) <|
zz 11 (xdF hc2) <|
zz 16 (xdF hc3) <|
zz 23 (xdF hc4) <|
zz 30 (xdF hc5) <|
zz 36 (xeF hc6) <|
zz 40 (xeF hc7) <|
zz 45 (xeT hc8) <|
zz 56 (xdF hc9) <|
zz 62 (xdF hc10) <|
zz 80 (xnF hc11) <|
zz 86 (xeT hc12) <|
yy 91 (.call (C_Rleafq1 a1 c13_ [] [])) <|
ww (m_Rleafq1_ok n a1 c13_ hc13) <|
yy 92 (vf) <|
ww (p := (Value.bool (!c13_)) = (Value.bool false)) (vBn hc14) <|
zz 97 (xeF hc15) ee) (by kernel_rfl)
             ·rw [if_neg hc14] at h
              obtain rfl := oI h; exact runF2 hm (L := lT []) ⟨[2], [], 0, 0, [], false, []⟩ (zz 7 (xdF hc1) <|
zz 11 (xdF hc2) <|
zz 16 (xdF hc3) <|
zz 23 (xdF hc4) <|
zz 30 (xdF hc5) <|
zz 36 (xeF hc6) <|
zz 40 (xeF hc7) <|
zz 45 (xeT hc8) <|
zz 56 (xdF hc9) <|
zz 62 (xdF hc10) <|
zz 80 (xnF hc11) <|
zz 86 (xeT hc12) <|
yy 91 (.call (C_Rleafq1 a1 c13_ [] [])) <|
ww (m_Rleafq1_ok n a1 c13_ hc13) <|
yy 92 (vt) <|
ww (p := (Value.bool (!c13_)) = (Value.bool true)) (vBn (Bool.eq_false_iff.2 hc14)) ee) (by kernel_rfl)
            ·rw [if_neg hc12] at h
             obtain rfl := oI h; exact runF2 hm (L := lT []) ⟨[2], [], 0, 0, [], false, []⟩ (zz 7 (xdF hc1) <|
zz 11 (xdF hc2) <|
zz 16 (xdF hc3) <|
zz 23 (xdF hc4) <|
zz 30 (xdF hc5) <|
zz 36 (xeF hc6) <|
zz 40 (xeF hc7) <|
zz 45 (xeT hc8) <|
zz 56 (xdF hc9) <|
zz 62 (xdF hc10) <|
zz 80 (xnF hc11) <|
zz 86 (xeF hc12) ee) (by kernel_rfl)
           ·rw [if_neg hc11] at h
            obtain ⟨c12_, hc12, h⟩ := Option.bind_eq_some_iff.1 h
            by_cases hc13 : c12_ = true
            ·rw [if_pos hc13] at h
             by_cases hc14 : (a6.l.length : Int) = (0 : Int)
             ·rw [if_pos hc14] at h
              obtain rfl := oI h; exact runF2 hm (L := lT []) ⟨[2], [], 0, 0, [], false, []⟩ (zz 7 (xdF hc1) <|
zz 11 (xdF hc2) <|
zz 16 (xdF hc3) <|
zz 23 (xdF hc4) <|
zz 30 (xdF hc5) <|
zz 36 (xeF hc6) <|
zz 40 (xeF hc7) <|
zz 45 (xeT hc8) <|
zz 56 (xdF hc9) <|
zz 62 (xdF hc10) <|
zz 80 (xnT hc11) <|
yy 91 (.call (C_Rleafq1 a1 c12_ [] [])) <|
ww (m_Rleafq1_ok n a1 c12_ hc12) <|
yy 92 (vf) <|
ww (p := (Value.bool (!c12_)) = (Value.bool false)) (vBn hc13) <|
zz 97 (xeT hc14) ee) (by kernel_rfl)
             ·rw [if_neg hc14] at h
              obtain rfl := oI h; exact runF2 hm (L := lT []) ⟨[2], [], 0, 0, [], false, []⟩ (zz 7 (xdF hc1) <|
zz 11 (xdF hc2) <|
zz 16 (xdF hc3) <|
zz 23 (xdF hc4) <|
zz 30 (xdF hc5) <|
zz 36 (xeF hc6) <|
zz 40 (xeF hc7) <|
zz 45 (xeT hc8) <|
zz 56 (xdF hc9) <|
zz 62 (xdF hc10) <|
zz 80 (xnT hc11) <|
yy 91 (.call (C_Rleafq1 a1 c12_ [] [])) <|
ww (m_Rleafq1_ok n a1 c12_ hc12) <|
yy 92 (vf) <|
ww (p := (Value.bool (!c12_)) = (Value.bool false)) (vBn hc13) <|
zz 97 (xeF hc14) ee) (by kernel_rfl)
            ·rw [if_neg hc13] at h
             obtain rfl := oI h; exact runF2 hm (L := lT []) ⟨[2], [], 0, 0, [], false, []⟩ (zz 7 (xdF hc1) <|
zz 11 (xdF hc2) <|
zz 16 (xdF hc3) <|
zz 23 (xdF hc4) <|
zz 30 (xdF hc5) <|
zz 36 (xeF hc6) <|
zz 40 (xeF hc7) <|
zz 45 (xeT hc8) <|
zz 56 (xdF hc9) <|
zz 62 (xdF hc10) <|
zz 80 (xnT hc11) <|
yy 91 (.call (C_Rleafq1 a1 c12_ [] [])) <|
ww (m_Rleafq1_ok n a1 c12_ hc12) <|
yy 92 (vt) <|
ww (p := (Value.bool (!c12_)) = (Value.bool true)) (vBn (Bool.eq_false_iff.2 hc13)) ee) (by kernel_rfl)
        ·rw [if_neg hc8] at h
         by_cases hc9 : a3 = a2
         ·rw [if_pos hc9] at h
          by_cases hc10 : a1 = (4 : Int)
          ·rw [if_pos hc10] at h
           by_cases hc11 : a2 = a4
           ·rw [if_pos hc11] at h
            obtain ⟨c12_, hc12, h⟩ := Option.bind_eq_some_iff.1 h
            by_cases hc13 : c12_ = true
            ·rw [if_pos hc13] at h
             by_cases hc14 : (a6.l.length : Int) = (0 : Int)
             ·rw [if_pos hc14] at h
              obtain rfl := oI h; exact runF2 hm (L := lT []) ⟨[2], [], 0, 0, [], false, []⟩ (zz 7 (xdF hc1) <|
zz 11 (xdF hc2) <|
zz 16 (xdF hc3) <|
zz 23 (xdF hc4) <|
zz 30 (xdF hc5) <|
zz 36 (xeF hc6) <|
zz 40 (xeF hc7) <|
zz 45 (xeF hc8) <|
zz 73 (xnF hc9) <|
zz 80 (xnF hc10) <|
zz 86 (xeT hc11) <|
yy 91 (.call (C_Rleafq1 a1 c12_ [] [])) <|
ww (m_Rleafq1_ok n a1 c12_ hc12) <|
yy 92 (vf) <|
ww (p := (Value.bool (!c12_)) = (Value.bool false)) (vBn hc13) <|
zz 97 (xeT hc14) ee) (by kernel_rfl)
             ·rw [if_neg hc14] at h
              obtain rfl := oI h; exact runF2 hm (L := lT []) ⟨[2], [], 0, 0, [], false, []⟩ (zz 7 (xdF hc1) <|
zz 11 (xdF hc2) <|
zz 16 (xdF hc3) <|
zz 23 (xdF hc4) <|
zz 30 (xdF hc5) <|
zz 36 (xeF hc6) <|
zz 40 (xeF hc7) <|
zz 45 (xeF hc8) <|
zz 73 (xnF hc9) <|
zz 80 (xnF hc10) <|
zz 86 (xeT hc11) <|
yy 91 (.call (C_Rleafq1 a1 c12_ [] [])) <|
ww (m_Rleafq1_ok n a1 c12_ hc12) <|
yy 92 (vf) <|
ww (p := (Value.bool (!c12_)) = (Value.bool false)) (vBn hc13) <|
zz 97 (xeF hc14) ee) (by kernel_rfl)
            ·rw [if_neg hc13] at h
             obtain rfl := oI h; exact runF2 hm (L := lT []) ⟨[2], [], 0, 0, [], false, []⟩ (zz 7 (xdF hc1) <|
zz 11 (xdF hc2) <|
zz 16 (xdF hc3) <|
zz 23 (xdF hc4) <|
zz 30 (xdF hc5) <|
zz 36 (xeF hc6) <|
zz 40 (xeF hc7) <|
zz 45 (xeF hc8) <|
zz 73 (xnF hc9) <|
zz 80 (xnF hc10) <|
zz 86 (xeT hc11) <|
yy 91 (.call (C_Rleafq1 a1 c12_ [] [])) <|
ww (m_Rleafq1_ok n a1 c12_ hc12) <|
yy 92 (vt) <|
ww (p := (Value.bool (!c12_)) = (Value.bool true)) (vBn (Bool.eq_false_iff.2 hc13)) ee) (by kernel_rfl)
           ·rw [if_neg hc11] at h
            obtain rfl := oI h; exact runF2 hm (L := lT []) ⟨[2], [], 0, 0, [], false, []⟩ (zz 7 (xdF hc1) <|
zz 11 (xdF hc2) <|
zz 16 (xdF hc3) <|
zz 23 (xdF hc4) <|
zz 30 (xdF hc5) <|
zz 36 (xeF hc6) <|
zz 40 (xeF hc7) <|
zz 45 (xeF hc8) <|
zz 73 (xnF hc9) <|
zz 80 (xnF hc10) <|
zz 86 (xeF hc11) ee) (by kernel_rfl)
          ·rw [if_neg hc10] at h
           obtain ⟨c11_, hc11, h⟩ := Option.bind_eq_some_iff.1 h
           by_cases hc12 : c11_ = true
           ·rw [if_pos hc12] at h
            by_cases hc13 : (a6.l.length : Int) = (0 : Int)
            ·rw [if_pos hc13] at h
             obtain rfl := oI h; exact runF2 hm (L := lT []) ⟨[2], [], 0, 0, [], false, []⟩ (zz 7 (xdF hc1) <|
zz 11 (xdF hc2) <|
zz 16 (xdF hc3) <|
zz 23 (xdF hc4) <|
zz 30 (xdF hc5) <|
zz 36 (xeF hc6) <|
zz 40 (xeF hc7) <|
zz 45 (xeF hc8) <|
zz 73 (xnF hc9) <|
zz 80 (xnT hc10) <|
yy 91 (.call (C_Rleafq1 a1 c11_ [] [])) <|
ww (m_Rleafq1_ok n a1 c11_ hc11) <|
yy 92 (vf) <|
ww (p := (Value.bool (!c11_)) = (Value.bool false)) (vBn hc12) <|
zz 97 (xeT hc13) ee) (by kernel_rfl)
            ·rw [if_neg hc13] at h
             obtain rfl := oI h; exact runF2 hm (L := lT []) ⟨[2], [], 0, 0, [], false, []⟩ (zz 7 (xdF hc1) <|
zz 11 (xdF hc2) <|
zz 16 (xdF hc3) <|
zz 23 (xdF hc4) <|
zz 30 (xdF hc5) <|
zz 36 (xeF hc6) <|
zz 40 (xeF hc7) <|
zz 45 (xeF hc8) <|
zz 73 (xnF hc9) <|
zz 80 (xnT hc10) <|
yy 91 (.call (C_Rleafq1 a1 c11_ [] [])) <|
ww (m_Rleafq1_ok n a1 c11_ hc11) <|
yy 92 (vf) <|
ww (p := (Value.bool (!c11_)) = (Value.bool false)) (vBn hc12) <|
zz 97 (xeF hc13) ee) (by kernel_rfl)
           ·rw [if_neg hc12] at h
            obtain rfl := oI h; exact runF2 hm (L := lT []) ⟨[2], [], 0, 0, [], false, []⟩ (zz 7 (xdF hc1) <|
zz 11 (xdF hc2) <|
zz 16 (xdF hc3) <|
zz 23 (xdF hc4) <|
zz 30 (xdF hc5) <|
zz 36 (xeF hc6) <|
zz 40 (xeF hc7) <|
zz 45 (xeF hc8) <|
zz 73 (xnF hc9) <|
zz 80 (xnT hc10) <|
yy 91 (.call (C_Rleafq1 a1 c11_ [] [])) <|
ww (m_Rleafq1_ok n a1 c11_ hc11) <|
yy 92 (vt) <|
ww (p := (Value.bool (!c11_)) = (Value.bool true)) (vBn (Bool.eq_false_iff.2 hc12)) ee) (by kernel_rfl)
         ·rw [if_neg hc9] at h
          obtain rfl := oI h; exact runF2 hm (L := lT []) ⟨[2], [], 0, 0, [], false, []⟩ (zz 7 (xdF hc1) <|
zz 11 (xdF hc2) <|
zz 16 (xdF hc3) <|
zz 23 (xdF hc4) <|
zz 30 (xdF hc5) <|
zz 36 (xeF hc6) <|
zz 40 (xeF hc7) <|
zz 45 (xeF hc8) <|
zz 73 (xnT hc9) ee) (by kernel_rfl)

def A_Rendq1 (a0 : Int) : List Value := [(sW 0 0 (Args.A).length Args.cA), (i6 a0)]
def H_Rendq1 (a0 : Int) : AH := ⟨sB [], 0, 0⟩
def V_Rendq1 (a0 : Int) (r : Int) : Value := match r with
 | o0 => (i6 o0)
def R_Rendq1 (a0 : Int) (r : Int) : AH := match r with
 | o0 => ⟨sB [], 0, 0⟩
abbrev G_Rendq1 (a0 : Int) (r : Int) : Prop := Gv P (.func 14) (A_Rendq1 a0) (H_Rendq1 a0) (V_Rendq1 a0 r) (R_Rendq1 a0 r)
abbrev C_Rendq1 (a0 : Int) (r : Int) (ins outs : BL) : CallA := ⟨0, ins, V_Rendq1 a0 r, R_Rendq1 a0 r, outs⟩
def S_Rendq1_1 (x1_0 : Int) (st : Int × Int × Int) : XSt := match st with
 | (x1_1, x1_2, x1_3) => (sT 68 [(0, (sW 0 0 (Args.A).length Args.cA)), (1, (i6 x1_0)), (5, (i6 x1_1)), (6, (i6 x1_2)), (7, (i6 x1_3))], [], ⟨sB [], 0, 0⟩)
def X_Rendq1_1 (x1_0 : Int) (r : (Unit) ⊕ (Int × Int)) : Ex × XSt := match r with
 | .inl _ => (.ret, (sT 68 [(4, (i6 (-1 : Int)))], [], ⟨sB [], 0, 0⟩))
 | .inr (z1_0, z1_1) => (.exit 0, (sT 68 [(0, (sW 0 0 (Args.A).length Args.cA)), (1, (i6 x1_0)), (5, (i6 z1_0)), (6, (i6 z1_1))], [], ⟨sB [], 0, 0⟩))
abbrev Q_Rendq1_1 (rnd : Option Nat) (x1_0 : Int) (st : Int × Int × Int) (c : Ex × XSt) : Prop := CG P rnd (fnN P 14) 0 (codeOf P 14 [false, false, true, false, true, true]) (S_Rendq1_1 x1_0 st) c
abbrev U_Rendq1_1 (rd : Option Nat) (x1_0 : Int) (st : Int × Int × Int) (r : (Unit) ⊕ (Int × Int)) : Prop := CG P rd (fnN P 14) 0 (codeOf P 14 [false, true, false, true, true]) (S_Rendq1_1 x1_0 st) (X_Rendq1_1 x1_0 r)
def B_Rendq1_1 (rec_Rendq1 : (Int) → Option (Int)) (n : Nat) (x1_0 : Int) (st : Int × Int × Int) : Option ((Int × Int × Int) ⊕ ((Unit) ⊕ (Int × Int))) := match st with
 | (x1_1, x1_2, x1_3) =>
  if 0 ≤ x1_0 ∧ x1_0 < (Args.A.length : Int) then
   ((some ((Args.A).getD (x1_0).toNat (0, 0, 0, 0, 0, 0, nl0, 0)))).bind fun y1_2_ =>
   if x1_3 < (y1_2_.2.2.2.2.2.2.1.l.length : Int) then
    if 0 ≤ x1_3 ∧ x1_3 < (y1_2_.2.2.2.2.2.2.1.l.length : Int) then
     if (x1_3).toNat < (((y1_2_.2.2.2.2.2.2.1)).l).length then
      ((some ((((y1_2_.2.2.2.2.2.2.1)).l).getD (x1_3).toNat 0))).bind fun y1_6_ =>
      if y1_6_ = x1_1 then
       if x1_1 ≥ (Args.A.length : Int) then
        some (.inr (.inl ()))
       else
        if 0 ≤ x1_1 ∧ x1_1 < (Args.A.length : Int) then
         ((some ((Args.A).getD (x1_1).toNat (0, 0, 0, 0, 0, 0, nl0, 0)))).bind fun y1_10_ =>
         if (y1_10_.2.2.1) < x1_2 then
          some (.inr (.inl ()))
         else
          (rec_Rendq1 x1_1).bind fun y1_12_ =>
          if y1_12_ < (0 : Int) then
           some (.inr (.inl ()))
          else
           some (.inl (y1_12_, (y1_10_.2.2.2.2.1), (w64 (x1_3 + (1 : Int)))))
        else none
      else
       some (.inr (.inl ()))
     else none
    else none
   else
    some (.inr (.inr (x1_1, x1_2)))
  else none
def m_Rendq1_1 (rec_Rendq1 : (Int) → Option (Int)) (n : Nat) (x1_0 : Int) (st : Int × Int × Int) : Option ((Unit) ⊕ (Int × Int)) := iterM (B_Rendq1_1 rec_Rendq1 n x1_0) n st
theorem q_Rendq1_1_0 (rec_Rendq1 : (Int) → Option (Int)) (hrec_Rendq1 : ∀ (a0 : Int) (r : Int), rec_Rendq1 a0 = some r → Gv P (.func 14) (A_Rendq1 a0) (H_Rendq1 a0) (V_Rendq1 a0 r) (R_Rendq1 a0 r)) (n : Nat) {rnd : Option Nat} (x1_0 x1_1 x1_2 x1_3 : Int) (hy1_1 : 0 ≤ x1_0 ∧ x1_0 < (Args.A.length : Int)) (y1_2_ : R8) (hy1_2 : (some ((Args.A).getD (x1_0).toNat (0, 0, 0, 0, 0, 0, nl0, 0))) = some y1_2_) (hy1_3 : x1_3 < (y1_2_.2.2.2.2.2.2.1.l.length : Int)) (hy1_4 : 0 ≤ x1_3 ∧ x1_3 < (y1_2_.2.2.2.2.2.2.1.l.length : Int)) (hy1_5 : (x1_3).toNat < (((y1_2_.2.2.2.2.2.2.1)).l).length) (y1_6_ : Int) (hy1_6 : (some ((((y1_2_.2.2.2.2.2.2.1)).l).getD (x1_3).toNat 0)) = some y1_6_) (hy1_7 : y1_6_ = x1_1) (hy1_8 : x1_1 ≥ (Args.A.length : Int)) : Q_Rendq1_1 rnd x1_0 (x1_1, x1_2, x1_3) (X_Rendq1_1 x1_0 (.inl ())) :=
 runC2 hm (L := lT []) ⟨[4], [], 0, 0, [], false, []⟩ (zz 5 (xk1 0 Args.cA hy1_1) <|
zz 6 (fk7 ((x1_0).toNat * 8)) <|
zz 7 (lk8 hy1_2 (toNatLt hy1_1)) <|
zz 9 (xdT hy1_3) <|
zz 17 (xk1 0 Args.cA hy1_1) <|
zz 18 (fk7 ((x1_0).toNat * 8)) <|
zz 19 (lk8 hy1_2 (toNatLt hy1_1)) <|
zz 21 (xk9 (Nat.add ((y1_2_.2.2.2.2.2.2.1)).num 64) ((y1_2_.2.2.2.2.2.2.1)).cap hy1_4) <|
zz 22 (nk10 hy1_6 hy1_5) <|
zz 24 (xnF hy1_7) <|
zz 29 (xdT hy1_8) <|
ee) (by kernel_rfl)
theorem q_Rendq1_1_1 (rec_Rendq1 : (Int) → Option (Int)) (hrec_Rendq1 : ∀ (a0 : Int) (r : Int), rec_Rendq1 a0 = some r → Gv P (.func 14) (A_Rendq1 a0) (H_Rendq1 a0) (V_Rendq1 a0 r) (R_Rendq1 a0 r)) (n : Nat) {rnd : Option Nat} (x1_0 x1_1 x1_2 x1_3 : Int) (hy1_1 : 0 ≤ x1_0 ∧ x1_0 < (Args.A.length : Int)) (y1_2_ : R8) (hy1_2 : (some ((Args.A).getD (x1_0).toNat (0, 0, 0, 0, 0, 0, nl0, 0))) = some y1_2_) (hy1_3 : x1_3 < (y1_2_.2.2.2.2.2.2.1.l.length : Int)) (hy1_4 : 0 ≤ x1_3 ∧ x1_3 < (y1_2_.2.2.2.2.2.2.1.l.length : Int)) (hy1_5 : (x1_3).toNat < (((y1_2_.2.2.2.2.2.2.1)).l).length) (y1_6_ : Int) (hy1_6 : (some ((((y1_2_.2.2.2.2.2.2.1)).l).getD (x1_3).toNat 0)) = some y1_6_) (hy1_7 : y1_6_ = x1_1) (hy1_8 : ¬ (x1_1 ≥ (Args.A.length : Int))) (hy1_9 : 0 ≤ x1_1 ∧ x1_1 < (Args.A.length : Int)) (y1_10_ : R8) (hy1_10 : (some ((Args.A).getD (x1_1).toNat (0, 0, 0, 0, 0, 0, nl0, 0))) = some y1_10_) (hy1_11 : (y1_10_.2.2.1) < x1_2) : Q_Rendq1_1 rnd x1_0 (x1_1, x1_2, x1_3) (X_Rendq1_1 x1_0 (.inl ())) :=
 runC2 hm (L := lT []) ⟨[4], [], 0, 0, [], false, []⟩ (zz 5 (xk1 0 Args.cA hy1_1) <|
zz 6 (fk7 ((x1_0).toNat * 8)) <|
zz 7 (lk8 hy1_2 (toNatLt hy1_1)) <|
zz 9 (xdT hy1_3) <|
zz 17 (xk1 0 Args.cA hy1_1) <|
zz 18 (fk7 ((x1_0).toNat * 8)) <|
zz 19 (lk8 hy1_2 (toNatLt hy1_1)) <|
zz 21 (xk9 (Nat.add ((y1_2_.2.2.2.2.2.2.1)).num 64) ((y1_2_.2.2.2.2.2.2.1)).cap hy1_4) <|
zz 22 (nk10 hy1_6 hy1_5) <|
zz 24 (xnF hy1_7) <|
zz 29 (xdF hy1_8) <|
zz 34 (xk1 0 Args.cA hy1_9) <|
zz 35 (fk5 ((x1_1).toNat * 8)) <|
zz 36 (lk6 hy1_10 (toNatLt hy1_9)) <|
zz 38 (xdT hy1_11) <|
ee) (by kernel_rfl)
theorem q_Rendq1_1_2 (rec_Rendq1 : (Int) → Option (Int)) (hrec_Rendq1 : ∀ (a0 : Int) (r : Int), rec_Rendq1 a0 = some r → Gv P (.func 14) (A_Rendq1 a0) (H_Rendq1 a0) (V_Rendq1 a0 r) (R_Rendq1 a0 r)) (n : Nat) {rnd : Option Nat} (x1_0 x1_1 x1_2 x1_3 : Int) (hy1_1 : 0 ≤ x1_0 ∧ x1_0 < (Args.A.length : Int)) (y1_2_ : R8) (hy1_2 : (some ((Args.A).getD (x1_0).toNat (0, 0, 0, 0, 0, 0, nl0, 0))) = some y1_2_) (hy1_3 : x1_3 < (y1_2_.2.2.2.2.2.2.1.l.length : Int)) (hy1_4 : 0 ≤ x1_3 ∧ x1_3 < (y1_2_.2.2.2.2.2.2.1.l.length : Int)) (hy1_5 : (x1_3).toNat < (((y1_2_.2.2.2.2.2.2.1)).l).length) (y1_6_ : Int) (hy1_6 : (some ((((y1_2_.2.2.2.2.2.2.1)).l).getD (x1_3).toNat 0)) = some y1_6_) (hy1_7 : y1_6_ = x1_1) (hy1_8 : ¬ (x1_1 ≥ (Args.A.length : Int))) (hy1_9 : 0 ≤ x1_1 ∧ x1_1 < (Args.A.length : Int)) (y1_10_ : R8) (hy1_10 : (some ((Args.A).getD (x1_1).toNat (0, 0, 0, 0, 0, 0, nl0, 0))) = some y1_10_) (hy1_11 : ¬ ((y1_10_.2.2.1) < x1_2)) (y1_12_ : Int) (hy1_12 : rec_Rendq1 x1_1 = some y1_12_) (hy1_13 : y1_12_ < (0 : Int)) : Q_Rendq1_1 rnd x1_0 (x1_1, x1_2, x1_3) (X_Rendq1_1 x1_0 (.inl ())) :=
 runC2 hm (L := lT []) ⟨[4], [], 0, 0, [], false, []⟩ (zz 5 (xk1 0 Args.cA hy1_1) <|
zz 6 (fk7 ((x1_0).toNat * 8)) <|
zz 7 (lk8 hy1_2 (toNatLt hy1_1)) <|
zz 9 (xdT hy1_3) <|
zz 17 (xk1 0 Args.cA hy1_1) <|
zz 18 (fk7 ((x1_0).toNat * 8)) <|
zz 19 (lk8 hy1_2 (toNatLt hy1_1)) <|
zz 21 (xk9 (Nat.add ((y1_2_.2.2.2.2.2.2.1)).num 64) ((y1_2_.2.2.2.2.2.2.1)).cap hy1_4) <|
zz 22 (nk10 hy1_6 hy1_5) <|
zz 24 (xnF hy1_7) <|
zz 29 (xdF hy1_8) <|
zz 34 (xk1 0 Args.cA hy1_9) <|
zz 35 (fk5 ((x1_1).toNat * 8)) <|
zz 36 (lk6 hy1_10 (toNatLt hy1_9)) <|
zz 38 (xdF hy1_11) <|
zz 44 (xk1 0 Args.cA hy1_9) <|
zz 45 (fk11 ((x1_1).toNat * 8)) <|
zz 46 (lk12 hy1_10 (toNatLt hy1_9)) <|
yy 51 (.call (C_Rendq1 x1_1 y1_12_ [] [])) <|
ww (hrec_Rendq1 x1_1 y1_12_ hy1_12) <|
zz 55 (xdT hy1_13) <|
ee) (by kernel_rfl)
theorem q_Rendq1_1_3 (rec_Rendq1 : (Int) → Option (Int)) (hrec_Rendq1 : ∀ (a0 : Int) (r : Int), rec_Rendq1 a0 = some r → Gv P (.func 14) (A_Rendq1 a0) (H_Rendq1 a0) (V_Rendq1 a0 r) (R_Rendq1 a0 r)) (n : Nat) {rnd : Option Nat} (x1_0 x1_1 x1_2 x1_3 : Int) (hy1_1 : 0 ≤ x1_0 ∧ x1_0 < (Args.A.length : Int)) (y1_2_ : R8) (hy1_2 : (some ((Args.A).getD (x1_0).toNat (0, 0, 0, 0, 0, 0, nl0, 0))) = some y1_2_) (hy1_3 : x1_3 < (y1_2_.2.2.2.2.2.2.1.l.length : Int)) (hy1_4 : 0 ≤ x1_3 ∧ x1_3 < (y1_2_.2.2.2.2.2.2.1.l.length : Int)) (hy1_5 : (x1_3).toNat < (((y1_2_.2.2.2.2.2.2.1)).l).length) (y1_6_ : Int) (hy1_6 : (some ((((y1_2_.2.2.2.2.2.2.1)).l).getD (x1_3).toNat 0)) = some y1_6_) (hy1_7 : y1_6_ = x1_1) (hy1_8 : ¬ (x1_1 ≥ (Args.A.length : Int))) (hy1_9 : 0 ≤ x1_1 ∧ x1_1 < (Args.A.length : Int)) (y1_10_ : R8) (hy1_10 : (some ((Args.A).getD (x1_1).toNat (0, 0, 0, 0, 0, 0, nl0, 0))) = some y1_10_) (hy1_11 : ¬ ((y1_10_.2.2.1) < x1_2)) (y1_12_ : Int) (hy1_12 : rec_Rendq1 x1_1 = some y1_12_) (hy1_13 : ¬ (y1_12_ < (0 : Int))) : Q_Rendq1_1 rnd x1_0 (x1_1, x1_2, x1_3) (.normal, S_Rendq1_1 x1_0 (y1_12_, (y1_10_.2.2.2.2.1), (w64 (x1_3 + (1 : Int))))) :=
 runC2 hm (L := lT []) ⟨[0, 1, 5, 6, 7], [], 0, 0, [], false, []⟩ (zz 5 (xk1 0 Args.cA hy1_1) <|
zz 6 (fk7 ((x1_0).toNat * 8)) <|
zz 7 (lk8 hy1_2 (toNatLt hy1_1)) <|
zz 9 (xdT hy1_3) <|
zz 17 (xk1 0 Args.cA hy1_1) <|
zz 18 (fk7 ((x1_0).toNat * 8)) <|
zz 19 (lk8 hy1_2 (toNatLt hy1_1)) <|
zz 21 (xk9 (Nat.add ((y1_2_.2.2.2.2.2.2.1)).num 64) ((y1_2_.2.2.2.2.2.2.1)).cap hy1_4) <|
zz 22 (nk10 hy1_6 hy1_5) <|
zz 24 (xnF hy1_7) <|
zz 29 (xdF hy1_8) <|
zz 34 (xk1 0 Args.cA hy1_9) <|
zz 35 (fk5 ((x1_1).toNat * 8)) <|
zz 36 (lk6 hy1_10 (toNatLt hy1_9)) <|
zz 38 (xdF hy1_11) <|
zz 44 (xk1 0 Args.cA hy1_9) <|
zz 45 (fk11 ((x1_1).toNat * 8)) <|
zz 46 (lk12 hy1_10 (toNatLt hy1_9)) <|
yy 51 (.call (C_Rendq1 x1_1 y1_12_ [] [])) <|
ww (hrec_Rendq1 x1_1 y1_12_ hy1_12) <|
zz 55 (xdF hy1_13) <|
ee) (by kernel_rfl)
theorem q_Rendq1_1_4 (rec_Rendq1 : (Int) → Option (Int)) (hrec_Rendq1 : ∀ (a0 : Int) (r : Int), rec_Rendq1 a0 = some r → Gv P (.func 14) (A_Rendq1 a0) (H_Rendq1 a0) (V_Rendq1 a0 r) (R_Rendq1 a0 r)) (n : Nat) {rnd : Option Nat} (x1_0 x1_1 x1_2 x1_3 : Int) (hy1_1 : 0 ≤ x1_0 ∧ x1_0 < (Args.A.length : Int)) (y1_2_ : R8) (hy1_2 : (some ((Args.A).getD (x1_0).toNat (0, 0, 0, 0, 0, 0, nl0, 0))) = some y1_2_) (hy1_3 : x1_3 < (y1_2_.2.2.2.2.2.2.1.l.length : Int)) (hy1_4 : 0 ≤ x1_3 ∧ x1_3 < (y1_2_.2.2.2.2.2.2.1.l.length : Int)) (hy1_5 : (x1_3).toNat < (((y1_2_.2.2.2.2.2.2.1)).l).length) (y1_6_ : Int) (hy1_6 : (some ((((y1_2_.2.2.2.2.2.2.1)).l).getD (x1_3).toNat 0)) = some y1_6_) (hy1_7 : ¬ (y1_6_ = x1_1)) : Q_Rendq1_1 rnd x1_0 (x1_1, x1_2, x1_3) (X_Rendq1_1 x1_0 (.inl ())) :=
 runC2 hm (L := lT []) ⟨[4], [], 0, 0, [], false, []⟩ (zz 5 (xk1 0 Args.cA hy1_1) <|
zz 6 (fk7 ((x1_0).toNat * 8)) <|
zz 7 (lk8 hy1_2 (toNatLt hy1_1)) <|
zz 9 (xdT hy1_3) <|
zz 17 (xk1 0 Args.cA hy1_1) <|
zz 18 (fk7 ((x1_0).toNat * 8)) <|
zz 19 (lk8 hy1_2 (toNatLt hy1_1)) <|
zz 21 (xk9 (Nat.add ((y1_2_.2.2.2.2.2.2.1)).num 64) ((y1_2_.2.2.2.2.2.2.1)).cap hy1_4) <|
zz 22 (nk10 hy1_6 hy1_5) <|
zz 24 (xnT hy1_7) <|
ee) (by kernel_rfl)
theorem q_Rendq1_1_5 (rec_Rendq1 : (Int) → Option (Int)) (hrec_Rendq1 : ∀ (a0 : Int) (r : Int), rec_Rendq1 a0 = some r → Gv P (.func 14) (A_Rendq1 a0) (H_Rendq1 a0) (V_Rendq1 a0 r) (R_Rendq1 a0 r)) (n : Nat) {rnd : Option Nat} (x1_0 x1_1 x1_2 x1_3 : Int) (hy1_1 : 0 ≤ x1_0 ∧ x1_0 < (Args.A.length : Int)) (y1_2_ : R8) (hy1_2 : (some ((Args.A).getD (x1_0).toNat (0, 0, 0, 0, 0, 0, nl0, 0))) = some y1_2_) (hy1_3 : ¬ (x1_3 < (y1_2_.2.2.2.2.2.2.1.l.length : Int))) : Q_Rendq1_1 rnd x1_0 (x1_1, x1_2, x1_3) (X_Rendq1_1 x1_0 (.inr (x1_1, x1_2))) :=
 runC2 hm (L := lT []) ⟨[0, 1, 5, 6], [], 0, 0, [], false, []⟩ (zz 5 (xk1 0 Args.cA hy1_1) <|
zz 6 (fk7 ((x1_0).toNat * 8)) <|
zz 7 (lk8 hy1_2 (toNatLt hy1_1)) <|
zz 9 (xdF hy1_3) <|
ee) (by kernel_rfl)
theorem m_Rendq1_1_ok (rec_Rendq1 : (Int) → Option (Int)) (hrec_Rendq1 : ∀ (a0 : Int) (r : Int), rec_Rendq1 a0 = some r → Gv P (.func 14) (A_Rendq1 a0) (H_Rendq1 a0) (V_Rendq1 a0 r) (R_Rendq1 a0 r)) (n : Nat) {rnd : Option Nat} (x1_0 : Int) (st : Int × Int × Int) (r : (Unit) ⊕ (Int × Int)) (h : m_Rendq1_1 rec_Rendq1 n x1_0 st = some r) : CG P rnd (fnN P 14) 0 (codeOf P 14 [false, true, false, true, true]) (S_Rendq1_1 x1_0 st) (X_Rendq1_1 x1_0 r) :=
 CG.iter (b := codeOf P 14 [false, false, true, false, true, true]) (by kernel_rfl) (body := B_Rendq1_1 rec_Rendq1 n x1_0) (S := S_Rendq1_1 x1_0) (X := X_Rendq1_1 x1_0)
  (fun s s' h => by
  obtain ⟨x1_1, x1_2, x1_3⟩ := s
  unfold B_Rendq1_1 at h
  dsimp only at h
  by_cases hy1_1 : 0 ≤ x1_0 ∧ x1_0 < (Args.A.length : Int)
  ·rw [if_pos hy1_1] at h
   obtain ⟨y1_2_, hy1_2, h⟩ := Option.bind_eq_some_iff.1 h
   by_cases hy1_3 : x1_3 < (y1_2_.2.2.2.2.2.2.1.l.length : Int)
   ·rw [if_pos hy1_3] at h
    by_cases hy1_4 : 0 ≤ x1_3 ∧ x1_3 < (y1_2_.2.2.2.2.2.2.1.l.length : Int)
    ·rw [if_pos hy1_4] at h
     by_cases hy1_5 : (x1_3).toNat < (((y1_2_.2.2.2.2.2.2.1)).l).length
     ·rw [if_pos hy1_5] at h
      obtain ⟨y1_6_, hy1_6, h⟩ := Option.bind_eq_some_iff.1 h
      by_cases hy1_7 : y1_6_ = x1_1
      ·rw [if_pos hy1_7] at h
       by_cases hy1_8 : x1_1 ≥ (Args.A.length : Int)
       ·rw [if_pos hy1_8] at h
        cases h
       ·rw [if_neg hy1_8] at h
        by_cases hy1_9 : 0 ≤ x1_1 ∧ x1_1 < (Args.A.length : Int)
        ·rw [if_pos hy1_9] at h
         obtain ⟨y1_10_, hy1_10, h⟩ := Option.bind_eq_some_iff.1 h
         by_cases hy1_11 : (y1_10_.2.2.1) < x1_2
         ·rw [if_pos hy1_11] at h
          cases h
         ·rw [if_neg hy1_11] at h
          obtain ⟨y1_12_, hy1_12, h⟩ := Option.bind_eq_some_iff.1 h
          by_cases hy1_13 : y1_12_ < (0 : Int)
          ·rw [if_pos hy1_13] at h
           cases h
          ·rw [if_neg hy1_13] at h
           obtain rfl := Sum.inl.inj (oI h); exact q_Rendq1_1_3 rec_Rendq1 hrec_Rendq1 n x1_0 x1_1 x1_2 x1_3 hy1_1 y1_2_ hy1_2 hy1_3 hy1_4 hy1_5 y1_6_ hy1_6 hy1_7 hy1_8 hy1_9 y1_10_ hy1_10 hy1_11 y1_12_ hy1_12 hy1_13
        ·rw [if_neg hy1_9] at h; cases h
      ·rw [if_neg hy1_7] at h
       cases h
     ·rw [if_neg hy1_5] at h; cases h
    ·rw [if_neg hy1_4] at h; cases h
   ·rw [if_neg hy1_3] at h
    cases h
  ·rw [if_neg hy1_1] at h; cases h)
  (fun s r h => by
  obtain ⟨x1_1, x1_2, x1_3⟩ := s
  unfold B_Rendq1_1 at h
  dsimp only at h
  by_cases hy1_1 : 0 ≤ x1_0 ∧ x1_0 < (Args.A.length : Int)
  ·rw [if_pos hy1_1] at h
   obtain ⟨y1_2_, hy1_2, h⟩ := Option.bind_eq_some_iff.1 h
   by_cases hy1_3 : x1_3 < (y1_2_.2.2.2.2.2.2.1.l.length : Int)
   ·rw [if_pos hy1_3] at h
    by_cases hy1_4 : 0 ≤ x1_3 ∧ x1_3 < (y1_2_.2.2.2.2.2.2.1.l.length : Int)
    ·rw [if_pos hy1_4] at h
     by_cases hy1_5 : (x1_3).toNat < (((y1_2_.2.2.2.2.2.2.1)).l).length
     ·rw [if_pos hy1_5] at h
      obtain ⟨y1_6_, hy1_6, h⟩ := Option.bind_eq_some_iff.1 h
      by_cases hy1_7 : y1_6_ = x1_1
      ·rw [if_pos hy1_7] at h
       by_cases hy1_8 : x1_1 ≥ (Args.A.length : Int)
       ·rw [if_pos hy1_8] at h
        obtain rfl := Sum.inr.inj (oI h); exact q_Rendq1_1_0 rec_Rendq1 hrec_Rendq1 n x1_0 x1_1 x1_2 x1_3 hy1_1 y1_2_ hy1_2 hy1_3 hy1_4 hy1_5 y1_6_ hy1_6 hy1_7 hy1_8
       ·rw [if_neg hy1_8] at h
        by_cases hy1_9 : 0 ≤ x1_1 ∧ x1_1 < (Args.A.length : Int)
        ·rw [if_pos hy1_9] at h
         obtain ⟨y1_10_, hy1_10, h⟩ := Option.bind_eq_some_iff.1 h
         by_cases hy1_11 : (y1_10_.2.2.1) < x1_2
         ·rw [if_pos hy1_11] at h
          obtain rfl := Sum.inr.inj (oI h); exact q_Rendq1_1_1 rec_Rendq1 hrec_Rendq1 n x1_0 x1_1 x1_2 x1_3 hy1_1 y1_2_ hy1_2 hy1_3 hy1_4 hy1_5 y1_6_ hy1_6 hy1_7 hy1_8 hy1_9 y1_10_ hy1_10 hy1_11
         ·rw [if_neg hy1_11] at h
          obtain ⟨y1_12_, hy1_12, h⟩ := Option.bind_eq_some_iff.1 h
          by_cases hy1_13 : y1_12_ < (0 : Int)
          ·rw [if_pos hy1_13] at h
           obtain rfl := Sum.inr.inj (oI h); exact q_Rendq1_1_2 rec_Rendq1 hrec_Rendq1 n x1_0 x1_1 x1_2 x1_3 hy1_1 y1_2_ hy1_2 hy1_3 hy1_4 hy1_5 y1_6_ hy1_6 hy1_7 hy1_8 hy1_9 y1_10_ hy1_10 hy1_11 y1_12_ hy1_12 hy1_13
          ·rw [if_neg hy1_13] at h
           cases h
        ·rw [if_neg hy1_9] at h; cases h
      ·rw [if_neg hy1_7] at h
       obtain rfl := Sum.inr.inj (oI h); exact q_Rendq1_1_4 rec_Rendq1 hrec_Rendq1 n x1_0 x1_1 x1_2 x1_3 hy1_1 y1_2_ hy1_2 hy1_3 hy1_4 hy1_5 y1_6_ hy1_6 hy1_7
     ·rw [if_neg hy1_5] at h; cases h
    ·rw [if_neg hy1_4] at h; cases h
   ·rw [if_neg hy1_3] at h
    obtain rfl := Sum.inr.inj (oI h); exact q_Rendq1_1_5 rec_Rendq1 hrec_Rendq1 n x1_0 x1_1 x1_2 x1_3 hy1_1 y1_2_ hy1_2 hy1_3
  ·rw [if_neg hy1_1] at h; cases h)
  (fun r => by intro hx; rcases r with _ | _ <;> cases hx) h
def s_Rendq1 (rec_Rendq1 : (Int) → Option (Int)) (n : Nat) (a0 : Int) : Option (Int) :=
 if 0 ≤ a0 ∧ a0 < (Args.A.length : Int) then
  ((some ((Args.A).getD (a0).toNat (0, 0, 0, 0, 0, 0, nl0, 0)))).bind fun c2_ =>
  match m_Rendq1_1 rec_Rendq1 n a0 ((w64 (a0 + (1 : Int))), (c2_.2.2.1), 0) with
  | none => none
  | some (.inl _) =>
   some (-1)
  | some (.inr (c3_0, c3_1)) =>
   if c3_1 > (c2_.2.2.2.2.1) then
    some (-1)
   else
    some c3_0
 else none
theorem s_Rendq1_ok (rec_Rendq1 : (Int) → Option (Int)) (hrec_Rendq1 : ∀ (a0 : Int) (r : Int), rec_Rendq1 a0 = some r → Gv P (.func 14) (A_Rendq1 a0) (H_Rendq1 a0) (V_Rendq1 a0 r) (R_Rendq1 a0 r)) (n : Nat) (a0 : Int) (r : Int) (h : s_Rendq1 rec_Rendq1 n a0 = some r) : Gv P (.func 14) (A_Rendq1 a0) (H_Rendq1 a0) (V_Rendq1 a0 r) (R_Rendq1 a0 r) := by
 unfold s_Rendq1 at h
 by_cases hc1 : 0 ≤ a0 ∧ a0 < (Args.A.length : Int)
 ·rw [if_pos hc1] at h
  obtain ⟨c2_, hc2, h⟩ := Option.bind_eq_some_iff.1 h
  rcases hc3 : m_Rendq1_1 rec_Rendq1 n a0 ((w64 (a0 + (1 : Int))), (c2_.2.2.1), 0) with _ | (⟨⟩ | ⟨c3_0, c3_1⟩)
  ·rw [hc3] at h; cases h
  ·rw [hc3] at h
   dsimp only at h
   obtain rfl := oI h; exact runF2 hm (L := lT [(16, ⟨⟨[0, 1, 5, 6, 7], [], 0, 0, [], false, []⟩, (X_Rendq1_1 a0 (.inl ())).1, (X_Rendq1_1 a0 (.inl ())).2⟩)]) ⟨[4], [], 0, 0, [], false, []⟩ (zz 7 (xk1 0 Args.cA hc1) <|
zz 8 (fk5 ((a0).toNat * 8)) <|
zz 9 (lk6 hc2 (toNatLt hc1)) <|
ww (p := U_Rendq1_1 none a0 ((w64 (a0 + (1 : Int))), (c2_.2.2.1), 0) (.inl ())) (m_Rendq1_1_ok rec_Rendq1 hrec_Rendq1 n a0 ((w64 (a0 + (1 : Int))), (c2_.2.2.1), 0) (.inl ()) hc3) ee) (by kernel_rfl)
  ·rw [hc3] at h
   dsimp only at h
   by_cases hc4 : c3_1 > (c2_.2.2.2.2.1)
   ·rw [if_pos hc4] at h
    obtain rfl := oI h; exact runF2 hm (L := lT [(16, ⟨⟨[0, 1, 5, 6, 7], [], 0, 0, [], false, []⟩, (X_Rendq1_1 a0 (.inr (c3_0, c3_1))).1, (X_Rendq1_1 a0 (.inr (c3_0, c3_1))).2⟩)]) ⟨[4], [], 0, 0, [], false, []⟩ (zz 7 (xk1 0 Args.cA hc1) <|
zz 8 (fk5 ((a0).toNat * 8)) <|
zz 9 (lk6 hc2 (toNatLt hc1)) <|
ww (p := U_Rendq1_1 none a0 ((w64 (a0 + (1 : Int))), (c2_.2.2.1), 0) (.inr (c3_0, c3_1))) (m_Rendq1_1_ok rec_Rendq1 hrec_Rendq1 n a0 ((w64 (a0 + (1 : Int))), (c2_.2.2.1), 0) (.inr (c3_0, c3_1)) hc3) <|
zz 22 (xk1 0 Args.cA hc1) <|
zz 23 (fk11 ((a0).toNat * 8)) <|
zz 24 (lk12 hc2 (toNatLt hc1)) <|
zz 25 (xdT hc4) ee) (by kernel_rfl)
   ·rw [if_neg hc4] at h
    obtain rfl := oI h; exact runF2 hm (L := lT [(16, ⟨⟨[0, 1, 5, 6, 7], [], 0, 0, [], false, []⟩, (X_Rendq1_1 a0 (.inr (c3_0, c3_1))).1, (X_Rendq1_1 a0 (.inr (c3_0, c3_1))).2⟩)]) ⟨[4], [], 0, 0, [], false, []⟩ (zz 7 (xk1 0 Args.cA hc1) <|
zz 8 (fk5 ((a0).toNat * 8)) <|
zz 9 (lk6 hc2 (toNatLt hc1)) <|
ww (p := U_Rendq1_1 none a0 ((w64 (a0 + (1 : Int))), (c2_.2.2.1), 0) (.inr (c3_0, c3_1))) (m_Rendq1_1_ok rec_Rendq1 hrec_Rendq1 n a0 ((w64 (a0 + (1 : Int))), (c2_.2.2.1), 0) (.inr (c3_0, c3_1)) hc3) <|
zz 22 (xk1 0 Args.cA hc1) <|
zz 23 (fk11 ((a0).toNat * 8)) <|
zz 24 (lk12 hc2 (toNatLt hc1)) <|
zz 25 (xdF hc4) ee) (by kernel_rfl)
 ·rw [if_neg hc1] at h; cases h
def m_Rendq1 : Nat → (Int) → Option (Int)
 | 0 => fun _ => none
 | n + 1 => fun a0 => s_Rendq1 (m_Rendq1 n) n a0
theorem m_Rendq1_ok : ∀ (n : Nat) (a0 : Int) (r : Int) (h : m_Rendq1 n a0 = some r), Gv P (.func 14) (A_Rendq1 a0) (H_Rendq1 a0) (V_Rendq1 a0 r) (R_Rendq1 a0 r)
 | 0, _, _, h => nomatch h
 | n + 1, a0, r, h => s_Rendq1_ok (m_Rendq1 n) (m_Rendq1_ok n) n a0 r h

def A_RCheckq1 : List Value := [(sW 0 0 (Args.A).length Args.cA)]
def H_RCheckq1 : AH := ⟨sB [], 0, 0⟩
def V_RCheckq1 (r : Int) : Value := match r with
 | o0 => (i6 o0)
def R_RCheckq1 (r : Int) : AH := match r with
 | o0 => ⟨sB [], 0, 0⟩
abbrev G_RCheckq1 (r : Int) : Prop := Gv P (.func 6) A_RCheckq1 H_RCheckq1 (V_RCheckq1  r) (R_RCheckq1  r)
abbrev C_RCheckq1 (r : Int) (ins outs : BL) : CallA := ⟨0, ins, V_RCheckq1  r, R_RCheckq1  r, outs⟩
def S_RCheckq1_1 (st : Int) : XSt := match st with
 | x1_0 => (sT 41 [(0, (sW 0 0 (Args.A).length Args.cA)), (3, (i6 x1_0))], [], ⟨sB [], 0, 0⟩)
def X_RCheckq1_1 (r : (Unit) ⊕ (Unit)) : Ex × XSt := match r with
 | .inl _ => (.ret, (sT 41 [(2, (i6 (2 : Int)))], [], ⟨sB [], 0, 0⟩))
 | .inr _ => (.exit 0, (sT 41 [(0, (sW 0 0 (Args.A).length Args.cA))], [], ⟨sB [], 0, 0⟩))
abbrev Q_RCheckq1_1 (rnd : Option Nat) (st : Int) (c : Ex × XSt) : Prop := CG P rnd (fnN P 6) 0 (codeOf P 6 [false, false, true, false, true, true]) (S_RCheckq1_1 st) c
abbrev U_RCheckq1_1 (rd : Option Nat) (st : Int) (r : (Unit) ⊕ (Unit)) : Prop := CG P rd (fnN P 6) 0 (codeOf P 6 [false, true, false, true, true]) (S_RCheckq1_1 st) (X_RCheckq1_1 r)
def B_RCheckq1_1 (n : Nat) (st : Int) : Option ((Int) ⊕ ((Unit) ⊕ (Unit))) := match st with
 | x1_0 =>
  if x1_0 < (Args.A.length : Int) then
   if 0 ≤ x1_0 ∧ x1_0 < (Args.A.length : Int) then
    ((some ((Args.A).getD (x1_0).toNat (0, 0, 0, 0, 0, 0, nl0, 0)))).bind fun y1_3_ =>
    (m_Rbareq1 n (y1_3_.1) (y1_3_.2.1) (y1_3_.2.2.1) (y1_3_.2.2.2.1) (y1_3_.2.2.2.2.1) (y1_3_.2.2.2.2.2.1) (y1_3_.2.2.2.2.2.2.1) (y1_3_.2.2.2.2.2.2.2)).bind fun y1_4_ =>
    if y1_4_ = true then
     if x1_0 > (0 : Int) then
      if (y1_3_.2.1) = (1 : Int) then
       some (.inr (.inl ()))
      else
       some (.inl (w64 (x1_0 + (1 : Int))))
     else
      some (.inl (w64 (x1_0 + (1 : Int))))
    else
     some (.inr (.inl ()))
   else none
  else
   some (.inr (.inr ()))
def m_RCheckq1_1 (n : Nat) (st : Int) : Option ((Unit) ⊕ (Unit)) := iterM (B_RCheckq1_1 n) n st
theorem q_RCheckq1_1_0 (n : Nat) {rnd : Option Nat} (x1_0 : Int) (hy1_1 : x1_0 < (Args.A.length : Int)) (hy1_2 : 0 ≤ x1_0 ∧ x1_0 < (Args.A.length : Int)) (y1_3_ : R8) (hy1_3 : (some ((Args.A).getD (x1_0).toNat (0, 0, 0, 0, 0, 0, nl0, 0))) = some y1_3_) (y1_4_ : Bool) (hy1_4 : m_Rbareq1 n (y1_3_.1) (y1_3_.2.1) (y1_3_.2.2.1) (y1_3_.2.2.2.1) (y1_3_.2.2.2.2.1) (y1_3_.2.2.2.2.2.1) (y1_3_.2.2.2.2.2.2.1) (y1_3_.2.2.2.2.2.2.2) = some y1_4_) (hy1_5 : y1_4_ = true) (hy1_6 : x1_0 > (0 : Int)) (hy1_7 : (y1_3_.2.1) = (1 : Int)) : Q_RCheckq1_1 rnd x1_0 (X_RCheckq1_1 (.inl ())) :=
 runC2 hm (L := lT []) ⟨[2], [], 0, 0, [], false, []⟩ (zz 5 (xdT hy1_1) <|
zz 12 (xk1 0 Args.cA hy1_2) <|
zz 13 (lk2 hy1_3 (toNatLt hy1_2)) <|
yy 14 (.call (C_Rbareq1 (y1_3_.1) (y1_3_.2.1) (y1_3_.2.2.1) (y1_3_.2.2.2.1) (y1_3_.2.2.2.2.1) (y1_3_.2.2.2.2.2.1) (y1_3_.2.2.2.2.2.2.1) (y1_3_.2.2.2.2.2.2.2) y1_4_ [] [])) <|
ww (m_Rbareq1_ok n (y1_3_.1) (y1_3_.2.1) (y1_3_.2.2.1) (y1_3_.2.2.2.1) (y1_3_.2.2.2.2.1) (y1_3_.2.2.2.2.2.1) (y1_3_.2.2.2.2.2.2.1) (y1_3_.2.2.2.2.2.2.2) y1_4_ hy1_4) <|
yy 15 (vf) <|
ww (p := (Value.bool (!y1_4_)) = (Value.bool false)) (vBn hy1_5) <|
zz 18 (xdT hy1_6) <|
zz 22 (xk1 0 Args.cA hy1_2) <|
zz 23 (fk3 ((x1_0).toNat * 8)) <|
zz 24 (lk4 hy1_3 (toNatLt hy1_2)) <|
zz 25 (xeT hy1_7) <|
ee) (by kernel_rfl)
theorem q_RCheckq1_1_1 (n : Nat) {rnd : Option Nat} (x1_0 : Int) (hy1_1 : x1_0 < (Args.A.length : Int)) (hy1_2 : 0 ≤ x1_0 ∧ x1_0 < (Args.A.length : Int)) (y1_3_ : R8) (hy1_3 : (some ((Args.A).getD (x1_0).toNat (0, 0, 0, 0, 0, 0, nl0, 0))) = some y1_3_) (y1_4_ : Bool) (hy1_4 : m_Rbareq1 n (y1_3_.1) (y1_3_.2.1) (y1_3_.2.2.1) (y1_3_.2.2.2.1) (y1_3_.2.2.2.2.1) (y1_3_.2.2.2.2.2.1) (y1_3_.2.2.2.2.2.2.1) (y1_3_.2.2.2.2.2.2.2) = some y1_4_) (hy1_5 : y1_4_ = true) (hy1_6 : x1_0 > (0 : Int)) (hy1_7 : ¬ ((y1_3_.2.1) = (1 : Int))) : Q_RCheckq1_1 rnd x1_0 (.normal, S_RCheckq1_1 (w64 (x1_0 + (1 : Int)))) :=
 runC2 hm (L := lT []) ⟨[0, 3], [], 0, 0, [], false, []⟩ (zz 5 (xdT hy1_1) <|
zz 12 (xk1 0 Args.cA hy1_2) <|
zz 13 (lk2 hy1_3 (toNatLt hy1_2)) <|
yy 14 (.call (C_Rbareq1 (y1_3_.1) (y1_3_.2.1) (y1_3_.2.2.1) (y1_3_.2.2.2.1) (y1_3_.2.2.2.2.1) (y1_3_.2.2.2.2.2.1) (y1_3_.2.2.2.2.2.2.1) (y1_3_.2.2.2.2.2.2.2) y1_4_ [] [])) <|
ww (m_Rbareq1_ok n (y1_3_.1) (y1_3_.2.1) (y1_3_.2.2.1) (y1_3_.2.2.2.1) (y1_3_.2.2.2.2.1) (y1_3_.2.2.2.2.2.1) (y1_3_.2.2.2.2.2.2.1) (y1_3_.2.2.2.2.2.2.2) y1_4_ hy1_4) <|
yy 15 (vf) <|
ww (p := (Value.bool (!y1_4_)) = (Value.bool false)) (vBn hy1_5) <|
zz 18 (xdT hy1_6) <|
zz 22 (xk1 0 Args.cA hy1_2) <|
zz 23 (fk3 ((x1_0).toNat * 8)) <|
zz 24 (lk4 hy1_3 (toNatLt hy1_2)) <|
zz 25 (xeF hy1_7) <|
ee) (by kernel_rfl)
theorem q_RCheckq1_1_2 (n : Nat) {rnd : Option Nat} (x1_0 : Int) (hy1_1 : x1_0 < (Args.A.length : Int)) (hy1_2 : 0 ≤ x1_0 ∧ x1_0 < (Args.A.length : Int)) (y1_3_ : R8) (hy1_3 : (some ((Args.A).getD (x1_0).toNat (0, 0, 0, 0, 0, 0, nl0, 0))) = some y1_3_) (y1_4_ : Bool) (hy1_4 : m_Rbareq1 n (y1_3_.1) (y1_3_.2.1) (y1_3_.2.2.1) (y1_3_.2.2.2.1) (y1_3_.2.2.2.2.1) (y1_3_.2.2.2.2.2.1) (y1_3_.2.2.2.2.2.2.1) (y1_3_.2.2.2.2.2.2.2) = some y1_4_) (hy1_5 : y1_4_ = true) (hy1_6 : ¬ (x1_0 > (0 : Int))) : Q_RCheckq1_1 rnd x1_0 (.normal, S_RCheckq1_1 (w64 (x1_0 + (1 : Int)))) :=
 runC2 hm (L := lT []) ⟨[0, 3], [], 0, 0, [], false, []⟩ (zz 5 (xdT hy1_1) <|
zz 12 (xk1 0 Args.cA hy1_2) <|
zz 13 (lk2 hy1_3 (toNatLt hy1_2)) <|
yy 14 (.call (C_Rbareq1 (y1_3_.1) (y1_3_.2.1) (y1_3_.2.2.1) (y1_3_.2.2.2.1) (y1_3_.2.2.2.2.1) (y1_3_.2.2.2.2.2.1) (y1_3_.2.2.2.2.2.2.1) (y1_3_.2.2.2.2.2.2.2) y1_4_ [] [])) <|
ww (m_Rbareq1_ok n (y1_3_.1) (y1_3_.2.1) (y1_3_.2.2.1) (y1_3_.2.2.2.1) (y1_3_.2.2.2.2.1) (y1_3_.2.2.2.2.2.1) (y1_3_.2.2.2.2.2.2.1) (y1_3_.2.2.2.2.2.2.2) y1_4_ hy1_4) <|
yy 15 (vf) <|
ww (p := (Value.bool (!y1_4_)) = (Value.bool false)) (vBn hy1_5) <|
zz 18 (xdF hy1_6) <|
ee) (by kernel_rfl)
theorem q_RCheckq1_1_3 (n : Nat) {rnd : Option Nat} (x1_0 : Int) (hy1_1 : x1_0 < (Args.A.length : Int)) (hy1_2 : 0 ≤ x1_0 ∧ x1_0 < (Args.A.length : Int)) (y1_3_ : R8) (hy1_3 : (some ((Args.A).getD (x1_0).toNat (0, 0, 0, 0, 0, 0, nl0, 0))) = some y1_3_) (y1_4_ : Bool) (hy1_4 : m_Rbareq1 n (y1_3_.1) (y1_3_.2.1) (y1_3_.2.2.1) (y1_3_.2.2.2.1) (y1_3_.2.2.2.2.1) (y1_3_.2.2.2.2.2.1) (y1_3_.2.2.2.2.2.2.1) (y1_3_.2.2.2.2.2.2.2) = some y1_4_) (hy1_5 : ¬ (y1_4_ = true)) : Q_RCheckq1_1 rnd x1_0 (X_RCheckq1_1 (.inl ())) :=
 runC2 hm (L := lT []) ⟨[2], [], 0, 0, [], false, []⟩ (zz 5 (xdT hy1_1) <|
zz 12 (xk1 0 Args.cA hy1_2) <|
zz 13 (lk2 hy1_3 (toNatLt hy1_2)) <|
yy 14 (.call (C_Rbareq1 (y1_3_.1) (y1_3_.2.1) (y1_3_.2.2.1) (y1_3_.2.2.2.1) (y1_3_.2.2.2.2.1) (y1_3_.2.2.2.2.2.1) (y1_3_.2.2.2.2.2.2.1) (y1_3_.2.2.2.2.2.2.2) y1_4_ [] [])) <|
ww (m_Rbareq1_ok n (y1_3_.1) (y1_3_.2.1) (y1_3_.2.2.1) (y1_3_.2.2.2.1) (y1_3_.2.2.2.2.1) (y1_3_.2.2.2.2.2.1) (y1_3_.2.2.2.2.2.2.1) (y1_3_.2.2.2.2.2.2.2) y1_4_ hy1_4) <|
yy 15 (vt) <|
ww (p := (Value.bool (!y1_4_)) = (Value.bool true)) (vBn (Bool.eq_false_iff.2 hy1_5)) <|
ee) (by kernel_rfl)
theorem q_RCheckq1_1_4 (n : Nat) {rnd : Option Nat} (x1_0 : Int) (hy1_1 : ¬ (x1_0 < (Args.A.length : Int))) : Q_RCheckq1_1 rnd x1_0 (X_RCheckq1_1 (.inr ())) :=
 runC2 hm (L := lT []) ⟨[0], [], 0, 0, [], false, []⟩ (zz 5 (xdF hy1_1) <|
ee) (by kernel_rfl)
theorem m_RCheckq1_1_ok (n : Nat) {rnd : Option Nat} (st : Int) (r : (Unit) ⊕ (Unit)) (h : m_RCheckq1_1 n st = some r) : CG P rnd (fnN P 6) 0 (codeOf P 6 [false, true, false, true, true]) (S_RCheckq1_1 st) (X_RCheckq1_1 r) :=
 CG.iter (b := codeOf P 6 [false, false, true, false, true, true]) (by kernel_rfl) (body := B_RCheckq1_1 n) (S := S_RCheckq1_1) (X := X_RCheckq1_1)
  (fun x1_0 s' h => by
  unfold B_RCheckq1_1 at h
  dsimp only at h
  by_cases hy1_1 : x1_0 < (Args.A.length : Int)
  ·rw [if_pos hy1_1] at h
   by_cases hy1_2 : 0 ≤ x1_0 ∧ x1_0 < (Args.A.length : Int)
   ·rw [if_pos hy1_2] at h
    obtain ⟨y1_3_, hy1_3, h⟩ := Option.bind_eq_some_iff.1 h
    obtain ⟨y1_4_, hy1_4, h⟩ := Option.bind_eq_some_iff.1 h
    by_cases hy1_5 : y1_4_ = true
    ·rw [if_pos hy1_5] at h
     by_cases hy1_6 : x1_0 > (0 : Int)
     ·rw [if_pos hy1_6] at h
      by_cases hy1_7 : (y1_3_.2.1) = (1 : Int)
      ·rw [if_pos hy1_7] at h
       cases h
      ·rw [if_neg hy1_7] at h
       obtain rfl := Sum.inl.inj (oI h); exact q_RCheckq1_1_1 n x1_0 hy1_1 hy1_2 y1_3_ hy1_3 y1_4_ hy1_4 hy1_5 hy1_6 hy1_7
     ·rw [if_neg hy1_6] at h
      obtain rfl := Sum.inl.inj (oI h); exact q_RCheckq1_1_2 n x1_0 hy1_1 hy1_2 y1_3_ hy1_3 y1_4_ hy1_4 hy1_5 hy1_6
    ·rw [if_neg hy1_5] at h
     cases h
   ·rw [if_neg hy1_2] at h; cases h
  ·rw [if_neg hy1_1] at h
   cases h)
  (fun x1_0 r h => by
  unfold B_RCheckq1_1 at h
  dsimp only at h
  by_cases hy1_1 : x1_0 < (Args.A.length : Int)
  ·rw [if_pos hy1_1] at h
   by_cases hy1_2 : 0 ≤ x1_0 ∧ x1_0 < (Args.A.length : Int)
   ·rw [if_pos hy1_2] at h
    obtain ⟨y1_3_, hy1_3, h⟩ := Option.bind_eq_some_iff.1 h
    obtain ⟨y1_4_, hy1_4, h⟩ := Option.bind_eq_some_iff.1 h
    by_cases hy1_5 : y1_4_ = true
    ·rw [if_pos hy1_5] at h
     by_cases hy1_6 : x1_0 > (0 : Int)
     ·rw [if_pos hy1_6] at h
      by_cases hy1_7 : (y1_3_.2.1) = (1 : Int)
      ·rw [if_pos hy1_7] at h
       obtain rfl := Sum.inr.inj (oI h); exact q_RCheckq1_1_0 n x1_0 hy1_1 hy1_2 y1_3_ hy1_3 y1_4_ hy1_4 hy1_5 hy1_6 hy1_7
      ·rw [if_neg hy1_7] at h
       cases h
     ·rw [if_neg hy1_6] at h
      cases h
    ·rw [if_neg hy1_5] at h
     obtain rfl := Sum.inr.inj (oI h); exact q_RCheckq1_1_3 n x1_0 hy1_1 hy1_2 y1_3_ hy1_3 y1_4_ hy1_4 hy1_5
   ·rw [if_neg hy1_2] at h; cases h
  ·rw [if_neg hy1_1] at h
   obtain rfl := Sum.inr.inj (oI h); exact q_RCheckq1_1_4 n x1_0 hy1_1)
  (fun r => by intro hx; rcases r with _ | _ <;> cases hx) h
def m_RCheckq1 (n : Nat) : Option (Int) :=
 if (Args.A.length : Int) > (524288 : Int) then
  some 3
 else
  match m_RCheckq1_1 n 0 with
  | none => none
  | some (.inl _) =>
   some 2
  | some (.inr _) =>
   if (Args.A.length : Int) = (0 : Int) then
    some 2
   else
    (m_Rendq1 n 0).bind fun c4_ =>
    if c4_ = (Args.A.length : Int) then
     some 0
    else
     some 2
theorem m_RCheckq1_ok (n : Nat) (r : Int) (h : m_RCheckq1 n = some r) : Gv P (.func 6) A_RCheckq1 H_RCheckq1 (V_RCheckq1  r) (R_RCheckq1  r) := by
 unfold m_RCheckq1 at h
 by_cases hc1 : (Args.A.length : Int) > (524288 : Int)
 ·rw [if_pos hc1] at h
  obtain rfl := oI h; exact runF2 hm (L := lT []) ⟨[2], [], 0, 0, [], false, []⟩ (zz 6 (xdT hc1) ee) (by kernel_rfl)
 ·rw [if_neg hc1] at h
  rcases hc2 : m_RCheckq1_1 n 0 with _ | (⟨⟩ | ⟨⟩)
  ·rw [hc2] at h; cases h
  ·rw [hc2] at h
   dsimp only at h
   obtain rfl := oI h; exact runF2 hm (L := lT [(12, ⟨⟨[0, 3], [], 0, 0, [], false, []⟩, (X_RCheckq1_1 (.inl ())).1, (X_RCheckq1_1 (.inl ())).2⟩)]) ⟨[2], [], 0, 0, [], false, []⟩ (zz 6 (xdF hc1) <|
ww (p := U_RCheckq1_1 none 0 (.inl ())) (m_RCheckq1_1_ok n 0 (.inl ()) hc2) ee) (by kernel_rfl)
  ·rw [hc2] at h
   dsimp only at h
   by_cases hc3 : (Args.A.length : Int) = (0 : Int)
   ·rw [if_pos hc3] at h
    obtain rfl := oI h; exact runF2 hm (L := lT [(12, ⟨⟨[0, 3], [], 0, 0, [], false, []⟩, (X_RCheckq1_1 (.inr ())).1, (X_RCheckq1_1 (.inr ())).2⟩)]) ⟨[2], [], 0, 0, [], false, []⟩ (zz 6 (xdF hc1) <|
ww (p := U_RCheckq1_1 none 0 (.inr ())) (m_RCheckq1_1_ok n 0 (.inr ()) hc2) <|
zz 17 (xeT hc3) ee) (by kernel_rfl)
   ·rw [if_neg hc3] at h
    obtain ⟨c4_, hc4, h⟩ := Option.bind_eq_some_iff.1 h
    by_cases hc5 : c4_ = (Args.A.length : Int)
    ·rw [if_pos hc5] at h
     obtain rfl := oI h; exact runF2 hm (L := lT [(12, ⟨⟨[0, 3], [], 0, 0, [], false, []⟩, (X_RCheckq1_1 (.inr ())).1, (X_RCheckq1_1 (.inr ())).2⟩)]) ⟨[2], [], 0, 0, [], false, []⟩ (zz 6 (xdF hc1) <|
ww (p := U_RCheckq1_1 none 0 (.inr ())) (m_RCheckq1_1_ok n 0 (.inr ()) hc2) <|
zz 17 (xeF hc3) <|
yy 20 (.call (C_Rendq1 0 c4_ [] [])) <|
ww (m_Rendq1_ok n 0 c4_ hc4) <|
zz 23 (xnF hc5) ee) (by kernel_rfl)
    ·rw [if_neg hc5] at h
     obtain rfl := oI h; exact runF2 hm (L := lT [(12, ⟨⟨[0, 3], [], 0, 0, [], false, []⟩, (X_RCheckq1_1 (.inr ())).1, (X_RCheckq1_1 (.inr ())).2⟩)]) ⟨[2], [], 0, 0, [], false, []⟩ (zz 6 (xdF hc1) <|
ww (p := U_RCheckq1_1 none 0 (.inr ())) (m_RCheckq1_1_ok n 0 (.inr ()) hc2) <|
zz 17 (xeF hc3) <|
yy 20 (.call (C_Rendq1 0 c4_ [] [])) <|
ww (m_Rendq1_ok n 0 c4_ hc4) <|
zz 23 (xnT hc5) ee) (by kernel_rfl)

def A_pKq1 (a0 : Int) (a1 : Int) : List Value := [(i6 a0), (i6 a1)]
def H_pKq1 (a0 : Int) (a1 : Int) : AH := ⟨sB [], 0, 0⟩
def V_pKq1 (a0 : Int) (a1 : Int) (r : Int) : Value := match r with
 | o0 => (i6 o0)
def R_pKq1 (a0 : Int) (a1 : Int) (r : Int) : AH := match r with
 | o0 => ⟨sB [], 0, 0⟩
abbrev G_pKq1 (a0 : Int) (a1 : Int) (r : Int) : Prop := Gv P (.func 7) (A_pKq1 a0 a1) (H_pKq1 a0 a1) (V_pKq1 a0 a1 r) (R_pKq1 a0 a1 r)
abbrev C_pKq1 (a0 : Int) (a1 : Int) (r : Int) (ins outs : BL) : CallA := ⟨0, ins, V_pKq1 a0 a1 r, R_pKq1 a0 a1 r, outs⟩
def m_pKq1 (n : Nat) (a0 : Int) (a1 : Int) : Option (Int) :=
 if a1 < (1 : Int) then
  some 0
 else
  if ¬ (a1 = 0) then
   if (Int.tmod a0 a1) < (0 : Int) then
    some (w64 ((Int.tmod a0 a1) + a1))
   else
    some (Int.tmod a0 a1)
  else none
theorem m_pKq1_ok (n : Nat) (a0 : Int) (a1 : Int) (r : Int) (h : m_pKq1 n a0 a1 = some r) : Gv P (.func 7) (A_pKq1 a0 a1) (H_pKq1 a0 a1) (V_pKq1 a0 a1 r) (R_pKq1 a0 a1 r) := by
 unfold m_pKq1 at h
 by_cases hc1 : a1 < (1 : Int)
 ·rw [if_pos hc1] at h
  obtain rfl := oI h; exact runF2 hm (L := lT []) ⟨[4], [], 0, 0, [], false, []⟩ (zz 5 (xdT hc1) ee) (by kernel_rfl)
 ·rw [if_neg hc1] at h
  by_cases hc2 : ¬ (a1 = 0)
  ·rw [if_pos hc2] at h
   by_cases hc3 : (Int.tmod a0 a1) < (0 : Int)
   ·rw [if_pos hc3] at h
    obtain rfl := oI h; exact runF2 hm (L := lT []) ⟨[4], [], 0, 0, [], false, []⟩ (zz 5 (xdF hc1) <|
yy 10 (.pur (i6 (Int.tmod a0 a1))) <|
ww (p := opBin P .rem 3 (.tmp 8) (.tmp 9) (i6 a0) (i6 a1) Ax.h0 = some ((i6 (Int.tmod a0 a1)), Ax.h0)) (remI hc2) <|
zz 15 (xdT hc3) ee) (by kernel_rfl)
   ·rw [if_neg hc3] at h
    obtain rfl := oI h; exact runF2 hm (L := lT []) ⟨[4], [], 0, 0, [], false, []⟩ (zz 5 (xdF hc1) <|
yy 10 (.pur (i6 (Int.tmod a0 a1))) <|
ww (p := opBin P .rem 3 (.tmp 8) (.tmp 9) (i6 a0) (i6 a1) Ax.h0 = some ((i6 (Int.tmod a0 a1)), Ax.h0)) (remI hc2) <|
zz 15 (xdF hc3) ee) (by kernel_rfl)
  ·rw [if_neg hc2] at h; cases h

def A_iOq1 : List Value := [(sW 0 0 (Args.A).length Args.cA)]
def H_iOq1 : AH := ⟨sB [], 0, 0⟩
def V_iOq1 (r : Bool) : Value := match r with
 | o0 => (bO o0)
def R_iOq1 (r : Bool) : AH := match r with
 | o0 => ⟨sB [], 0, 0⟩
abbrev G_iOq1 (r : Bool) : Prop := Gv P (.func 34) A_iOq1 H_iOq1 (V_iOq1  r) (R_iOq1  r)
abbrev C_iOq1 (r : Bool) (ins outs : BL) : CallA := ⟨0, ins, V_iOq1  r, R_iOq1  r, outs⟩
def S_iOq1_1 (x1_2 : Int) (st : List (Int × Int × Int) × Nat × Int) : XSt := match st with
 | (x1_0, x1_1, x1_3) => (sT 99 [(0, (sW 0 0 (Args.A).length Args.cA)), (3, (slQ x1_0 0 x1_1 3)), (8, (sW 0 0 (Args.A).length Args.cA)), (9, (i6 x1_2)), (10, (i6 x1_3))], [], ⟨sB [(0, (nblkR rw_iii x1_0 72))], 1, 0⟩)
def X_iOq1_1 (x1_2 : Int) (r : (Unit) ⊕ (List (Int × Int × Int) × Nat)) : Ex × XSt := match r with
 | .inl _ => (.ret, (sT 99 [(2, (bO false))], [], ⟨sB [], 0, 0⟩))
 | .inr (z1_0, z1_1) => (.exit 0, (sT 99 [(3, (slQ z1_0 0 z1_1 3))], [], ⟨sB [(0, (nblkR rw_iii z1_0 72))], 1, 0⟩))
abbrev Q_iOq1_1 (rnd : Option Nat) (x1_2 : Int) (st : List (Int × Int × Int) × Nat × Int) (c : Ex × XSt) : Prop := CG P rnd (fnN P 34) 0 (codeOf P 34 [false, false, true, false, true, true]) (S_iOq1_1 x1_2 st) c
abbrev U_iOq1_1 (rd : Option Nat) (x1_2 : Int) (st : List (Int × Int × Int) × Nat × Int) (r : (Unit) ⊕ (List (Int × Int × Int) × Nat)) : Prop := CG P rd (fnN P 34) 0 (codeOf P 34 [false, true, false, true, true]) (S_iOq1_1 x1_2 st) (X_iOq1_1 x1_2 r)
def B_iOq1_1 (n : Nat) (x1_2 : Int) (st : List (Int × Int × Int) × Nat × Int) : Option ((List (Int × Int × Int) × Nat × Int) ⊕ ((Unit) ⊕ (List (Int × Int × Int) × Nat))) := match st with
 | (x1_0, x1_1, x1_3) =>
  match x1_0 with
  | [] =>
   if x1_3 < x1_2 then
    if 0 ≤ x1_3 ∧ x1_3 < (Args.A.length : Int) then
     ((some ((Args.A).getD (x1_3).toNat (0, 0, 0, 0, 0, 0, nl0, 0)))).bind fun y1_3_ =>
     if x1_3 > (0 : Int) then
      some (.inr (.inl ()))
     else
      if (y1_3_.2.2.2.2.2.2.1.l.length : Int) > (0 : Int) then
       some (.inl ([(x1_3, (0 : Int), (y1_3_.2.2.1))], 1, (w64 (x1_3 + (1 : Int)))))
      else
       some (.inl (([] : List (Int × Int × Int)), 0, (w64 (x1_3 + (1 : Int)))))
    else none
   else
    some (.inr (.inr (([] : List (Int × Int × Int)), 0)))
  | x1_0a :: x1_0t =>
   if x1_3 < x1_2 then
    if 0 ≤ x1_3 ∧ x1_3 < (Args.A.length : Int) then
     ((some ((Args.A).getD (x1_3).toNat (0, 0, 0, 0, 0, 0, nl0, 0)))).bind fun y1_3_ =>
     if x1_3 > (0 : Int) then
      if ((x1_1 : Nat) : Int) = (0 : Int) then
       some (.inr (.inl ()))
      else
       ((some (w64 (((x1_1 : Nat) : Int) - (1 : Int))))).bind fun y1_6_ =>
       if 0 ≤ y1_6_ ∧ y1_6_ < ((x1_1 : Nat) : Int) then
        if (y1_6_).toNat < ((x1_0a :: x1_0t)).length then
         ((some (((x1_0a :: x1_0t)).getD (y1_6_).toNat (0, 0, 0)))).bind fun y1_9_ =>
         if 0 ≤ (y1_9_.1) ∧ (y1_9_.1) < (Args.A.length : Int) then
          ((some ((Args.A).getD ((y1_9_.1)).toNat (0, 0, 0, 0, 0, 0, nl0, 0)))).bind fun y1_11_ =>
          if 0 ≤ (y1_9_.2.1) ∧ (y1_9_.2.1) < (y1_11_.2.2.2.2.2.2.1.l.length : Int) then
           if ((y1_9_.2.1)).toNat < (((y1_11_.2.2.2.2.2.2.1)).l).length then
            ((some ((((y1_11_.2.2.2.2.2.2.1)).l).getD ((y1_9_.2.1)).toNat 0))).bind fun y1_14_ =>
            if y1_14_ = x1_3 then
             if (y1_3_.2.2.1) < (y1_9_.2.2) then
              some (.inr (.inl ()))
             else
              if (y1_3_.2.2.2.2.1) > (y1_11_.2.2.2.2.1) then
               some (.inr (.inl ()))
              else
               if (w64 ((y1_9_.2.1) + (1 : Int))) = (y1_11_.2.2.2.2.2.2.1.l.length : Int) then
                if 0 ≤ y1_6_ ∧ y1_6_ ≤ ((x1_1 : Nat) : Int) then
                 if (y1_3_.2.2.2.2.2.2.1.l.length : Int) > (0 : Int) then
                  if (y1_6_).toNat ≤ ((((x1_0a :: x1_0t)).set (y1_6_).toNat ((y1_9_.1), (w64 ((y1_9_.2.1) + (1 : Int))), (y1_3_.2.2.2.2.1)))).length then
                   if ((y1_6_).toNat + 1) * 24 ≤ 140737488355328 then
                    some (.inl (((List.take (y1_6_).toNat (((x1_0a :: x1_0t)).set (y1_6_).toNat ((y1_9_.1), (w64 ((y1_9_.2.1) + (1 : Int))), (y1_3_.2.2.2.2.1)))) ++ [(x1_3, (0 : Int), (y1_3_.2.2.1))]), ((((List.take (y1_6_).toNat (((x1_0a :: x1_0t)).set (y1_6_).toNat ((y1_9_.1), (w64 ((y1_9_.2.1) + (1 : Int))), (y1_3_.2.2.2.2.1)))) ++ [(x1_3, (0 : Int), (y1_3_.2.2.1))])).length), (w64 (x1_3 + (1 : Int)))))
                   else none
                  else none
                 else
                  some (.inl ((((x1_0a :: x1_0t)).set (y1_6_).toNat ((y1_9_.1), (w64 ((y1_9_.2.1) + (1 : Int))), (y1_3_.2.2.2.2.1))), ((y1_6_).toNat), (w64 (x1_3 + (1 : Int)))))
                else none
               else
                if (y1_3_.2.2.2.2.2.2.1.l.length : Int) > (0 : Int) then
                 if x1_1 ≤ ((((x1_0a :: x1_0t)).set (y1_6_).toNat ((y1_9_.1), (w64 ((y1_9_.2.1) + (1 : Int))), (y1_3_.2.2.2.2.1)))).length then
                  if (x1_1 + 1) * 24 ≤ 140737488355328 then
                   some (.inl (((List.take x1_1 (((x1_0a :: x1_0t)).set (y1_6_).toNat ((y1_9_.1), (w64 ((y1_9_.2.1) + (1 : Int))), (y1_3_.2.2.2.2.1)))) ++ [(x1_3, (0 : Int), (y1_3_.2.2.1))]), ((((List.take x1_1 (((x1_0a :: x1_0t)).set (y1_6_).toNat ((y1_9_.1), (w64 ((y1_9_.2.1) + (1 : Int))), (y1_3_.2.2.2.2.1)))) ++ [(x1_3, (0 : Int), (y1_3_.2.2.1))])).length), (w64 (x1_3 + (1 : Int)))))
                  else none
                 else none
                else
                 some (.inl ((((x1_0a :: x1_0t)).set (y1_6_).toNat ((y1_9_.1), (w64 ((y1_9_.2.1) + (1 : Int))), (y1_3_.2.2.2.2.1))), x1_1, (w64 (x1_3 + (1 : Int)))))
            else
             some (.inr (.inl ()))
           else none
          else none
         else none
        else none
       else none
     else
      if (y1_3_.2.2.2.2.2.2.1.l.length : Int) > (0 : Int) then
       if x1_1 ≤ ((x1_0a :: x1_0t)).length then
        if (x1_1 + 1) * 24 ≤ 140737488355328 then
         some (.inl (((List.take x1_1 (x1_0a :: x1_0t)) ++ [(x1_3, (0 : Int), (y1_3_.2.2.1))]), ((((List.take x1_1 (x1_0a :: x1_0t)) ++ [(x1_3, (0 : Int), (y1_3_.2.2.1))])).length), (w64 (x1_3 + (1 : Int)))))
        else none
       else none
      else
       some (.inl ((x1_0a :: x1_0t), x1_1, (w64 (x1_3 + (1 : Int)))))
    else none
   else
    some (.inr (.inr ((x1_0a :: x1_0t), x1_1)))
def m_iOq1_1 (n : Nat) (x1_2 : Int) (st : List (Int × Int × Int) × Nat × Int) : Option ((Unit) ⊕ (List (Int × Int × Int) × Nat)) := iterM (B_iOq1_1 n x1_2) n st
theorem q_iOq1_1_0 (n : Nat) {rnd : Option Nat} (x1_1 : Nat) (x1_2 x1_3 : Int) (hy1_1 : x1_3 < x1_2) (hy1_2 : 0 ≤ x1_3 ∧ x1_3 < (Args.A.length : Int)) (y1_3_ : R8) (hy1_3 : (some ((Args.A).getD (x1_3).toNat (0, 0, 0, 0, 0, 0, nl0, 0))) = some y1_3_) (hy1_4 : x1_3 > (0 : Int)) : Q_iOq1_1 rnd x1_2 (([] : List (Int × Int × Int)), x1_1, x1_3) (X_iOq1_1 x1_2 (.inl ())) :=
 runC2 hm (L := lT []) ⟨[2], [], 0, 0, [], false, []⟩ (zz 1 (xdT hy1_1) <|
zz 8 (xk1 0 Args.cA hy1_2) <|
zz 9 (lk2 hy1_3 (toNatLt hy1_2)) <|
zz 16 (xdT hy1_4) <|
ee) (by kernel_rfl)
theorem q_iOq1_1_1 (n : Nat) {rnd : Option Nat} (x1_1 : Nat) (x1_2 x1_3 : Int) (hy1_1 : x1_3 < x1_2) (hy1_2 : 0 ≤ x1_3 ∧ x1_3 < (Args.A.length : Int)) (y1_3_ : R8) (hy1_3 : (some ((Args.A).getD (x1_3).toNat (0, 0, 0, 0, 0, 0, nl0, 0))) = some y1_3_) (hy1_4 : ¬ (x1_3 > (0 : Int))) (hy1_5 : (y1_3_.2.2.2.2.2.2.1.l.length : Int) > (0 : Int)) : Q_iOq1_1 rnd x1_2 (([] : List (Int × Int × Int)), x1_1, x1_3) (.normal, S_iOq1_1 x1_2 ([(x1_3, (0 : Int), (y1_3_.2.2.1))], 1, (w64 (x1_3 + (1 : Int))))) :=
 runC2 hm (L := lT []) ⟨[0, 3, 8, 9, 10], [(0, 3, false)], 1, 0, [], false, []⟩ (zz 1 (xdT hy1_1) <|
zz 8 (xk1 0 Args.cA hy1_2) <|
zz 9 (lk2 hy1_3 (toNatLt hy1_2)) <|
zz 16 (xdF hy1_4) <|
zz 22 (xdT hy1_5) <|
ee) (by kernel_rfl)
theorem q_iOq1_1_2 (n : Nat) {rnd : Option Nat} (x1_1 : Nat) (x1_2 x1_3 : Int) (hy1_1 : x1_3 < x1_2) (hy1_2 : 0 ≤ x1_3 ∧ x1_3 < (Args.A.length : Int)) (y1_3_ : R8) (hy1_3 : (some ((Args.A).getD (x1_3).toNat (0, 0, 0, 0, 0, 0, nl0, 0))) = some y1_3_) (hy1_4 : ¬ (x1_3 > (0 : Int))) (hy1_5 : ¬ ((y1_3_.2.2.2.2.2.2.1.l.length : Int) > (0 : Int))) : Q_iOq1_1 rnd x1_2 (([] : List (Int × Int × Int)), x1_1, x1_3) (.normal, S_iOq1_1 x1_2 (([] : List (Int × Int × Int)), 0, (w64 (x1_3 + (1 : Int))))) :=
 runC2 hm (L := lT []) ⟨[0, 3, 8, 9, 10], [], 1, 0, [], false, []⟩ (zz 1 (xdT hy1_1) <|
zz 8 (xk1 0 Args.cA hy1_2) <|
zz 9 (lk2 hy1_3 (toNatLt hy1_2)) <|
zz 16 (xdF hy1_4) <|
zz 22 (xdF hy1_5) <|
ee) (by kernel_rfl)
theorem q_iOq1_1_3 (n : Nat) {rnd : Option Nat} (x1_1 : Nat) (x1_2 x1_3 : Int) (hy1_1 : ¬ (x1_3 < x1_2)) : Q_iOq1_1 rnd x1_2 (([] : List (Int × Int × Int)), x1_1, x1_3) (X_iOq1_1 x1_2 (.inr (([] : List (Int × Int × Int)), 0))) :=
 runC2 hm (L := lT []) ⟨[3], [], 1, 0, [], false, []⟩ (zz 1 (xdF hy1_1) <|
ee) (by kernel_rfl)
theorem q_iOq1_1_4 (n : Nat) {rnd : Option Nat} (x1_0a : Int × Int × Int) (x1_0t : List (Int × Int × Int)) (x1_1 : Nat) (x1_2 x1_3 : Int) (hy1_1 : x1_3 < x1_2) (hy1_2 : 0 ≤ x1_3 ∧ x1_3 < (Args.A.length : Int)) (y1_3_ : R8) (hy1_3 : (some ((Args.A).getD (x1_3).toNat (0, 0, 0, 0, 0, 0, nl0, 0))) = some y1_3_) (hy1_4 : x1_3 > (0 : Int)) (hy1_5 : ((x1_1 : Nat) : Int) = (0 : Int)) : Q_iOq1_1 rnd x1_2 ((x1_0a :: x1_0t), x1_1, x1_3) (X_iOq1_1 x1_2 (.inl ())) :=
 runC2 hm (L := lT []) ⟨[2], [], 0, 0, [], false, []⟩ (zz 1 (xdT hy1_1) <|
zz 8 (xk1 0 Args.cA hy1_2) <|
zz 9 (lk2 hy1_3 (toNatLt hy1_2)) <|
zz 16 (xdT hy1_4) <|
zz 22 (xeT hy1_5) <|
ee) (by kernel_rfl)
theorem q_iOq1_1_5 (n : Nat) {rnd : Option Nat} (x1_0a : Int × Int × Int) (x1_0t : List (Int × Int × Int)) (x1_1 : Nat) (x1_2 x1_3 : Int) (hy1_1 : x1_3 < x1_2) (hy1_2 : 0 ≤ x1_3 ∧ x1_3 < (Args.A.length : Int)) (y1_3_ : R8) (hy1_3 : (some ((Args.A).getD (x1_3).toNat (0, 0, 0, 0, 0, 0, nl0, 0))) = some y1_3_) (hy1_4 : x1_3 > (0 : Int)) (hy1_5 : ¬ (((x1_1 : Nat) : Int) = (0 : Int))) (y1_6_ : Int) (hy1_6 : (some (w64 (((x1_1 : Nat) : Int) - (1 : Int)))) = some y1_6_) (hy1_7 : 0 ≤ y1_6_ ∧ y1_6_ < ((x1_1 : Nat) : Int)) (hy1_8 : (y1_6_).toNat < ((x1_0a :: x1_0t)).length) (y1_9_ : Int × Int × Int) (hy1_9 : (some (((x1_0a :: x1_0t)).getD (y1_6_).toNat (0, 0, 0))) = some y1_9_) (hy1_10 : 0 ≤ (y1_9_.1) ∧ (y1_9_.1) < (Args.A.length : Int)) (y1_11_ : R8) (hy1_11 : (some ((Args.A).getD ((y1_9_.1)).toNat (0, 0, 0, 0, 0, 0, nl0, 0))) = some y1_11_) (hy1_12 : 0 ≤ (y1_9_.2.1) ∧ (y1_9_.2.1) < (y1_11_.2.2.2.2.2.2.1.l.length : Int)) (hy1_13 : ((y1_9_.2.1)).toNat < (((y1_11_.2.2.2.2.2.2.1)).l).length) (y1_14_ : Int) (hy1_14 : (some ((((y1_11_.2.2.2.2.2.2.1)).l).getD ((y1_9_.2.1)).toNat 0)) = some y1_14_) (hy1_15 : y1_14_ = x1_3) (hy1_16 : (y1_3_.2.2.1) < (y1_9_.2.2)) : Q_iOq1_1 rnd x1_2 ((x1_0a :: x1_0t), x1_1, x1_3) (X_iOq1_1 x1_2 (.inl ())) :=
 runC2 hm (L := lT []) ⟨[2], [], 0, 0, [], false, []⟩ (zz 1 (xdT hy1_1) <|
zz 8 (xk1 0 Args.cA hy1_2) <|
zz 9 (lk2 hy1_3 (toNatLt hy1_2)) <|
zz 16 (xdT hy1_4) <|
zz 22 (xeF hy1_5) <|
zz 28 (xnm hy1_6) <|
zz 29 (xk15 0 U3 hy1_7) <|
zz 36 (ok16 hy1_9 (hy1_8)) <|
zz 37 (xk1 0 Args.cA hy1_10) <|
zz 38 (lk2 hy1_11 (toNatLt hy1_10)) <|
zz 48 (ok17 hy1_9 (hy1_8)) <|
zz 49 (xk9 (Nat.add ((y1_11_.2.2.2.2.2.2.1)).num 64) ((y1_11_.2.2.2.2.2.2.1)).cap hy1_12) <|
zz 50 (nk10 hy1_14 hy1_13) <|
zz 52 (xnF hy1_15) <|
zz 59 (ok18 hy1_9 (hy1_8)) <|
zz 60 (xdT hy1_16) <|
ee) (by kernel_rfl)
theorem q_iOq1_1_6 (n : Nat) {rnd : Option Nat} (x1_0a : Int × Int × Int) (x1_0t : List (Int × Int × Int)) (x1_1 : Nat) (x1_2 x1_3 : Int) (hy1_1 : x1_3 < x1_2) (hy1_2 : 0 ≤ x1_3 ∧ x1_3 < (Args.A.length : Int)) (y1_3_ : R8) (hy1_3 : (some ((Args.A).getD (x1_3).toNat (0, 0, 0, 0, 0, 0, nl0, 0))) = some y1_3_) (hy1_4 : x1_3 > (0 : Int)) (hy1_5 : ¬ (((x1_1 : Nat) : Int) = (0 : Int))) (y1_6_ : Int) (hy1_6 : (some (w64 (((x1_1 : Nat) : Int) - (1 : Int)))) = some y1_6_) (hy1_7 : 0 ≤ y1_6_ ∧ y1_6_ < ((x1_1 : Nat) : Int)) (hy1_8 : (y1_6_).toNat < ((x1_0a :: x1_0t)).length) (y1_9_ : Int × Int × Int) (hy1_9 : (some (((x1_0a :: x1_0t)).getD (y1_6_).toNat (0, 0, 0))) = some y1_9_) (hy1_10 : 0 ≤ (y1_9_.1) ∧ (y1_9_.1) < (Args.A.length : Int)) (y1_11_ : R8) (hy1_11 : (some ((Args.A).getD ((y1_9_.1)).toNat (0, 0, 0, 0, 0, 0, nl0, 0))) = some y1_11_) (hy1_12 : 0 ≤ (y1_9_.2.1) ∧ (y1_9_.2.1) < (y1_11_.2.2.2.2.2.2.1.l.length : Int)) (hy1_13 : ((y1_9_.2.1)).toNat < (((y1_11_.2.2.2.2.2.2.1)).l).length) (y1_14_ : Int) (hy1_14 : (some ((((y1_11_.2.2.2.2.2.2.1)).l).getD ((y1_9_.2.1)).toNat 0)) = some y1_14_) (hy1_15 : y1_14_ = x1_3) (hy1_16 : ¬ ((y1_3_.2.2.1) < (y1_9_.2.2))) (hy1_17 : (y1_3_.2.2.2.2.1) > (y1_11_.2.2.2.2.1)) : Q_iOq1_1 rnd x1_2 ((x1_0a :: x1_0t), x1_1, x1_3) (X_iOq1_1 x1_2 (.inl ())) :=
 runC2 hm (L := lT []) ⟨[2], [], 0, 0, [], false, []⟩ (zz 1 (xdT hy1_1) <|
zz 8 (xk1 0 Args.cA hy1_2) <|
zz 9 (lk2 hy1_3 (toNatLt hy1_2)) <|
zz 16 (xdT hy1_4) <|
zz 22 (xeF hy1_5) <|
zz 28 (xnm hy1_6) <|
zz 29 (xk15 0 U3 hy1_7) <|
zz 36 (ok16 hy1_9 (hy1_8)) <|
zz 37 (xk1 0 Args.cA hy1_10) <|
zz 38 (lk2 hy1_11 (toNatLt hy1_10)) <|
zz 48 (ok17 hy1_9 (hy1_8)) <|
zz 49 (xk9 (Nat.add ((y1_11_.2.2.2.2.2.2.1)).num 64) ((y1_11_.2.2.2.2.2.2.1)).cap hy1_12) <|
zz 50 (nk10 hy1_14 hy1_13) <|
zz 52 (xnF hy1_15) <|
zz 59 (ok18 hy1_9 (hy1_8)) <|
zz 60 (xdF hy1_16) <|
zz 67 (xdT hy1_17) <|
ee) (by kernel_rfl)
theorem q_iOq1_1_7 (n : Nat) {rnd : Option Nat} (x1_0a : Int × Int × Int) (x1_0t : List (Int × Int × Int)) (x1_1 : Nat) (x1_2 x1_3 : Int) (hy1_1 : x1_3 < x1_2) (hy1_2 : 0 ≤ x1_3 ∧ x1_3 < (Args.A.length : Int)) (y1_3_ : R8) (hy1_3 : (some ((Args.A).getD (x1_3).toNat (0, 0, 0, 0, 0, 0, nl0, 0))) = some y1_3_) (hy1_4 : x1_3 > (0 : Int)) (hy1_5 : ¬ (((x1_1 : Nat) : Int) = (0 : Int))) (y1_6_ : Int) (hy1_6 : (some (w64 (((x1_1 : Nat) : Int) - (1 : Int)))) = some y1_6_) (hy1_7 : 0 ≤ y1_6_ ∧ y1_6_ < ((x1_1 : Nat) : Int)) (hy1_8 : (y1_6_).toNat < ((x1_0a :: x1_0t)).length) (y1_9_ : Int × Int × Int) (hy1_9 : (some (((x1_0a :: x1_0t)).getD (y1_6_).toNat (0, 0, 0))) = some y1_9_) (hy1_10 : 0 ≤ (y1_9_.1) ∧ (y1_9_.1) < (Args.A.length : Int)) (y1_11_ : R8) (hy1_11 : (some ((Args.A).getD ((y1_9_.1)).toNat (0, 0, 0, 0, 0, 0, nl0, 0))) = some y1_11_) (hy1_12 : 0 ≤ (y1_9_.2.1) ∧ (y1_9_.2.1) < (y1_11_.2.2.2.2.2.2.1.l.length : Int)) (hy1_13 : ((y1_9_.2.1)).toNat < (((y1_11_.2.2.2.2.2.2.1)).l).length) (y1_14_ : Int) (hy1_14 : (some ((((y1_11_.2.2.2.2.2.2.1)).l).getD ((y1_9_.2.1)).toNat 0)) = some y1_14_) (hy1_15 : y1_14_ = x1_3) (hy1_16 : ¬ ((y1_3_.2.2.1) < (y1_9_.2.2))) (hy1_17 : ¬ ((y1_3_.2.2.2.2.1) > (y1_11_.2.2.2.2.1))) (hy1_18 : (w64 ((y1_9_.2.1) + (1 : Int))) = (y1_11_.2.2.2.2.2.2.1.l.length : Int)) (hy1_19 : 0 ≤ y1_6_ ∧ y1_6_ ≤ ((x1_1 : Nat) : Int)) (hy1_20 : (y1_3_.2.2.2.2.2.2.1.l.length : Int) > (0 : Int)) (hy1_21 : (y1_6_).toNat ≤ ((((x1_0a :: x1_0t)).set (y1_6_).toNat ((y1_9_.1), (w64 ((y1_9_.2.1) + (1 : Int))), (y1_3_.2.2.2.2.1)))).length) (hy1_22 : ((y1_6_).toNat + 1) * 24 ≤ 140737488355328) : Q_iOq1_1 rnd x1_2 ((x1_0a :: x1_0t), x1_1, x1_3) (.normal, S_iOq1_1 x1_2 (((List.take (y1_6_).toNat (((x1_0a :: x1_0t)).set (y1_6_).toNat ((y1_9_.1), (w64 ((y1_9_.2.1) + (1 : Int))), (y1_3_.2.2.2.2.1)))) ++ [(x1_3, (0 : Int), (y1_3_.2.2.1))]), ((((List.take (y1_6_).toNat (((x1_0a :: x1_0t)).set (y1_6_).toNat ((y1_9_.1), (w64 ((y1_9_.2.1) + (1 : Int))), (y1_3_.2.2.2.2.1)))) ++ [(x1_3, (0 : Int), (y1_3_.2.2.1))])).length), (w64 (x1_3 + (1 : Int))))) :=
 by
 obtain ⟨za, zt, hz⟩ : ∃ a t, ((List.take (y1_6_).toNat (((x1_0a :: x1_0t)).set (y1_6_).toNat ((y1_9_.1), (w64 ((y1_9_.2.1) + (1 : Int))), (y1_3_.2.2.2.2.1)))) ++ [(x1_3, (0 : Int), (y1_3_.2.2.1))]) = a :: t := snoc_cons (List.take (y1_6_).toNat (((x1_0a :: x1_0t)).set (y1_6_).toNat ((y1_9_.1), (w64 ((y1_9_.2.1) + (1 : Int))), (y1_3_.2.2.2.2.1)))) (x1_3, (0 : Int), (y1_3_.2.2.1))
 rw [hz]
 exact runC2 hm (L := lT []) ⟨[0, 3, 8, 9, 10], [(0, 4, true)], 1, 0, [], false, []⟩ (zz 1 (xdT hy1_1) <|
zz 8 (xk1 0 Args.cA hy1_2) <|
zz 9 (lk2 hy1_3 (toNatLt hy1_2)) <|
zz 16 (xdT hy1_4) <|
zz 22 (xeF hy1_5) <|
zz 28 (xnm hy1_6) <|
zz 29 (xk15 0 U3 hy1_7) <|
zz 36 (ok16 hy1_9 (hy1_8)) <|
zz 37 (xk1 0 Args.cA hy1_10) <|
zz 38 (lk2 hy1_11 (toNatLt hy1_10)) <|
zz 48 (ok17 hy1_9 (hy1_8)) <|
zz 49 (xk9 (Nat.add ((y1_11_.2.2.2.2.2.2.1)).num 64) ((y1_11_.2.2.2.2.2.2.1)).cap hy1_12) <|
zz 50 (nk10 hy1_14 hy1_13) <|
zz 52 (xnF hy1_15) <|
zz 59 (ok18 hy1_9 (hy1_8)) <|
zz 60 (xdF hy1_16) <|
zz 67 (xdF hy1_17) <|
zz 76 (ok17 hy1_9 (hy1_8)) <|
yy 82 (.sto (layT (rows rw_iii (((x1_0a :: x1_0t)).set (y1_6_).toNat ((y1_9_.1), (w64 ((y1_9_.2.1) + (1 : Int))), (y1_9_.2.2)))))) <|
ww (p := ∃ old, rdT (layT (rows rw_iii (x1_0a :: x1_0t))) 1 (Nat.add ((y1_6_).toNat * 3) 1) = some old) (Exists.elim (rows_stN rwf_iii (0, 0, 0) (hr := hy1_9) (i := (y1_6_).toNat) (j := 1) (l := [(i6 (w64 ((y1_9_.2.1) + (1 : Int))))]) ((y1_9_.1), (w64 ((y1_9_.2.1) + (1 : Int))), (y1_9_.2.2)) (Nat.add ((y1_6_).toNat * 3) 1) rfl (hy1_8) (Nat.le_of_ble_eq_true rfl) rfl) fun o h => ⟨o, h.1⟩) <|
ww (p := layL [(i6 (w64 ((y1_9_.2.1) + (1 : Int))))] (Nat.add ((y1_6_).toNat * 3) 1) (layT (rows rw_iii (x1_0a :: x1_0t))) = layT (rows rw_iii (((x1_0a :: x1_0t)).set (y1_6_).toNat ((y1_9_.1), (w64 ((y1_9_.2.1) + (1 : Int))), (y1_9_.2.2))))) (Exists.elim (rows_stN rwf_iii (0, 0, 0) (hr := hy1_9) (i := (y1_6_).toNat) (j := 1) (l := [(i6 (w64 ((y1_9_.2.1) + (1 : Int))))]) ((y1_9_.1), (w64 ((y1_9_.2.1) + (1 : Int))), (y1_9_.2.2)) (Nat.add ((y1_6_).toNat * 3) 1) rfl (hy1_8) (Nat.le_of_ble_eq_true rfl) rfl) fun o h => h.2) <|
yy 85 (.sto (layT (rows rw_iii (((x1_0a :: x1_0t)).set (y1_6_).toNat ((y1_9_.1), (w64 ((y1_9_.2.1) + (1 : Int))), (y1_3_.2.2.2.2.1)))))) <|
ww (p := ∃ old, rdT (layT (rows rw_iii (((x1_0a :: x1_0t)).set (y1_6_).toNat ((y1_9_.1), (w64 ((y1_9_.2.1) + (1 : Int))), (y1_9_.2.2))))) 1 (Nat.add ((y1_6_).toNat * 3) 2) = some old) (Exists.elim (rows_stS rwf_iii (i := (y1_6_).toNat) (j := 2) (l := [(i6 (y1_3_.2.2.2.2.1))]) ((y1_9_.1), (w64 ((y1_9_.2.1) + (1 : Int))), (y1_9_.2.2)) ((y1_9_.1), (w64 ((y1_9_.2.1) + (1 : Int))), (y1_3_.2.2.2.2.1)) (Nat.add ((y1_6_).toNat * 3) 2) rfl (hy1_8) (Nat.le_of_ble_eq_true rfl) rfl) fun o h => ⟨o, h.1⟩) <|
ww (p := layL [(i6 (y1_3_.2.2.2.2.1))] (Nat.add ((y1_6_).toNat * 3) 2) (layT (rows rw_iii (((x1_0a :: x1_0t)).set (y1_6_).toNat ((y1_9_.1), (w64 ((y1_9_.2.1) + (1 : Int))), (y1_9_.2.2))))) = layT (rows rw_iii (((x1_0a :: x1_0t)).set (y1_6_).toNat ((y1_9_.1), (w64 ((y1_9_.2.1) + (1 : Int))), (y1_3_.2.2.2.2.1))))) (Exists.elim (rows_stS rwf_iii (i := (y1_6_).toNat) (j := 2) (l := [(i6 (y1_3_.2.2.2.2.1))]) ((y1_9_.1), (w64 ((y1_9_.2.1) + (1 : Int))), (y1_9_.2.2)) ((y1_9_.1), (w64 ((y1_9_.2.1) + (1 : Int))), (y1_3_.2.2.2.2.1)) (Nat.add ((y1_6_).toNat * 3) 2) rfl (hy1_8) (Nat.le_of_ble_eq_true rfl) rfl) fun o h => h.2) <|
yy 90 (.ld (i6 (w64 ((y1_9_.2.1) + (1 : Int))))) <|
ww (p := (layT (rows rw_iii (((x1_0a :: x1_0t)).set (y1_6_).toNat ((y1_9_.1), (w64 ((y1_9_.2.1) + (1 : Int))), (y1_3_.2.2.2.2.1))))).get (Nat.add ((y1_6_).toNat * 3) 1) = some (i6 (w64 ((y1_9_.2.1) + (1 : Int))))) (rows_ldS rwf_iii (i := (y1_6_).toNat) (j := 1) ((y1_9_.1), (w64 ((y1_9_.2.1) + (1 : Int))), (y1_3_.2.2.2.2.1)) (Nat.add ((y1_6_).toNat * 3) 1) rfl (hy1_8) (by decide) rfl) <|
zz 94 (xeT hy1_18) <|
zz 99 (xnm hy1_6) <|
yy 100 (.pur (sN 0 0 (y1_6_).toNat (Nat.add big 3))) <|
ww (p := opSlice P 69 (sN 0 0 x1_1 (Nat.add big 3)) none (some (i6 y1_6_)) none Ax.h0 = some ((sN 0 0 (y1_6_).toNat (Nat.add big 3)), Ax.h0)) (slRowHi (e := 72) (es := 3) (by kernel_rfl) (by kernel_rfl) rfl rfl hy1_19) <|
zz 106 (xdT hy1_20) <|
yy 114 (.app ⟨none, rows rw_iii (List.take (y1_6_).toNat (((x1_0a :: x1_0t)).set (y1_6_).toNat ((y1_9_.1), (w64 ((y1_9_.2.1) + (1 : Int))), (y1_3_.2.2.2.2.1)))), (rows rw_iii (za :: zt)), ((za :: zt)).length, false⟩) <|
ww (p := 0 < 1) ((by decide)) <|
ww (p := rdT (layT (rows rw_iii (((x1_0a :: x1_0t)).set (y1_6_).toNat ((y1_9_.1), (w64 ((y1_9_.2.1) + (1 : Int))), (y1_3_.2.2.2.2.1))))) (Nat.mul (y1_6_).toNat 3) 0 = some (rows rw_iii (List.take (y1_6_).toNat (((x1_0a :: x1_0t)).set (y1_6_).toNat ((y1_9_.1), (w64 ((y1_9_.2.1) + (1 : Int))), (y1_3_.2.2.2.2.1)))))) (rows_rdTake rwf_iii _ _ hy1_21) <|
ww (p := fits (Nat.add (y1_6_).toNat 1) 24 = true) (fits_ok hy1_22 (by have := hy1_22; show (_ : Nat) + _ ≤ _; omega)) <|
ww (p := allCells [(i6 x1_3), (i6 (0 : Int)), (i6 (y1_3_.2.2.1))] = true) (rfl) <|
ww (p := allCells (rows rw_iii (List.take (y1_6_).toNat (((x1_0a :: x1_0t)).set (y1_6_).toNat ((y1_9_.1), (w64 ((y1_9_.2.1) + (1 : Int))), (y1_3_.2.2.2.2.1))))) = true) (rows_cells rwf_iii _) <|
ww (p := rows rw_iii (List.take (y1_6_).toNat (((x1_0a :: x1_0t)).set (y1_6_).toNat ((y1_9_.1), (w64 ((y1_9_.2.1) + (1 : Int))), (y1_3_.2.2.2.2.1)))) ++ [(i6 x1_3), (i6 (0 : Int)), (i6 (y1_3_.2.2.1))] = (rows rw_iii (za :: zt))) (by rw [← hz]; exact (rows_app rw_iii (List.take (y1_6_).toNat (((x1_0a :: x1_0t)).set (y1_6_).toNat ((y1_9_.1), (w64 ((y1_9_.2.1) + (1 : Int))), (y1_3_.2.2.2.2.1)))) [(x1_3, (0 : Int), (y1_3_.2.2.1))])) <|
ww (p := Nat.add (y1_6_).toNat 1 = ((za :: zt)).length) (by rw [← hz]; exact (take_len hy1_21 rfl)) <|
ww (rows_flat rwf_iii (za :: zt) 72) <|
ee) (by kernel_rfl)
theorem q_iOq1_1_8 (n : Nat) {rnd : Option Nat} (x1_0a : Int × Int × Int) (x1_0t : List (Int × Int × Int)) (x1_1 : Nat) (x1_2 x1_3 : Int) (hy1_1 : x1_3 < x1_2) (hy1_2 : 0 ≤ x1_3 ∧ x1_3 < (Args.A.length : Int)) (y1_3_ : R8) (hy1_3 : (some ((Args.A).getD (x1_3).toNat (0, 0, 0, 0, 0, 0, nl0, 0))) = some y1_3_) (hy1_4 : x1_3 > (0 : Int)) (hy1_5 : ¬ (((x1_1 : Nat) : Int) = (0 : Int))) (y1_6_ : Int) (hy1_6 : (some (w64 (((x1_1 : Nat) : Int) - (1 : Int)))) = some y1_6_) (hy1_7 : 0 ≤ y1_6_ ∧ y1_6_ < ((x1_1 : Nat) : Int)) (hy1_8 : (y1_6_).toNat < ((x1_0a :: x1_0t)).length) (y1_9_ : Int × Int × Int) (hy1_9 : (some (((x1_0a :: x1_0t)).getD (y1_6_).toNat (0, 0, 0))) = some y1_9_) (hy1_10 : 0 ≤ (y1_9_.1) ∧ (y1_9_.1) < (Args.A.length : Int)) (y1_11_ : R8) (hy1_11 : (some ((Args.A).getD ((y1_9_.1)).toNat (0, 0, 0, 0, 0, 0, nl0, 0))) = some y1_11_) (hy1_12 : 0 ≤ (y1_9_.2.1) ∧ (y1_9_.2.1) < (y1_11_.2.2.2.2.2.2.1.l.length : Int)) (hy1_13 : ((y1_9_.2.1)).toNat < (((y1_11_.2.2.2.2.2.2.1)).l).length) (y1_14_ : Int) (hy1_14 : (some ((((y1_11_.2.2.2.2.2.2.1)).l).getD ((y1_9_.2.1)).toNat 0)) = some y1_14_) (hy1_15 : y1_14_ = x1_3) (hy1_16 : ¬ ((y1_3_.2.2.1) < (y1_9_.2.2))) (hy1_17 : ¬ ((y1_3_.2.2.2.2.1) > (y1_11_.2.2.2.2.1))) (hy1_18 : (w64 ((y1_9_.2.1) + (1 : Int))) = (y1_11_.2.2.2.2.2.2.1.l.length : Int)) (hy1_19 : 0 ≤ y1_6_ ∧ y1_6_ ≤ ((x1_1 : Nat) : Int)) (hy1_20 : ¬ ((y1_3_.2.2.2.2.2.2.1.l.length : Int) > (0 : Int))) : Q_iOq1_1 rnd x1_2 ((x1_0a :: x1_0t), x1_1, x1_3) (.normal, S_iOq1_1 x1_2 ((((x1_0a :: x1_0t)).set (y1_6_).toNat ((y1_9_.1), (w64 ((y1_9_.2.1) + (1 : Int))), (y1_3_.2.2.2.2.1))), ((y1_6_).toNat), (w64 (x1_3 + (1 : Int))))) :=
 by
 obtain ⟨za, zt, hz⟩ : ∃ a t, (((x1_0a :: x1_0t)).set (y1_6_).toNat ((y1_9_.1), (w64 ((y1_9_.2.1) + (1 : Int))), (y1_3_.2.2.2.2.1))) = a :: t := set_cons
 rw [hz]
 exact runC2 hm (L := lT []) ⟨[0, 3, 8, 9, 10], [(0, 0, true)], 1, 0, [], false, []⟩ (zz 1 (xdT hy1_1) <|
zz 8 (xk1 0 Args.cA hy1_2) <|
zz 9 (lk2 hy1_3 (toNatLt hy1_2)) <|
zz 16 (xdT hy1_4) <|
zz 22 (xeF hy1_5) <|
zz 28 (xnm hy1_6) <|
zz 29 (xk15 0 U3 hy1_7) <|
zz 36 (ok16 hy1_9 (hy1_8)) <|
zz 37 (xk1 0 Args.cA hy1_10) <|
zz 38 (lk2 hy1_11 (toNatLt hy1_10)) <|
zz 48 (ok17 hy1_9 (hy1_8)) <|
zz 49 (xk9 (Nat.add ((y1_11_.2.2.2.2.2.2.1)).num 64) ((y1_11_.2.2.2.2.2.2.1)).cap hy1_12) <|
zz 50 (nk10 hy1_14 hy1_13) <|
zz 52 (xnF hy1_15) <|
zz 59 (ok18 hy1_9 (hy1_8)) <|
zz 60 (xdF hy1_16) <|
zz 67 (xdF hy1_17) <|
zz 76 (ok17 hy1_9 (hy1_8)) <|
yy 82 (.sto (layT (rows rw_iii (((x1_0a :: x1_0t)).set (y1_6_).toNat ((y1_9_.1), (w64 ((y1_9_.2.1) + (1 : Int))), (y1_9_.2.2)))))) <|
ww (p := ∃ old, rdT (layT (rows rw_iii (x1_0a :: x1_0t))) 1 (Nat.add ((y1_6_).toNat * 3) 1) = some old) (Exists.elim (rows_stN rwf_iii (0, 0, 0) (hr := hy1_9) (i := (y1_6_).toNat) (j := 1) (l := [(i6 (w64 ((y1_9_.2.1) + (1 : Int))))]) ((y1_9_.1), (w64 ((y1_9_.2.1) + (1 : Int))), (y1_9_.2.2)) (Nat.add ((y1_6_).toNat * 3) 1) rfl (hy1_8) (Nat.le_of_ble_eq_true rfl) rfl) fun o h => ⟨o, h.1⟩) <|
ww (p := layL [(i6 (w64 ((y1_9_.2.1) + (1 : Int))))] (Nat.add ((y1_6_).toNat * 3) 1) (layT (rows rw_iii (x1_0a :: x1_0t))) = layT (rows rw_iii (((x1_0a :: x1_0t)).set (y1_6_).toNat ((y1_9_.1), (w64 ((y1_9_.2.1) + (1 : Int))), (y1_9_.2.2))))) (Exists.elim (rows_stN rwf_iii (0, 0, 0) (hr := hy1_9) (i := (y1_6_).toNat) (j := 1) (l := [(i6 (w64 ((y1_9_.2.1) + (1 : Int))))]) ((y1_9_.1), (w64 ((y1_9_.2.1) + (1 : Int))), (y1_9_.2.2)) (Nat.add ((y1_6_).toNat * 3) 1) rfl (hy1_8) (Nat.le_of_ble_eq_true rfl) rfl) fun o h => h.2) <|
yy 85 (.sto (layT (rows rw_iii (za :: zt)))) <|
ww (p := ∃ old, rdT (layT (rows rw_iii (((x1_0a :: x1_0t)).set (y1_6_).toNat ((y1_9_.1), (w64 ((y1_9_.2.1) + (1 : Int))), (y1_9_.2.2))))) 1 (Nat.add ((y1_6_).toNat * 3) 2) = some old) (Exists.elim (rows_stS rwf_iii (i := (y1_6_).toNat) (j := 2) (l := [(i6 (y1_3_.2.2.2.2.1))]) ((y1_9_.1), (w64 ((y1_9_.2.1) + (1 : Int))), (y1_9_.2.2)) ((y1_9_.1), (w64 ((y1_9_.2.1) + (1 : Int))), (y1_3_.2.2.2.2.1)) (Nat.add ((y1_6_).toNat * 3) 2) rfl (hy1_8) (Nat.le_of_ble_eq_true rfl) rfl) fun o h => ⟨o, h.1⟩) <|
ww (p := layL [(i6 (y1_3_.2.2.2.2.1))] (Nat.add ((y1_6_).toNat * 3) 2) (layT (rows rw_iii (((x1_0a :: x1_0t)).set (y1_6_).toNat ((y1_9_.1), (w64 ((y1_9_.2.1) + (1 : Int))), (y1_9_.2.2))))) = layT (rows rw_iii (za :: zt))) (by rw [← hz]; exact (Exists.elim (rows_stS rwf_iii (i := (y1_6_).toNat) (j := 2) (l := [(i6 (y1_3_.2.2.2.2.1))]) ((y1_9_.1), (w64 ((y1_9_.2.1) + (1 : Int))), (y1_9_.2.2)) ((y1_9_.1), (w64 ((y1_9_.2.1) + (1 : Int))), (y1_3_.2.2.2.2.1)) (Nat.add ((y1_6_).toNat * 3) 2) rfl (hy1_8) (Nat.le_of_ble_eq_true rfl) rfl) fun o h => h.2)) <|
yy 90 (.ld (i6 (w64 ((y1_9_.2.1) + (1 : Int))))) <|
ww (p := (layT (rows rw_iii (za :: zt))).get (Nat.add ((y1_6_).toNat * 3) 1) = some (i6 (w64 ((y1_9_.2.1) + (1 : Int))))) (by rw [← hz]; exact (rows_ldS rwf_iii (i := (y1_6_).toNat) (j := 1) ((y1_9_.1), (w64 ((y1_9_.2.1) + (1 : Int))), (y1_3_.2.2.2.2.1)) (Nat.add ((y1_6_).toNat * 3) 1) rfl (hy1_8) (by decide) rfl)) <|
zz 94 (xeT hy1_18) <|
zz 99 (xnm hy1_6) <|
yy 100 (.pur (sN 0 0 (y1_6_).toNat (Nat.add big 3))) <|
ww (p := opSlice P 69 (sN 0 0 x1_1 (Nat.add big 3)) none (some (i6 y1_6_)) none Ax.h0 = some ((sN 0 0 (y1_6_).toNat (Nat.add big 3)), Ax.h0)) (slRowHi (e := 72) (es := 3) (by kernel_rfl) (by kernel_rfl) rfl rfl hy1_19) <|
zz 106 (xdF hy1_20) <|
ww (rows_flat rwf_iii (za :: zt) 72) <|
ee) (by kernel_rfl)
theorem q_iOq1_1_9 (n : Nat) {rnd : Option Nat} (x1_0a : Int × Int × Int) (x1_0t : List (Int × Int × Int)) (x1_1 : Nat) (x1_2 x1_3 : Int) (hy1_1 : x1_3 < x1_2) (hy1_2 : 0 ≤ x1_3 ∧ x1_3 < (Args.A.length : Int)) (y1_3_ : R8) (hy1_3 : (some ((Args.A).getD (x1_3).toNat (0, 0, 0, 0, 0, 0, nl0, 0))) = some y1_3_) (hy1_4 : x1_3 > (0 : Int)) (hy1_5 : ¬ (((x1_1 : Nat) : Int) = (0 : Int))) (y1_6_ : Int) (hy1_6 : (some (w64 (((x1_1 : Nat) : Int) - (1 : Int)))) = some y1_6_) (hy1_7 : 0 ≤ y1_6_ ∧ y1_6_ < ((x1_1 : Nat) : Int)) (hy1_8 : (y1_6_).toNat < ((x1_0a :: x1_0t)).length) (y1_9_ : Int × Int × Int) (hy1_9 : (some (((x1_0a :: x1_0t)).getD (y1_6_).toNat (0, 0, 0))) = some y1_9_) (hy1_10 : 0 ≤ (y1_9_.1) ∧ (y1_9_.1) < (Args.A.length : Int)) (y1_11_ : R8) (hy1_11 : (some ((Args.A).getD ((y1_9_.1)).toNat (0, 0, 0, 0, 0, 0, nl0, 0))) = some y1_11_) (hy1_12 : 0 ≤ (y1_9_.2.1) ∧ (y1_9_.2.1) < (y1_11_.2.2.2.2.2.2.1.l.length : Int)) (hy1_13 : ((y1_9_.2.1)).toNat < (((y1_11_.2.2.2.2.2.2.1)).l).length) (y1_14_ : Int) (hy1_14 : (some ((((y1_11_.2.2.2.2.2.2.1)).l).getD ((y1_9_.2.1)).toNat 0)) = some y1_14_) (hy1_15 : y1_14_ = x1_3) (hy1_16 : ¬ ((y1_3_.2.2.1) < (y1_9_.2.2))) (hy1_17 : ¬ ((y1_3_.2.2.2.2.1) > (y1_11_.2.2.2.2.1))) (hy1_18 : ¬ ((w64 ((y1_9_.2.1) + (1 : Int))) = (y1_11_.2.2.2.2.2.2.1.l.length : Int))) (hy1_19 : (y1_3_.2.2.2.2.2.2.1.l.length : Int) > (0 : Int)) (hy1_20 : x1_1 ≤ ((((x1_0a :: x1_0t)).set (y1_6_).toNat ((y1_9_.1), (w64 ((y1_9_.2.1) + (1 : Int))), (y1_3_.2.2.2.2.1)))).length) (hy1_21 : (x1_1 + 1) * 24 ≤ 140737488355328) : Q_iOq1_1 rnd x1_2 ((x1_0a :: x1_0t), x1_1, x1_3) (.normal, S_iOq1_1 x1_2 (((List.take x1_1 (((x1_0a :: x1_0t)).set (y1_6_).toNat ((y1_9_.1), (w64 ((y1_9_.2.1) + (1 : Int))), (y1_3_.2.2.2.2.1)))) ++ [(x1_3, (0 : Int), (y1_3_.2.2.1))]), ((((List.take x1_1 (((x1_0a :: x1_0t)).set (y1_6_).toNat ((y1_9_.1), (w64 ((y1_9_.2.1) + (1 : Int))), (y1_3_.2.2.2.2.1)))) ++ [(x1_3, (0 : Int), (y1_3_.2.2.1))])).length), (w64 (x1_3 + (1 : Int))))) :=
 by
 obtain ⟨za, zt, hz⟩ : ∃ a t, ((List.take x1_1 (((x1_0a :: x1_0t)).set (y1_6_).toNat ((y1_9_.1), (w64 ((y1_9_.2.1) + (1 : Int))), (y1_3_.2.2.2.2.1)))) ++ [(x1_3, (0 : Int), (y1_3_.2.2.1))]) = a :: t := snoc_cons (List.take x1_1 (((x1_0a :: x1_0t)).set (y1_6_).toNat ((y1_9_.1), (w64 ((y1_9_.2.1) + (1 : Int))), (y1_3_.2.2.2.2.1)))) (x1_3, (0 : Int), (y1_3_.2.2.1))
 rw [hz]
 exact runC2 hm (L := lT []) ⟨[0, 3, 8, 9, 10], [(0, 4, true)], 1, 0, [], false, []⟩ (zz 1 (xdT hy1_1) <|
zz 8 (xk1 0 Args.cA hy1_2) <|
zz 9 (lk2 hy1_3 (toNatLt hy1_2)) <|
zz 16 (xdT hy1_4) <|
zz 22 (xeF hy1_5) <|
zz 28 (xnm hy1_6) <|
zz 29 (xk15 0 U3 hy1_7) <|
zz 36 (ok16 hy1_9 (hy1_8)) <|
zz 37 (xk1 0 Args.cA hy1_10) <|
zz 38 (lk2 hy1_11 (toNatLt hy1_10)) <|
zz 48 (ok17 hy1_9 (hy1_8)) <|
zz 49 (xk9 (Nat.add ((y1_11_.2.2.2.2.2.2.1)).num 64) ((y1_11_.2.2.2.2.2.2.1)).cap hy1_12) <|
zz 50 (nk10 hy1_14 hy1_13) <|
zz 52 (xnF hy1_15) <|
zz 59 (ok18 hy1_9 (hy1_8)) <|
zz 60 (xdF hy1_16) <|
zz 67 (xdF hy1_17) <|
zz 76 (ok17 hy1_9 (hy1_8)) <|
yy 82 (.sto (layT (rows rw_iii (((x1_0a :: x1_0t)).set (y1_6_).toNat ((y1_9_.1), (w64 ((y1_9_.2.1) + (1 : Int))), (y1_9_.2.2)))))) <|
ww (p := ∃ old, rdT (layT (rows rw_iii (x1_0a :: x1_0t))) 1 (Nat.add ((y1_6_).toNat * 3) 1) = some old) (Exists.elim (rows_stN rwf_iii (0, 0, 0) (hr := hy1_9) (i := (y1_6_).toNat) (j := 1) (l := [(i6 (w64 ((y1_9_.2.1) + (1 : Int))))]) ((y1_9_.1), (w64 ((y1_9_.2.1) + (1 : Int))), (y1_9_.2.2)) (Nat.add ((y1_6_).toNat * 3) 1) rfl (hy1_8) (Nat.le_of_ble_eq_true rfl) rfl) fun o h => ⟨o, h.1⟩) <|
ww (p := layL [(i6 (w64 ((y1_9_.2.1) + (1 : Int))))] (Nat.add ((y1_6_).toNat * 3) 1) (layT (rows rw_iii (x1_0a :: x1_0t))) = layT (rows rw_iii (((x1_0a :: x1_0t)).set (y1_6_).toNat ((y1_9_.1), (w64 ((y1_9_.2.1) + (1 : Int))), (y1_9_.2.2))))) (Exists.elim (rows_stN rwf_iii (0, 0, 0) (hr := hy1_9) (i := (y1_6_).toNat) (j := 1) (l := [(i6 (w64 ((y1_9_.2.1) + (1 : Int))))]) ((y1_9_.1), (w64 ((y1_9_.2.1) + (1 : Int))), (y1_9_.2.2)) (Nat.add ((y1_6_).toNat * 3) 1) rfl (hy1_8) (Nat.le_of_ble_eq_true rfl) rfl) fun o h => h.2) <|
yy 85 (.sto (layT (rows rw_iii (((x1_0a :: x1_0t)).set (y1_6_).toNat ((y1_9_.1), (w64 ((y1_9_.2.1) + (1 : Int))), (y1_3_.2.2.2.2.1)))))) <|
ww (p := ∃ old, rdT (layT (rows rw_iii (((x1_0a :: x1_0t)).set (y1_6_).toNat ((y1_9_.1), (w64 ((y1_9_.2.1) + (1 : Int))), (y1_9_.2.2))))) 1 (Nat.add ((y1_6_).toNat * 3) 2) = some old) (Exists.elim (rows_stS rwf_iii (i := (y1_6_).toNat) (j := 2) (l := [(i6 (y1_3_.2.2.2.2.1))]) ((y1_9_.1), (w64 ((y1_9_.2.1) + (1 : Int))), (y1_9_.2.2)) ((y1_9_.1), (w64 ((y1_9_.2.1) + (1 : Int))), (y1_3_.2.2.2.2.1)) (Nat.add ((y1_6_).toNat * 3) 2) rfl (hy1_8) (Nat.le_of_ble_eq_true rfl) rfl) fun o h => ⟨o, h.1⟩) <|
ww (p := layL [(i6 (y1_3_.2.2.2.2.1))] (Nat.add ((y1_6_).toNat * 3) 2) (layT (rows rw_iii (((x1_0a :: x1_0t)).set (y1_6_).toNat ((y1_9_.1), (w64 ((y1_9_.2.1) + (1 : Int))), (y1_9_.2.2))))) = layT (rows rw_iii (((x1_0a :: x1_0t)).set (y1_6_).toNat ((y1_9_.1), (w64 ((y1_9_.2.1) + (1 : Int))), (y1_3_.2.2.2.2.1))))) (Exists.elim (rows_stS rwf_iii (i := (y1_6_).toNat) (j := 2) (l := [(i6 (y1_3_.2.2.2.2.1))]) ((y1_9_.1), (w64 ((y1_9_.2.1) + (1 : Int))), (y1_9_.2.2)) ((y1_9_.1), (w64 ((y1_9_.2.1) + (1 : Int))), (y1_3_.2.2.2.2.1)) (Nat.add ((y1_6_).toNat * 3) 2) rfl (hy1_8) (Nat.le_of_ble_eq_true rfl) rfl) fun o h => h.2) <|
yy 90 (.ld (i6 (w64 ((y1_9_.2.1) + (1 : Int))))) <|
ww (p := (layT (rows rw_iii (((x1_0a :: x1_0t)).set (y1_6_).toNat ((y1_9_.1), (w64 ((y1_9_.2.1) + (1 : Int))), (y1_3_.2.2.2.2.1))))).get (Nat.add ((y1_6_).toNat * 3) 1) = some (i6 (w64 ((y1_9_.2.1) + (1 : Int))))) (rows_ldS rwf_iii (i := (y1_6_).toNat) (j := 1) ((y1_9_.1), (w64 ((y1_9_.2.1) + (1 : Int))), (y1_3_.2.2.2.2.1)) (Nat.add ((y1_6_).toNat * 3) 1) rfl (hy1_8) (by decide) rfl) <|
zz 94 (xeF hy1_18) <|
zz 100 (xdT hy1_19) <|
yy 108 (.app ⟨none, rows rw_iii (List.take x1_1 (((x1_0a :: x1_0t)).set (y1_6_).toNat ((y1_9_.1), (w64 ((y1_9_.2.1) + (1 : Int))), (y1_3_.2.2.2.2.1)))), (rows rw_iii (za :: zt)), ((za :: zt)).length, false⟩) <|
ww (p := 0 < 1) ((by decide)) <|
ww (p := rdT (layT (rows rw_iii (((x1_0a :: x1_0t)).set (y1_6_).toNat ((y1_9_.1), (w64 ((y1_9_.2.1) + (1 : Int))), (y1_3_.2.2.2.2.1))))) (Nat.mul x1_1 3) 0 = some (rows rw_iii (List.take x1_1 (((x1_0a :: x1_0t)).set (y1_6_).toNat ((y1_9_.1), (w64 ((y1_9_.2.1) + (1 : Int))), (y1_3_.2.2.2.2.1)))))) (rows_rdTake rwf_iii _ _ hy1_20) <|
ww (p := fits (Nat.add x1_1 1) 24 = true) (fits_ok hy1_21 (by have := hy1_21; show (_ : Nat) + _ ≤ _; omega)) <|
ww (p := allCells [(i6 x1_3), (i6 (0 : Int)), (i6 (y1_3_.2.2.1))] = true) (rfl) <|
ww (p := allCells (rows rw_iii (List.take x1_1 (((x1_0a :: x1_0t)).set (y1_6_).toNat ((y1_9_.1), (w64 ((y1_9_.2.1) + (1 : Int))), (y1_3_.2.2.2.2.1))))) = true) (rows_cells rwf_iii _) <|
ww (p := rows rw_iii (List.take x1_1 (((x1_0a :: x1_0t)).set (y1_6_).toNat ((y1_9_.1), (w64 ((y1_9_.2.1) + (1 : Int))), (y1_3_.2.2.2.2.1)))) ++ [(i6 x1_3), (i6 (0 : Int)), (i6 (y1_3_.2.2.1))] = (rows rw_iii (za :: zt))) (by rw [← hz]; exact (rows_app rw_iii (List.take x1_1 (((x1_0a :: x1_0t)).set (y1_6_).toNat ((y1_9_.1), (w64 ((y1_9_.2.1) + (1 : Int))), (y1_3_.2.2.2.2.1)))) [(x1_3, (0 : Int), (y1_3_.2.2.1))])) <|
ww (p := Nat.add x1_1 1 = ((za :: zt)).length) (by rw [← hz]; exact (take_len hy1_20 rfl)) <|
ww (rows_flat rwf_iii (za :: zt) 72) <|
ee) (by kernel_rfl)
theorem q_iOq1_1_10 (n : Nat) {rnd : Option Nat} (x1_0a : Int × Int × Int) (x1_0t : List (Int × Int × Int)) (x1_1 : Nat) (x1_2 x1_3 : Int) (hy1_1 : x1_3 < x1_2) (hy1_2 : 0 ≤ x1_3 ∧ x1_3 < (Args.A.length : Int)) (y1_3_ : R8) (hy1_3 : (some ((Args.A).getD (x1_3).toNat (0, 0, 0, 0, 0, 0, nl0, 0))) = some y1_3_) (hy1_4 : x1_3 > (0 : Int)) (hy1_5 : ¬ (((x1_1 : Nat) : Int) = (0 : Int))) (y1_6_ : Int) (hy1_6 : (some (w64 (((x1_1 : Nat) : Int) - (1 : Int)))) = some y1_6_) (hy1_7 : 0 ≤ y1_6_ ∧ y1_6_ < ((x1_1 : Nat) : Int)) (hy1_8 : (y1_6_).toNat < ((x1_0a :: x1_0t)).length) (y1_9_ : Int × Int × Int) (hy1_9 : (some (((x1_0a :: x1_0t)).getD (y1_6_).toNat (0, 0, 0))) = some y1_9_) (hy1_10 : 0 ≤ (y1_9_.1) ∧ (y1_9_.1) < (Args.A.length : Int)) (y1_11_ : R8) (hy1_11 : (some ((Args.A).getD ((y1_9_.1)).toNat (0, 0, 0, 0, 0, 0, nl0, 0))) = some y1_11_) (hy1_12 : 0 ≤ (y1_9_.2.1) ∧ (y1_9_.2.1) < (y1_11_.2.2.2.2.2.2.1.l.length : Int)) (hy1_13 : ((y1_9_.2.1)).toNat < (((y1_11_.2.2.2.2.2.2.1)).l).length) (y1_14_ : Int) (hy1_14 : (some ((((y1_11_.2.2.2.2.2.2.1)).l).getD ((y1_9_.2.1)).toNat 0)) = some y1_14_) (hy1_15 : y1_14_ = x1_3) (hy1_16 : ¬ ((y1_3_.2.2.1) < (y1_9_.2.2))) (hy1_17 : ¬ ((y1_3_.2.2.2.2.1) > (y1_11_.2.2.2.2.1))) (hy1_18 : ¬ ((w64 ((y1_9_.2.1) + (1 : Int))) = (y1_11_.2.2.2.2.2.2.1.l.length : Int))) (hy1_19 : ¬ ((y1_3_.2.2.2.2.2.2.1.l.length : Int) > (0 : Int))) : Q_iOq1_1 rnd x1_2 ((x1_0a :: x1_0t), x1_1, x1_3) (.normal, S_iOq1_1 x1_2 ((((x1_0a :: x1_0t)).set (y1_6_).toNat ((y1_9_.1), (w64 ((y1_9_.2.1) + (1 : Int))), (y1_3_.2.2.2.2.1))), x1_1, (w64 (x1_3 + (1 : Int))))) :=
 by
 obtain ⟨za, zt, hz⟩ : ∃ a t, (((x1_0a :: x1_0t)).set (y1_6_).toNat ((y1_9_.1), (w64 ((y1_9_.2.1) + (1 : Int))), (y1_3_.2.2.2.2.1))) = a :: t := set_cons
 rw [hz]
 exact runC2 hm (L := lT []) ⟨[0, 3, 8, 9, 10], [(0, 0, true)], 1, 0, [], false, []⟩ (zz 1 (xdT hy1_1) <|
zz 8 (xk1 0 Args.cA hy1_2) <|
zz 9 (lk2 hy1_3 (toNatLt hy1_2)) <|
zz 16 (xdT hy1_4) <|
zz 22 (xeF hy1_5) <|
zz 28 (xnm hy1_6) <|
zz 29 (xk15 0 U3 hy1_7) <|
zz 36 (ok16 hy1_9 (hy1_8)) <|
zz 37 (xk1 0 Args.cA hy1_10) <|
zz 38 (lk2 hy1_11 (toNatLt hy1_10)) <|
zz 48 (ok17 hy1_9 (hy1_8)) <|
zz 49 (xk9 (Nat.add ((y1_11_.2.2.2.2.2.2.1)).num 64) ((y1_11_.2.2.2.2.2.2.1)).cap hy1_12) <|
zz 50 (nk10 hy1_14 hy1_13) <|
zz 52 (xnF hy1_15) <|
zz 59 (ok18 hy1_9 (hy1_8)) <|
zz 60 (xdF hy1_16) <|
zz 67 (xdF hy1_17) <|
zz 76 (ok17 hy1_9 (hy1_8)) <|
yy 82 (.sto (layT (rows rw_iii (((x1_0a :: x1_0t)).set (y1_6_).toNat ((y1_9_.1), (w64 ((y1_9_.2.1) + (1 : Int))), (y1_9_.2.2)))))) <|
ww (p := ∃ old, rdT (layT (rows rw_iii (x1_0a :: x1_0t))) 1 (Nat.add ((y1_6_).toNat * 3) 1) = some old) (Exists.elim (rows_stN rwf_iii (0, 0, 0) (hr := hy1_9) (i := (y1_6_).toNat) (j := 1) (l := [(i6 (w64 ((y1_9_.2.1) + (1 : Int))))]) ((y1_9_.1), (w64 ((y1_9_.2.1) + (1 : Int))), (y1_9_.2.2)) (Nat.add ((y1_6_).toNat * 3) 1) rfl (hy1_8) (Nat.le_of_ble_eq_true rfl) rfl) fun o h => ⟨o, h.1⟩) <|
ww (p := layL [(i6 (w64 ((y1_9_.2.1) + (1 : Int))))] (Nat.add ((y1_6_).toNat * 3) 1) (layT (rows rw_iii (x1_0a :: x1_0t))) = layT (rows rw_iii (((x1_0a :: x1_0t)).set (y1_6_).toNat ((y1_9_.1), (w64 ((y1_9_.2.1) + (1 : Int))), (y1_9_.2.2))))) (Exists.elim (rows_stN rwf_iii (0, 0, 0) (hr := hy1_9) (i := (y1_6_).toNat) (j := 1) (l := [(i6 (w64 ((y1_9_.2.1) + (1 : Int))))]) ((y1_9_.1), (w64 ((y1_9_.2.1) + (1 : Int))), (y1_9_.2.2)) (Nat.add ((y1_6_).toNat * 3) 1) rfl (hy1_8) (Nat.le_of_ble_eq_true rfl) rfl) fun o h => h.2) <|
yy 85 (.sto (layT (rows rw_iii (za :: zt)))) <|
ww (p := ∃ old, rdT (layT (rows rw_iii (((x1_0a :: x1_0t)).set (y1_6_).toNat ((y1_9_.1), (w64 ((y1_9_.2.1) + (1 : Int))), (y1_9_.2.2))))) 1 (Nat.add ((y1_6_).toNat * 3) 2) = some old) (Exists.elim (rows_stS rwf_iii (i := (y1_6_).toNat) (j := 2) (l := [(i6 (y1_3_.2.2.2.2.1))]) ((y1_9_.1), (w64 ((y1_9_.2.1) + (1 : Int))), (y1_9_.2.2)) ((y1_9_.1), (w64 ((y1_9_.2.1) + (1 : Int))), (y1_3_.2.2.2.2.1)) (Nat.add ((y1_6_).toNat * 3) 2) rfl (hy1_8) (Nat.le_of_ble_eq_true rfl) rfl) fun o h => ⟨o, h.1⟩) <|
ww (p := layL [(i6 (y1_3_.2.2.2.2.1))] (Nat.add ((y1_6_).toNat * 3) 2) (layT (rows rw_iii (((x1_0a :: x1_0t)).set (y1_6_).toNat ((y1_9_.1), (w64 ((y1_9_.2.1) + (1 : Int))), (y1_9_.2.2))))) = layT (rows rw_iii (za :: zt))) (by rw [← hz]; exact (Exists.elim (rows_stS rwf_iii (i := (y1_6_).toNat) (j := 2) (l := [(i6 (y1_3_.2.2.2.2.1))]) ((y1_9_.1), (w64 ((y1_9_.2.1) + (1 : Int))), (y1_9_.2.2)) ((y1_9_.1), (w64 ((y1_9_.2.1) + (1 : Int))), (y1_3_.2.2.2.2.1)) (Nat.add ((y1_6_).toNat * 3) 2) rfl (hy1_8) (Nat.le_of_ble_eq_true rfl) rfl) fun o h => h.2)) <|
yy 90 (.ld (i6 (w64 ((y1_9_.2.1) + (1 : Int))))) <|
ww (p := (layT (rows rw_iii (za :: zt))).get (Nat.add ((y1_6_).toNat * 3) 1) = some (i6 (w64 ((y1_9_.2.1) + (1 : Int))))) (by rw [← hz]; exact (rows_ldS rwf_iii (i := (y1_6_).toNat) (j := 1) ((y1_9_.1), (w64 ((y1_9_.2.1) + (1 : Int))), (y1_3_.2.2.2.2.1)) (Nat.add ((y1_6_).toNat * 3) 1) rfl (hy1_8) (by decide) rfl)) <|
zz 94 (xeF hy1_18) <|
zz 100 (xdF hy1_19) <|
ww (rows_flat rwf_iii (za :: zt) 72) <|
ee) (by kernel_rfl)
theorem q_iOq1_1_11 (n : Nat) {rnd : Option Nat} (x1_0a : Int × Int × Int) (x1_0t : List (Int × Int × Int)) (x1_1 : Nat) (x1_2 x1_3 : Int) (hy1_1 : x1_3 < x1_2) (hy1_2 : 0 ≤ x1_3 ∧ x1_3 < (Args.A.length : Int)) (y1_3_ : R8) (hy1_3 : (some ((Args.A).getD (x1_3).toNat (0, 0, 0, 0, 0, 0, nl0, 0))) = some y1_3_) (hy1_4 : x1_3 > (0 : Int)) (hy1_5 : ¬ (((x1_1 : Nat) : Int) = (0 : Int))) (y1_6_ : Int) (hy1_6 : (some (w64 (((x1_1 : Nat) : Int) - (1 : Int)))) = some y1_6_) (hy1_7 : 0 ≤ y1_6_ ∧ y1_6_ < ((x1_1 : Nat) : Int)) (hy1_8 : (y1_6_).toNat < ((x1_0a :: x1_0t)).length) (y1_9_ : Int × Int × Int) (hy1_9 : (some (((x1_0a :: x1_0t)).getD (y1_6_).toNat (0, 0, 0))) = some y1_9_) (hy1_10 : 0 ≤ (y1_9_.1) ∧ (y1_9_.1) < (Args.A.length : Int)) (y1_11_ : R8) (hy1_11 : (some ((Args.A).getD ((y1_9_.1)).toNat (0, 0, 0, 0, 0, 0, nl0, 0))) = some y1_11_) (hy1_12 : 0 ≤ (y1_9_.2.1) ∧ (y1_9_.2.1) < (y1_11_.2.2.2.2.2.2.1.l.length : Int)) (hy1_13 : ((y1_9_.2.1)).toNat < (((y1_11_.2.2.2.2.2.2.1)).l).length) (y1_14_ : Int) (hy1_14 : (some ((((y1_11_.2.2.2.2.2.2.1)).l).getD ((y1_9_.2.1)).toNat 0)) = some y1_14_) (hy1_15 : ¬ (y1_14_ = x1_3)) : Q_iOq1_1 rnd x1_2 ((x1_0a :: x1_0t), x1_1, x1_3) (X_iOq1_1 x1_2 (.inl ())) :=
 runC2 hm (L := lT []) ⟨[2], [], 0, 0, [], false, []⟩ (zz 1 (xdT hy1_1) <|
zz 8 (xk1 0 Args.cA hy1_2) <|
zz 9 (lk2 hy1_3 (toNatLt hy1_2)) <|
zz 16 (xdT hy1_4) <|
zz 22 (xeF hy1_5) <|
zz 28 (xnm hy1_6) <|
zz 29 (xk15 0 U3 hy1_7) <|
zz 36 (ok16 hy1_9 (hy1_8)) <|
zz 37 (xk1 0 Args.cA hy1_10) <|
zz 38 (lk2 hy1_11 (toNatLt hy1_10)) <|
zz 48 (ok17 hy1_9 (hy1_8)) <|
zz 49 (xk9 (Nat.add ((y1_11_.2.2.2.2.2.2.1)).num 64) ((y1_11_.2.2.2.2.2.2.1)).cap hy1_12) <|
zz 50 (nk10 hy1_14 hy1_13) <|
zz 52 (xnT hy1_15) <|
ee) (by kernel_rfl)
theorem q_iOq1_1_12 (n : Nat) {rnd : Option Nat} (x1_0a : Int × Int × Int) (x1_0t : List (Int × Int × Int)) (x1_1 : Nat) (x1_2 x1_3 : Int) (hy1_1 : x1_3 < x1_2) (hy1_2 : 0 ≤ x1_3 ∧ x1_3 < (Args.A.length : Int)) (y1_3_ : R8) (hy1_3 : (some ((Args.A).getD (x1_3).toNat (0, 0, 0, 0, 0, 0, nl0, 0))) = some y1_3_) (hy1_4 : ¬ (x1_3 > (0 : Int))) (hy1_5 : (y1_3_.2.2.2.2.2.2.1.l.length : Int) > (0 : Int)) (hy1_6 : x1_1 ≤ ((x1_0a :: x1_0t)).length) (hy1_7 : (x1_1 + 1) * 24 ≤ 140737488355328) : Q_iOq1_1 rnd x1_2 ((x1_0a :: x1_0t), x1_1, x1_3) (.normal, S_iOq1_1 x1_2 (((List.take x1_1 (x1_0a :: x1_0t)) ++ [(x1_3, (0 : Int), (y1_3_.2.2.1))]), ((((List.take x1_1 (x1_0a :: x1_0t)) ++ [(x1_3, (0 : Int), (y1_3_.2.2.1))])).length), (w64 (x1_3 + (1 : Int))))) :=
 by
 obtain ⟨za, zt, hz⟩ : ∃ a t, ((List.take x1_1 (x1_0a :: x1_0t)) ++ [(x1_3, (0 : Int), (y1_3_.2.2.1))]) = a :: t := snoc_cons (List.take x1_1 (x1_0a :: x1_0t)) (x1_3, (0 : Int), (y1_3_.2.2.1))
 rw [hz]
 exact runC2 hm (L := lT []) ⟨[0, 3, 8, 9, 10], [(0, 3, true)], 1, 0, [], false, []⟩ (zz 1 (xdT hy1_1) <|
zz 8 (xk1 0 Args.cA hy1_2) <|
zz 9 (lk2 hy1_3 (toNatLt hy1_2)) <|
zz 16 (xdF hy1_4) <|
zz 22 (xdT hy1_5) <|
yy 30 (.app ⟨none, rows rw_iii (List.take x1_1 (x1_0a :: x1_0t)), (rows rw_iii (za :: zt)), ((za :: zt)).length, false⟩) <|
ww (p := 0 < 1) ((by decide)) <|
ww (p := rdT (layT (rows rw_iii (x1_0a :: x1_0t))) (Nat.mul x1_1 3) 0 = some (rows rw_iii (List.take x1_1 (x1_0a :: x1_0t)))) (rows_rdTake rwf_iii _ _ hy1_6) <|
ww (p := fits (Nat.add x1_1 1) 24 = true) (fits_ok hy1_7 (by have := hy1_7; show (_ : Nat) + _ ≤ _; omega)) <|
ww (p := allCells [(i6 x1_3), (i6 (0 : Int)), (i6 (y1_3_.2.2.1))] = true) (rfl) <|
ww (p := allCells (rows rw_iii (List.take x1_1 (x1_0a :: x1_0t))) = true) (rows_cells rwf_iii _) <|
ww (p := rows rw_iii (List.take x1_1 (x1_0a :: x1_0t)) ++ [(i6 x1_3), (i6 (0 : Int)), (i6 (y1_3_.2.2.1))] = (rows rw_iii (za :: zt))) (by rw [← hz]; exact (rows_app rw_iii (List.take x1_1 (x1_0a :: x1_0t)) [(x1_3, (0 : Int), (y1_3_.2.2.1))])) <|
ww (p := Nat.add x1_1 1 = ((za :: zt)).length) (by rw [← hz]; exact (take_len hy1_6 rfl)) <|
ww (rows_flat rwf_iii (za :: zt) 72) <|
ee) (by kernel_rfl)
theorem q_iOq1_1_13 (n : Nat) {rnd : Option Nat} (x1_0a : Int × Int × Int) (x1_0t : List (Int × Int × Int)) (x1_1 : Nat) (x1_2 x1_3 : Int) (hy1_1 : x1_3 < x1_2) (hy1_2 : 0 ≤ x1_3 ∧ x1_3 < (Args.A.length : Int)) (y1_3_ : R8) (hy1_3 : (some ((Args.A).getD (x1_3).toNat (0, 0, 0, 0, 0, 0, nl0, 0))) = some y1_3_) (hy1_4 : ¬ (x1_3 > (0 : Int))) (hy1_5 : ¬ ((y1_3_.2.2.2.2.2.2.1.l.length : Int) > (0 : Int))) : Q_iOq1_1 rnd x1_2 ((x1_0a :: x1_0t), x1_1, x1_3) (.normal, S_iOq1_1 x1_2 ((x1_0a :: x1_0t), x1_1, (w64 (x1_3 + (1 : Int))))) :=
 runC2 hm (L := lT []) ⟨[0, 3, 8, 9, 10], [(0, 0, true)], 1, 0, [], false, []⟩ (zz 1 (xdT hy1_1) <|
zz 8 (xk1 0 Args.cA hy1_2) <|
zz 9 (lk2 hy1_3 (toNatLt hy1_2)) <|
zz 16 (xdF hy1_4) <|
zz 22 (xdF hy1_5) <|
ww (rows_flat rwf_iii (x1_0a :: x1_0t) 72) <|
ee) (by kernel_rfl)
theorem q_iOq1_1_14 (n : Nat) {rnd : Option Nat} (x1_0a : Int × Int × Int) (x1_0t : List (Int × Int × Int)) (x1_1 : Nat) (x1_2 x1_3 : Int) (hy1_1 : ¬ (x1_3 < x1_2)) : Q_iOq1_1 rnd x1_2 ((x1_0a :: x1_0t), x1_1, x1_3) (X_iOq1_1 x1_2 (.inr ((x1_0a :: x1_0t), x1_1))) :=
 runC2 hm (L := lT []) ⟨[3], [(0, 0, true)], 1, 0, [], false, []⟩ (zz 1 (xdF hy1_1) <|
ww (rows_flat rwf_iii (x1_0a :: x1_0t) 72) <|
ee) (by kernel_rfl)
theorem m_iOq1_1_ok (n : Nat) {rnd : Option Nat} (x1_2 : Int) (st : List (Int × Int × Int) × Nat × Int) (r : (Unit) ⊕ (List (Int × Int × Int) × Nat)) (h : m_iOq1_1 n x1_2 st = some r) : CG P rnd (fnN P 34) 0 (codeOf P 34 [false, true, false, true, true]) (S_iOq1_1 x1_2 st) (X_iOq1_1 x1_2 r) :=
 CG.iter (b := codeOf P 34 [false, false, true, false, true, true]) (by kernel_rfl) (body := B_iOq1_1 n x1_2) (S := S_iOq1_1 x1_2) (X := X_iOq1_1 x1_2)
  (fun s s' h => by
  obtain ⟨x1_0, x1_1, x1_3⟩ := s
  unfold B_iOq1_1 at h
  dsimp only at h
  cases x1_0 with
  | nil =>
   dsimp only at h
   by_cases hy1_1 : x1_3 < x1_2
   ·rw [if_pos hy1_1] at h
    by_cases hy1_2 : 0 ≤ x1_3 ∧ x1_3 < (Args.A.length : Int)
    ·rw [if_pos hy1_2] at h
     obtain ⟨y1_3_, hy1_3, h⟩ := Option.bind_eq_some_iff.1 h
     by_cases hy1_4 : x1_3 > (0 : Int)
     ·rw [if_pos hy1_4] at h
      cases h
     ·rw [if_neg hy1_4] at h
      by_cases hy1_5 : (y1_3_.2.2.2.2.2.2.1.l.length : Int) > (0 : Int)
      ·rw [if_pos hy1_5] at h
       obtain rfl := Sum.inl.inj (oI h); exact q_iOq1_1_1 n x1_1 x1_2 x1_3 hy1_1 hy1_2 y1_3_ hy1_3 hy1_4 hy1_5
      ·rw [if_neg hy1_5] at h
       obtain rfl := Sum.inl.inj (oI h); exact q_iOq1_1_2 n x1_1 x1_2 x1_3 hy1_1 hy1_2 y1_3_ hy1_3 hy1_4 hy1_5
    ·rw [if_neg hy1_2] at h; cases h
   ·rw [if_neg hy1_1] at h
    cases h
  | cons x1_0a x1_0t =>
   dsimp only at h
   by_cases hy1_1 : x1_3 < x1_2
   ·rw [if_pos hy1_1] at h
    by_cases hy1_2 : 0 ≤ x1_3 ∧ x1_3 < (Args.A.length : Int)
    ·rw [if_pos hy1_2] at h
     obtain ⟨y1_3_, hy1_3, h⟩ := Option.bind_eq_some_iff.1 h
     by_cases hy1_4 : x1_3 > (0 : Int)
     ·rw [if_pos hy1_4] at h
      by_cases hy1_5 : ((x1_1 : Nat) : Int) = (0 : Int)
      ·rw [if_pos hy1_5] at h
       cases h
      ·rw [if_neg hy1_5] at h
       obtain ⟨y1_6_, hy1_6, h⟩ := Option.bind_eq_some_iff.1 h
       by_cases hy1_7 : 0 ≤ y1_6_ ∧ y1_6_ < ((x1_1 : Nat) : Int)
       ·rw [if_pos hy1_7] at h
        by_cases hy1_8 : (y1_6_).toNat < ((x1_0a :: x1_0t)).length
        ·rw [if_pos hy1_8] at h
         obtain ⟨y1_9_, hy1_9, h⟩ := Option.bind_eq_some_iff.1 h
         by_cases hy1_10 : 0 ≤ (y1_9_.1) ∧ (y1_9_.1) < (Args.A.length : Int)
         ·rw [if_pos hy1_10] at h
          obtain ⟨y1_11_, hy1_11, h⟩ := Option.bind_eq_some_iff.1 h
          by_cases hy1_12 : 0 ≤ (y1_9_.2.1) ∧ (y1_9_.2.1) < (y1_11_.2.2.2.2.2.2.1.l.length : Int)
          ·rw [if_pos hy1_12] at h
           by_cases hy1_13 : ((y1_9_.2.1)).toNat < (((y1_11_.2.2.2.2.2.2.1)).l).length
           ·rw [if_pos hy1_13] at h
            obtain ⟨y1_14_, hy1_14, h⟩ := Option.bind_eq_some_iff.1 h
            by_cases hy1_15 : y1_14_ = x1_3
            ·rw [if_pos hy1_15] at h
             by_cases hy1_16 : (y1_3_.2.2.1) < (y1_9_.2.2)
             ·rw [if_pos hy1_16] at h
              cases h
             ·rw [if_neg hy1_16] at h
              by_cases hy1_17 : (y1_3_.2.2.2.2.1) > (y1_11_.2.2.2.2.1)
              ·rw [if_pos hy1_17] at h
               cases h
              ·rw [if_neg hy1_17] at h
               by_cases hy1_18 : (w64 ((y1_9_.2.1) + (1 : Int))) = (y1_11_.2.2.2.2.2.2.1.l.length : Int)
               ·rw [if_pos hy1_18] at h
                by_cases hy1_19 : 0 ≤ y1_6_ ∧ y1_6_ ≤ ((x1_1 : Nat) : Int)
                ·rw [if_pos hy1_19] at h
                 by_cases hy1_20 : (y1_3_.2.2.2.2.2.2.1.l.length : Int) > (0 : Int)
                 ·rw [if_pos hy1_20] at h
                  by_cases hy1_21 : (y1_6_).toNat ≤ ((((x1_0a :: x1_0t)).set (y1_6_).toNat ((y1_9_.1), (w64 ((y1_9_.2.1) + (1 : Int))), (y1_3_.2.2.2.2.1)))).length
                  ·rw [if_pos hy1_21] at h
                   by_cases hy1_22 : ((y1_6_).toNat + 1) * 24 ≤ 140737488355328
                   ·rw [if_pos hy1_22] at h
                    obtain rfl := Sum.inl.inj (oI h); exact q_iOq1_1_7 n x1_0a x1_0t x1_1 x1_2 x1_3 hy1_1 hy1_2 y1_3_ hy1_3 hy1_4 hy1_5 y1_6_ hy1_6 hy1_7 hy1_8 y1_9_ hy1_9 hy1_10 y1_11_ hy1_11 hy1_12 hy1_13 y1_14_ hy1_14 hy1_15 hy1_16 hy1_17 hy1_18 hy1_19 hy1_20 hy1_21 hy1_22
                   ·rw [if_neg hy1_22] at h; cases h
                  ·rw [if_neg hy1_21] at h; cases h
                 ·rw [if_neg hy1_20] at h
                  obtain rfl := Sum.inl.inj (oI h); exact q_iOq1_1_8 n x1_0a x1_0t x1_1 x1_2 x1_3 hy1_1 hy1_2 y1_3_ hy1_3 hy1_4 hy1_5 y1_6_ hy1_6 hy1_7 hy1_8 y1_9_ hy1_9 hy1_10 y1_11_ hy1_11 hy1_12 hy1_13 y1_14_ hy1_14 hy1_15 hy1_16 hy1_17 hy1_18 hy1_19 hy1_20
                ·rw [if_neg hy1_19] at h; cases h
               ·rw [if_neg hy1_18] at h
                by_cases hy1_19 : (y1_3_.2.2.2.2.2.2.1.l.length : Int) > (0 : Int)
                ·rw [if_pos hy1_19] at h
                 by_cases hy1_20 : x1_1 ≤ ((((x1_0a :: x1_0t)).set (y1_6_).toNat ((y1_9_.1), (w64 ((y1_9_.2.1) + (1 : Int))), (y1_3_.2.2.2.2.1)))).length
                 ·rw [if_pos hy1_20] at h
                  by_cases hy1_21 : (x1_1 + 1) * 24 ≤ 140737488355328
                  ·rw [if_pos hy1_21] at h
                   obtain rfl := Sum.inl.inj (oI h); exact q_iOq1_1_9 n x1_0a x1_0t x1_1 x1_2 x1_3 hy1_1 hy1_2 y1_3_ hy1_3 hy1_4 hy1_5 y1_6_ hy1_6 hy1_7 hy1_8 y1_9_ hy1_9 hy1_10 y1_11_ hy1_11 hy1_12 hy1_13 y1_14_ hy1_14 hy1_15 hy1_16 hy1_17 hy1_18 hy1_19 hy1_20 hy1_21
                  ·rw [if_neg hy1_21] at h; cases h
                 ·rw [if_neg hy1_20] at h; cases h
                ·rw [if_neg hy1_19] at h
                 obtain rfl := Sum.inl.inj (oI h); exact q_iOq1_1_10 n x1_0a x1_0t x1_1 x1_2 x1_3 hy1_1 hy1_2 y1_3_ hy1_3 hy1_4 hy1_5 y1_6_ hy1_6 hy1_7 hy1_8 y1_9_ hy1_9 hy1_10 y1_11_ hy1_11 hy1_12 hy1_13 y1_14_ hy1_14 hy1_15 hy1_16 hy1_17 hy1_18 hy1_19
            ·rw [if_neg hy1_15] at h
             cases h
           ·rw [if_neg hy1_13] at h; cases h
          ·rw [if_neg hy1_12] at h; cases h
         ·rw [if_neg hy1_10] at h; cases h
        ·rw [if_neg hy1_8] at h; cases h
       ·rw [if_neg hy1_7] at h; cases h
     ·rw [if_neg hy1_4] at h
      by_cases hy1_5 : (y1_3_.2.2.2.2.2.2.1.l.length : Int) > (0 : Int)
      ·rw [if_pos hy1_5] at h
       by_cases hy1_6 : x1_1 ≤ ((x1_0a :: x1_0t)).length
       ·rw [if_pos hy1_6] at h
        by_cases hy1_7 : (x1_1 + 1) * 24 ≤ 140737488355328
        ·rw [if_pos hy1_7] at h
         obtain rfl := Sum.inl.inj (oI h); exact q_iOq1_1_12 n x1_0a x1_0t x1_1 x1_2 x1_3 hy1_1 hy1_2 y1_3_ hy1_3 hy1_4 hy1_5 hy1_6 hy1_7
        ·rw [if_neg hy1_7] at h; cases h
       ·rw [if_neg hy1_6] at h; cases h
      ·rw [if_neg hy1_5] at h
       obtain rfl := Sum.inl.inj (oI h); exact q_iOq1_1_13 n x1_0a x1_0t x1_1 x1_2 x1_3 hy1_1 hy1_2 y1_3_ hy1_3 hy1_4 hy1_5
    ·rw [if_neg hy1_2] at h; cases h
   ·rw [if_neg hy1_1] at h
    cases h)
  (fun s r h => by
  obtain ⟨x1_0, x1_1, x1_3⟩ := s
  unfold B_iOq1_1 at h
  dsimp only at h
  cases x1_0 with
  | nil =>
   dsimp only at h
   by_cases hy1_1 : x1_3 < x1_2
   ·rw [if_pos hy1_1] at h
    by_cases hy1_2 : 0 ≤ x1_3 ∧ x1_3 < (Args.A.length : Int)
    ·rw [if_pos hy1_2] at h
     obtain ⟨y1_3_, hy1_3, h⟩ := Option.bind_eq_some_iff.1 h
     by_cases hy1_4 : x1_3 > (0 : Int)
     ·rw [if_pos hy1_4] at h
      obtain rfl := Sum.inr.inj (oI h); exact q_iOq1_1_0 n x1_1 x1_2 x1_3 hy1_1 hy1_2 y1_3_ hy1_3 hy1_4
     ·rw [if_neg hy1_4] at h
      by_cases hy1_5 : (y1_3_.2.2.2.2.2.2.1.l.length : Int) > (0 : Int)
      ·rw [if_pos hy1_5] at h
       cases h
      ·rw [if_neg hy1_5] at h
       cases h
    ·rw [if_neg hy1_2] at h; cases h
   ·rw [if_neg hy1_1] at h
    obtain rfl := Sum.inr.inj (oI h); exact q_iOq1_1_3 n x1_1 x1_2 x1_3 hy1_1
  | cons x1_0a x1_0t =>
   dsimp only at h
   by_cases hy1_1 : x1_3 < x1_2
   ·rw [if_pos hy1_1] at h
    by_cases hy1_2 : 0 ≤ x1_3 ∧ x1_3 < (Args.A.length : Int)
    ·rw [if_pos hy1_2] at h
     obtain ⟨y1_3_, hy1_3, h⟩ := Option.bind_eq_some_iff.1 h
     by_cases hy1_4 : x1_3 > (0 : Int)
     ·rw [if_pos hy1_4] at h
      by_cases hy1_5 : ((x1_1 : Nat) : Int) = (0 : Int)
      ·rw [if_pos hy1_5] at h
       obtain rfl := Sum.inr.inj (oI h); exact q_iOq1_1_4 n x1_0a x1_0t x1_1 x1_2 x1_3 hy1_1 hy1_2 y1_3_ hy1_3 hy1_4 hy1_5
      ·rw [if_neg hy1_5] at h
       obtain ⟨y1_6_, hy1_6, h⟩ := Option.bind_eq_some_iff.1 h
       by_cases hy1_7 : 0 ≤ y1_6_ ∧ y1_6_ < ((x1_1 : Nat) : Int)
       ·rw [if_pos hy1_7] at h
        by_cases hy1_8 : (y1_6_).toNat < ((x1_0a :: x1_0t)).length
        ·rw [if_pos hy1_8] at h
         obtain ⟨y1_9_, hy1_9, h⟩ := Option.bind_eq_some_iff.1 h
         by_cases hy1_10 : 0 ≤ (y1_9_.1) ∧ (y1_9_.1) < (Args.A.length : Int)
         ·rw [if_pos hy1_10] at h
          obtain ⟨y1_11_, hy1_11, h⟩ := Option.bind_eq_some_iff.1 h
          by_cases hy1_12 : 0 ≤ (y1_9_.2.1) ∧ (y1_9_.2.1) < (y1_11_.2.2.2.2.2.2.1.l.length : Int)
          ·rw [if_pos hy1_12] at h
           by_cases hy1_13 : ((y1_9_.2.1)).toNat < (((y1_11_.2.2.2.2.2.2.1)).l).length
           ·rw [if_pos hy1_13] at h
            obtain ⟨y1_14_, hy1_14, h⟩ := Option.bind_eq_some_iff.1 h
            by_cases hy1_15 : y1_14_ = x1_3
            ·rw [if_pos hy1_15] at h
             by_cases hy1_16 : (y1_3_.2.2.1) < (y1_9_.2.2)
             ·rw [if_pos hy1_16] at h
              obtain rfl := Sum.inr.inj (oI h); exact q_iOq1_1_5 n x1_0a x1_0t x1_1 x1_2 x1_3 hy1_1 hy1_2 y1_3_ hy1_3 hy1_4 hy1_5 y1_6_ hy1_6 hy1_7 hy1_8 y1_9_ hy1_9 hy1_10 y1_11_ hy1_11 hy1_12 hy1_13 y1_14_ hy1_14 hy1_15 hy1_16
             ·rw [if_neg hy1_16] at h
              by_cases hy1_17 : (y1_3_.2.2.2.2.1) > (y1_11_.2.2.2.2.1)
              ·rw [if_pos hy1_17] at h
               obtain rfl := Sum.inr.inj (oI h); exact q_iOq1_1_6 n x1_0a x1_0t x1_1 x1_2 x1_3 hy1_1 hy1_2 y1_3_ hy1_3 hy1_4 hy1_5 y1_6_ hy1_6 hy1_7 hy1_8 y1_9_ hy1_9 hy1_10 y1_11_ hy1_11 hy1_12 hy1_13 y1_14_ hy1_14 hy1_15 hy1_16 hy1_17
              ·rw [if_neg hy1_17] at h
               by_cases hy1_18 : (w64 ((y1_9_.2.1) + (1 : Int))) = (y1_11_.2.2.2.2.2.2.1.l.length : Int)
               ·rw [if_pos hy1_18] at h
                by_cases hy1_19 : 0 ≤ y1_6_ ∧ y1_6_ ≤ ((x1_1 : Nat) : Int)
                ·rw [if_pos hy1_19] at h
                 by_cases hy1_20 : (y1_3_.2.2.2.2.2.2.1.l.length : Int) > (0 : Int)
                 ·rw [if_pos hy1_20] at h
                  by_cases hy1_21 : (y1_6_).toNat ≤ ((((x1_0a :: x1_0t)).set (y1_6_).toNat ((y1_9_.1), (w64 ((y1_9_.2.1) + (1 : Int))), (y1_3_.2.2.2.2.1)))).length
                  ·rw [if_pos hy1_21] at h
                   by_cases hy1_22 : ((y1_6_).toNat + 1) * 24 ≤ 140737488355328
                   ·rw [if_pos hy1_22] at h
                    cases h
                   ·rw [if_neg hy1_22] at h; cases h
                  ·rw [if_neg hy1_21] at h; cases h
                 ·rw [if_neg hy1_20] at h
                  cases h
                ·rw [if_neg hy1_19] at h; cases h
               ·rw [if_neg hy1_18] at h
                by_cases hy1_19 : (y1_3_.2.2.2.2.2.2.1.l.length : Int) > (0 : Int)
                ·rw [if_pos hy1_19] at h
                 by_cases hy1_20 : x1_1 ≤ ((((x1_0a :: x1_0t)).set (y1_6_).toNat ((y1_9_.1), (w64 ((y1_9_.2.1) + (1 : Int))), (y1_3_.2.2.2.2.1)))).length
                 ·rw [if_pos hy1_20] at h
                  by_cases hy1_21 : (x1_1 + 1) * 24 ≤ 140737488355328
                  ·rw [if_pos hy1_21] at h
                   cases h
                  ·rw [if_neg hy1_21] at h; cases h
                 ·rw [if_neg hy1_20] at h; cases h
                ·rw [if_neg hy1_19] at h
                 cases h
            ·rw [if_neg hy1_15] at h
             obtain rfl := Sum.inr.inj (oI h); exact q_iOq1_1_11 n x1_0a x1_0t x1_1 x1_2 x1_3 hy1_1 hy1_2 y1_3_ hy1_3 hy1_4 hy1_5 y1_6_ hy1_6 hy1_7 hy1_8 y1_9_ hy1_9 hy1_10 y1_11_ hy1_11 hy1_12 hy1_13 y1_14_ hy1_14 hy1_15
           ·rw [if_neg hy1_13] at h; cases h
          ·rw [if_neg hy1_12] at h; cases h
         ·rw [if_neg hy1_10] at h; cases h
        ·rw [if_neg hy1_8] at h; cases h
       ·rw [if_neg hy1_7] at h; cases h
     ·rw [if_neg hy1_4] at h
      by_cases hy1_5 : (y1_3_.2.2.2.2.2.2.1.l.length : Int) > (0 : Int)
      ·rw [if_pos hy1_5] at h
       by_cases hy1_6 : x1_1 ≤ ((x1_0a :: x1_0t)).length
       ·rw [if_pos hy1_6] at h
        by_cases hy1_7 : (x1_1 + 1) * 24 ≤ 140737488355328
        ·rw [if_pos hy1_7] at h
         cases h
        ·rw [if_neg hy1_7] at h; cases h
       ·rw [if_neg hy1_6] at h; cases h
      ·rw [if_neg hy1_5] at h
       cases h
    ·rw [if_neg hy1_2] at h; cases h
   ·rw [if_neg hy1_1] at h
    obtain rfl := Sum.inr.inj (oI h); exact q_iOq1_1_14 n x1_0a x1_0t x1_1 x1_2 x1_3 hy1_1)
  (fun r => by intro hx; rcases r with _ | _ <;> cases hx) h
def m_iOq1 (n : Nat) : Option (Bool) :=
 match m_iOq1_1 n (Args.A.length : Int) (([] : List (Int × Int × Int)), 0, 0) with
 | none => none
 | some (.inl _) =>
  some false
 | some (.inr (c1_0, c1_1)) =>
  match c1_0 with
  | [] =>
   some true
  | c1_0a :: c1_0t =>
   if ((c1_1 : Nat) : Int) = (0 : Int) then
    some true
   else
    some false
theorem m_iOq1_ok (n : Nat) (r : Bool) (h : m_iOq1 n = some r) : Gv P (.func 34) A_iOq1 H_iOq1 (V_iOq1  r) (R_iOq1  r) := by
 unfold m_iOq1 at h
 rcases hc1 : m_iOq1_1 n (Args.A.length : Int) (([] : List (Int × Int × Int)), 0, 0) with _ | (⟨⟩ | ⟨c1_0, c1_1⟩)
 ·rw [hc1] at h; cases h
 ·rw [hc1] at h
  dsimp only at h
  obtain rfl := oI h; exact runF2 hm (L := lT [(10, ⟨⟨[0, 3, 8, 9, 10], [], 1, 0, [], false, []⟩, (X_iOq1_1 (Args.A.length : Int) (.inl ())).1, (X_iOq1_1 (Args.A.length : Int) (.inl ())).2⟩)]) ⟨[2], [], 0, 0, [], false, []⟩ (ww (p := U_iOq1_1 none (Args.A.length : Int) (([] : List (Int × Int × Int)), 0, 0) (.inl ())) (m_iOq1_1_ok n (Args.A.length : Int) (([] : List (Int × Int × Int)), 0, 0) (.inl ()) hc1) ee) (by kernel_rfl)
 ·rw [hc1] at h
  dsimp only at h
  cases c1_0 with
  | nil =>
   dsimp only at h
   obtain rfl := oI h; exact runF2 hm (L := lT [(10, ⟨⟨[0, 3, 8, 9, 10], [], 1, 0, [], false, []⟩, (X_iOq1_1 (Args.A.length : Int) (.inr (([] : List (Int × Int × Int)), c1_1))).1, (X_iOq1_1 (Args.A.length : Int) (.inr (([] : List (Int × Int × Int)), c1_1))).2⟩)]) ⟨[2], [], 0, 0, [], false, []⟩ (ww (p := U_iOq1_1 none (Args.A.length : Int) (([] : List (Int × Int × Int)), 0, 0) (.inr (([] : List (Int × Int × Int)), c1_1))) (m_iOq1_1_ok n (Args.A.length : Int) (([] : List (Int × Int × Int)), 0, 0) (.inr (([] : List (Int × Int × Int)), c1_1)) hc1) ee) (by kernel_rfl)
  | cons c1_0a c1_0t =>
   dsimp only at h
   by_cases hc2 : ((c1_1 : Nat) : Int) = (0 : Int)
   ·rw [if_pos hc2] at h
    obtain rfl := oI h; exact runF2 hm (L := lT [(10, ⟨⟨[0, 3, 8, 9, 10], [], 1, 0, [], false, []⟩, (X_iOq1_1 (Args.A.length : Int) (.inr ((c1_0a :: c1_0t), c1_1))).1, (X_iOq1_1 (Args.A.length : Int) (.inr ((c1_0a :: c1_0t), c1_1))).2⟩)]) ⟨[2], [], 0, 0, [], false, []⟩ (ww (p := U_iOq1_1 none (Args.A.length : Int) (([] : List (Int × Int × Int)), 0, 0) (.inr ((c1_0a :: c1_0t), c1_1))) (m_iOq1_1_ok n (Args.A.length : Int) (([] : List (Int × Int × Int)), 0, 0) (.inr ((c1_0a :: c1_0t), c1_1)) hc1) <|
zz 14 (xeT hc2) ee) (by kernel_rfl)
   ·rw [if_neg hc2] at h
    obtain rfl := oI h; exact runF2 hm (L := lT [(10, ⟨⟨[0, 3, 8, 9, 10], [], 1, 0, [], false, []⟩, (X_iOq1_1 (Args.A.length : Int) (.inr ((c1_0a :: c1_0t), c1_1))).1, (X_iOq1_1 (Args.A.length : Int) (.inr ((c1_0a :: c1_0t), c1_1))).2⟩)]) ⟨[2], [], 0, 0, [], false, []⟩ (ww (p := U_iOq1_1 none (Args.A.length : Int) (([] : List (Int × Int × Int)), 0, 0) (.inr ((c1_0a :: c1_0t), c1_1))) (m_iOq1_1_ok n (Args.A.length : Int) (([] : List (Int × Int × Int)), 0, 0) (.inr ((c1_0a :: c1_0t), c1_1)) hc1) <|
zz 14 (xeF hc2) ee) (by kernel_rfl)


end Go.Proofs.Yteefneejedljmaa.rtk
