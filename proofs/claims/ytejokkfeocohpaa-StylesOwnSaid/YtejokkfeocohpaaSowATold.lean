/-
  What functions do, told by pure functions. No condition.
-/
import Derived.Test.YtejokkfeocohpaaSowLives
set_option linter.unusedSimpArgs false
set_option linter.unusedVariables false
set_option linter.unusedSectionVars false
set_option linter.unnecessarySimpa false
set_option maxRecDepth 100000
noncomputable section
namespace Go.Proofs.Ytejokkfeocohpaa.sow26
open Go Go.Proofs.Ytejokkfeocohpaa Ax
abbrev R8 [Nest] : Type := Int × Int × Int × Int × Int × Int × NL × Int
variable [Args]
def rw_iii (x : Int × Int × Int) : List Value := [Value.int .i64 (x.1), Value.int .i64 (x.2.1), Value.int .i64 (x.2.2)]
theorem rwf_iii : RowF rw_iii 3 := ⟨fun _ => rfl, fun a v h => by
 simp only [rw_iii, List.mem_cons, List.not_mem_nil, or_false] at h
 rcases h with rfl | rfl | rfl <;> rfl, fun _ => rfl⟩
abbrev xp1 (b o n k : Nat) (i : Int) : Prop := IA P 22 (sW b o n k) i (pW b (Nat.add o (i.toNat * 4)))
theorem xk1 (b o k : Nat) {n : Nat} {i : Int} (h : 0 ≤ i ∧ i < (n : Int)) : OB (.pur (pW b (Nat.add o (i.toNat * 4)))) (xp1 b o n k i) := ⟨ixWO (e := 36) (by kernel_rfl) (by kernel_rfl) h⟩
abbrev fp2 (b o : Nat) : Prop := FA P 36 (pW b o) 1 (pW b (Nat.add o 1))
theorem fk2 (b o : Nat) : OB (.pur (pW b (Nat.add o 1))) (fp2 b o) := ⟨by unfold fp2 FA; kernel_rfl⟩
abbrev lp3 (x : WL rw_iLii) (i : Nat) (r : Int × NL × Int × Int) : Prop := Lg P 29 (pW x.num (Nat.add (Nat.add x.off (i * 4)) 1)) (nlV (r.2.1))
theorem lk3 {x : WL rw_iLii} {i : Nat} {r : Int × NL × Int × Int} (hr : some ((x.l).getD i (0, nl0, 0, 0)) = some r) (h : i < (x.l).length) : OB (.ld (nlV (r.2.1))) (lp3 x i r) := by cases hr; exact ⟨ldRS rwf_iLii (0, nl0, 0, 0) (i := i) (q := 1) x (Nat.add (Nat.add x.off (i * 4)) 1) rfl (by kernel_rfl) h (by decide) rfl⟩
abbrev xp4 (b o n k : Nat) (i : Int) : Prop := IA P 23 (sW b o n k) i (pW b (Nat.add o (i.toNat * 8)))
theorem xk4 (b o k : Nat) {n : Nat} {i : Int} (h : 0 ≤ i ∧ i < (n : Int)) : OB (.pur (pW b (Nat.add o (i.toNat * 8)))) (xp4 b o n k i) := ⟨ixWO (e := 32) (by kernel_rfl) (by kernel_rfl) h⟩
abbrev lp5 (x : WL rw_iiiiiiLu) (i : Nat) (r : R8) : Prop := Lg P 32 (pW x.num (Nat.add x.off (i * 8))) (Value.agg #[(i6 (r.1)), (i6 (r.2.1)), (i6 (r.2.2.1)), (i6 (r.2.2.2.1)), (i6 (r.2.2.2.2.1)), (i6 (r.2.2.2.2.2.1)), (nlV (r.2.2.2.2.2.2.1)), (Value.int .u64 (r.2.2.2.2.2.2.2))])
theorem lk5 {x : WL rw_iiiiiiLu} {i : Nat} {r : Int × Int × Int × Int × Int × Int × NL × Int} (hr : some ((x.l).getD i (0, 0, 0, 0, 0, 0, nl0, 0)) = some r) (h : i < (x.l).length) : OB (.ld (Value.agg #[(i6 (r.1)), (i6 (r.2.1)), (i6 (r.2.2.1)), (i6 (r.2.2.2.1)), (i6 (r.2.2.2.2.1)), (i6 (r.2.2.2.2.2.1)), (nlV (r.2.2.2.2.2.2.1)), (Value.int .u64 (r.2.2.2.2.2.2.2))])) (lp5 x i r) := by cases hr; exact ⟨ldRA rwf_iiiiiiLu (0, 0, 0, 0, 0, 0, nl0, 0) (i := i) (q := 0) x (n := 8) (Nat.add x.off (i * 8)) rfl (by kernel_rfl) (by kernel_rfl) h (by decide) (by decide) rfl⟩
abbrev fp6 (b o : Nat) : Prop := FA P 32 (pW b o) 1 (pW b (Nat.add o 1))
theorem fk6 (b o : Nat) : OB (.pur (pW b (Nat.add o 1))) (fp6 b o) := ⟨by unfold fp6 FA; kernel_rfl⟩
abbrev lp7 (x : WL rw_iiiiiiLu) (i : Nat) (r : R8) : Prop := Lg P 3 (pW x.num (Nat.add (Nat.add x.off (i * 8)) 1)) (i6 (r.2.1))
theorem lk7 {x : WL rw_iiiiiiLu} {i : Nat} {r : Int × Int × Int × Int × Int × Int × NL × Int} (hr : some ((x.l).getD i (0, 0, 0, 0, 0, 0, nl0, 0)) = some r) (h : i < (x.l).length) : OB (.ld (i6 (r.2.1))) (lp7 x i r) := by cases hr; exact ⟨ldRS rwf_iiiiiiLu (0, 0, 0, 0, 0, 0, nl0, 0) (i := i) (q := 1) x (Nat.add (Nat.add x.off (i * 8)) 1) rfl (by kernel_rfl) h (by decide) rfl⟩
abbrev fp8 (b o : Nat) : Prop := FA P 32 (pW b o) 2 (pW b (Nat.add o 2))
theorem fk8 (b o : Nat) : OB (.pur (pW b (Nat.add o 2))) (fp8 b o) := ⟨by unfold fp8 FA; kernel_rfl⟩
abbrev lp9 (x : WL rw_iiiiiiLu) (i : Nat) (r : R8) : Prop := Lg P 3 (pW x.num (Nat.add (Nat.add x.off (i * 8)) 2)) (i6 (r.2.2.1))
theorem lk9 {x : WL rw_iiiiiiLu} {i : Nat} {r : Int × Int × Int × Int × Int × Int × NL × Int} (hr : some ((x.l).getD i (0, 0, 0, 0, 0, 0, nl0, 0)) = some r) (h : i < (x.l).length) : OB (.ld (i6 (r.2.2.1))) (lp9 x i r) := by cases hr; exact ⟨ldRS rwf_iiiiiiLu (0, 0, 0, 0, 0, 0, nl0, 0) (i := i) (q := 2) x (Nat.add (Nat.add x.off (i * 8)) 2) rfl (by kernel_rfl) h (by decide) rfl⟩
abbrev fp10 (b o : Nat) : Prop := FA P 32 (pW b o) 6 (pW b (Nat.add o 6))
theorem fk10 (b o : Nat) : OB (.pur (pW b (Nat.add o 6))) (fp10 b o) := ⟨by unfold fp10 FA; kernel_rfl⟩
abbrev lp11 (x : WL rw_iiiiiiLu) (i : Nat) (r : R8) : Prop := Lg P 29 (pW x.num (Nat.add (Nat.add x.off (i * 8)) 6)) (nlV (r.2.2.2.2.2.2.1))
theorem lk11 {x : WL rw_iiiiiiLu} {i : Nat} {r : Int × Int × Int × Int × Int × Int × NL × Int} (hr : some ((x.l).getD i (0, 0, 0, 0, 0, 0, nl0, 0)) = some r) (h : i < (x.l).length) : OB (.ld (nlV (r.2.2.2.2.2.2.1))) (lp11 x i r) := by cases hr; exact ⟨ldRS rwf_iiiiiiLu (0, 0, 0, 0, 0, 0, nl0, 0) (i := i) (q := 6) x (Nat.add (Nat.add x.off (i * 8)) 6) rfl (by kernel_rfl) h (by decide) rfl⟩
abbrev xp12 (b o n k : Nat) (i : Int) : Prop := IA P 29 (sW b o n k) i (pW b (Nat.add o i.toNat))
theorem xk12 (b o k : Nat) {n : Nat} {i : Int} (h : 0 ≤ i ∧ i < (n : Int)) : OB (.pur (pW b (Nat.add o i.toNat))) (xp12 b o n k i) := ⟨ixWO1 (e := 3) (by kernel_rfl) (by kernel_rfl) h⟩
theorem nk13 {x : NL} {i : Nat} {v : Int} (hv : some (x.l.getD i 0) = some v) (h : i < x.l.length) : OB (.ld (i6 v)) (Lg P 3 (pW (Nat.add x.num 64) (Nat.add x.off i)) (i6 v)) := by cases hv; exact ⟨ldN x (by kernel_rfl) h⟩
abbrev fp14 (b o : Nat) : Prop := FA P 32 (pW b o) 4 (pW b (Nat.add o 4))
theorem fk14 (b o : Nat) : OB (.pur (pW b (Nat.add o 4))) (fp14 b o) := ⟨by unfold fp14 FA; kernel_rfl⟩
abbrev lp15 (x : WL rw_iiiiiiLu) (i : Nat) (r : R8) : Prop := Lg P 3 (pW x.num (Nat.add (Nat.add x.off (i * 8)) 4)) (i6 (r.2.2.2.2.1))
theorem lk15 {x : WL rw_iiiiiiLu} {i : Nat} {r : Int × Int × Int × Int × Int × Int × NL × Int} (hr : some ((x.l).getD i (0, 0, 0, 0, 0, 0, nl0, 0)) = some r) (h : i < (x.l).length) : OB (.ld (i6 (r.2.2.2.2.1))) (lp15 x i r) := by cases hr; exact ⟨ldRS rwf_iiiiiiLu (0, 0, 0, 0, 0, 0, nl0, 0) (i := i) (q := 4) x (Nat.add (Nat.add x.off (i * 8)) 4) rfl (by kernel_rfl) h (by decide) rfl⟩
abbrev xp16 (b n k : Nat) (i : Int) : Prop := IA P 29 (sN b 0 n k) i (pN b i.toNat)
theorem xk16 (b k : Nat) {n : Nat} {i : Int} (h : 0 ≤ i ∧ i < (n : Int)) : OB (.pur (pN b i.toNat)) (xp16 b n k i) := ⟨ixS1 (e := 3) (by kernel_rfl) (by kernel_rfl) h⟩
abbrev fp17 (b o : Nat) : Prop := FA P 32 (pW b o) 0 (pW b (Nat.add o 0))
theorem fk17 (b o : Nat) : OB (.pur (pW b (Nat.add o 0))) (fp17 b o) := ⟨by unfold fp17 FA; kernel_rfl⟩
abbrev lp18 (x : WL rw_iiiiiiLu) (i : Nat) (r : R8) : Prop := Lg P 3 (pW x.num (Nat.add (Nat.add x.off (i * 8)) 0)) (i6 (r.1))
theorem lk18 {x : WL rw_iiiiiiLu} {i : Nat} {r : Int × Int × Int × Int × Int × Int × NL × Int} (hr : some ((x.l).getD i (0, 0, 0, 0, 0, 0, nl0, 0)) = some r) (h : i < (x.l).length) : OB (.ld (i6 (r.1))) (lp18 x i r) := by cases hr; exact ⟨ldRS rwf_iiiiiiLu (0, 0, 0, 0, 0, 0, nl0, 0) (i := i) (q := 0) x (Nat.add (Nat.add x.off (i * 8)) 0) rfl (by kernel_rfl) h (by decide) rfl⟩
abbrev fp19 (b o : Nat) : Prop := FA P 36 (pW b o) 3 (pW b (Nat.add o 3))
theorem fk19 (b o : Nat) : OB (.pur (pW b (Nat.add o 3))) (fp19 b o) := ⟨by unfold fp19 FA; kernel_rfl⟩
abbrev lp20 (x : WL rw_iLii) (i : Nat) (r : Int × NL × Int × Int) : Prop := Lg P 3 (pW x.num (Nat.add (Nat.add x.off (i * 4)) 3)) (i6 (r.2.2.2))
theorem lk20 {x : WL rw_iLii} {i : Nat} {r : Int × NL × Int × Int} (hr : some ((x.l).getD i (0, nl0, 0, 0)) = some r) (h : i < (x.l).length) : OB (.ld (i6 (r.2.2.2))) (lp20 x i r) := by cases hr; exact ⟨ldRS rwf_iLii (0, nl0, 0, 0) (i := i) (q := 3) x (Nat.add (Nat.add x.off (i * 4)) 3) rfl (by kernel_rfl) h (by decide) rfl⟩
abbrev xp21 (b n k : Nat) (i : Int) : Prop := IA P 61 (sN b 0 n k) i (pN b (i.toNat * 3))
theorem xk21 (b k : Nat) {n : Nat} {i : Int} (h : 0 ≤ i ∧ i < (n : Int)) : OB (.pur (pN b (i.toNat * 3))) (xp21 b n k i) := ⟨ixS (e := 64) (by kernel_rfl) (by kernel_rfl) h.1 h.2⟩
abbrev op22 (L : List (Int × Int × Int)) (i : Nat) (r : Int × Int × Int) : Prop := (layT (rows rw_iii L)).get (Nat.add (i * 3) 0) = some (i6 (r.1))
theorem ok22 {L : List (Int × Int × Int)} {i : Nat} {r : Int × Int × Int} (hr : some (L.getD i (0, 0, 0)) = some r) (h : i < L.length) : OB (.ld (i6 (r.1))) (op22 L i r) := by cases hr; exact ⟨rows_ld rwf_iii (0, 0, 0) (i := i) (j := 0) (Nat.add (i * 3) 0) rfl h (by decide) rfl⟩
abbrev op23 (L : List (Int × Int × Int)) (i : Nat) (r : Int × Int × Int) : Prop := (layT (rows rw_iii L)).get (Nat.add (i * 3) 1) = some (i6 (r.2.1))
theorem ok23 {L : List (Int × Int × Int)} {i : Nat} {r : Int × Int × Int} (hr : some (L.getD i (0, 0, 0)) = some r) (h : i < L.length) : OB (.ld (i6 (r.2.1))) (op23 L i r) := by cases hr; exact ⟨rows_ld rwf_iii (0, 0, 0) (i := i) (j := 1) (Nat.add (i * 3) 1) rfl h (by decide) rfl⟩
abbrev op24 (L : List (Int × Int × Int)) (i : Nat) (r : Int × Int × Int) : Prop := (layT (rows rw_iii L)).get (Nat.add (i * 3) 2) = some (i6 (r.2.2))
theorem ok24 {L : List (Int × Int × Int)} {i : Nat} {r : Int × Int × Int} (hr : some (L.getD i (0, 0, 0)) = some r) (h : i < L.length) : OB (.ld (i6 (r.2.2))) (op24 L i r) := by cases hr; exact ⟨rows_ld rwf_iii (0, 0, 0) (i := i) (j := 2) (Nat.add (i * 3) 2) rfl h (by decide) rfl⟩
theorem snoc_cons {α : Type} (l : List α) (x : α) : ∃ a t, l ++ [x] = a :: t := by
 cases l with
 | nil => exact ⟨_, _, rfl⟩
 | cons a t => exact ⟨_, _, rfl⟩
theorem set_cons {α : Type} {x v : α} {l : List α} {n : Nat} : ∃ a t, (x :: l).set n v = a :: t := by cases n <;> exact ⟨_, _, rfl⟩
abbrev xp25 (b n k : Nat) (i : Int) : Prop := IA P 22 (sN b 0 n k) i (pN b (i.toNat * 4))
theorem xk25 (b k : Nat) {n : Nat} {i : Int} (h : 0 ≤ i ∧ i < (n : Int)) : OB (.pur (pN b (i.toNat * 4))) (xp25 b n k i) := ⟨ixS (e := 36) (by kernel_rfl) (by kernel_rfl) h.1 h.2⟩
abbrev lp26 (x : WL rw_iLii) (i : Nat) (r : Int × NL × Int × Int) : Prop := Lg P 36 (pW x.num (Nat.add x.off (i * 4))) (Value.agg #[(i6 (r.1)), (nlV (r.2.1)), (i6 (r.2.2.1)), (i6 (r.2.2.2))])
theorem lk26 {x : WL rw_iLii} {i : Nat} {r : Int × NL × Int × Int} (hr : some ((x.l).getD i (0, nl0, 0, 0)) = some r) (h : i < (x.l).length) : OB (.ld (Value.agg #[(i6 (r.1)), (nlV (r.2.1)), (i6 (r.2.2.1)), (i6 (r.2.2.2))])) (lp26 x i r) := by cases hr; exact ⟨ldRA rwf_iLii (0, nl0, 0, 0) (i := i) (q := 0) x (n := 4) (Nat.add x.off (i * 4)) rfl (by kernel_rfl) (by kernel_rfl) h (by decide) (by decide) rfl⟩

def m_viewportlaw26lives (n : Nat) : Option Unit := some ()
theorem m_viewportlaw26lives_ok (n : Nat) (r : Unit) (h : m_viewportlaw26lives n = some r) : Gv P (.func 4) [] Ax.h0 (.bool true) Ax.h0 := lives_gv

def A_viewportkitLightStylesq1 (a0 : WL rw_iLii) : List Value := [(wlV a0)]
def H_viewportkitLightStylesq1 (a0 : WL rw_iLii) : AH := ⟨sB [], 0, 0⟩
def V_viewportkitLightStylesq1 (a0 : WL rw_iLii) (r : Bool) : Value := match r with
 | o0 => (bO o0)
def R_viewportkitLightStylesq1 (a0 : WL rw_iLii) (r : Bool) : AH := match r with
 | o0 => ⟨sB [], 0, 0⟩
abbrev G_viewportkitLightStylesq1 (a0 : WL rw_iLii) (r : Bool) : Prop := Gv P (.func 12) (A_viewportkitLightStylesq1 a0) (H_viewportkitLightStylesq1 a0) (V_viewportkitLightStylesq1 a0 r) (R_viewportkitLightStylesq1 a0 r)
abbrev C_viewportkitLightStylesq1 (a0 : WL rw_iLii) (r : Bool) (ins outs : BL) : CallA := ⟨0, ins, V_viewportkitLightStylesq1 a0 r, R_viewportkitLightStylesq1 a0 r, outs⟩
def S_viewportkitLightStylesq1_1 (x1_0 : WL rw_iLii) (st : Int) : XSt := match st with
 | x1_1 => (sT 20 [(0, (wlV x1_0)), (3, (i6 x1_1))], [], ⟨sB [], 0, 0⟩)
def X_viewportkitLightStylesq1_1 (x1_0 : WL rw_iLii) (r : (Unit) ⊕ (Unit)) : Ex × XSt := match r with
 | .inl _ => (.ret, (sT 20 [(2, (bO false))], [], ⟨sB [], 0, 0⟩))
 | .inr _ => (.exit 0, (sT 20 [(0, (wlV x1_0))], [], ⟨sB [], 0, 0⟩))
abbrev Q_viewportkitLightStylesq1_1 (rnd : Option Nat) (x1_0 : WL rw_iLii) (st : Int) (c : Ex × XSt) : Prop := CG P rnd (fnN P 12) 0 (codeOf P 12 [false, false, true, false, true]) (S_viewportkitLightStylesq1_1 x1_0 st) c
abbrev U_viewportkitLightStylesq1_1 (rd : Option Nat) (x1_0 : WL rw_iLii) (st : Int) (r : (Unit) ⊕ (Unit)) : Prop := CG P rd (fnN P 12) 0 (codeOf P 12 [false, true, false, true]) (S_viewportkitLightStylesq1_1 x1_0 st) (X_viewportkitLightStylesq1_1 x1_0 r)
def B_viewportkitLightStylesq1_1 (n : Nat) (x1_0 : WL rw_iLii) (st : Int) : Option ((Int) ⊕ ((Unit) ⊕ (Unit))) := match st with
 | x1_1 =>
  if x1_1 < (((x1_0).l.length : Nat) : Int) then
   if 0 ≤ x1_1 ∧ x1_1 < (((x1_0).l.length : Nat) : Int) then
    ((some (((x1_0).l).getD (x1_1).toNat (0, nl0, 0, 0)))).bind fun y1_3_ =>
    if ((((y1_3_.2.1)).l.length : Nat) : Int) > (20 : Int) then
     some (.inr (.inl ()))
    else
     some (.inl (w64 (x1_1 + (1 : Int))))
   else none
  else
   some (.inr (.inr ()))
def m_viewportkitLightStylesq1_1 (n : Nat) (x1_0 : WL rw_iLii) (st : Int) : Option ((Unit) ⊕ (Unit)) := iterM (B_viewportkitLightStylesq1_1 n x1_0) n st
theorem b_viewportkitLightStylesq1_1 (n : Nat) {rnd : Option Nat} (x1_0 : WL rw_iLii) (x1_1 : Int) (o : (Int) ⊕ ((Unit) ⊕ (Unit))) (h : B_viewportkitLightStylesq1_1 n x1_0 x1_1 = some o) : CG P rnd (fnN P 12) 0 (codeOf P 12 [false, false, true, false, true]) (S_viewportkitLightStylesq1_1 x1_0 x1_1) (Sum.elim (fun s => (.normal, S_viewportkitLightStylesq1_1 x1_0 s)) (fun r => X_viewportkitLightStylesq1_1 x1_0 r) o) := by
 unfold B_viewportkitLightStylesq1_1 at h
 dsimp only at h
 by_cases hy1_1 : x1_1 < (((x1_0).l.length : Nat) : Int)
 ·rw [if_pos hy1_1] at h
  obtain ⟨hy1_2, h⟩ := gd h
  obtain ⟨y1_3_, hy1_3, h⟩ := oB h
  have k0 := fun {A L l} (k : PL A L l) => zz 5 (xdT hy1_1) <|
   zz 12 (xk1 (x1_0).num (x1_0).off (x1_0).cap hy1_2) <|
   zz 13 (fk2 (x1_0).num (Nat.add (x1_0).off ((x1_1).toNat * 4))) <|
   zz 14 (lk3 hy1_3 (toNatLt hy1_2)) <|
   k
  by_cases hy1_4 : ((((y1_3_.2.1)).l.length : Nat) : Int) > (20 : Int)
  ·rw [if_pos hy1_4] at h
   obtain rfl := oI h
   exact runC2 hm ⟨[2], [], 0, 0, [], false, [], [], []⟩ (k0 <|
    zz 16 (xdT hy1_4) <|
    ee) (by kernel_rfl)
  ·rw [if_neg hy1_4] at h
   obtain rfl := oI h
   exact runC2 hm ⟨[0, 3], [], 0, 0, [], false, [], [], []⟩ (k0 <|
    zz 16 (xdF hy1_4) <|
    ee) (by kernel_rfl)
 ·rw [if_neg hy1_1] at h
  obtain rfl := oI h
  exact runC2 hm ⟨[0], [], 0, 0, [], false, [], [], []⟩ (zz 5 (xdF hy1_1) <|
   ee) (by kernel_rfl)
theorem m_viewportkitLightStylesq1_1_ok (n : Nat) {rnd : Option Nat} (x1_0 : WL rw_iLii) (st : Int) (r : (Unit) ⊕ (Unit)) (h : m_viewportkitLightStylesq1_1 n x1_0 st = some r) : CG P rnd (fnN P 12) 0 (codeOf P 12 [false, true, false, true]) (S_viewportkitLightStylesq1_1 x1_0 st) (X_viewportkitLightStylesq1_1 x1_0 r) :=
 CG.iter (b := codeOf P 12 [false, false, true, false, true]) (by kernel_rfl) (body := B_viewportkitLightStylesq1_1 n x1_0) (S := S_viewportkitLightStylesq1_1 x1_0) (X := X_viewportkitLightStylesq1_1 x1_0)
  (fun s s' h => b_viewportkitLightStylesq1_1 n x1_0 s (.inl s') h)
  (fun s r h => b_viewportkitLightStylesq1_1 n x1_0 s (.inr r) h)
  (fun r => by intro hx; rcases r with _ | _ <;> cases hx) h
def m_viewportkitLightStylesq1 (n : Nat) (a0 : WL rw_iLii) : Option (Bool) :=
 match m_viewportkitLightStylesq1_1 n a0 0 with
 | none => none
 | some (.inl _) =>
  some false
 | some (.inr _) =>
  if (((a0).l.length : Nat) : Int) ≤ (70 : Int) then
   some true
  else
   some false
theorem m_viewportkitLightStylesq1_ok (n : Nat) (a0 : WL rw_iLii) (r : Bool) (h : m_viewportkitLightStylesq1 n a0 = some r) : Gv P (.func 12) (A_viewportkitLightStylesq1 a0) (H_viewportkitLightStylesq1 a0) (V_viewportkitLightStylesq1 a0 r) (R_viewportkitLightStylesq1 a0 r) := by
 unfold m_viewportkitLightStylesq1 at h
 rcases hc1 : m_viewportkitLightStylesq1_1 n a0 0 with _ | (⟨⟩ | ⟨⟩)
 ·rw [hc1] at h; cases h
 ·rw [hc1] at h
  dsimp only at h
  obtain rfl := oI h
  exact runF2 hm ⟨[2], [], 0, 0, [], false, [], [], []⟩ (ww (p := U_viewportkitLightStylesq1_1 none a0 0 (.inl ())) (m_viewportkitLightStylesq1_1_ok n a0 0 (.inl ()) hc1) <|
   ll 6 ⟨⟨[0, 3], [], 0, 0, [], false, [], [], []⟩, (X_viewportkitLightStylesq1_1 a0 (.inl ())).1, (X_viewportkitLightStylesq1_1 a0 (.inl ())).2⟩ <|
   ee) (by kernel_rfl)
 ·rw [hc1] at h
  dsimp only at h
  have k0 := fun {A L l} (k : PL A L l) => ww (p := U_viewportkitLightStylesq1_1 none a0 0 (.inr ())) (m_viewportkitLightStylesq1_1_ok n a0 0 (.inr ()) hc1) <|
   ll 6 ⟨⟨[0, 3], [], 0, 0, [], false, [], [], []⟩, (X_viewportkitLightStylesq1_1 a0 (.inr ())).1, (X_viewportkitLightStylesq1_1 a0 (.inr ())).2⟩ <|
   k
  by_cases hc2 : (((a0).l.length : Nat) : Int) ≤ (70 : Int)
  ·rw [if_pos hc2] at h
   obtain rfl := oI h
   exact runF2 hm ⟨[2], [], 0, 0, [], false, [], [], []⟩ (k0 <|
    zz 10 (xdT hc2) <|
    ee) (by kernel_rfl)
  ·rw [if_neg hc2] at h
   obtain rfl := oI h
   exact runF2 hm ⟨[2], [], 0, 0, [], false, [], [], []⟩ (k0 <|
    zz 10 (xdF hc2) <|
    ee) (by kernel_rfl)

def A_viewportkitLightPartsq1 (a0 : WL rw_iiiiiiLu) (a1 : Int) : List Value := [(wlV a0), (i6 a1)]
def H_viewportkitLightPartsq1 (a0 : WL rw_iiiiiiLu) (a1 : Int) : AH := ⟨sB [], 0, 0⟩
def V_viewportkitLightPartsq1 (a0 : WL rw_iiiiiiLu) (a1 : Int) (r : Bool) : Value := match r with
 | o0 => (bO o0)
def R_viewportkitLightPartsq1 (a0 : WL rw_iiiiiiLu) (a1 : Int) (r : Bool) : AH := match r with
 | o0 => ⟨sB [], 0, 0⟩
abbrev G_viewportkitLightPartsq1 (a0 : WL rw_iiiiiiLu) (a1 : Int) (r : Bool) : Prop := Gv P (.func 13) (A_viewportkitLightPartsq1 a0 a1) (H_viewportkitLightPartsq1 a0 a1) (V_viewportkitLightPartsq1 a0 a1 r) (R_viewportkitLightPartsq1 a0 a1 r)
abbrev C_viewportkitLightPartsq1 (a0 : WL rw_iiiiiiLu) (a1 : Int) (r : Bool) (ins outs : BL) : CallA := ⟨0, ins, V_viewportkitLightPartsq1 a0 a1 r, R_viewportkitLightPartsq1 a0 a1 r, outs⟩
def S_viewportkitLightPartsq1_1 (x1_0 : WL rw_iiiiiiLu) (x1_1 : Int) (st : Int × Int) : XSt := match st with
 | (x1_2, x1_3) => (sT 66 [(0, (wlV x1_0)), (1, (i6 x1_1)), (5, (i6 x1_2)), (6, (i6 x1_3))], [], ⟨sB [], 0, 0⟩)
def X_viewportkitLightPartsq1_1 (x1_0 : WL rw_iiiiiiLu) (x1_1 : Int) (r : (Unit) ⊕ (Int)) : Ex × XSt := match r with
 | .inl _ => (.ret, (sT 66 [(4, (bO false))], [], ⟨sB [], 0, 0⟩))
 | .inr z1_0 => (.exit 0, (sT 66 [(0, (wlV x1_0)), (1, (i6 x1_1)), (5, (i6 z1_0))], [], ⟨sB [], 0, 0⟩))
abbrev Q_viewportkitLightPartsq1_1 (rnd : Option Nat) (x1_0 : WL rw_iiiiiiLu) (x1_1 : Int) (st : Int × Int) (c : Ex × XSt) : Prop := CG P rnd (fnN P 13) 0 (codeOf P 13 [false, false, true, false, true, true]) (S_viewportkitLightPartsq1_1 x1_0 x1_1 st) c
abbrev U_viewportkitLightPartsq1_1 (rd : Option Nat) (x1_0 : WL rw_iiiiiiLu) (x1_1 : Int) (st : Int × Int) (r : (Unit) ⊕ (Int)) : Prop := CG P rd (fnN P 13) 0 (codeOf P 13 [false, true, false, true, true]) (S_viewportkitLightPartsq1_1 x1_0 x1_1 st) (X_viewportkitLightPartsq1_1 x1_0 x1_1 r)
def B_viewportkitLightPartsq1_1 (n : Nat) (x1_0 : WL rw_iiiiiiLu) (x1_1 : Int) (st : Int × Int) : Option ((Int × Int) ⊕ ((Unit) ⊕ (Int))) := match st with
 | (x1_2, x1_3) =>
  if x1_3 < (((x1_0).l.length : Nat) : Int) then
   if x1_3 ≤ x1_1 then
    if 0 ≤ x1_3 ∧ x1_3 < (((x1_0).l.length : Nat) : Int) then
     ((some (((x1_0).l).getD (x1_3).toNat (0, 0, 0, 0, 0, 0, nl0, 0)))).bind fun y1_4_ =>
     ((some (w64 (x1_2 + ((((y1_4_.2.2.2.2.2.2.1)).l.length : Nat) : Int))))).bind fun y1_5_ =>
     if (y1_4_.2.2.1) > (1048576 : Int) then
      some (.inr (.inl ()))
     else
      if (y1_4_.2.2.2.2.1) > (1048576 : Int) then
       some (.inr (.inl ()))
      else
       if (y1_4_.2.2.2.2.2.1) > (1048576 : Int) then
        some (.inr (.inl ()))
       else
        if (y1_4_.2.2.1) < (-1048576 : Int) then
         some (.inr (.inl ()))
        else
         if (y1_4_.2.2.2.2.1) < (-1048576 : Int) then
          some (.inr (.inl ()))
         else
          if (y1_4_.2.2.2.2.2.1) < (-1048576 : Int) then
           some (.inr (.inl ()))
          else
           some (.inl (y1_5_, (w64 (x1_3 + (1 : Int)))))
    else none
   else
    some (.inr (.inr x1_2))
  else
   some (.inr (.inr x1_2))
def m_viewportkitLightPartsq1_1 (n : Nat) (x1_0 : WL rw_iiiiiiLu) (x1_1 : Int) (st : Int × Int) : Option ((Unit) ⊕ (Int)) := iterM (B_viewportkitLightPartsq1_1 n x1_0 x1_1) n st
theorem b_viewportkitLightPartsq1_1 (n : Nat) {rnd : Option Nat} (x1_0 : WL rw_iiiiiiLu) (x1_1 : Int) (st : Int × Int) (o : (Int × Int) ⊕ ((Unit) ⊕ (Int))) (h : B_viewportkitLightPartsq1_1 n x1_0 x1_1 st = some o) : CG P rnd (fnN P 13) 0 (codeOf P 13 [false, false, true, false, true, true]) (S_viewportkitLightPartsq1_1 x1_0 x1_1 st) (Sum.elim (fun s => (.normal, S_viewportkitLightPartsq1_1 x1_0 x1_1 s)) (fun r => X_viewportkitLightPartsq1_1 x1_0 x1_1 r) o) := by
 obtain ⟨x1_2, x1_3⟩ := st
 unfold B_viewportkitLightPartsq1_1 at h
 dsimp only at h
 by_cases hy1_1 : x1_3 < (((x1_0).l.length : Nat) : Int)
 ·rw [if_pos hy1_1] at h
  have k0 := fun {A L l} (k : PL A L l) => zz 5 (xdT hy1_1) <|
   k
  by_cases hy1_2 : x1_3 ≤ x1_1
  ·rw [if_pos hy1_2] at h
   obtain ⟨hy1_3, h⟩ := gd h
   obtain ⟨y1_4_, hy1_4, h⟩ := oB h
   obtain ⟨y1_5_, hy1_5, h⟩ := oB h
   have k1 := fun {A L l} (k : PL A L l) => zz 9 (xdT hy1_2) <|
    zz 17 (xk4 (x1_0).num (x1_0).off (x1_0).cap hy1_3) <|
    zz 18 (lk5 hy1_4 (toNatLt hy1_3)) <|
    zz 26 (xnm hy1_5) <|
    k
   by_cases hy1_6 : (y1_4_.2.2.1) > (1048576 : Int)
   ·rw [if_pos hy1_6] at h
    obtain rfl := oI h
    exact runC2 hm ⟨[4], [], 0, 0, [], false, [], [], []⟩ (k0 <|
     k1 <|
     zz 31 (xdT hy1_6) <|
     ee) (by kernel_rfl)
   ·rw [if_neg hy1_6] at h
    have k5 := fun {A L l} (k : PL A L l) => zz 31 (xdF hy1_6) <|
     k
    by_cases hy1_7 : (y1_4_.2.2.2.2.1) > (1048576 : Int)
    ·rw [if_pos hy1_7] at h
     obtain rfl := oI h
     exact runC2 hm ⟨[4], [], 0, 0, [], false, [], [], []⟩ (k0 <|
      k1 <|
      k5 <|
      zz 35 (xdT hy1_7) <|
      ee) (by kernel_rfl)
    ·rw [if_neg hy1_7] at h
     have k6 := fun {A L l} (k : PL A L l) => zz 35 (xdF hy1_7) <|
      k
     by_cases hy1_8 : (y1_4_.2.2.2.2.2.1) > (1048576 : Int)
     ·rw [if_pos hy1_8] at h
      obtain rfl := oI h
      exact runC2 hm ⟨[4], [], 0, 0, [], false, [], [], []⟩ (k0 <|
       k1 <|
       k5 <|
       k6 <|
       zz 40 (xdT hy1_8) <|
       ee) (by kernel_rfl)
     ·rw [if_neg hy1_8] at h
      have k7 := fun {A L l} (k : PL A L l) => zz 40 (xdF hy1_8) <|
       k
      by_cases hy1_9 : (y1_4_.2.2.1) < (-1048576 : Int)
      ·rw [if_pos hy1_9] at h
       obtain rfl := oI h
       exact runC2 hm ⟨[4], [], 0, 0, [], false, [], [], []⟩ (k0 <|
        k1 <|
        k5 <|
        k6 <|
        k7 <|
        zz 45 (xdT hy1_9) <|
        ee) (by kernel_rfl)
      ·rw [if_neg hy1_9] at h
       have k8 := fun {A L l} (k : PL A L l) => zz 45 (xdF hy1_9) <|
        k
       by_cases hy1_10 : (y1_4_.2.2.2.2.1) < (-1048576 : Int)
       ·rw [if_pos hy1_10] at h
        obtain rfl := oI h
        exact runC2 hm ⟨[4], [], 0, 0, [], false, [], [], []⟩ (k0 <|
         k1 <|
         k5 <|
         k6 <|
         k7 <|
         k8 <|
         zz 50 (xdT hy1_10) <|
         ee) (by kernel_rfl)
       ·rw [if_neg hy1_10] at h
        have k9 := fun {A L l} (k : PL A L l) => zz 50 (xdF hy1_10) <|
         k
        by_cases hy1_11 : (y1_4_.2.2.2.2.2.1) < (-1048576 : Int)
        ·rw [if_pos hy1_11] at h
         obtain rfl := oI h
         exact runC2 hm ⟨[4], [], 0, 0, [], false, [], [], []⟩ (k0 <|
          k1 <|
          k5 <|
          k6 <|
          k7 <|
          k8 <|
          k9 <|
          zz 55 (xdT hy1_11) <|
          ee) (by kernel_rfl)
        ·rw [if_neg hy1_11] at h
         obtain rfl := oI h
         exact runC2 hm ⟨[0, 1, 5, 6], [], 0, 0, [], false, [], [], []⟩ (k0 <|
          k1 <|
          k5 <|
          k6 <|
          k7 <|
          k8 <|
          k9 <|
          zz 55 (xdF hy1_11) <|
          ee) (by kernel_rfl)
  ·rw [if_neg hy1_2] at h
   obtain rfl := oI h
   exact runC2 hm ⟨[0, 1, 5], [], 0, 0, [], false, [], [], []⟩ (k0 <|
    zz 9 (xdF hy1_2) <|
    ee) (by kernel_rfl)
 ·rw [if_neg hy1_1] at h
  obtain rfl := oI h
  exact runC2 hm ⟨[0, 1, 5], [], 0, 0, [], false, [], [], []⟩ (zz 5 (xdF hy1_1) <|
   ee) (by kernel_rfl)
theorem m_viewportkitLightPartsq1_1_ok (n : Nat) {rnd : Option Nat} (x1_0 : WL rw_iiiiiiLu) (x1_1 : Int) (st : Int × Int) (r : (Unit) ⊕ (Int)) (h : m_viewportkitLightPartsq1_1 n x1_0 x1_1 st = some r) : CG P rnd (fnN P 13) 0 (codeOf P 13 [false, true, false, true, true]) (S_viewportkitLightPartsq1_1 x1_0 x1_1 st) (X_viewportkitLightPartsq1_1 x1_0 x1_1 r) :=
 CG.iter (b := codeOf P 13 [false, false, true, false, true, true]) (by kernel_rfl) (body := B_viewportkitLightPartsq1_1 n x1_0 x1_1) (S := S_viewportkitLightPartsq1_1 x1_0 x1_1) (X := X_viewportkitLightPartsq1_1 x1_0 x1_1)
  (fun s s' h => b_viewportkitLightPartsq1_1 n x1_0 x1_1 s (.inl s') h)
  (fun s r h => b_viewportkitLightPartsq1_1 n x1_0 x1_1 s (.inr r) h)
  (fun r => by intro hx; rcases r with _ | _ <;> cases hx) h
def m_viewportkitLightPartsq1 (n : Nat) (a0 : WL rw_iiiiiiLu) (a1 : Int) : Option (Bool) :=
 match m_viewportkitLightPartsq1_1 n a0 a1 (0, 0) with
 | none => none
 | some (.inl _) =>
  some false
 | some (.inr c1_) =>
  if (((a0).l.length : Nat) : Int) ≤ a1 then
   if c1_ ≤ (w64 ((2 : Int) * a1)) then
    some true
   else
    some false
  else
   some false
theorem m_viewportkitLightPartsq1_ok (n : Nat) (a0 : WL rw_iiiiiiLu) (a1 : Int) (r : Bool) (h : m_viewportkitLightPartsq1 n a0 a1 = some r) : Gv P (.func 13) (A_viewportkitLightPartsq1 a0 a1) (H_viewportkitLightPartsq1 a0 a1) (V_viewportkitLightPartsq1 a0 a1 r) (R_viewportkitLightPartsq1 a0 a1 r) := by
 unfold m_viewportkitLightPartsq1 at h
 rcases hc1 : m_viewportkitLightPartsq1_1 n a0 a1 (0, 0) with _ | (⟨⟩ | c1_)
 ·rw [hc1] at h; cases h
 ·rw [hc1] at h
  dsimp only at h
  obtain rfl := oI h
  exact runF2 hm ⟨[4], [], 0, 0, [], false, [], [], []⟩ (ww (p := U_viewportkitLightPartsq1_1 none a0 a1 (0, 0) (.inl ())) (m_viewportkitLightPartsq1_1_ok n a0 a1 (0, 0) (.inl ()) hc1) <|
   ll 8 ⟨⟨[0, 1, 5, 6], [], 0, 0, [], false, [], [], []⟩, (X_viewportkitLightPartsq1_1 a0 a1 (.inl ())).1, (X_viewportkitLightPartsq1_1 a0 a1 (.inl ())).2⟩ <|
   ee) (by kernel_rfl)
 ·rw [hc1] at h
  dsimp only at h
  have k0 := fun {A L l} (k : PL A L l) => ww (p := U_viewportkitLightPartsq1_1 none a0 a1 (0, 0) (.inr c1_)) (m_viewportkitLightPartsq1_1_ok n a0 a1 (0, 0) (.inr c1_) hc1) <|
   ll 8 ⟨⟨[0, 1, 5, 6], [], 0, 0, [], false, [], [], []⟩, (X_viewportkitLightPartsq1_1 a0 a1 (.inr c1_)).1, (X_viewportkitLightPartsq1_1 a0 a1 (.inr c1_)).2⟩ <|
   k
  by_cases hc2 : (((a0).l.length : Nat) : Int) ≤ a1
  ·rw [if_pos hc2] at h
   have k2 := fun {A L l} (k : PL A L l) => zz 13 (xdT hc2) <|
    k
   by_cases hc3 : c1_ ≤ (w64 ((2 : Int) * a1))
   ·rw [if_pos hc3] at h
    obtain rfl := oI h
    exact runF2 hm ⟨[4], [], 0, 0, [], false, [], [], []⟩ (k0 <|
     k2 <|
     zz 18 (xdT hc3) <|
     ee) (by kernel_rfl)
   ·rw [if_neg hc3] at h
    obtain rfl := oI h
    exact runF2 hm ⟨[4], [], 0, 0, [], false, [], [], []⟩ (k0 <|
     k2 <|
     zz 18 (xdF hc3) <|
     ee) (by kernel_rfl)
  ·rw [if_neg hc2] at h
   obtain rfl := oI h
   exact runF2 hm ⟨[4], [], 0, 0, [], false, [], [], []⟩ (k0 <|
    zz 13 (xdF hc2) <|
    ee) (by kernel_rfl)

def A_viewportlaw26lightq1 (a0 : WL rw_iLii) (a1 : WL rw_iiiiiiLu) : List Value := [(wlV a0), (Value.slice none 0 0), (wlV a1)]
def H_viewportlaw26lightq1 (a0 : WL rw_iLii) (a1 : WL rw_iiiiiiLu) : AH := ⟨sB [], 0, 0⟩
def V_viewportlaw26lightq1 (a0 : WL rw_iLii) (a1 : WL rw_iiiiiiLu) (r : Bool) : Value := match r with
 | o0 => (bO o0)
def R_viewportlaw26lightq1 (a0 : WL rw_iLii) (a1 : WL rw_iiiiiiLu) (r : Bool) : AH := match r with
 | o0 => ⟨sB [], 0, 0⟩
abbrev G_viewportlaw26lightq1 (a0 : WL rw_iLii) (a1 : WL rw_iiiiiiLu) (r : Bool) : Prop := Gv P (.func 5) (A_viewportlaw26lightq1 a0 a1) (H_viewportlaw26lightq1 a0 a1) (V_viewportlaw26lightq1 a0 a1 r) (R_viewportlaw26lightq1 a0 a1 r)
abbrev C_viewportlaw26lightq1 (a0 : WL rw_iLii) (a1 : WL rw_iiiiiiLu) (r : Bool) (ins outs : BL) : CallA := ⟨0, ins, V_viewportlaw26lightq1 a0 a1 r, R_viewportlaw26lightq1 a0 a1 r, outs⟩
def m_viewportlaw26lightq1 (n : Nat) (a0 : WL rw_iLii) (a1 : WL rw_iiiiiiLu) : Option (Bool) :=
 (m_viewportkitLightStylesq1 n a0).bind fun c1_ =>
 if c1_ = true then
  (m_viewportkitLightPartsq1 n a1 100).bind fun c3_ =>
  some c3_
 else
  some false
theorem m_viewportlaw26lightq1_ok (n : Nat) (a0 : WL rw_iLii) (a1 : WL rw_iiiiiiLu) (r : Bool) (h : m_viewportlaw26lightq1 n a0 a1 = some r) : Gv P (.func 5) (A_viewportlaw26lightq1 a0 a1) (H_viewportlaw26lightq1 a0 a1) (V_viewportlaw26lightq1 a0 a1 r) (R_viewportlaw26lightq1 a0 a1 r) := by
 unfold m_viewportlaw26lightq1 at h
 obtain ⟨c1_, hc1, h⟩ := oB h
 have k0 := fun {A L l} (k : PL A L l) => yy 4 (.call (C_viewportkitLightStylesq1 a0 c1_ [] [])) <|
  ww (m_viewportkitLightStylesq1_ok n a0 c1_ hc1) <|
  k
 by_cases hc2 : c1_ = true
 ·rw [if_pos hc2] at h
  obtain ⟨c3_, hc3, h⟩ := oB h
  obtain rfl := oI h
  exact runF2 hm ⟨[6], [], 0, 0, [], false, [], [], []⟩ (k0 <|
   zz 5 (xbT hc2) <|
   yy 12 (.call (C_viewportkitLightPartsq1 a1 100 c3_ [] [])) <|
   ww (m_viewportkitLightPartsq1_ok n a1 100 c3_ hc3) <|
   ee) (by kernel_rfl)
 ·rw [if_neg hc2] at h
  obtain rfl := oI h
  exact runF2 hm ⟨[6], [], 0, 0, [], false, [], [], []⟩ (k0 <|
   zz 5 (xbF hc2) <|
   ee) (by kernel_rfl)

def A_viewportref16leafq1 (a0 : Int) : List Value := [(i6 a0)]
def H_viewportref16leafq1 (a0 : Int) : AH := ⟨sB [], 0, 0⟩
def V_viewportref16leafq1 (a0 : Int) (r : Bool) : Value := match r with
 | o0 => (bO o0)
def R_viewportref16leafq1 (a0 : Int) (r : Bool) : AH := match r with
 | o0 => ⟨sB [], 0, 0⟩
abbrev G_viewportref16leafq1 (a0 : Int) (r : Bool) : Prop := Gv P (.func 23) (A_viewportref16leafq1 a0) (H_viewportref16leafq1 a0) (V_viewportref16leafq1 a0 r) (R_viewportref16leafq1 a0 r)
abbrev C_viewportref16leafq1 (a0 : Int) (r : Bool) (ins outs : BL) : CallA := ⟨0, ins, V_viewportref16leafq1 a0 r, R_viewportref16leafq1 a0 r, outs⟩
def m_viewportref16leafq1 (n : Nat) (a0 : Int) : Option (Bool) :=
 if a0 = (1 : Int) then
  some false
 else
  if a0 = (2 : Int) then
   some false
  else
   some true
theorem m_viewportref16leafq1_ok (n : Nat) (a0 : Int) (r : Bool) (h : m_viewportref16leafq1 n a0 = some r) : Gv P (.func 23) (A_viewportref16leafq1 a0) (H_viewportref16leafq1 a0) (V_viewportref16leafq1 a0 r) (R_viewportref16leafq1 a0 r) := by
 unfold m_viewportref16leafq1 at h
 by_cases hc1 : a0 = (1 : Int)
 ·rw [if_pos hc1] at h
  obtain rfl := oI h
  exact runF2 hm ⟨[2], [], 0, 0, [], false, [], [], []⟩ (zz 4 (xnF hc1) <|
   ee) (by kernel_rfl)
 ·rw [if_neg hc1] at h
  have k0 := fun {A L l} (k : PL A L l) => zz 4 (xnT hc1) <|
   k
  by_cases hc2 : a0 = (2 : Int)
  ·rw [if_pos hc2] at h
   obtain rfl := oI h
   exact runF2 hm ⟨[2], [], 0, 0, [], false, [], [], []⟩ (k0 <|
    zz 7 (xnF hc2) <|
    ee) (by kernel_rfl)
  ·rw [if_neg hc2] at h
   obtain rfl := oI h
   exact runF2 hm ⟨[2], [], 0, 0, [], false, [], [], []⟩ (k0 <|
    zz 7 (xnT hc2) <|
    ee) (by kernel_rfl)

def A_viewportref16bareq1 (a0 : Int) (a1 : Int) (a2 : Int) (a3 : Int) (a4 : Int) (a5 : Int) (a6 : NL) (a7 : Int) : List Value := [(Value.agg #[(i6 a0), (i6 a1), (i6 a2), (i6 a3), (i6 a4), (i6 a5), (nlV a6), (Value.int .u64 a7)])]
def H_viewportref16bareq1 (a0 : Int) (a1 : Int) (a2 : Int) (a3 : Int) (a4 : Int) (a5 : Int) (a6 : NL) (a7 : Int) : AH := ⟨sB [], 0, 0⟩
def V_viewportref16bareq1 (a0 : Int) (a1 : Int) (a2 : Int) (a3 : Int) (a4 : Int) (a5 : Int) (a6 : NL) (a7 : Int) (r : Bool) : Value := match r with
 | o0 => (bO o0)
def R_viewportref16bareq1 (a0 : Int) (a1 : Int) (a2 : Int) (a3 : Int) (a4 : Int) (a5 : Int) (a6 : NL) (a7 : Int) (r : Bool) : AH := match r with
 | o0 => ⟨sB [], 0, 0⟩
abbrev G_viewportref16bareq1 (a0 : Int) (a1 : Int) (a2 : Int) (a3 : Int) (a4 : Int) (a5 : Int) (a6 : NL) (a7 : Int) (r : Bool) : Prop := Gv P (.func 14) (A_viewportref16bareq1 a0 a1 a2 a3 a4 a5 a6 a7) (H_viewportref16bareq1 a0 a1 a2 a3 a4 a5 a6 a7) (V_viewportref16bareq1 a0 a1 a2 a3 a4 a5 a6 a7 r) (R_viewportref16bareq1 a0 a1 a2 a3 a4 a5 a6 a7 r)
abbrev C_viewportref16bareq1 (a0 : Int) (a1 : Int) (a2 : Int) (a3 : Int) (a4 : Int) (a5 : Int) (a6 : NL) (a7 : Int) (r : Bool) (ins outs : BL) : CallA := ⟨0, ins, V_viewportref16bareq1 a0 a1 a2 a3 a4 a5 a6 a7 r, R_viewportref16bareq1 a0 a1 a2 a3 a4 a5 a6 a7 r, outs⟩
def m_viewportref16bareq1 (n : Nat) (a0 : Int) (a1 : Int) (a2 : Int) (a3 : Int) (a4 : Int) (a5 : Int) (a6 : NL) (a7 : Int) : Option (Bool) :=
 if a1 < (1 : Int) then
  some false
 else
  if a1 > (6 : Int) then
   some false
  else
   if a2 < (0 : Int) then
    some false
   else
    if a2 > a4 then
     some false
    else
     if a5 ≤ a2 then
      some false
     else
      if a1 = (3 : Int) then
       if a3 < a2 then
        some false
       else
        if a3 > a4 then
         some false
        else
         if a1 = (4 : Int) then
          if a2 = a4 then
           (m_viewportref16leafq1 n a1).bind fun c11_ =>
           if c11_ = true then
            if (((a6).l.length : Nat) : Int) = (0 : Int) then
             some true
            else
             some false
           else
            some true
          else
           some false
         else
          (m_viewportref16leafq1 n a1).bind fun c10_ =>
          if c10_ = true then
           if (((a6).l.length : Nat) : Int) = (0 : Int) then
            some true
           else
            some false
          else
           some true
      else
       if a1 = (5 : Int) then
        if a3 < a2 then
         some false
        else
         if a3 > a4 then
          some false
         else
          if a1 = (4 : Int) then
           if a2 = a4 then
            (m_viewportref16leafq1 n a1).bind fun c12_ =>
            if c12_ = true then
             if (((a6).l.length : Nat) : Int) = (0 : Int) then
              some true
             else
              some false
            else
             some true
           else
            some false
          else
           (m_viewportref16leafq1 n a1).bind fun c11_ =>
           if c11_ = true then
            if (((a6).l.length : Nat) : Int) = (0 : Int) then
             some true
            else
             some false
           else
            some true
       else
        if a1 = (6 : Int) then
         if a3 < a2 then
          some false
         else
          if a3 > a4 then
           some false
          else
           if a1 = (4 : Int) then
            if a2 = a4 then
             (m_viewportref16leafq1 n a1).bind fun c13_ =>
             if c13_ = true then
              if (((a6).l.length : Nat) : Int) = (0 : Int) then
               some true
              else
               some false
             else
              some true
            else
             some false
           else
            (m_viewportref16leafq1 n a1).bind fun c12_ =>
            if c12_ = true then
             if (((a6).l.length : Nat) : Int) = (0 : Int) then
              some true
             else
              some false
            else
             some true
        else
         if a3 = a2 then
          if a1 = (4 : Int) then
           if a2 = a4 then
            (m_viewportref16leafq1 n a1).bind fun c12_ =>
            if c12_ = true then
             if (((a6).l.length : Nat) : Int) = (0 : Int) then
              some true
             else
              some false
            else
             some true
           else
            some false
          else
           (m_viewportref16leafq1 n a1).bind fun c11_ =>
           if c11_ = true then
            if (((a6).l.length : Nat) : Int) = (0 : Int) then
             some true
            else
             some false
           else
            some true
         else
          some false
theorem m_viewportref16bareq1_ok (n : Nat) (a0 : Int) (a1 : Int) (a2 : Int) (a3 : Int) (a4 : Int) (a5 : Int) (a6 : NL) (a7 : Int) (r : Bool) (h : m_viewportref16bareq1 n a0 a1 a2 a3 a4 a5 a6 a7 = some r) : Gv P (.func 14) (A_viewportref16bareq1 a0 a1 a2 a3 a4 a5 a6 a7) (H_viewportref16bareq1 a0 a1 a2 a3 a4 a5 a6 a7) (V_viewportref16bareq1 a0 a1 a2 a3 a4 a5 a6 a7 r) (R_viewportref16bareq1 a0 a1 a2 a3 a4 a5 a6 a7 r) := by
 unfold m_viewportref16bareq1 at h
 by_cases hc1 : a1 < (1 : Int)
 ·rw [if_pos hc1] at h
  obtain rfl := oI h
  exact runF2 hm ⟨[2], [], 0, 0, [], false, [], [], []⟩ (zz 7 (xdT hc1) <|
   ee) (by kernel_rfl)
 ·rw [if_neg hc1] at h
  have k0 := fun {A L l} (k : PL A L l) => zz 7 (xdF hc1) <|
   k
  by_cases hc2 : a1 > (6 : Int)
  ·rw [if_pos hc2] at h
   obtain rfl := oI h
   exact runF2 hm ⟨[2], [], 0, 0, [], false, [], [], []⟩ (k0 <|
    zz 11 (xdT hc2) <|
    ee) (by kernel_rfl)
  ·rw [if_neg hc2] at h
   have k1 := fun {A L l} (k : PL A L l) => zz 11 (xdF hc2) <|
    k
   by_cases hc3 : a2 < (0 : Int)
   ·rw [if_pos hc3] at h
    obtain rfl := oI h
    exact runF2 hm ⟨[2], [], 0, 0, [], false, [], [], []⟩ (k0 <|
     k1 <|
     zz 16 (xdT hc3) <|
     ee) (by kernel_rfl)
   ·rw [if_neg hc3] at h
    have k2 := fun {A L l} (k : PL A L l) => zz 16 (xdF hc3) <|
     k
    by_cases hc4 : a2 > a4
    ·rw [if_pos hc4] at h
     obtain rfl := oI h
     exact runF2 hm ⟨[2], [], 0, 0, [], false, [], [], []⟩ (k0 <|
      k1 <|
      k2 <|
      zz 23 (xdT hc4) <|
      ee) (by kernel_rfl)
    ·rw [if_neg hc4] at h
     have k3 := fun {A L l} (k : PL A L l) => zz 23 (xdF hc4) <|
      k
     by_cases hc5 : a5 ≤ a2
     ·rw [if_pos hc5] at h
      obtain rfl := oI h
      exact runF2 hm ⟨[2], [], 0, 0, [], false, [], [], []⟩ (k0 <|
       k1 <|
       k2 <|
       k3 <|
       zz 30 (xdT hc5) <|
       ee) (by kernel_rfl)
     ·rw [if_neg hc5] at h
      have k4 := fun {A L l} (k : PL A L l) => zz 30 (xdF hc5) <|
       k
      by_cases hc6 : a1 = (3 : Int)
      ·rw [if_pos hc6] at h
       have k5 := fun {A L l} (k : PL A L l) => zz 36 (xeT hc6) <|
        k
       by_cases hc7 : a3 < a2
       ·rw [if_pos hc7] at h
        obtain rfl := oI h
        exact runF2 hm ⟨[2], [], 0, 0, [], false, [], [], []⟩ (k0 <|
         k1 <|
         k2 <|
         k3 <|
         k4 <|
         k5 <|
         zz 56 (xdT hc7) <|
         ee) (by kernel_rfl)
       ·rw [if_neg hc7] at h
        have k6 := fun {A L l} (k : PL A L l) => zz 56 (xdF hc7) <|
         k
        by_cases hc8 : a3 > a4
        ·rw [if_pos hc8] at h
         obtain rfl := oI h
         exact runF2 hm ⟨[2], [], 0, 0, [], false, [], [], []⟩ (k0 <|
          k1 <|
          k2 <|
          k3 <|
          k4 <|
          k5 <|
          k6 <|
          zz 62 (xdT hc8) <|
          ee) (by kernel_rfl)
        ·rw [if_neg hc8] at h
         have k7 := fun {A L l} (k : PL A L l) => zz 62 (xdF hc8) <|
          k
         by_cases hc9 : a1 = (4 : Int)
         ·rw [if_pos hc9] at h
          have k8 := fun {A L l} (k : PL A L l) => zz 80 (xnF hc9) <|
           k
          by_cases hc10 : a2 = a4
          ·rw [if_pos hc10] at h
           obtain ⟨c11_, hc11, h⟩ := oB h
           have k9 := fun {A L l} (k : PL A L l) => zz 86 (xeT hc10) <|
            yy 91 (.call (C_viewportref16leafq1 a1 c11_ [] [])) <|
            ww (m_viewportref16leafq1_ok n a1 c11_ hc11) <|
            k
           by_cases hc12 : c11_ = true
           ·rw [if_pos hc12] at h
            have k12 := fun {A L l} (k : PL A L l) => yy 92 (vf) <|
             ww (p := (Value.bool (!c11_)) = (Value.bool false)) (vBn hc12) <|
             k
            by_cases hc13 : (((a6).l.length : Nat) : Int) = (0 : Int)
            ·rw [if_pos hc13] at h
             obtain rfl := oI h
             exact runF2 hm ⟨[2], [], 0, 0, [], false, [], [], []⟩ (k0 <|
              k1 <|
              k2 <|
              k3 <|
              k4 <|
              k5 <|
              k6 <|
              k7 <|
              k8 <|
              k9 <|
              k12 <|
              zz 97 (xeT hc13) <|
              ee) (by kernel_rfl)
            ·rw [if_neg hc13] at h
             obtain rfl := oI h
             exact runF2 hm ⟨[2], [], 0, 0, [], false, [], [], []⟩ (k0 <|
              k1 <|
              k2 <|
              k3 <|
              k4 <|
              k5 <|
              k6 <|
              k7 <|
              k8 <|
              k9 <|
              k12 <|
              zz 97 (xeF hc13) <|
              ee) (by kernel_rfl)
           ·rw [if_neg hc12] at h
            obtain rfl := oI h
            exact runF2 hm ⟨[2], [], 0, 0, [], false, [], [], []⟩ (k0 <|
             k1 <|
             k2 <|
             k3 <|
             k4 <|
             k5 <|
             k6 <|
             k7 <|
             k8 <|
             k9 <|
             yy 92 (vt) <|
             ww (p := (Value.bool (!c11_)) = (Value.bool true)) (vBn (Bool.eq_false_iff.2 hc12)) <|
             ee) (by kernel_rfl)
          ·rw [if_neg hc10] at h
           obtain rfl := oI h
           exact runF2 hm ⟨[2], [], 0, 0, [], false, [], [], []⟩ (k0 <|
            k1 <|
            k2 <|
            k3 <|
            k4 <|
            k5 <|
            k6 <|
            k7 <|
            k8 <|
            zz 86 (xeF hc10) <|
            ee) (by kernel_rfl)
         ·rw [if_neg hc9] at h
          obtain ⟨c10_, hc10, h⟩ := oB h
          have k8 := fun {A L l} (k : PL A L l) => zz 80 (xnT hc9) <|
           yy 91 (.call (C_viewportref16leafq1 a1 c10_ [] [])) <|
           ww (m_viewportref16leafq1_ok n a1 c10_ hc10) <|
           k
          by_cases hc11 : c10_ = true
          ·rw [if_pos hc11] at h
           have k11 := fun {A L l} (k : PL A L l) => yy 92 (vf) <|
            ww (p := (Value.bool (!c10_)) = (Value.bool false)) (vBn hc11) <|
            k
           by_cases hc12 : (((a6).l.length : Nat) : Int) = (0 : Int)
           ·rw [if_pos hc12] at h
            obtain rfl := oI h
            exact runF2 hm ⟨[2], [], 0, 0, [], false, [], [], []⟩ (k0 <|
             k1 <|
             k2 <|
             k3 <|
             k4 <|
             k5 <|
             k6 <|
             k7 <|
             k8 <|
             k11 <|
             zz 97 (xeT hc12) <|
             ee) (by kernel_rfl)
           ·rw [if_neg hc12] at h
            obtain rfl := oI h
            exact runF2 hm ⟨[2], [], 0, 0, [], false, [], [], []⟩ (k0 <|
             k1 <|
             k2 <|
             k3 <|
             k4 <|
             k5 <|
             k6 <|
             k7 <|
             k8 <|
             k11 <|
             zz 97 (xeF hc12) <|
             ee) (by kernel_rfl)
          ·rw [if_neg hc11] at h
           obtain rfl := oI h
           exact runF2 hm ⟨[2], [], 0, 0, [], false, [], [], []⟩ (k0 <|
            k1 <|
            k2 <|
            k3 <|
            k4 <|
            k5 <|
            k6 <|
            k7 <|
            k8 <|
            yy 92 (vt) <|
            ww (p := (Value.bool (!c10_)) = (Value.bool true)) (vBn (Bool.eq_false_iff.2 hc11)) <|
            ee) (by kernel_rfl)
      ·rw [if_neg hc6] at h
       have k5 := fun {A L l} (k : PL A L l) => zz 36 (xeF hc6) <|
        k
       by_cases hc7 : a1 = (5 : Int)
       ·rw [if_pos hc7] at h
        have k6 := fun {A L l} (k : PL A L l) => zz 40 (xeT hc7) <|
         k
        by_cases hc8 : a3 < a2
        ·rw [if_pos hc8] at h
         obtain rfl := oI h
         exact runF2 hm ⟨[2], [], 0, 0, [], false, [], [], []⟩ (k0 <|
          k1 <|
          k2 <|
          k3 <|
          k4 <|
          k5 <|
          k6 <|
          zz 56 (xdT hc8) <|
          ee) (by kernel_rfl)
        ·rw [if_neg hc8] at h
         have k7 := fun {A L l} (k : PL A L l) => zz 56 (xdF hc8) <|
          k
         by_cases hc9 : a3 > a4
         ·rw [if_pos hc9] at h
          obtain rfl := oI h
          exact runF2 hm ⟨[2], [], 0, 0, [], false, [], [], []⟩ (k0 <|
           k1 <|
           k2 <|
           k3 <|
           k4 <|
           k5 <|
           k6 <|
           k7 <|
           zz 62 (xdT hc9) <|
           ee) (by kernel_rfl)
         ·rw [if_neg hc9] at h
          have k8 := fun {A L l} (k : PL A L l) => zz 62 (xdF hc9) <|
           k
          by_cases hc10 : a1 = (4 : Int)
          ·rw [if_pos hc10] at h
           have k9 := fun {A L l} (k : PL A L l) => zz 80 (xnF hc10) <|
            k
           by_cases hc11 : a2 = a4
           ·rw [if_pos hc11] at h
            obtain ⟨c12_, hc12, h⟩ := oB h
            have k10 := fun {A L l} (k : PL A L l) => zz 86 (xeT hc11) <|
             yy 91 (.call (C_viewportref16leafq1 a1 c12_ [] [])) <|
             ww (m_viewportref16leafq1_ok n a1 c12_ hc12) <|
             k
            by_cases hc13 : c12_ = true
            ·rw [if_pos hc13] at h
             have k13 := fun {A L l} (k : PL A L l) => yy 92 (vf) <|
              ww (p := (Value.bool (!c12_)) = (Value.bool false)) (vBn hc13) <|
              k
             by_cases hc14 : (((a6).l.length : Nat) : Int) = (0 : Int)
             ·rw [if_pos hc14] at h
              obtain rfl := oI h
              exact runF2 hm ⟨[2], [], 0, 0, [], false, [], [], []⟩ (k0 <|
               k1 <|
               k2 <|
               k3 <|
               k4 <|
               k5 <|
               k6 <|
               k7 <|
               k8 <|
               k9 <|
               k10 <|
               k13 <|
               zz 97 (xeT hc14) <|
               ee) (by kernel_rfl)
             ·rw [if_neg hc14] at h
              obtain rfl := oI h
              exact runF2 hm ⟨[2], [], 0, 0, [], false, [], [], []⟩ (k0 <|
               k1 <|
               k2 <|
               k3 <|
               k4 <|
               k5 <|
               k6 <|
               k7 <|
               k8 <|
               k9 <|
               k10 <|
               k13 <|
               zz 97 (xeF hc14) <|
               ee) (by kernel_rfl)
            ·rw [if_neg hc13] at h
             obtain rfl := oI h
             exact runF2 hm ⟨[2], [], 0, 0, [], false, [], [], []⟩ (k0 <|
              k1 <|
              k2 <|
              k3 <|
              k4 <|
              k5 <|
              k6 <|
              k7 <|
              k8 <|
              k9 <|
              k10 <|
              yy 92 (vt) <|
              ww (p := (Value.bool (!c12_)) = (Value.bool true)) (vBn (Bool.eq_false_iff.2 hc13)) <|
              ee) (by kernel_rfl)
           ·rw [if_neg hc11] at h
            obtain rfl := oI h
            exact runF2 hm ⟨[2], [], 0, 0, [], false, [], [], []⟩ (k0 <|
             k1 <|
             k2 <|
             k3 <|
             k4 <|
             k5 <|
             k6 <|
             k7 <|
             k8 <|
             k9 <|
             zz 86 (xeF hc11) <|
             ee) (by kernel_rfl)
          ·rw [if_neg hc10] at h
           obtain ⟨c11_, hc11, h⟩ := oB h
           have k9 := fun {A L l} (k : PL A L l) => zz 80 (xnT hc10) <|
            yy 91 (.call (C_viewportref16leafq1 a1 c11_ [] [])) <|
            ww (m_viewportref16leafq1_ok n a1 c11_ hc11) <|
            k
           by_cases hc12 : c11_ = true
           ·rw [if_pos hc12] at h
            have k12 := fun {A L l} (k : PL A L l) => yy 92 (vf) <|
             ww (p := (Value.bool (!c11_)) = (Value.bool false)) (vBn hc12) <|
             k
            by_cases hc13 : (((a6).l.length : Nat) : Int) = (0 : Int)
            ·rw [if_pos hc13] at h
             obtain rfl := oI h
             exact runF2 hm ⟨[2], [], 0, 0, [], false, [], [], []⟩ (k0 <|
              k1 <|
              k2 <|
              k3 <|
              k4 <|
              k5 <|
              k6 <|
              k7 <|
              k8 <|
              k9 <|
              k12 <|
              zz 97 (xeT hc13) <|
              ee) (by kernel_rfl)
            ·rw [if_neg hc13] at h
             obtain rfl := oI h
             exact runF2 hm ⟨[2], [], 0, 0, [], false, [], [], []⟩ (k0 <|
              k1 <|
              k2 <|
              k3 <|
              k4 <|
              k5 <|
              k6 <|
              k7 <|
              k8 <|
              k9 <|
              k12 <|
              zz 97 (xeF hc13) <|
              ee) (by kernel_rfl)
           ·rw [if_neg hc12] at h
            obtain rfl := oI h
            exact runF2 hm ⟨[2], [], 0, 0, [], false, [], [], []⟩ (k0 <|
             k1 <|
             k2 <|
             k3 <|
             k4 <|
             k5 <|
             k6 <|
             k7 <|
             k8 <|
             k9 <|
             yy 92 (vt) <|
             ww (p := (Value.bool (!c11_)) = (Value.bool true)) (vBn (Bool.eq_false_iff.2 hc12)) <|
             ee) (by kernel_rfl)
       ·rw [if_neg hc7] at h
        have k6 := fun {A L l} (k : PL A L l) => zz 40 (xeF hc7) <|
         k
        by_cases hc8 : a1 = (6 : Int)
        ·rw [if_pos hc8] at h
         have k7 := fun {A L l} (k : PL A L l) => zz 45 (xeT hc8) <|
          k
         by_cases hc9 : a3 < a2
         ·rw [if_pos hc9] at h
          obtain rfl := oI h
          exact runF2 hm ⟨[2], [], 0, 0, [], false, [], [], []⟩ (k0 <|
           k1 <|
           k2 <|
           k3 <|
           k4 <|
           k5 <|
           k6 <|
           k7 <|
           zz 56 (xdT hc9) <|
           ee) (by kernel_rfl)
         ·rw [if_neg hc9] at h
          have k8 := fun {A L l} (k : PL A L l) => zz 56 (xdF hc9) <|
           k
          by_cases hc10 : a3 > a4
          ·rw [if_pos hc10] at h
           obtain rfl := oI h
           exact runF2 hm ⟨[2], [], 0, 0, [], false, [], [], []⟩ (k0 <|
            k1 <|
            k2 <|
            k3 <|
            k4 <|
            k5 <|
            k6 <|
            k7 <|
            k8 <|
            zz 62 (xdT hc10) <|
            ee) (by kernel_rfl)
          ·rw [if_neg hc10] at h
           have k9 := fun {A L l} (k : PL A L l) => zz 62 (xdF hc10) <|
            k
           by_cases hc11 : a1 = (4 : Int)
           ·rw [if_pos hc11] at h
            have k10 := fun {A L l} (k : PL A L l) => zz 80 (xnF hc11) <|
             k
            by_cases hc12 : a2 = a4
            ·rw [if_pos hc12] at h
             obtain ⟨c13_, hc13, h⟩ := oB h
             have k11 := fun {A L l} (k : PL A L l) => zz 86 (xeT hc12) <|
              yy 91 (.call (C_viewportref16leafq1 a1 c13_ [] [])) <|
              ww (m_viewportref16leafq1_ok n a1 c13_ hc13) <|
              k
             by_cases hc14 : c13_ = true
             ·rw [if_pos hc14] at h
              have k14 := fun {A L l} (k : PL A L l) => yy 92 (vf) <|
               ww (p := (Value.bool (!c13_)) = (Value.bool false)) (vBn hc14) <|
               k
              by_cases hc15 : (((a6).l.length : Nat) : Int) = (0 : Int)
              ·rw [if_pos hc15] at h
               obtain rfl := oI h
               exact runF2 hm ⟨[2], [], 0, 0, [], false, [], [], []⟩ (k0 <|
                k1 <|
                k2 <|
                k3 <|
                k4 <|
                k5 <|
                k6 <|
                k7 <|
                k8 <|
                k9 <|
                k10 <|
                k11 <|
                k14 <|
                zz 97 (xeT hc15) <|
                ee) (by kernel_rfl)
              ·rw [if_neg hc15] at h
               obtain rfl := oI h
               exact runF2 hm ⟨[2], [], 0, 0, [], false, [], [], []⟩ (k0 <|
                k1 <|
                k2 <|
                k3 <|
                k4 <|
                k5 <|
                k6 <|
                k7 <|
                k8 <|
                k9 <|
                k10 <|
                k11 <|
                k14 <|
                zz 97 (xeF hc15) <|
                ee) (by kernel_rfl)
             ·rw [if_neg hc14] at h
              obtain rfl := oI h
              exact runF2 hm ⟨[2], [], 0, 0, [], false, [], [], []⟩ (k0 <|
               k1 <|
               k2 <|
               k3 <|
               k4 <|
               k5 <|
               k6 <|
               k7 <|
               k8 <|
               k9 <|
               k10 <|
               k11 <|
               yy 92 (vt) <|
               ww (p := (Value.bool (!c13_)) = (Value.bool true)) (vBn (Bool.eq_false_iff.2 hc14)) <|
               ee) (by kernel_rfl)
            ·rw [if_neg hc12] at h
             obtain rfl := oI h
             exact runF2 hm ⟨[2], [], 0, 0, [], false, [], [], []⟩ (k0 <|
              k1 <|
              k2 <|
              k3 <|
              k4 <|
              k5 <|
              k6 <|
              k7 <|
              k8 <|
              k9 <|
              k10 <|
              zz 86 (xeF hc12) <|
              ee) (by kernel_rfl)
           ·rw [if_neg hc11] at h
            obtain ⟨c12_, hc12, h⟩ := oB h
            have k10 := fun {A L l} (k : PL A L l) => zz 80 (xnT hc11) <|
             yy 91 (.call (C_viewportref16leafq1 a1 c12_ [] [])) <|
             ww (m_viewportref16leafq1_ok n a1 c12_ hc12) <|
             k
            by_cases hc13 : c12_ = true
            ·rw [if_pos hc13] at h
             have k13 := fun {A L l} (k : PL A L l) => yy 92 (vf) <|
              ww (p := (Value.bool (!c12_)) = (Value.bool false)) (vBn hc13) <|
              k
             by_cases hc14 : (((a6).l.length : Nat) : Int) = (0 : Int)
             ·rw [if_pos hc14] at h
              obtain rfl := oI h
              exact runF2 hm ⟨[2], [], 0, 0, [], false, [], [], []⟩ (k0 <|
               k1 <|
               k2 <|
               k3 <|
               k4 <|
               k5 <|
               k6 <|
               k7 <|
               k8 <|
               k9 <|
               k10 <|
               k13 <|
               zz 97 (xeT hc14) <|
               ee) (by kernel_rfl)
             ·rw [if_neg hc14] at h
              obtain rfl := oI h
              exact runF2 hm ⟨[2], [], 0, 0, [], false, [], [], []⟩ (k0 <|
               k1 <|
               k2 <|
               k3 <|
               k4 <|
               k5 <|
               k6 <|
               k7 <|
               k8 <|
               k9 <|
               k10 <|
               k13 <|
               zz 97 (xeF hc14) <|
               ee) (by kernel_rfl)
            ·rw [if_neg hc13] at h
             obtain rfl := oI h
             exact runF2 hm ⟨[2], [], 0, 0, [], false, [], [], []⟩ (k0 <|
              k1 <|
              k2 <|
              k3 <|
              k4 <|
              k5 <|
              k6 <|
              k7 <|
              k8 <|
              k9 <|
              k10 <|
              yy 92 (vt) <|
              ww (p := (Value.bool (!c12_)) = (Value.bool true)) (vBn (Bool.eq_false_iff.2 hc13)) <|
              ee) (by kernel_rfl)
        ·rw [if_neg hc8] at h
         have k7 := fun {A L l} (k : PL A L l) => zz 45 (xeF hc8) <|
          k
         by_cases hc9 : a3 = a2
         ·rw [if_pos hc9] at h
          have k8 := fun {A L l} (k : PL A L l) => zz 73 (xnF hc9) <|
           k
          by_cases hc10 : a1 = (4 : Int)
          ·rw [if_pos hc10] at h
           have k9 := fun {A L l} (k : PL A L l) => zz 80 (xnF hc10) <|
            k
           by_cases hc11 : a2 = a4
           ·rw [if_pos hc11] at h
            obtain ⟨c12_, hc12, h⟩ := oB h
            have k10 := fun {A L l} (k : PL A L l) => zz 86 (xeT hc11) <|
             yy 91 (.call (C_viewportref16leafq1 a1 c12_ [] [])) <|
             ww (m_viewportref16leafq1_ok n a1 c12_ hc12) <|
             k
            by_cases hc13 : c12_ = true
            ·rw [if_pos hc13] at h
             have k13 := fun {A L l} (k : PL A L l) => yy 92 (vf) <|
              ww (p := (Value.bool (!c12_)) = (Value.bool false)) (vBn hc13) <|
              k
             by_cases hc14 : (((a6).l.length : Nat) : Int) = (0 : Int)
             ·rw [if_pos hc14] at h
              obtain rfl := oI h
              exact runF2 hm ⟨[2], [], 0, 0, [], false, [], [], []⟩ (k0 <|
               k1 <|
               k2 <|
               k3 <|
               k4 <|
               k5 <|
               k6 <|
               k7 <|
               k8 <|
               k9 <|
               k10 <|
               k13 <|
               zz 97 (xeT hc14) <|
               ee) (by kernel_rfl)
             ·rw [if_neg hc14] at h
              obtain rfl := oI h
              exact runF2 hm ⟨[2], [], 0, 0, [], false, [], [], []⟩ (k0 <|
               k1 <|
               k2 <|
               k3 <|
               k4 <|
               k5 <|
               k6 <|
               k7 <|
               k8 <|
               k9 <|
               k10 <|
               k13 <|
               zz 97 (xeF hc14) <|
               ee) (by kernel_rfl)
            ·rw [if_neg hc13] at h
             obtain rfl := oI h
             exact runF2 hm ⟨[2], [], 0, 0, [], false, [], [], []⟩ (k0 <|
              k1 <|
              k2 <|
              k3 <|
              k4 <|
              k5 <|
              k6 <|
              k7 <|
              k8 <|
              k9 <|
              k10 <|
              yy 92 (vt) <|
              ww (p := (Value.bool (!c12_)) = (Value.bool true)) (vBn (Bool.eq_false_iff.2 hc13)) <|
              ee) (by kernel_rfl)
           ·rw [if_neg hc11] at h
            obtain rfl := oI h
            exact runF2 hm ⟨[2], [], 0, 0, [], false, [], [], []⟩ (k0 <|
             k1 <|
             k2 <|
             k3 <|
             k4 <|
             k5 <|
             k6 <|
             k7 <|
             k8 <|
             k9 <|
             zz 86 (xeF hc11) <|
             ee) (by kernel_rfl)
          ·rw [if_neg hc10] at h
           obtain ⟨c11_, hc11, h⟩ := oB h
           have k9 := fun {A L l} (k : PL A L l) => zz 80 (xnT hc10) <|
            yy 91 (.call (C_viewportref16leafq1 a1 c11_ [] [])) <|
            ww (m_viewportref16leafq1_ok n a1 c11_ hc11) <|
            k
           by_cases hc12 : c11_ = true
           ·rw [if_pos hc12] at h
            have k12 := fun {A L l} (k : PL A L l) => yy 92 (vf) <|
             ww (p := (Value.bool (!c11_)) = (Value.bool false)) (vBn hc12) <|
             k
            by_cases hc13 : (((a6).l.length : Nat) : Int) = (0 : Int)
            ·rw [if_pos hc13] at h
             obtain rfl := oI h
             exact runF2 hm ⟨[2], [], 0, 0, [], false, [], [], []⟩ (k0 <|
              k1 <|
              k2 <|
              k3 <|
              k4 <|
              k5 <|
              k6 <|
              k7 <|
              k8 <|
              k9 <|
              k12 <|
              zz 97 (xeT hc13) <|
              ee) (by kernel_rfl)
            ·rw [if_neg hc13] at h
             obtain rfl := oI h
             exact runF2 hm ⟨[2], [], 0, 0, [], false, [], [], []⟩ (k0 <|
              k1 <|
              k2 <|
              k3 <|
              k4 <|
              k5 <|
              k6 <|
              k7 <|
              k8 <|
              k9 <|
              k12 <|
              zz 97 (xeF hc13) <|
              ee) (by kernel_rfl)
           ·rw [if_neg hc12] at h
            obtain rfl := oI h
            exact runF2 hm ⟨[2], [], 0, 0, [], false, [], [], []⟩ (k0 <|
             k1 <|
             k2 <|
             k3 <|
             k4 <|
             k5 <|
             k6 <|
             k7 <|
             k8 <|
             k9 <|
             yy 92 (vt) <|
             ww (p := (Value.bool (!c11_)) = (Value.bool true)) (vBn (Bool.eq_false_iff.2 hc12)) <|
             ee) (by kernel_rfl)
         ·rw [if_neg hc9] at h
          obtain rfl := oI h
          exact runF2 hm ⟨[2], [], 0, 0, [], false, [], [], []⟩ (k0 <|
           k1 <|
           k2 <|
           k3 <|
           k4 <|
           k5 <|
           k6 <|
           k7 <|
           zz 73 (xnT hc9) <|
           ee) (by kernel_rfl)

def A_viewportref16endq1 (a0 : WL rw_iiiiiiLu) (a1 : Int) : List Value := [(wlV a0), (i6 a1)]
def H_viewportref16endq1 (a0 : WL rw_iiiiiiLu) (a1 : Int) : AH := ⟨sB [], 0, 0⟩
def V_viewportref16endq1 (a0 : WL rw_iiiiiiLu) (a1 : Int) (r : Int) : Value := match r with
 | o0 => (i6 o0)
def R_viewportref16endq1 (a0 : WL rw_iiiiiiLu) (a1 : Int) (r : Int) : AH := match r with
 | o0 => ⟨sB [], 0, 0⟩
abbrev G_viewportref16endq1 (a0 : WL rw_iiiiiiLu) (a1 : Int) (r : Int) : Prop := Gv P (.func 15) (A_viewportref16endq1 a0 a1) (H_viewportref16endq1 a0 a1) (V_viewportref16endq1 a0 a1 r) (R_viewportref16endq1 a0 a1 r)
abbrev C_viewportref16endq1 (a0 : WL rw_iiiiiiLu) (a1 : Int) (r : Int) (ins outs : BL) : CallA := ⟨0, ins, V_viewportref16endq1 a0 a1 r, R_viewportref16endq1 a0 a1 r, outs⟩
def S_viewportref16endq1_1 (x1_0 : WL rw_iiiiiiLu) (x1_1 : Int) (st : Int × Int × Int) : XSt := match st with
 | (x1_2, x1_3, x1_4) => (sT 68 [(0, (wlV x1_0)), (1, (i6 x1_1)), (5, (i6 x1_2)), (6, (i6 x1_3)), (7, (i6 x1_4))], [], ⟨sB [], 0, 0⟩)
def X_viewportref16endq1_1 (x1_0 : WL rw_iiiiiiLu) (x1_1 : Int) (r : (Unit) ⊕ (Int × Int)) : Ex × XSt := match r with
 | .inl _ => (.ret, (sT 68 [(4, (i6 (-1 : Int)))], [], ⟨sB [], 0, 0⟩))
 | .inr (z1_0, z1_1) => (.exit 0, (sT 68 [(0, (wlV x1_0)), (1, (i6 x1_1)), (5, (i6 z1_0)), (6, (i6 z1_1))], [], ⟨sB [], 0, 0⟩))
abbrev Q_viewportref16endq1_1 (rnd : Option Nat) (x1_0 : WL rw_iiiiiiLu) (x1_1 : Int) (st : Int × Int × Int) (c : Ex × XSt) : Prop := CG P rnd (fnN P 15) 0 (codeOf P 15 [false, false, true, false, true, true]) (S_viewportref16endq1_1 x1_0 x1_1 st) c
abbrev U_viewportref16endq1_1 (rd : Option Nat) (x1_0 : WL rw_iiiiiiLu) (x1_1 : Int) (st : Int × Int × Int) (r : (Unit) ⊕ (Int × Int)) : Prop := CG P rd (fnN P 15) 0 (codeOf P 15 [false, true, false, true, true]) (S_viewportref16endq1_1 x1_0 x1_1 st) (X_viewportref16endq1_1 x1_0 x1_1 r)
def B_viewportref16endq1_1 (rec_viewportref16endq1 : (WL rw_iiiiiiLu) → (Int) → Option (Int)) (n : Nat) (x1_0 : WL rw_iiiiiiLu) (x1_1 : Int) (st : Int × Int × Int) : Option ((Int × Int × Int) ⊕ ((Unit) ⊕ (Int × Int))) := match st with
 | (x1_2, x1_3, x1_4) =>
  if 0 ≤ x1_1 ∧ x1_1 < (((x1_0).l.length : Nat) : Int) then
   ((some (((x1_0).l).getD (x1_1).toNat (0, 0, 0, 0, 0, 0, nl0, 0)))).bind fun y1_2_ =>
   if x1_4 < ((((y1_2_.2.2.2.2.2.2.1)).l.length : Nat) : Int) then
    if 0 ≤ x1_4 ∧ x1_4 < ((((y1_2_.2.2.2.2.2.2.1)).l.length : Nat) : Int) then
     if (x1_4).toNat < (((y1_2_.2.2.2.2.2.2.1)).l).length then
      ((some ((((y1_2_.2.2.2.2.2.2.1)).l).getD (x1_4).toNat 0))).bind fun y1_6_ =>
      if y1_6_ = x1_2 then
       if x1_2 ≥ (((x1_0).l.length : Nat) : Int) then
        some (.inr (.inl ()))
       else
        if 0 ≤ x1_2 ∧ x1_2 < (((x1_0).l.length : Nat) : Int) then
         ((some (((x1_0).l).getD (x1_2).toNat (0, 0, 0, 0, 0, 0, nl0, 0)))).bind fun y1_10_ =>
         if (y1_10_.2.2.1) < x1_3 then
          some (.inr (.inl ()))
         else
          (rec_viewportref16endq1 x1_0 x1_2).bind fun y1_12_ =>
          if y1_12_ < (0 : Int) then
           some (.inr (.inl ()))
          else
           some (.inl (y1_12_, (y1_10_.2.2.2.2.1), (w64 (x1_4 + (1 : Int)))))
        else none
      else
       some (.inr (.inl ()))
     else none
    else none
   else
    some (.inr (.inr (x1_2, x1_3)))
  else none
def m_viewportref16endq1_1 (rec_viewportref16endq1 : (WL rw_iiiiiiLu) → (Int) → Option (Int)) (n : Nat) (x1_0 : WL rw_iiiiiiLu) (x1_1 : Int) (st : Int × Int × Int) : Option ((Unit) ⊕ (Int × Int)) := iterM (B_viewportref16endq1_1 rec_viewportref16endq1 n x1_0 x1_1) n st
theorem b_viewportref16endq1_1 (rec_viewportref16endq1 : (WL rw_iiiiiiLu) → (Int) → Option (Int)) (hrec_viewportref16endq1 : ∀ (a0 : WL rw_iiiiiiLu) (a1 : Int) (r : Int), rec_viewportref16endq1 a0 a1 = some r → Gv P (.func 15) (A_viewportref16endq1 a0 a1) (H_viewportref16endq1 a0 a1) (V_viewportref16endq1 a0 a1 r) (R_viewportref16endq1 a0 a1 r)) (n : Nat) {rnd : Option Nat} (x1_0 : WL rw_iiiiiiLu) (x1_1 : Int) (st : Int × Int × Int) (o : (Int × Int × Int) ⊕ ((Unit) ⊕ (Int × Int))) (h : B_viewportref16endq1_1 rec_viewportref16endq1 n x1_0 x1_1 st = some o) : CG P rnd (fnN P 15) 0 (codeOf P 15 [false, false, true, false, true, true]) (S_viewportref16endq1_1 x1_0 x1_1 st) (Sum.elim (fun s => (.normal, S_viewportref16endq1_1 x1_0 x1_1 s)) (fun r => X_viewportref16endq1_1 x1_0 x1_1 r) o) := by
 obtain ⟨x1_2, x1_3, x1_4⟩ := st
 unfold B_viewportref16endq1_1 at h
 dsimp only at h
 obtain ⟨hy1_1, h⟩ := gd h
 obtain ⟨y1_2_, hy1_2, h⟩ := oB h
 have k0 := fun {A L l} (k : PL A L l) => zz 5 (xk4 (x1_0).num (x1_0).off (x1_0).cap hy1_1) <|
  zz 6 (fk10 (x1_0).num (Nat.add (x1_0).off ((x1_1).toNat * 8))) <|
  zz 7 (lk11 hy1_2 (toNatLt hy1_1)) <|
  k
 by_cases hy1_3 : x1_4 < ((((y1_2_.2.2.2.2.2.2.1)).l.length : Nat) : Int)
 ·rw [if_pos hy1_3] at h
  obtain ⟨hy1_4, h⟩ := gd h
  obtain ⟨hy1_5, h⟩ := gd h
  obtain ⟨y1_6_, hy1_6, h⟩ := oB h
  have k3 := fun {A L l} (k : PL A L l) => zz 9 (xdT hy1_3) <|
   zz 17 (xk4 (x1_0).num (x1_0).off (x1_0).cap hy1_1) <|
   zz 18 (fk10 (x1_0).num (Nat.add (x1_0).off ((x1_1).toNat * 8))) <|
   zz 19 (lk11 hy1_2 (toNatLt hy1_1)) <|
   zz 21 (xk12 (Nat.add ((y1_2_.2.2.2.2.2.2.1)).num 64) ((y1_2_.2.2.2.2.2.2.1)).off ((y1_2_.2.2.2.2.2.2.1)).cap hy1_4) <|
   zz 22 (nk13 hy1_6 hy1_5) <|
   k
  by_cases hy1_7 : y1_6_ = x1_2
  ·rw [if_pos hy1_7] at h
   have k9 := fun {A L l} (k : PL A L l) => zz 24 (xnF hy1_7) <|
    k
   by_cases hy1_8 : x1_2 ≥ (((x1_0).l.length : Nat) : Int)
   ·rw [if_pos hy1_8] at h
    obtain rfl := oI h
    exact runC2 hm ⟨[4], [], 0, 0, [], false, [], [], []⟩ (k0 <|
     k3 <|
     k9 <|
     zz 29 (xdT hy1_8) <|
     ee) (by kernel_rfl)
   ·rw [if_neg hy1_8] at h
    obtain ⟨hy1_9, h⟩ := gd h
    obtain ⟨y1_10_, hy1_10, h⟩ := oB h
    have k10 := fun {A L l} (k : PL A L l) => zz 29 (xdF hy1_8) <|
     zz 34 (xk4 (x1_0).num (x1_0).off (x1_0).cap hy1_9) <|
     zz 35 (fk8 (x1_0).num (Nat.add (x1_0).off ((x1_2).toNat * 8))) <|
     zz 36 (lk9 hy1_10 (toNatLt hy1_9)) <|
     k
    by_cases hy1_11 : (y1_10_.2.2.1) < x1_3
    ·rw [if_pos hy1_11] at h
     obtain rfl := oI h
     exact runC2 hm ⟨[4], [], 0, 0, [], false, [], [], []⟩ (k0 <|
      k3 <|
      k9 <|
      k10 <|
      zz 38 (xdT hy1_11) <|
      ee) (by kernel_rfl)
    ·rw [if_neg hy1_11] at h
     obtain ⟨y1_12_, hy1_12, h⟩ := oB h
     have k14 := fun {A L l} (k : PL A L l) => zz 38 (xdF hy1_11) <|
      zz 44 (xk4 (x1_0).num (x1_0).off (x1_0).cap hy1_9) <|
      zz 45 (fk14 (x1_0).num (Nat.add (x1_0).off ((x1_2).toNat * 8))) <|
      zz 46 (lk15 hy1_10 (toNatLt hy1_9)) <|
      yy 51 (.call (C_viewportref16endq1 x1_0 x1_2 y1_12_ [] [])) <|
      ww (hrec_viewportref16endq1 x1_0 x1_2 y1_12_ hy1_12) <|
      k
     by_cases hy1_13 : y1_12_ < (0 : Int)
     ·rw [if_pos hy1_13] at h
      obtain rfl := oI h
      exact runC2 hm ⟨[4], [], 0, 0, [], false, [], [], []⟩ (k0 <|
       k3 <|
       k9 <|
       k10 <|
       k14 <|
       zz 55 (xdT hy1_13) <|
       ee) (by kernel_rfl)
     ·rw [if_neg hy1_13] at h
      obtain rfl := oI h
      exact runC2 hm ⟨[0, 1, 5, 6, 7], [], 0, 0, [], false, [], [], []⟩ (k0 <|
       k3 <|
       k9 <|
       k10 <|
       k14 <|
       zz 55 (xdF hy1_13) <|
       ee) (by kernel_rfl)
  ·rw [if_neg hy1_7] at h
   obtain rfl := oI h
   exact runC2 hm ⟨[4], [], 0, 0, [], false, [], [], []⟩ (k0 <|
    k3 <|
    zz 24 (xnT hy1_7) <|
    ee) (by kernel_rfl)
 ·rw [if_neg hy1_3] at h
  obtain rfl := oI h
  exact runC2 hm ⟨[0, 1, 5, 6], [], 0, 0, [], false, [], [], []⟩ (k0 <|
   zz 9 (xdF hy1_3) <|
   ee) (by kernel_rfl)
theorem m_viewportref16endq1_1_ok (rec_viewportref16endq1 : (WL rw_iiiiiiLu) → (Int) → Option (Int)) (hrec_viewportref16endq1 : ∀ (a0 : WL rw_iiiiiiLu) (a1 : Int) (r : Int), rec_viewportref16endq1 a0 a1 = some r → Gv P (.func 15) (A_viewportref16endq1 a0 a1) (H_viewportref16endq1 a0 a1) (V_viewportref16endq1 a0 a1 r) (R_viewportref16endq1 a0 a1 r)) (n : Nat) {rnd : Option Nat} (x1_0 : WL rw_iiiiiiLu) (x1_1 : Int) (st : Int × Int × Int) (r : (Unit) ⊕ (Int × Int)) (h : m_viewportref16endq1_1 rec_viewportref16endq1 n x1_0 x1_1 st = some r) : CG P rnd (fnN P 15) 0 (codeOf P 15 [false, true, false, true, true]) (S_viewportref16endq1_1 x1_0 x1_1 st) (X_viewportref16endq1_1 x1_0 x1_1 r) :=
 CG.iter (b := codeOf P 15 [false, false, true, false, true, true]) (by kernel_rfl) (body := B_viewportref16endq1_1 rec_viewportref16endq1 n x1_0 x1_1) (S := S_viewportref16endq1_1 x1_0 x1_1) (X := X_viewportref16endq1_1 x1_0 x1_1)
  (fun s s' h => b_viewportref16endq1_1 rec_viewportref16endq1 hrec_viewportref16endq1 n x1_0 x1_1 s (.inl s') h)
  (fun s r h => b_viewportref16endq1_1 rec_viewportref16endq1 hrec_viewportref16endq1 n x1_0 x1_1 s (.inr r) h)
  (fun r => by intro hx; rcases r with _ | _ <;> cases hx) h
def s_viewportref16endq1 (rec_viewportref16endq1 : (WL rw_iiiiiiLu) → (Int) → Option (Int)) (n : Nat) (a0 : WL rw_iiiiiiLu) (a1 : Int) : Option (Int) :=
 if 0 ≤ a1 ∧ a1 < (((a0).l.length : Nat) : Int) then
  ((some (((a0).l).getD (a1).toNat (0, 0, 0, 0, 0, 0, nl0, 0)))).bind fun c2_ =>
  match m_viewportref16endq1_1 rec_viewportref16endq1 n a0 a1 ((w64 (a1 + (1 : Int))), (c2_.2.2.1), 0) with
  | none => none
  | some (.inl _) =>
   some (-1)
  | some (.inr (c3_0, c3_1)) =>
   if c3_1 > (c2_.2.2.2.2.1) then
    some (-1)
   else
    some c3_0
 else none
theorem s_viewportref16endq1_ok (rec_viewportref16endq1 : (WL rw_iiiiiiLu) → (Int) → Option (Int)) (hrec_viewportref16endq1 : ∀ (a0 : WL rw_iiiiiiLu) (a1 : Int) (r : Int), rec_viewportref16endq1 a0 a1 = some r → Gv P (.func 15) (A_viewportref16endq1 a0 a1) (H_viewportref16endq1 a0 a1) (V_viewportref16endq1 a0 a1 r) (R_viewportref16endq1 a0 a1 r)) (n : Nat) (a0 : WL rw_iiiiiiLu) (a1 : Int) (r : Int) (h : s_viewportref16endq1 rec_viewportref16endq1 n a0 a1 = some r) : Gv P (.func 15) (A_viewportref16endq1 a0 a1) (H_viewportref16endq1 a0 a1) (V_viewportref16endq1 a0 a1 r) (R_viewportref16endq1 a0 a1 r) := by
 unfold s_viewportref16endq1 at h
 obtain ⟨hc1, h⟩ := gd h
 obtain ⟨c2_, hc2, h⟩ := oB h
 have k0 := fun {A L l} (k : PL A L l) => zz 7 (xk4 (a0).num (a0).off (a0).cap hc1) <|
  zz 8 (fk8 (a0).num (Nat.add (a0).off ((a1).toNat * 8))) <|
  zz 9 (lk9 hc2 (toNatLt hc1)) <|
  k
 rcases hc3 : m_viewportref16endq1_1 rec_viewportref16endq1 n a0 a1 ((w64 (a1 + (1 : Int))), (c2_.2.2.1), 0) with _ | (⟨⟩ | ⟨c3_0, c3_1⟩)
 ·rw [hc3] at h; cases h
 ·rw [hc3] at h
  dsimp only at h
  obtain rfl := oI h
  exact runF2 hm ⟨[4], [], 0, 0, [], false, [], [], []⟩ (k0 <|
   ww (p := U_viewportref16endq1_1 none a0 a1 ((w64 (a1 + (1 : Int))), (c2_.2.2.1), 0) (.inl ())) (m_viewportref16endq1_1_ok rec_viewportref16endq1 hrec_viewportref16endq1 n a0 a1 ((w64 (a1 + (1 : Int))), (c2_.2.2.1), 0) (.inl ()) hc3) <|
   ll 16 ⟨⟨[0, 1, 5, 6, 7], [], 0, 0, [], false, [], [], []⟩, (X_viewportref16endq1_1 a0 a1 (.inl ())).1, (X_viewportref16endq1_1 a0 a1 (.inl ())).2⟩ <|
   ee) (by kernel_rfl)
 ·rw [hc3] at h
  dsimp only at h
  have k3 := fun {A L l} (k : PL A L l) => ww (p := U_viewportref16endq1_1 none a0 a1 ((w64 (a1 + (1 : Int))), (c2_.2.2.1), 0) (.inr (c3_0, c3_1))) (m_viewportref16endq1_1_ok rec_viewportref16endq1 hrec_viewportref16endq1 n a0 a1 ((w64 (a1 + (1 : Int))), (c2_.2.2.1), 0) (.inr (c3_0, c3_1)) hc3) <|
   ll 16 ⟨⟨[0, 1, 5, 6, 7], [], 0, 0, [], false, [], [], []⟩, (X_viewportref16endq1_1 a0 a1 (.inr (c3_0, c3_1))).1, (X_viewportref16endq1_1 a0 a1 (.inr (c3_0, c3_1))).2⟩ <|
   zz 22 (xk4 (a0).num (a0).off (a0).cap hc1) <|
   zz 23 (fk14 (a0).num (Nat.add (a0).off ((a1).toNat * 8))) <|
   zz 24 (lk15 hc2 (toNatLt hc1)) <|
   k
  by_cases hc4 : c3_1 > (c2_.2.2.2.2.1)
  ·rw [if_pos hc4] at h
   obtain rfl := oI h
   exact runF2 hm ⟨[4], [], 0, 0, [], false, [], [], []⟩ (k0 <|
    k3 <|
    zz 25 (xdT hc4) <|
    ee) (by kernel_rfl)
  ·rw [if_neg hc4] at h
   obtain rfl := oI h
   exact runF2 hm ⟨[4], [], 0, 0, [], false, [], [], []⟩ (k0 <|
    k3 <|
    zz 25 (xdF hc4) <|
    ee) (by kernel_rfl)
def m_viewportref16endq1 : Nat → (WL rw_iiiiiiLu) → (Int) → Option (Int)
 | 0 => fun _ _ => none
 | n + 1 => fun a0 a1 => s_viewportref16endq1 (m_viewportref16endq1 n) n a0 a1
theorem m_viewportref16endq1_ok : ∀ (n : Nat) (a0 : WL rw_iiiiiiLu) (a1 : Int) (r : Int) (h : m_viewportref16endq1 n a0 a1 = some r), Gv P (.func 15) (A_viewportref16endq1 a0 a1) (H_viewportref16endq1 a0 a1) (V_viewportref16endq1 a0 a1 r) (R_viewportref16endq1 a0 a1 r)
 | 0, _, _, _, h => nomatch h
 | n + 1, a0, a1, r, h => s_viewportref16endq1_ok (m_viewportref16endq1 n) (m_viewportref16endq1_ok n) n a0 a1 r h

def A_viewportref16Checkq1 (a0 : WL rw_iiiiiiLu) : List Value := [(wlV a0)]
def H_viewportref16Checkq1 (a0 : WL rw_iiiiiiLu) : AH := ⟨sB [], 0, 0⟩
def V_viewportref16Checkq1 (a0 : WL rw_iiiiiiLu) (r : Int) : Value := match r with
 | o0 => (i6 o0)
def R_viewportref16Checkq1 (a0 : WL rw_iiiiiiLu) (r : Int) : AH := match r with
 | o0 => ⟨sB [], 0, 0⟩
abbrev G_viewportref16Checkq1 (a0 : WL rw_iiiiiiLu) (r : Int) : Prop := Gv P (.func 6) (A_viewportref16Checkq1 a0) (H_viewportref16Checkq1 a0) (V_viewportref16Checkq1 a0 r) (R_viewportref16Checkq1 a0 r)
abbrev C_viewportref16Checkq1 (a0 : WL rw_iiiiiiLu) (r : Int) (ins outs : BL) : CallA := ⟨0, ins, V_viewportref16Checkq1 a0 r, R_viewportref16Checkq1 a0 r, outs⟩
def S_viewportref16Checkq1_1 (x1_0 : WL rw_iiiiiiLu) (st : Int) : XSt := match st with
 | x1_1 => (sT 41 [(0, (wlV x1_0)), (3, (i6 x1_1))], [], ⟨sB [], 0, 0⟩)
def X_viewportref16Checkq1_1 (x1_0 : WL rw_iiiiiiLu) (r : (Unit) ⊕ (Unit)) : Ex × XSt := match r with
 | .inl _ => (.ret, (sT 41 [(2, (i6 (2 : Int)))], [], ⟨sB [], 0, 0⟩))
 | .inr _ => (.exit 0, (sT 41 [(0, (wlV x1_0))], [], ⟨sB [], 0, 0⟩))
abbrev Q_viewportref16Checkq1_1 (rnd : Option Nat) (x1_0 : WL rw_iiiiiiLu) (st : Int) (c : Ex × XSt) : Prop := CG P rnd (fnN P 6) 0 (codeOf P 6 [false, false, true, false, true, true]) (S_viewportref16Checkq1_1 x1_0 st) c
abbrev U_viewportref16Checkq1_1 (rd : Option Nat) (x1_0 : WL rw_iiiiiiLu) (st : Int) (r : (Unit) ⊕ (Unit)) : Prop := CG P rd (fnN P 6) 0 (codeOf P 6 [false, true, false, true, true]) (S_viewportref16Checkq1_1 x1_0 st) (X_viewportref16Checkq1_1 x1_0 r)
def B_viewportref16Checkq1_1 (n : Nat) (x1_0 : WL rw_iiiiiiLu) (st : Int) : Option ((Int) ⊕ ((Unit) ⊕ (Unit))) := match st with
 | x1_1 =>
  if x1_1 < (((x1_0).l.length : Nat) : Int) then
   if 0 ≤ x1_1 ∧ x1_1 < (((x1_0).l.length : Nat) : Int) then
    ((some (((x1_0).l).getD (x1_1).toNat (0, 0, 0, 0, 0, 0, nl0, 0)))).bind fun y1_3_ =>
    (m_viewportref16bareq1 n (y1_3_.1) (y1_3_.2.1) (y1_3_.2.2.1) (y1_3_.2.2.2.1) (y1_3_.2.2.2.2.1) (y1_3_.2.2.2.2.2.1) (y1_3_.2.2.2.2.2.2.1) (y1_3_.2.2.2.2.2.2.2)).bind fun y1_4_ =>
    if y1_4_ = true then
     if x1_1 > (0 : Int) then
      if (y1_3_.2.1) = (1 : Int) then
       some (.inr (.inl ()))
      else
       some (.inl (w64 (x1_1 + (1 : Int))))
     else
      some (.inl (w64 (x1_1 + (1 : Int))))
    else
     some (.inr (.inl ()))
   else none
  else
   some (.inr (.inr ()))
def m_viewportref16Checkq1_1 (n : Nat) (x1_0 : WL rw_iiiiiiLu) (st : Int) : Option ((Unit) ⊕ (Unit)) := iterM (B_viewportref16Checkq1_1 n x1_0) n st
theorem b_viewportref16Checkq1_1 (n : Nat) {rnd : Option Nat} (x1_0 : WL rw_iiiiiiLu) (x1_1 : Int) (o : (Int) ⊕ ((Unit) ⊕ (Unit))) (h : B_viewportref16Checkq1_1 n x1_0 x1_1 = some o) : CG P rnd (fnN P 6) 0 (codeOf P 6 [false, false, true, false, true, true]) (S_viewportref16Checkq1_1 x1_0 x1_1) (Sum.elim (fun s => (.normal, S_viewportref16Checkq1_1 x1_0 s)) (fun r => X_viewportref16Checkq1_1 x1_0 r) o) := by
 unfold B_viewportref16Checkq1_1 at h
 dsimp only at h
 by_cases hy1_1 : x1_1 < (((x1_0).l.length : Nat) : Int)
 ·rw [if_pos hy1_1] at h
  obtain ⟨hy1_2, h⟩ := gd h
  obtain ⟨y1_3_, hy1_3, h⟩ := oB h
  obtain ⟨y1_4_, hy1_4, h⟩ := oB h
  have k0 := fun {A L l} (k : PL A L l) => zz 5 (xdT hy1_1) <|
   zz 12 (xk4 (x1_0).num (x1_0).off (x1_0).cap hy1_2) <|
   zz 13 (lk5 hy1_3 (toNatLt hy1_2)) <|
   yy 14 (.call (C_viewportref16bareq1 (y1_3_.1) (y1_3_.2.1) (y1_3_.2.2.1) (y1_3_.2.2.2.1) (y1_3_.2.2.2.2.1) (y1_3_.2.2.2.2.2.1) (y1_3_.2.2.2.2.2.2.1) (y1_3_.2.2.2.2.2.2.2) y1_4_ [] [])) <|
   ww (m_viewportref16bareq1_ok n (y1_3_.1) (y1_3_.2.1) (y1_3_.2.2.1) (y1_3_.2.2.2.1) (y1_3_.2.2.2.2.1) (y1_3_.2.2.2.2.2.1) (y1_3_.2.2.2.2.2.2.1) (y1_3_.2.2.2.2.2.2.2) y1_4_ hy1_4) <|
   k
  by_cases hy1_5 : y1_4_ = true
  ·rw [if_pos hy1_5] at h
   have k5 := fun {A L l} (k : PL A L l) => yy 15 (vf) <|
    ww (p := (Value.bool (!y1_4_)) = (Value.bool false)) (vBn hy1_5) <|
    k
   by_cases hy1_6 : x1_1 > (0 : Int)
   ·rw [if_pos hy1_6] at h
    have k7 := fun {A L l} (k : PL A L l) => zz 18 (xdT hy1_6) <|
     zz 22 (xk4 (x1_0).num (x1_0).off (x1_0).cap hy1_2) <|
     zz 23 (fk6 (x1_0).num (Nat.add (x1_0).off ((x1_1).toNat * 8))) <|
     zz 24 (lk7 hy1_3 (toNatLt hy1_2)) <|
     k
    by_cases hy1_7 : (y1_3_.2.1) = (1 : Int)
    ·rw [if_pos hy1_7] at h
     obtain rfl := oI h
     exact runC2 hm ⟨[2], [], 0, 0, [], false, [], [], []⟩ (k0 <|
      k5 <|
      k7 <|
      zz 25 (xeT hy1_7) <|
      ee) (by kernel_rfl)
    ·rw [if_neg hy1_7] at h
     obtain rfl := oI h
     exact runC2 hm ⟨[0, 3], [], 0, 0, [], false, [], [], []⟩ (k0 <|
      k5 <|
      k7 <|
      zz 25 (xeF hy1_7) <|
      ee) (by kernel_rfl)
   ·rw [if_neg hy1_6] at h
    obtain rfl := oI h
    exact runC2 hm ⟨[0, 3], [], 0, 0, [], false, [], [], []⟩ (k0 <|
     k5 <|
     zz 18 (xdF hy1_6) <|
     ee) (by kernel_rfl)
  ·rw [if_neg hy1_5] at h
   obtain rfl := oI h
   exact runC2 hm ⟨[2], [], 0, 0, [], false, [], [], []⟩ (k0 <|
    yy 15 (vt) <|
    ww (p := (Value.bool (!y1_4_)) = (Value.bool true)) (vBn (Bool.eq_false_iff.2 hy1_5)) <|
    ee) (by kernel_rfl)
 ·rw [if_neg hy1_1] at h
  obtain rfl := oI h
  exact runC2 hm ⟨[0], [], 0, 0, [], false, [], [], []⟩ (zz 5 (xdF hy1_1) <|
   ee) (by kernel_rfl)
theorem m_viewportref16Checkq1_1_ok (n : Nat) {rnd : Option Nat} (x1_0 : WL rw_iiiiiiLu) (st : Int) (r : (Unit) ⊕ (Unit)) (h : m_viewportref16Checkq1_1 n x1_0 st = some r) : CG P rnd (fnN P 6) 0 (codeOf P 6 [false, true, false, true, true]) (S_viewportref16Checkq1_1 x1_0 st) (X_viewportref16Checkq1_1 x1_0 r) :=
 CG.iter (b := codeOf P 6 [false, false, true, false, true, true]) (by kernel_rfl) (body := B_viewportref16Checkq1_1 n x1_0) (S := S_viewportref16Checkq1_1 x1_0) (X := X_viewportref16Checkq1_1 x1_0)
  (fun s s' h => b_viewportref16Checkq1_1 n x1_0 s (.inl s') h)
  (fun s r h => b_viewportref16Checkq1_1 n x1_0 s (.inr r) h)
  (fun r => by intro hx; rcases r with _ | _ <;> cases hx) h
def m_viewportref16Checkq1 (n : Nat) (a0 : WL rw_iiiiiiLu) : Option (Int) :=
 if (((a0).l.length : Nat) : Int) > (524288 : Int) then
  some 3
 else
  match m_viewportref16Checkq1_1 n a0 0 with
  | none => none
  | some (.inl _) =>
   some 2
  | some (.inr _) =>
   if (((a0).l.length : Nat) : Int) = (0 : Int) then
    some 2
   else
    (m_viewportref16endq1 n a0 0).bind fun c4_ =>
    if c4_ = (((a0).l.length : Nat) : Int) then
     some 0
    else
     some 2
theorem m_viewportref16Checkq1_ok (n : Nat) (a0 : WL rw_iiiiiiLu) (r : Int) (h : m_viewportref16Checkq1 n a0 = some r) : Gv P (.func 6) (A_viewportref16Checkq1 a0) (H_viewportref16Checkq1 a0) (V_viewportref16Checkq1 a0 r) (R_viewportref16Checkq1 a0 r) := by
 unfold m_viewportref16Checkq1 at h
 by_cases hc1 : (((a0).l.length : Nat) : Int) > (524288 : Int)
 ·rw [if_pos hc1] at h
  obtain rfl := oI h
  exact runF2 hm ⟨[2], [], 0, 0, [], false, [], [], []⟩ (zz 6 (xdT hc1) <|
   ee) (by kernel_rfl)
 ·rw [if_neg hc1] at h
  have k0 := fun {A L l} (k : PL A L l) => zz 6 (xdF hc1) <|
   k
  rcases hc2 : m_viewportref16Checkq1_1 n a0 0 with _ | (⟨⟩ | ⟨⟩)
  ·rw [hc2] at h; cases h
  ·rw [hc2] at h
   dsimp only at h
   obtain rfl := oI h
   exact runF2 hm ⟨[2], [], 0, 0, [], false, [], [], []⟩ (k0 <|
    ww (p := U_viewportref16Checkq1_1 none a0 0 (.inl ())) (m_viewportref16Checkq1_1_ok n a0 0 (.inl ()) hc2) <|
    ll 12 ⟨⟨[0, 3], [], 0, 0, [], false, [], [], []⟩, (X_viewportref16Checkq1_1 a0 (.inl ())).1, (X_viewportref16Checkq1_1 a0 (.inl ())).2⟩ <|
    ee) (by kernel_rfl)
  ·rw [hc2] at h
   dsimp only at h
   have k1 := fun {A L l} (k : PL A L l) => ww (p := U_viewportref16Checkq1_1 none a0 0 (.inr ())) (m_viewportref16Checkq1_1_ok n a0 0 (.inr ()) hc2) <|
    ll 12 ⟨⟨[0, 3], [], 0, 0, [], false, [], [], []⟩, (X_viewportref16Checkq1_1 a0 (.inr ())).1, (X_viewportref16Checkq1_1 a0 (.inr ())).2⟩ <|
    k
   by_cases hc3 : (((a0).l.length : Nat) : Int) = (0 : Int)
   ·rw [if_pos hc3] at h
    obtain rfl := oI h
    exact runF2 hm ⟨[2], [], 0, 0, [], false, [], [], []⟩ (k0 <|
     k1 <|
     zz 17 (xeT hc3) <|
     ee) (by kernel_rfl)
   ·rw [if_neg hc3] at h
    obtain ⟨c4_, hc4, h⟩ := oB h
    have k3 := fun {A L l} (k : PL A L l) => zz 17 (xeF hc3) <|
     yy 20 (.call (C_viewportref16endq1 a0 0 c4_ [] [])) <|
     ww (m_viewportref16endq1_ok n a0 0 c4_ hc4) <|
     k
    by_cases hc5 : c4_ = (((a0).l.length : Nat) : Int)
    ·rw [if_pos hc5] at h
     obtain rfl := oI h
     exact runF2 hm ⟨[2], [], 0, 0, [], false, [], [], []⟩ (k0 <|
      k1 <|
      k3 <|
      zz 23 (xnF hc5) <|
      ee) (by kernel_rfl)
    ·rw [if_neg hc5] at h
     obtain rfl := oI h
     exact runF2 hm ⟨[2], [], 0, 0, [], false, [], [], []⟩ (k0 <|
      k1 <|
      k3 <|
      zz 23 (xnT hc5) <|
      ee) (by kernel_rfl)

def A_viewportkitPickq1 (a0 : Int) (a1 : Int) : List Value := [(i6 a0), (i6 a1)]
def H_viewportkitPickq1 (a0 : Int) (a1 : Int) : AH := ⟨sB [], 0, 0⟩
def V_viewportkitPickq1 (a0 : Int) (a1 : Int) (r : Int) : Value := match r with
 | o0 => (i6 o0)
def R_viewportkitPickq1 (a0 : Int) (a1 : Int) (r : Int) : AH := match r with
 | o0 => ⟨sB [], 0, 0⟩
abbrev G_viewportkitPickq1 (a0 : Int) (a1 : Int) (r : Int) : Prop := Gv P (.func 7) (A_viewportkitPickq1 a0 a1) (H_viewportkitPickq1 a0 a1) (V_viewportkitPickq1 a0 a1 r) (R_viewportkitPickq1 a0 a1 r)
abbrev C_viewportkitPickq1 (a0 : Int) (a1 : Int) (r : Int) (ins outs : BL) : CallA := ⟨0, ins, V_viewportkitPickq1 a0 a1 r, R_viewportkitPickq1 a0 a1 r, outs⟩
def m_viewportkitPickq1 (n : Nat) (a0 : Int) (a1 : Int) : Option (Int) :=
 if a1 < (1 : Int) then
  some 0
 else
  if ¬ (a1 = 0) then
   if (Int.tmod a0 a1) < (0 : Int) then
    some (w64 ((Int.tmod a0 a1) + a1))
   else
    some (Int.tmod a0 a1)
  else none
theorem m_viewportkitPickq1_ok (n : Nat) (a0 : Int) (a1 : Int) (r : Int) (h : m_viewportkitPickq1 n a0 a1 = some r) : Gv P (.func 7) (A_viewportkitPickq1 a0 a1) (H_viewportkitPickq1 a0 a1) (V_viewportkitPickq1 a0 a1 r) (R_viewportkitPickq1 a0 a1 r) := by
 unfold m_viewportkitPickq1 at h
 by_cases hc1 : a1 < (1 : Int)
 ·rw [if_pos hc1] at h
  obtain rfl := oI h
  exact runF2 hm ⟨[4], [], 0, 0, [], false, [], [], []⟩ (zz 5 (xdT hc1) <|
   ee) (by kernel_rfl)
 ·rw [if_neg hc1] at h
  obtain ⟨hc2, h⟩ := gd h
  have k0 := fun {A L l} (k : PL A L l) => zz 5 (xdF hc1) <|
   yy 10 (.pur (i6 (Int.tmod a0 a1))) <|
   ww (p := opBin P .rem 3 (.tmp 8) (.tmp 9) (i6 a0) (i6 a1) Ax.h0 = some ((i6 (Int.tmod a0 a1)), Ax.h0)) (remI hc2) <|
   k
  by_cases hc3 : (Int.tmod a0 a1) < (0 : Int)
  ·rw [if_pos hc3] at h
   obtain rfl := oI h
   exact runF2 hm ⟨[4], [], 0, 0, [], false, [], [], []⟩ (k0 <|
    zz 15 (xdT hc3) <|
    ee) (by kernel_rfl)
  ·rw [if_neg hc3] at h
   obtain rfl := oI h
   exact runF2 hm ⟨[4], [], 0, 0, [], false, [], [], []⟩ (k0 <|
    zz 15 (xdF hc3) <|
    ee) (by kernel_rfl)

def A_viewportref16isq1 (a0 : WL rw_iiiiiiLu) (a1 : Int) : List Value := [(wlV a0), (i6 a1)]
def H_viewportref16isq1 (a0 : WL rw_iiiiiiLu) (a1 : Int) : AH := ⟨sB [], 0, 0⟩
def V_viewportref16isq1 (a0 : WL rw_iiiiiiLu) (a1 : Int) (r : Bool) : Value := match r with
 | o0 => (bO o0)
def R_viewportref16isq1 (a0 : WL rw_iiiiiiLu) (a1 : Int) (r : Bool) : AH := match r with
 | o0 => ⟨sB [], 0, 0⟩
abbrev G_viewportref16isq1 (a0 : WL rw_iiiiiiLu) (a1 : Int) (r : Bool) : Prop := Gv P (.func 17) (A_viewportref16isq1 a0 a1) (H_viewportref16isq1 a0 a1) (V_viewportref16isq1 a0 a1 r) (R_viewportref16isq1 a0 a1 r)
abbrev C_viewportref16isq1 (a0 : WL rw_iiiiiiLu) (a1 : Int) (r : Bool) (ins outs : BL) : CallA := ⟨0, ins, V_viewportref16isq1 a0 a1 r, R_viewportref16isq1 a0 a1 r, outs⟩
def m_viewportref16isq1 (n : Nat) (a0 : WL rw_iiiiiiLu) (a1 : Int) : Option (Bool) :=
 (m_viewportref16Checkq1 n a0).bind fun c1_ =>
 if c1_ = (0 : Int) then
  if a1 ≥ (0 : Int) then
   if a1 < (((a0).l.length : Nat) : Int) then
    some true
   else
    some false
  else
   some false
 else
  some false
theorem m_viewportref16isq1_ok (n : Nat) (a0 : WL rw_iiiiiiLu) (a1 : Int) (r : Bool) (h : m_viewportref16isq1 n a0 a1 = some r) : Gv P (.func 17) (A_viewportref16isq1 a0 a1) (H_viewportref16isq1 a0 a1) (V_viewportref16isq1 a0 a1 r) (R_viewportref16isq1 a0 a1 r) := by
 unfold m_viewportref16isq1 at h
 obtain ⟨c1_, hc1, h⟩ := oB h
 have k0 := fun {A L l} (k : PL A L l) => yy 4 (.call (C_viewportref16Checkq1 a0 c1_ [] [])) <|
  ww (m_viewportref16Checkq1_ok n a0 c1_ hc1) <|
  k
 by_cases hc2 : c1_ = (0 : Int)
 ·rw [if_pos hc2] at h
  have k2 := fun {A L l} (k : PL A L l) => zz 5 (xeT hc2) <|
   k
  by_cases hc3 : a1 ≥ (0 : Int)
  ·rw [if_pos hc3] at h
   have k3 := fun {A L l} (k : PL A L l) => zz 8 (xdT hc3) <|
    k
   by_cases hc4 : a1 < (((a0).l.length : Nat) : Int)
   ·rw [if_pos hc4] at h
    obtain rfl := oI h
    exact runF2 hm ⟨[4], [], 0, 0, [], false, [], [], []⟩ (k0 <|
     k2 <|
     k3 <|
     zz 14 (xdT hc4) <|
     ee) (by kernel_rfl)
   ·rw [if_neg hc4] at h
    obtain rfl := oI h
    exact runF2 hm ⟨[4], [], 0, 0, [], false, [], [], []⟩ (k0 <|
     k2 <|
     k3 <|
     zz 14 (xdF hc4) <|
     ee) (by kernel_rfl)
  ·rw [if_neg hc3] at h
   obtain rfl := oI h
   exact runF2 hm ⟨[4], [], 0, 0, [], false, [], [], []⟩ (k0 <|
    k2 <|
    zz 8 (xdF hc3) <|
    ee) (by kernel_rfl)
 ·rw [if_neg hc2] at h
  obtain rfl := oI h
  exact runF2 hm ⟨[4], [], 0, 0, [], false, [], [], []⟩ (k0 <|
   zz 5 (xeF hc2) <|
   ee) (by kernel_rfl)

def A_viewportref16Parentsq1 (a0 : WL rw_iiiiiiLu) : List Value := [(wlV a0)]
def H_viewportref16Parentsq1 (a0 : WL rw_iiiiiiLu) : AH := ⟨sB [], 0, 0⟩
def V_viewportref16Parentsq1 (a0 : WL rw_iiiiiiLu) (r : NL) : Value := match r with
 | o0 => (nlV o0)
def R_viewportref16Parentsq1 (a0 : WL rw_iiiiiiLu) (r : NL) : AH := match r with
 | o0 => ⟨sB [], 0, 0⟩
abbrev G_viewportref16Parentsq1 (a0 : WL rw_iiiiiiLu) (r : NL) : Prop := Gv P (.func 18) (A_viewportref16Parentsq1 a0) (H_viewportref16Parentsq1 a0) (V_viewportref16Parentsq1 a0 r) (R_viewportref16Parentsq1 a0 r)
abbrev C_viewportref16Parentsq1 (a0 : WL rw_iiiiiiLu) (r : NL) (ins outs : BL) : CallA := ⟨0, ins, V_viewportref16Parentsq1 a0 r, R_viewportref16Parentsq1 a0 r, outs⟩
def S_viewportref16Parentsq1_2 (x2_0 : WL rw_iiiiiiLu) (x2_2 : Nat) (x2_3 : Int) (st : List Int × Int) : XSt := match st with
 | (x2_1, x2_4) => (sT 42 [(0, (wlV x2_0)), (3, (sN 0 0 x2_2 x2_2)), (4, (i6 x2_3)), (5, (i6 x2_4))], [], ⟨sB [(0, (some (.cells (layT (iv x2_1)) 3)))], 1, 0⟩)
def X_viewportref16Parentsq1_2 (x2_0 : WL rw_iiiiiiLu) (x2_2 : Nat) (x2_3 : Int) (r : List Int) : Ex × XSt := match r with
 | z2_0 => (.exit 2, (sT 42 [(0, (wlV x2_0)), (3, (sN 0 0 x2_2 x2_2)), (4, (i6 x2_3))], [], ⟨sB [(0, (some (.cells (layT (iv z2_0)) 3)))], 1, 0⟩))
abbrev Q_viewportref16Parentsq1_2 (rnd : Option Nat) (x2_0 : WL rw_iiiiiiLu) (x2_2 : Nat) (x2_3 : Int) (st : List Int × Int) (c : Ex × XSt) : Prop := CG P rnd (fnN P 18) 0 (codeOf P 18 [false, false, true, false, false, true, false, false, true, false, true, true, true, true]) (S_viewportref16Parentsq1_2 x2_0 x2_2 x2_3 st) c
abbrev U_viewportref16Parentsq1_2 (rd : Option Nat) (x2_0 : WL rw_iiiiiiLu) (x2_2 : Nat) (x2_3 : Int) (st : List Int × Int) (r : List Int) : Prop := CG P rd (fnN P 18) 0 (codeOf P 18 [false, true, false, false, true, false, false, true, false, true, true, true, true]) (S_viewportref16Parentsq1_2 x2_0 x2_2 x2_3 st) (X_viewportref16Parentsq1_2 x2_0 x2_2 x2_3 r)
def B_viewportref16Parentsq1_2 (n : Nat) (x2_0 : WL rw_iiiiiiLu) (x2_2 : Nat) (x2_3 : Int) (st : List Int × Int) : Option ((List Int × Int) ⊕ (List Int)) := match st with
 | (x2_1, x2_4) =>
  if 0 ≤ x2_3 ∧ x2_3 < (((x2_0).l.length : Nat) : Int) then
   ((some (((x2_0).l).getD (x2_3).toNat (0, 0, 0, 0, 0, 0, nl0, 0)))).bind fun y2_2_ =>
   if x2_4 < ((((y2_2_.2.2.2.2.2.2.1)).l.length : Nat) : Int) then
    if 0 ≤ x2_4 ∧ x2_4 < ((((y2_2_.2.2.2.2.2.2.1)).l.length : Nat) : Int) then
     if (x2_4).toNat < (((y2_2_.2.2.2.2.2.2.1)).l).length then
      ((some ((((y2_2_.2.2.2.2.2.2.1)).l).getD (x2_4).toNat 0))).bind fun y2_6_ =>
      if 0 ≤ y2_6_ ∧ y2_6_ < ((x2_2 : Nat) : Int) then
       if (y2_6_).toNat < (x2_1).length then
        some (.inl (((x2_1).set (y2_6_).toNat x2_3), (w64 (x2_4 + (1 : Int)))))
       else none
      else none
     else none
    else none
   else
    some (.inr x2_1)
  else none
def m_viewportref16Parentsq1_2 (n : Nat) (x2_0 : WL rw_iiiiiiLu) (x2_2 : Nat) (x2_3 : Int) (st : List Int × Int) : Option (List Int) := iterM (B_viewportref16Parentsq1_2 n x2_0 x2_2 x2_3) n st
theorem b_viewportref16Parentsq1_2 (n : Nat) {rnd : Option Nat} (x2_0 : WL rw_iiiiiiLu) (x2_2 : Nat) (x2_3 : Int) (st : List Int × Int) (o : (List Int × Int) ⊕ (List Int)) (h : B_viewportref16Parentsq1_2 n x2_0 x2_2 x2_3 st = some o) : CG P rnd (fnN P 18) 0 (codeOf P 18 [false, false, true, false, false, true, false, false, true, false, true, true, true, true]) (S_viewportref16Parentsq1_2 x2_0 x2_2 x2_3 st) (Sum.elim (fun s => (.normal, S_viewportref16Parentsq1_2 x2_0 x2_2 x2_3 s)) (fun r => X_viewportref16Parentsq1_2 x2_0 x2_2 x2_3 r) o) := by
 obtain ⟨x2_1, x2_4⟩ := st
 unfold B_viewportref16Parentsq1_2 at h
 dsimp only at h
 obtain ⟨hy2_1, h⟩ := gd h
 obtain ⟨y2_2_, hy2_2, h⟩ := oB h
 have k0 := fun {A L l} (k : PL A L l) => zz 5 (xk4 (x2_0).num (x2_0).off (x2_0).cap hy2_1) <|
  zz 6 (fk10 (x2_0).num (Nat.add (x2_0).off ((x2_3).toNat * 8))) <|
  zz 7 (lk11 hy2_2 (toNatLt hy2_1)) <|
  k
 by_cases hy2_3 : x2_4 < ((((y2_2_.2.2.2.2.2.2.1)).l.length : Nat) : Int)
 ·rw [if_pos hy2_3] at h
  obtain ⟨hy2_4, h⟩ := gd h
  obtain ⟨hy2_5, h⟩ := gd h
  obtain ⟨y2_6_, hy2_6, h⟩ := oB h
  obtain ⟨hy2_7, h⟩ := gd h
  obtain ⟨hy2_8, h⟩ := gd h
  obtain rfl := oI h
  exact runC2 hm ⟨[0, 3, 4, 5], [(0, 0, true)], 1, 0, [], false, [], [], []⟩ (k0 <|
   zz 9 (xdT hy2_3) <|
   zz 16 (xk4 (x2_0).num (x2_0).off (x2_0).cap hy2_1) <|
   zz 17 (fk10 (x2_0).num (Nat.add (x2_0).off ((x2_3).toNat * 8))) <|
   zz 18 (lk11 hy2_2 (toNatLt hy2_1)) <|
   zz 20 (xk12 (Nat.add ((y2_2_.2.2.2.2.2.2.1)).num 64) ((y2_2_.2.2.2.2.2.2.1)).off ((y2_2_.2.2.2.2.2.2.1)).cap hy2_4) <|
   zz 21 (nk13 hy2_6 hy2_5) <|
   zz 23 (xk16 0 x2_2 hy2_7) <|
   yy 24 (.sto (layT (iv ((x2_1).set (y2_6_).toNat x2_3)))) <|
   ww (p := ∃ old, rdT (layT (iv x2_1)) 1 (y2_6_).toNat = some old) (Exists.elim (iv_st (x2_1) ((y2_6_).toNat) (x2_3) hy2_8) fun o h => ⟨o, h.1⟩) <|
   ww (p := layL [(i6 x2_3)] (y2_6_).toNat (layT (iv x2_1)) = layT (iv ((x2_1).set (y2_6_).toNat x2_3))) (Exists.elim (iv_st (x2_1) ((y2_6_).toNat) (x2_3) hy2_8) fun o h => h.2) <|
   ww (iv_flat ((x2_1).set (y2_6_).toNat x2_3) 3) <|
   ee) (by kernel_rfl)
 ·rw [if_neg hy2_3] at h
  obtain rfl := oI h
  exact runC2 hm ⟨[0, 3, 4], [(0, 0, true)], 1, 0, [], false, [], [], []⟩ (k0 <|
   zz 9 (xdF hy2_3) <|
   ww (iv_flat x2_1 3) <|
   ee) (by kernel_rfl)
theorem m_viewportref16Parentsq1_2_ok (n : Nat) {rnd : Option Nat} (x2_0 : WL rw_iiiiiiLu) (x2_2 : Nat) (x2_3 : Int) (st : List Int × Int) (r : List Int) (h : m_viewportref16Parentsq1_2 n x2_0 x2_2 x2_3 st = some r) : CG P rnd (fnN P 18) 0 (codeOf P 18 [false, true, false, false, true, false, false, true, false, true, true, true, true]) (S_viewportref16Parentsq1_2 x2_0 x2_2 x2_3 st) (X_viewportref16Parentsq1_2 x2_0 x2_2 x2_3 r) :=
 CG.iter (b := codeOf P 18 [false, false, true, false, false, true, false, false, true, false, true, true, true, true]) (by kernel_rfl) (body := B_viewportref16Parentsq1_2 n x2_0 x2_2 x2_3) (S := S_viewportref16Parentsq1_2 x2_0 x2_2 x2_3) (X := X_viewportref16Parentsq1_2 x2_0 x2_2 x2_3)
  (fun s s' h => b_viewportref16Parentsq1_2 n x2_0 x2_2 x2_3 s (.inl s') h)
  (fun s r h => b_viewportref16Parentsq1_2 n x2_0 x2_2 x2_3 s (.inr r) h)
  (fun r => by intro hx; cases hx) h
def S_viewportref16Parentsq1_1 (x1_0 : WL rw_iiiiiiLu) (x1_2 : Nat) (st : List Int × Int) : XSt := match st with
 | (x1_1, x1_3) => (sT 42 [(0, (wlV x1_0)), (3, (sN 0 0 x1_2 x1_2)), (4, (i6 x1_3))], [], ⟨sB [(0, (some (.cells (layT (iv x1_1)) 3)))], 1, 0⟩)
def X_viewportref16Parentsq1_1 (x1_0 : WL rw_iiiiiiLu) (x1_2 : Nat) (r : List Int) : Ex × XSt := match r with
 | z1_0 => (.exit 0, (sT 42 [(3, (sN 0 0 x1_2 x1_2))], [], ⟨sB [(0, (some (.cells (layT (iv z1_0)) 3)))], 1, 0⟩))
abbrev Q_viewportref16Parentsq1_1 (rnd : Option Nat) (x1_0 : WL rw_iiiiiiLu) (x1_2 : Nat) (st : List Int × Int) (c : Ex × XSt) : Prop := CG P rnd (fnN P 18) 0 (codeOf P 18 [false, false, true, false, true, true, true, true]) (S_viewportref16Parentsq1_1 x1_0 x1_2 st) c
abbrev U_viewportref16Parentsq1_1 (rd : Option Nat) (x1_0 : WL rw_iiiiiiLu) (x1_2 : Nat) (st : List Int × Int) (r : List Int) : Prop := CG P rd (fnN P 18) 0 (codeOf P 18 [false, true, false, true, true, true, true]) (S_viewportref16Parentsq1_1 x1_0 x1_2 st) (X_viewportref16Parentsq1_1 x1_0 x1_2 r)
def B_viewportref16Parentsq1_1 (n : Nat) (x1_0 : WL rw_iiiiiiLu) (x1_2 : Nat) (st : List Int × Int) : Option ((List Int × Int) ⊕ (List Int)) := match st with
 | (x1_1, x1_3) =>
  if x1_3 < (((x1_0).l.length : Nat) : Int) then
   (m_viewportref16Parentsq1_2 n x1_0 x1_2 x1_3 (x1_1, 0)).bind fun y1_2_ =>
   some (.inl (y1_2_, (w64 (x1_3 + (1 : Int)))))
  else
   some (.inr x1_1)
def m_viewportref16Parentsq1_1 (n : Nat) (x1_0 : WL rw_iiiiiiLu) (x1_2 : Nat) (st : List Int × Int) : Option (List Int) := iterM (B_viewportref16Parentsq1_1 n x1_0 x1_2) n st
theorem b_viewportref16Parentsq1_1 (n : Nat) {rnd : Option Nat} (x1_0 : WL rw_iiiiiiLu) (x1_2 : Nat) (st : List Int × Int) (o : (List Int × Int) ⊕ (List Int)) (h : B_viewportref16Parentsq1_1 n x1_0 x1_2 st = some o) : CG P rnd (fnN P 18) 0 (codeOf P 18 [false, false, true, false, true, true, true, true]) (S_viewportref16Parentsq1_1 x1_0 x1_2 st) (Sum.elim (fun s => (.normal, S_viewportref16Parentsq1_1 x1_0 x1_2 s)) (fun r => X_viewportref16Parentsq1_1 x1_0 x1_2 r) o) := by
 obtain ⟨x1_1, x1_3⟩ := st
 unfold B_viewportref16Parentsq1_1 at h
 dsimp only at h
 by_cases hy1_1 : x1_3 < (((x1_0).l.length : Nat) : Int)
 ·rw [if_pos hy1_1] at h
  obtain ⟨y1_2_, hy1_2, h⟩ := oB h
  obtain rfl := oI h
  exact runC2 hm ⟨[0, 3, 4], [(0, 0, true)], 1, 0, [], false, [], [], []⟩ (zz 5 (xdT hy1_1) <|
   ww (p := U_viewportref16Parentsq1_2 rnd x1_0 x1_2 x1_3 (x1_1, 0) y1_2_) (m_viewportref16Parentsq1_2_ok n x1_0 x1_2 x1_3 (x1_1, 0) y1_2_ hy1_2) <|
   ww (iv_flat x1_1 3) <|
   ll 12 ⟨⟨[0, 3, 4, 5], [(0, 0, true)], 1, 0, [], false, [], [], []⟩, (X_viewportref16Parentsq1_2 x1_0 x1_2 x1_3 y1_2_).1, (X_viewportref16Parentsq1_2 x1_0 x1_2 x1_3 y1_2_).2⟩ <|
   ww (iv_flat y1_2_ 3) <|
   ee) (by kernel_rfl)
 ·rw [if_neg hy1_1] at h
  obtain rfl := oI h
  exact runC2 hm ⟨[3], [(0, 0, true)], 1, 0, [], false, [], [], []⟩ (zz 5 (xdF hy1_1) <|
   ww (iv_flat x1_1 3) <|
   ee) (by kernel_rfl)
theorem m_viewportref16Parentsq1_1_ok (n : Nat) {rnd : Option Nat} (x1_0 : WL rw_iiiiiiLu) (x1_2 : Nat) (st : List Int × Int) (r : List Int) (h : m_viewportref16Parentsq1_1 n x1_0 x1_2 st = some r) : CG P rnd (fnN P 18) 0 (codeOf P 18 [false, true, false, true, true, true, true]) (S_viewportref16Parentsq1_1 x1_0 x1_2 st) (X_viewportref16Parentsq1_1 x1_0 x1_2 r) :=
 CG.iter (b := codeOf P 18 [false, false, true, false, true, true, true, true]) (by kernel_rfl) (body := B_viewportref16Parentsq1_1 n x1_0 x1_2) (S := S_viewportref16Parentsq1_1 x1_0 x1_2) (X := X_viewportref16Parentsq1_1 x1_0 x1_2)
  (fun s s' h => b_viewportref16Parentsq1_1 n x1_0 x1_2 s (.inl s') h)
  (fun s r h => b_viewportref16Parentsq1_1 n x1_0 x1_2 s (.inr r) h)
  (fun r => by intro hx; cases hx) h
def m_viewportref16Parentsq1 (n : Nat) (a0 : WL rw_iiiiiiLu) : Option (NL) :=
 (m_viewportref16Checkq1 n a0).bind fun c1_ =>
 if c1_ = (0 : Int) then
  if 0 ≤ (((a0).l.length : Nat) : Int) then
   if ((((a0).l.length : Nat) : Int)).toNat * 8 ≤ 140737488355328 then
    if 0 ≤ (0 : Int) ∧ (0 : Int) < ((((((a0).l.length : Nat) : Int)).toNat : Nat) : Int) then
     if ((0 : Int)).toNat < ((List.replicate ((((a0).l.length : Nat) : Int)).toNat (0 : Int))).length then
      (m_viewportref16Parentsq1_1 n a0 (((((a0).l.length : Nat) : Int)).toNat) ((((List.replicate ((((a0).l.length : Nat) : Int)).toNat (0 : Int))).set ((0 : Int)).toNat (-1 : Int)), 0)).bind fun c7_ =>
      if (((((a0).l.length : Nat) : Int)).toNat) = c7_.length then
       if hc9 : c7_.length ≤ 140737488355328 then
        some (frzL c7_ hc9)
       else none
      else none
     else none
    else none
   else none
  else none
 else
  some nl0
theorem m_viewportref16Parentsq1_ok (n : Nat) (a0 : WL rw_iiiiiiLu) (r : NL) (h : m_viewportref16Parentsq1 n a0 = some r) : Gv P (.func 18) (A_viewportref16Parentsq1 a0) (H_viewportref16Parentsq1 a0) (V_viewportref16Parentsq1 a0 r) (R_viewportref16Parentsq1 a0 r) := by
 unfold m_viewportref16Parentsq1 at h
 obtain ⟨c1_, hc1, h⟩ := oB h
 have k0 := fun {A L l} (k : PL A L l) => yy 5 (.call (C_viewportref16Checkq1 a0 c1_ [] [])) <|
  ww (m_viewportref16Checkq1_ok n a0 c1_ hc1) <|
  k
 by_cases hc2 : c1_ = (0 : Int)
 ·rw [if_pos hc2] at h
  obtain ⟨hc3, h⟩ := gd h
  obtain ⟨hc4, h⟩ := gd h
  obtain ⟨hc5, h⟩ := gd h
  obtain ⟨hc6, h⟩ := gd h
  obtain ⟨c7_, hc7, h⟩ := oB h
  obtain ⟨hc8, h⟩ := gd h
  obtain ⟨hc9, h⟩ := gdD h
  obtain rfl := oI h
  have k0_ : Gv P (.func 18) (A_viewportref16Parentsq1 a0) (H_viewportref16Parentsq1 a0) (Value.slice (some ⟨Nat.add (2 * cod c7_ + 1) 64, 0, some 1⟩) (((((a0).l.length : Nat) : Int)).toNat) (Nat.add big (((((a0).l.length : Nat) : Int)).toNat))) (R_viewportref16Parentsq1 a0 (frzL c7_ hc9)) := runF2 hm ⟨[2], [], 0, 0, [(0, Nat.add (2 * cod c7_ + 1) 64)], true, [], [], []⟩ (k0 <|
  zz 6 (xnF hc2) <|
  yy 11 (.mk ((((a0).l.length : Nat) : Int)).toNat (iv (List.replicate ((((a0).l.length : Nat) : Int)).toNat (0 : Int)))) <|
  ww (p := natOf (i6 (((a0).l.length : Nat) : Int)) = some ((((a0).l.length : Nat) : Int)).toNat) (natOf_toNat hc3) <|
  ww (p := natOf (i6 (((a0).l.length : Nat) : Int)) = some ((((a0).l.length : Nat) : Int)).toNat) (natOf_toNat hc3) <|
  ww (p := fits ((((a0).l.length : Nat) : Int)).toNat 8 = true) (fits_ok hc4 (by omega)) <|
  ww (p := isZ8 [(i6 (0 : Int))] = false) (rfl) <|
  ww (p := reps [(i6 (0 : Int))] ((((a0).l.length : Nat) : Int)).toNat = (iv (List.replicate ((((a0).l.length : Nat) : Int)).toNat (0 : Int)))) (reps_iv _) <|
  zz 15 (xk16 0 ((((a0).l.length : Nat) : Int)).toNat hc5) <|
  yy 16 (.sto (layT (iv (((List.replicate ((((a0).l.length : Nat) : Int)).toNat (0 : Int))).set ((0 : Int)).toNat (-1 : Int))))) <|
  ww (p := ∃ old, rdT (layT (iv (List.replicate ((((a0).l.length : Nat) : Int)).toNat (0 : Int)))) 1 ((0 : Int)).toNat = some old) (Exists.elim (iv_st ((List.replicate ((((a0).l.length : Nat) : Int)).toNat (0 : Int))) (((0 : Int)).toNat) ((-1 : Int)) hc6) fun o h => ⟨o, h.1⟩) <|
  ww (p := layL [(i6 (-1 : Int))] ((0 : Int)).toNat (layT (iv (List.replicate ((((a0).l.length : Nat) : Int)).toNat (0 : Int)))) = layT (iv (((List.replicate ((((a0).l.length : Nat) : Int)).toNat (0 : Int))).set ((0 : Int)).toNat (-1 : Int)))) (Exists.elim (iv_st ((List.replicate ((((a0).l.length : Nat) : Int)).toNat (0 : Int))) (((0 : Int)).toNat) ((-1 : Int)) hc6) fun o h => h.2) <|
  ww (p := U_viewportref16Parentsq1_1 none a0 (((((a0).l.length : Nat) : Int)).toNat) ((((List.replicate ((((a0).l.length : Nat) : Int)).toNat (0 : Int))).set ((0 : Int)).toNat (-1 : Int)), 0) c7_) (m_viewportref16Parentsq1_1_ok n a0 (((((a0).l.length : Nat) : Int)).toNat) ((((List.replicate ((((a0).l.length : Nat) : Int)).toNat (0 : Int))).set ((0 : Int)).toNat (-1 : Int)), 0) c7_ hc7) <|
  ww (iv_flat (((List.replicate ((((a0).l.length : Nat) : Int)).toNat (0 : Int))).set ((0 : Int)).toNat (-1 : Int)) 3) <|
  ll 21 ⟨⟨[0, 3, 4], [(0, 0, true)], 1, 0, [], false, [], [], []⟩, (X_viewportref16Parentsq1_1 a0 (((((a0).l.length : Nat) : Int)).toNat) c7_).1, (X_viewportref16Parentsq1_1 a0 (((((a0).l.length : Nat) : Int)).toNat) c7_).2⟩ <|
  ww (frz_ok wins_nest wins_odd c7_) <|
  ee) (by kernel_rfl)
  have k1_ := gvLen (fn := fun m_ => (Value.slice (some ⟨Nat.add (2 * cod c7_ + 1) 64, 0, some 1⟩) m_ (Nat.add big m_))) hc8 k0_
  exact k1_
 ·rw [if_neg hc2] at h
  obtain rfl := oI h
  exact runF2 hm ⟨[2], [], 0, 0, [], true, [], [], [2]⟩ (k0 <|
   zz 6 (xnT hc2) <|
   ee) (by kernel_rfl)

def A_viewportref16Pathq1 (a0 : WL rw_iiiiiiLu) (a1 : Int) : List Value := [(wlV a0), (i6 a1)]
def H_viewportref16Pathq1 (a0 : WL rw_iiiiiiLu) (a1 : Int) : AH := ⟨sB [], 0, 0⟩
def V_viewportref16Pathq1 (a0 : WL rw_iiiiiiLu) (a1 : Int) (r : NL) : Value := match r with
 | o0 => (nlV o0)
def R_viewportref16Pathq1 (a0 : WL rw_iiiiiiLu) (a1 : Int) (r : NL) : AH := match r with
 | o0 => ⟨sB [], 0, 0⟩
abbrev G_viewportref16Pathq1 (a0 : WL rw_iiiiiiLu) (a1 : Int) (r : NL) : Prop := Gv P (.func 9) (A_viewportref16Pathq1 a0 a1) (H_viewportref16Pathq1 a0 a1) (V_viewportref16Pathq1 a0 a1 r) (R_viewportref16Pathq1 a0 a1 r)
abbrev C_viewportref16Pathq1 (a0 : WL rw_iiiiiiLu) (a1 : Int) (r : NL) (ins outs : BL) : CallA := ⟨0, ins, V_viewportref16Pathq1 a0 a1 r, R_viewportref16Pathq1 a0 a1 r, outs⟩
def S_viewportref16Pathq1_1 (x1_0 : WL rw_iiiiiiLu) (x1_2 : NL) (st : Int × List Int × Nat × Nat) : XSt := match st with
 | (x1_1, x1_3, x1_4, x1_5) => (sT 28 [(0, (wlV x1_0)), (1, (i6 x1_1)), (5, (nlV x1_2)), (6, (slKQ x1_3 0 x1_4 0 x1_5))], [], ⟨sB [(0, (nblk x1_3 3))], 1, 0⟩)
def X_viewportref16Pathq1_1 (x1_0 : WL rw_iiiiiiLu) (x1_2 : NL) (r : List Int × Nat × Nat) : Ex × XSt := match r with
 | (z1_0, z1_1, z1_2) => (.exit 0, (sT 28 [(6, (slKQ z1_0 0 z1_1 0 z1_2))], [], ⟨sB [(0, (nblk z1_0 3))], 1, 0⟩))
abbrev Q_viewportref16Pathq1_1 (rnd : Option Nat) (x1_0 : WL rw_iiiiiiLu) (x1_2 : NL) (st : Int × List Int × Nat × Nat) (c : Ex × XSt) : Prop := CG P rnd (fnN P 9) 0 (codeOf P 9 [false, false, false, true, true, true, true]) (S_viewportref16Pathq1_1 x1_0 x1_2 st) c
abbrev U_viewportref16Pathq1_1 (rd : Option Nat) (x1_0 : WL rw_iiiiiiLu) (x1_2 : NL) (st : Int × List Int × Nat × Nat) (r : List Int × Nat × Nat) : Prop := CG P rd (fnN P 9) 0 (codeOf P 9 [false, false, true, true, true, true]) (S_viewportref16Pathq1_1 x1_0 x1_2 st) (X_viewportref16Pathq1_1 x1_0 x1_2 r)
def B_viewportref16Pathq1_1 (n : Nat) (x1_0 : WL rw_iiiiiiLu) (x1_2 : NL) (st : Int × List Int × Nat × Nat) : Option ((Int × List Int × Nat × Nat) ⊕ (List Int × Nat × Nat)) := match st with
 | (x1_1, x1_3, x1_4, x1_5) =>
  match x1_3 with
  | [] =>
   if x1_1 ≥ (0 : Int) then
    if 0 ≤ x1_1 ∧ x1_1 < (((x1_0).l.length : Nat) : Int) then
     ((some (((x1_0).l).getD (x1_1).toNat (0, 0, 0, 0, 0, 0, nl0, 0)))).bind fun y1_3_ =>
     if 0 ≤ x1_1 ∧ x1_1 < (((x1_2).l.length : Nat) : Int) then
      if (x1_1).toNat < ((x1_2).l).length then
       ((some (((x1_2).l).getD (x1_1).toNat 0))).bind fun y1_6_ =>
       some (.inl (y1_6_, [(y1_3_.1)], 1, 1))
      else none
     else none
    else none
   else
    some (.inr (([] : List Int), 0, 0))
  | x1_3a :: x1_3t =>
   if x1_1 ≥ (0 : Int) then
    if 0 ≤ x1_1 ∧ x1_1 < (((x1_0).l.length : Nat) : Int) then
     ((some (((x1_0).l).getD (x1_1).toNat (0, 0, 0, 0, 0, 0, nl0, 0)))).bind fun y1_3_ =>
     if 0 < x1_4 then
      if 0 + x1_4 ≤ ((x1_3a :: x1_3t)).length then
       if (1 + x1_4) * 8 ≤ 140737488355328 then
        if 1 < 1 + x1_4 then
         if 0 ≤ x1_1 ∧ x1_1 < (((x1_2).l.length : Nat) : Int) then
          if (x1_1).toNat < ((x1_2).l).length then
           ((some (((x1_2).l).getD (x1_1).toNat 0))).bind fun y1_10_ =>
           some (.inl (y1_10_, ([(y1_3_.1)] ++ (List.take x1_4 (List.drop 0 (x1_3a :: x1_3t)))), ((([(y1_3_.1)] ++ (List.take x1_4 (List.drop 0 (x1_3a :: x1_3t))))).length), (Nat.add big 1)))
          else none
         else none
        else none
       else none
      else none
     else
      if 0 ≤ x1_1 ∧ x1_1 < (((x1_2).l.length : Nat) : Int) then
       if (x1_1).toNat < ((x1_2).l).length then
        ((some (((x1_2).l).getD (x1_1).toNat 0))).bind fun y1_7_ =>
        some (.inl (y1_7_, [(y1_3_.1)], 1, 1))
       else none
      else none
    else none
   else
    some (.inr ((x1_3a :: x1_3t), x1_4, x1_5))
def m_viewportref16Pathq1_1 (n : Nat) (x1_0 : WL rw_iiiiiiLu) (x1_2 : NL) (st : Int × List Int × Nat × Nat) : Option (List Int × Nat × Nat) := iterM (B_viewportref16Pathq1_1 n x1_0 x1_2) n st
theorem b_viewportref16Pathq1_1 (n : Nat) {rnd : Option Nat} (x1_0 : WL rw_iiiiiiLu) (x1_2 : NL) (st : Int × List Int × Nat × Nat) (o : (Int × List Int × Nat × Nat) ⊕ (List Int × Nat × Nat)) (h : B_viewportref16Pathq1_1 n x1_0 x1_2 st = some o) : CG P rnd (fnN P 9) 0 (codeOf P 9 [false, false, false, true, true, true, true]) (S_viewportref16Pathq1_1 x1_0 x1_2 st) (Sum.elim (fun s => (.normal, S_viewportref16Pathq1_1 x1_0 x1_2 s)) (fun r => X_viewportref16Pathq1_1 x1_0 x1_2 r) o) := by
 obtain ⟨x1_1, x1_3, x1_4, x1_5⟩ := st
 unfold B_viewportref16Pathq1_1 at h
 dsimp only at h
 cases x1_3 with
 | nil =>
  dsimp only at h
  by_cases hy1_1 : x1_1 ≥ (0 : Int)
  ·rw [if_pos hy1_1] at h
   obtain ⟨hy1_2, h⟩ := gd h
   obtain ⟨y1_3_, hy1_3, h⟩ := oB h
   obtain ⟨hy1_4, h⟩ := gd h
   obtain ⟨hy1_5, h⟩ := gd h
   obtain ⟨y1_6_, hy1_6, h⟩ := oB h
   obtain rfl := oI h
   exact runC2 hm ⟨[0, 1, 5, 6], [(0, 1, false)], 1, 0, [], false, [], [], []⟩ (zz 3 (xdT hy1_1) <|
    zz 9 (xk4 (x1_0).num (x1_0).off (x1_0).cap hy1_2) <|
    zz 10 (fk17 (x1_0).num (Nat.add (x1_0).off ((x1_1).toNat * 8))) <|
    zz 11 (lk18 hy1_3 (toNatLt hy1_2)) <|
    zz 18 (xk12 (Nat.add (x1_2).num 64) (x1_2).off (x1_2).cap hy1_4) <|
    zz 19 (nk13 hy1_6 hy1_5) <|
    ee) (by kernel_rfl)
  ·rw [if_neg hy1_1] at h
   obtain rfl := oI h
   exact runC2 hm ⟨[6], [], 1, 0, [], false, [], [], []⟩ (zz 3 (xdF hy1_1) <|
    ee) (by kernel_rfl)
 | cons x1_3a x1_3t =>
  dsimp only at h
  by_cases hy1_1 : x1_1 ≥ (0 : Int)
  ·rw [if_pos hy1_1] at h
   obtain ⟨hy1_2, h⟩ := gd h
   obtain ⟨y1_3_, hy1_3, h⟩ := oB h
   have k0 := fun {A L l} (k : PL A L l) => zz 3 (xdT hy1_1) <|
    zz 9 (xk4 (x1_0).num (x1_0).off (x1_0).cap hy1_2) <|
    zz 10 (fk17 (x1_0).num (Nat.add (x1_0).off ((x1_1).toNat * 8))) <|
    zz 11 (lk18 hy1_3 (toNatLt hy1_2)) <|
    k
   by_cases hy1_4 : 0 < x1_4
   ·rw [if_pos hy1_4] at h
    obtain ⟨hy1_5, h⟩ := gd h
    obtain ⟨hy1_6, h⟩ := gd h
    obtain ⟨hy1_7, h⟩ := gd h
    obtain ⟨hy1_8, h⟩ := gd h
    obtain ⟨hy1_9, h⟩ := gd h
    obtain ⟨y1_10_, hy1_10, h⟩ := oB h
    obtain rfl := oI h
    exact runC2 hm ⟨[0, 1, 5, 6], [(0, 2, true)], 1, 0, [], false, [], [], []⟩ (k0 <|
     ww (p := x1_4 = x1_4) (rfl) <|
     ww (p := rdT (layT (iv (x1_3a :: x1_3t))) (Nat.mul x1_4 1) 0 = some (iv (List.take x1_4 (List.drop 0 (x1_3a :: x1_3t))))) ((Nat.zero_mul 1 ▸ iv_rdSub _ 0 _ hy1_5)) <|
     yy 14 (.app ⟨some (x1_4, (iv (List.take x1_4 (List.drop 0 (x1_3a :: x1_3t))))), [(i6 (y1_3_.1))], (iv ([(y1_3_.1)] ++ (List.take x1_4 (List.drop 0 (x1_3a :: x1_3t))))), (([(y1_3_.1)] ++ (List.take x1_4 (List.drop 0 (x1_3a :: x1_3t))))).length, true⟩) <|
     ww (p := 0 < x1_4) (hy1_4) <|
     ww (p := 1 < big) ((by decide)) <|
     ww (p := 1 < Nat.add 1 x1_4) (hy1_7) <|
     ww (p := rdT (layT [(i6 (y1_3_.1))]) (Nat.mul 1 1) 0 = some ([(i6 (y1_3_.1))])) (rfl) <|
     ww (p := fits (Nat.add 1 x1_4) 8 = true) (fits_ok hy1_6 (by have := hy1_6; show (_ : Nat) + _ ≤ _; omega)) <|
     ww (p := [(i6 (y1_3_.1))] ++ (iv (List.take x1_4 (List.drop 0 (x1_3a :: x1_3t)))) = (iv ([(y1_3_.1)] ++ (List.take x1_4 (List.drop 0 (x1_3a :: x1_3t)))))) (by simp [iv]) <|
     ww (p := Nat.add 1 x1_4 = (([(y1_3_.1)] ++ (List.take x1_4 (List.drop 0 (x1_3a :: x1_3t))))).length) (by simp <;> (try simp only [List.length_cons] at *) <;> omega) <|
     zz 18 (xk12 (Nat.add (x1_2).num 64) (x1_2).off (x1_2).cap hy1_8) <|
     zz 19 (nk13 hy1_10 hy1_9) <|
     ww (iv_flat ([(y1_3_.1)] ++ (List.take x1_4 (List.drop 0 (x1_3a :: x1_3t)))) 3) <|
     ee) (by kernel_rfl)
   ·rw [if_neg hy1_4] at h
    obtain ⟨hy1_5, h⟩ := gd h
    obtain ⟨hy1_6, h⟩ := gd h
    obtain ⟨y1_7_, hy1_7, h⟩ := oB h
    obtain rfl := oI h
    exact runC2 hm ⟨[0, 1, 5, 6], [(0, 1, false)], 1, 0, [], false, [], [], []⟩ (k0 <|
     yy 14 (.app0) <|
     ww (p := 0 = x1_4) ((by have := hy1_4; omega)) <|
     ww (p := rdT (layT (iv (x1_3a :: x1_3t))) (Nat.mul x1_4 1) 0 = some []) (rdT_zero (by have := hy1_4; omega)) <|
     ww (p := ∀ H : AH, appTop H 1 3 8 (0, []) (sN 1 0 1 1) = some ((sN 1 0 1 1), H)) (fun _ => rfl) <|
     zz 18 (xk12 (Nat.add (x1_2).num 64) (x1_2).off (x1_2).cap hy1_5) <|
     zz 19 (nk13 hy1_7 hy1_6) <|
     ee) (by kernel_rfl)
  ·rw [if_neg hy1_1] at h
   obtain rfl := oI h
   exact runC2 hm ⟨[6], [(0, 0, true)], 1, 0, [], false, [], [], []⟩ (zz 3 (xdF hy1_1) <|
    ww (iv_flat (x1_3a :: x1_3t) 3) <|
    ee) (by kernel_rfl)
theorem m_viewportref16Pathq1_1_ok (n : Nat) {rnd : Option Nat} (x1_0 : WL rw_iiiiiiLu) (x1_2 : NL) (st : Int × List Int × Nat × Nat) (r : List Int × Nat × Nat) (h : m_viewportref16Pathq1_1 n x1_0 x1_2 st = some r) : CG P rnd (fnN P 9) 0 (codeOf P 9 [false, false, true, true, true, true]) (S_viewportref16Pathq1_1 x1_0 x1_2 st) (X_viewportref16Pathq1_1 x1_0 x1_2 r) :=
 CG.iter (b := codeOf P 9 [false, false, false, true, true, true, true]) (by kernel_rfl) (body := B_viewportref16Pathq1_1 n x1_0 x1_2) (S := S_viewportref16Pathq1_1 x1_0 x1_2) (X := X_viewportref16Pathq1_1 x1_0 x1_2)
  (fun s s' h => b_viewportref16Pathq1_1 n x1_0 x1_2 s (.inl s') h)
  (fun s r h => b_viewportref16Pathq1_1 n x1_0 x1_2 s (.inr r) h)
  (fun r => by intro hx; cases hx) h
def m_viewportref16Pathq1 (n : Nat) (a0 : WL rw_iiiiiiLu) (a1 : Int) : Option (NL) :=
 (m_viewportref16isq1 n a0 a1).bind fun c1_ =>
 if c1_ = true then
  (m_viewportref16Parentsq1 n a0).bind fun c3_ =>
  (m_viewportref16Pathq1_1 n a0 c3_ (a1, ([] : List Int), 0, 0)).bind fun t => match t with
  | (c4_0, c4_1, c4_2) =>
   match c4_0 with
   | [] =>
    some nl0
   | c4_0a :: c4_0t =>
    if c4_1 = (c4_0a :: c4_0t).length then
     if hc6 : (c4_0a :: c4_0t).length ≤ 140737488355328 then
      some (frzL (c4_0a :: c4_0t) hc6)
     else none
    else none
 else
  some nl0
theorem m_viewportref16Pathq1_ok (n : Nat) (a0 : WL rw_iiiiiiLu) (a1 : Int) (r : NL) (h : m_viewportref16Pathq1 n a0 a1 = some r) : Gv P (.func 9) (A_viewportref16Pathq1 a0 a1) (H_viewportref16Pathq1 a0 a1) (V_viewportref16Pathq1 a0 a1 r) (R_viewportref16Pathq1 a0 a1 r) := by
 unfold m_viewportref16Pathq1 at h
 obtain ⟨c1_, hc1, h⟩ := oB h
 have k0 := fun {A L l} (k : PL A L l) => yy 6 (.call (C_viewportref16isq1 a0 a1 c1_ [] [])) <|
  ww (m_viewportref16isq1_ok n a0 a1 c1_ hc1) <|
  k
 by_cases hc2 : c1_ = true
 ·rw [if_pos hc2] at h
  obtain ⟨c3_, hc3, h⟩ := oB h
  obtain ⟨⟨c4_0, c4_1, c4_2⟩, hc4, h⟩ := oB h
  dsimp only at h
  have k2 := fun {A L l} (k : PL A L l) => yy 7 (vf) <|
   ww (p := (Value.bool (!c1_)) = (Value.bool false)) (vBn hc2) <|
   yy 11 (.call (C_viewportref16Parentsq1 a0 c3_ [] [])) <|
   ww (m_viewportref16Parentsq1_ok n a0 c3_ hc3) <|
   k
  cases c4_0 with
  | nil =>
   dsimp only at h
   obtain rfl := oI h
   exact runF2 hm ⟨[4], [], 0, 0, [], true, [], [], [4]⟩ (k0 <|
    k2 <|
    ww (p := U_viewportref16Pathq1_1 none a0 c3_ (a1, ([] : List Int), 0, 0) (([] : List Int), c4_1, c4_2)) (m_viewportref16Pathq1_1_ok n a0 c3_ (a1, ([] : List Int), 0, 0) (([] : List Int), c4_1, c4_2) hc4) <|
    ll 17 ⟨⟨[0, 1, 5, 6], [], 1, 0, [], false, [], [], []⟩, (X_viewportref16Pathq1_1 a0 c3_ (([] : List Int), c4_1, c4_2)).1, (X_viewportref16Pathq1_1 a0 c3_ (([] : List Int), c4_1, c4_2)).2⟩ <|
    ee) (by kernel_rfl)
  | cons c4_0a c4_0t =>
   dsimp only at h
   obtain ⟨hc5, h⟩ := gd h
   obtain ⟨hc6, h⟩ := gdD h
   obtain rfl := oI h
   subst hc5
   exact runF2 hm ⟨[4], [], 0, 0, [(0, Nat.add (2 * cod (c4_0a :: c4_0t) + 1) 64)], true, [], [], []⟩ (k0 <|
    k2 <|
    ww (p := U_viewportref16Pathq1_1 none a0 c3_ (a1, ([] : List Int), 0, 0) ((c4_0a :: c4_0t), (((c4_0a :: c4_0t)).length), c4_2)) (m_viewportref16Pathq1_1_ok n a0 c3_ (a1, ([] : List Int), 0, 0) ((c4_0a :: c4_0t), (((c4_0a :: c4_0t)).length), c4_2) hc4) <|
    ll 17 ⟨⟨[0, 1, 5, 6], [], 1, 0, [], false, [], [], []⟩, (X_viewportref16Pathq1_1 a0 c3_ ((c4_0a :: c4_0t), (((c4_0a :: c4_0t)).length), c4_2)).1, (X_viewportref16Pathq1_1 a0 c3_ ((c4_0a :: c4_0t), (((c4_0a :: c4_0t)).length), c4_2)).2⟩ <|
    ww (frz_ok wins_nest wins_odd (c4_0a :: c4_0t)) <|
    ee) (by kernel_rfl)
 ·rw [if_neg hc2] at h
  obtain rfl := oI h
  exact runF2 hm ⟨[4], [], 0, 0, [], true, [], [], [4]⟩ (k0 <|
   yy 7 (vt) <|
   ww (p := (Value.bool (!c1_)) = (Value.bool true)) (vBn (Bool.eq_false_iff.2 hc2)) <|
   ee) (by kernel_rfl)

def A_treeinOrderq1 (a0 : WL rw_iiiiiiLu) : List Value := [(wlV a0)]
def H_treeinOrderq1 (a0 : WL rw_iiiiiiLu) : AH := ⟨sB [], 0, 0⟩
def V_treeinOrderq1 (a0 : WL rw_iiiiiiLu) (r : Bool) : Value := match r with
 | o0 => (bO o0)
def R_treeinOrderq1 (a0 : WL rw_iiiiiiLu) (r : Bool) : AH := match r with
 | o0 => ⟨sB [], 0, 0⟩
abbrev G_treeinOrderq1 (a0 : WL rw_iiiiiiLu) (r : Bool) : Prop := Gv P (.func 32) (A_treeinOrderq1 a0) (H_treeinOrderq1 a0) (V_treeinOrderq1 a0 r) (R_treeinOrderq1 a0 r)
abbrev C_treeinOrderq1 (a0 : WL rw_iiiiiiLu) (r : Bool) (ins outs : BL) : CallA := ⟨0, ins, V_treeinOrderq1 a0 r, R_treeinOrderq1 a0 r, outs⟩
def S_treeinOrderq1_1 (x1_0 : WL rw_iiiiiiLu) (x1_3 : Int) (st : List (Int × Int × Int) × Nat × Int) : XSt := match st with
 | (x1_1, x1_2, x1_4) => (sT 99 [(0, (wlV x1_0)), (3, (slQ x1_1 0 x1_2 3)), (8, (wlV x1_0)), (9, (i6 x1_3)), (10, (i6 x1_4))], [], ⟨sB [(0, (nblkR rw_iii x1_1 64))], 1, 0⟩)
def X_treeinOrderq1_1 (x1_0 : WL rw_iiiiiiLu) (x1_3 : Int) (r : (Unit) ⊕ (List (Int × Int × Int) × Nat)) : Ex × XSt := match r with
 | .inl _ => (.ret, (sT 99 [(2, (bO false))], [], ⟨sB [], 0, 0⟩))
 | .inr (z1_0, z1_1) => (.exit 0, (sT 99 [(3, (slQ z1_0 0 z1_1 3))], [], ⟨sB [(0, (nblkR rw_iii z1_0 64))], 1, 0⟩))
abbrev Q_treeinOrderq1_1 (rnd : Option Nat) (x1_0 : WL rw_iiiiiiLu) (x1_3 : Int) (st : List (Int × Int × Int) × Nat × Int) (c : Ex × XSt) : Prop := CG P rnd (fnN P 32) 0 (codeOf P 32 [false, false, true, false, true, true]) (S_treeinOrderq1_1 x1_0 x1_3 st) c
abbrev U_treeinOrderq1_1 (rd : Option Nat) (x1_0 : WL rw_iiiiiiLu) (x1_3 : Int) (st : List (Int × Int × Int) × Nat × Int) (r : (Unit) ⊕ (List (Int × Int × Int) × Nat)) : Prop := CG P rd (fnN P 32) 0 (codeOf P 32 [false, true, false, true, true]) (S_treeinOrderq1_1 x1_0 x1_3 st) (X_treeinOrderq1_1 x1_0 x1_3 r)
def B_treeinOrderq1_1 (n : Nat) (x1_0 : WL rw_iiiiiiLu) (x1_3 : Int) (st : List (Int × Int × Int) × Nat × Int) : Option ((List (Int × Int × Int) × Nat × Int) ⊕ ((Unit) ⊕ (List (Int × Int × Int) × Nat))) := match st with
 | (x1_1, x1_2, x1_4) =>
  match x1_1 with
  | [] =>
   if x1_4 < x1_3 then
    if 0 ≤ x1_4 ∧ x1_4 < (((x1_0).l.length : Nat) : Int) then
     ((some (((x1_0).l).getD (x1_4).toNat (0, 0, 0, 0, 0, 0, nl0, 0)))).bind fun y1_3_ =>
     if x1_4 > (0 : Int) then
      some (.inr (.inl ()))
     else
      if ((((y1_3_.2.2.2.2.2.2.1)).l.length : Nat) : Int) > (0 : Int) then
       some (.inl ([(x1_4, (0 : Int), (y1_3_.2.2.1))], 1, (w64 (x1_4 + (1 : Int)))))
      else
       some (.inl (([] : List (Int × Int × Int)), 0, (w64 (x1_4 + (1 : Int)))))
    else none
   else
    some (.inr (.inr (([] : List (Int × Int × Int)), 0)))
  | x1_1a :: x1_1t =>
   if x1_4 < x1_3 then
    if 0 ≤ x1_4 ∧ x1_4 < (((x1_0).l.length : Nat) : Int) then
     ((some (((x1_0).l).getD (x1_4).toNat (0, 0, 0, 0, 0, 0, nl0, 0)))).bind fun y1_3_ =>
     if x1_4 > (0 : Int) then
      if ((x1_2 : Nat) : Int) = (0 : Int) then
       some (.inr (.inl ()))
      else
       ((some (w64 (((x1_2 : Nat) : Int) - (1 : Int))))).bind fun y1_6_ =>
       if 0 ≤ y1_6_ ∧ y1_6_ < ((x1_2 : Nat) : Int) then
        if (y1_6_).toNat < ((x1_1a :: x1_1t)).length then
         ((some (((x1_1a :: x1_1t)).getD (y1_6_).toNat (0, 0, 0)))).bind fun y1_9_ =>
         if 0 ≤ (y1_9_.1) ∧ (y1_9_.1) < (((x1_0).l.length : Nat) : Int) then
          ((some (((x1_0).l).getD ((y1_9_.1)).toNat (0, 0, 0, 0, 0, 0, nl0, 0)))).bind fun y1_11_ =>
          if 0 ≤ (y1_9_.2.1) ∧ (y1_9_.2.1) < ((((y1_11_.2.2.2.2.2.2.1)).l.length : Nat) : Int) then
           if ((y1_9_.2.1)).toNat < (((y1_11_.2.2.2.2.2.2.1)).l).length then
            ((some ((((y1_11_.2.2.2.2.2.2.1)).l).getD ((y1_9_.2.1)).toNat 0))).bind fun y1_14_ =>
            if y1_14_ = x1_4 then
             if (y1_3_.2.2.1) < (y1_9_.2.2) then
              some (.inr (.inl ()))
             else
              if (y1_3_.2.2.2.2.1) > (y1_11_.2.2.2.2.1) then
               some (.inr (.inl ()))
              else
               if (w64 ((y1_9_.2.1) + (1 : Int))) = ((((y1_11_.2.2.2.2.2.2.1)).l.length : Nat) : Int) then
                if 0 ≤ y1_6_ ∧ y1_6_ ≤ ((x1_2 : Nat) : Int) then
                 if ((((y1_3_.2.2.2.2.2.2.1)).l.length : Nat) : Int) > (0 : Int) then
                  if (y1_6_).toNat ≤ ((((x1_1a :: x1_1t)).set (y1_6_).toNat ((y1_9_.1), (w64 ((y1_9_.2.1) + (1 : Int))), (y1_3_.2.2.2.2.1)))).length then
                   if ((y1_6_).toNat + 1) * 24 ≤ 140737488355328 then
                    some (.inl (((List.take (y1_6_).toNat (((x1_1a :: x1_1t)).set (y1_6_).toNat ((y1_9_.1), (w64 ((y1_9_.2.1) + (1 : Int))), (y1_3_.2.2.2.2.1)))) ++ [(x1_4, (0 : Int), (y1_3_.2.2.1))]), ((((List.take (y1_6_).toNat (((x1_1a :: x1_1t)).set (y1_6_).toNat ((y1_9_.1), (w64 ((y1_9_.2.1) + (1 : Int))), (y1_3_.2.2.2.2.1)))) ++ [(x1_4, (0 : Int), (y1_3_.2.2.1))])).length), (w64 (x1_4 + (1 : Int)))))
                   else none
                  else none
                 else
                  some (.inl ((((x1_1a :: x1_1t)).set (y1_6_).toNat ((y1_9_.1), (w64 ((y1_9_.2.1) + (1 : Int))), (y1_3_.2.2.2.2.1))), ((y1_6_).toNat), (w64 (x1_4 + (1 : Int)))))
                else none
               else
                if ((((y1_3_.2.2.2.2.2.2.1)).l.length : Nat) : Int) > (0 : Int) then
                 if x1_2 ≤ ((((x1_1a :: x1_1t)).set (y1_6_).toNat ((y1_9_.1), (w64 ((y1_9_.2.1) + (1 : Int))), (y1_3_.2.2.2.2.1)))).length then
                  if (x1_2 + 1) * 24 ≤ 140737488355328 then
                   some (.inl (((List.take x1_2 (((x1_1a :: x1_1t)).set (y1_6_).toNat ((y1_9_.1), (w64 ((y1_9_.2.1) + (1 : Int))), (y1_3_.2.2.2.2.1)))) ++ [(x1_4, (0 : Int), (y1_3_.2.2.1))]), ((((List.take x1_2 (((x1_1a :: x1_1t)).set (y1_6_).toNat ((y1_9_.1), (w64 ((y1_9_.2.1) + (1 : Int))), (y1_3_.2.2.2.2.1)))) ++ [(x1_4, (0 : Int), (y1_3_.2.2.1))])).length), (w64 (x1_4 + (1 : Int)))))
                  else none
                 else none
                else
                 some (.inl ((((x1_1a :: x1_1t)).set (y1_6_).toNat ((y1_9_.1), (w64 ((y1_9_.2.1) + (1 : Int))), (y1_3_.2.2.2.2.1))), x1_2, (w64 (x1_4 + (1 : Int)))))
            else
             some (.inr (.inl ()))
           else none
          else none
         else none
        else none
       else none
     else
      if ((((y1_3_.2.2.2.2.2.2.1)).l.length : Nat) : Int) > (0 : Int) then
       if x1_2 ≤ ((x1_1a :: x1_1t)).length then
        if (x1_2 + 1) * 24 ≤ 140737488355328 then
         some (.inl (((List.take x1_2 (x1_1a :: x1_1t)) ++ [(x1_4, (0 : Int), (y1_3_.2.2.1))]), ((((List.take x1_2 (x1_1a :: x1_1t)) ++ [(x1_4, (0 : Int), (y1_3_.2.2.1))])).length), (w64 (x1_4 + (1 : Int)))))
        else none
       else none
      else
       some (.inl ((x1_1a :: x1_1t), x1_2, (w64 (x1_4 + (1 : Int)))))
    else none
   else
    some (.inr (.inr ((x1_1a :: x1_1t), x1_2)))
def m_treeinOrderq1_1 (n : Nat) (x1_0 : WL rw_iiiiiiLu) (x1_3 : Int) (st : List (Int × Int × Int) × Nat × Int) : Option ((Unit) ⊕ (List (Int × Int × Int) × Nat)) := iterM (B_treeinOrderq1_1 n x1_0 x1_3) n st
theorem b_treeinOrderq1_1 (n : Nat) {rnd : Option Nat} (x1_0 : WL rw_iiiiiiLu) (x1_3 : Int) (st : List (Int × Int × Int) × Nat × Int) (o : (List (Int × Int × Int) × Nat × Int) ⊕ ((Unit) ⊕ (List (Int × Int × Int) × Nat))) (h : B_treeinOrderq1_1 n x1_0 x1_3 st = some o) : CG P rnd (fnN P 32) 0 (codeOf P 32 [false, false, true, false, true, true]) (S_treeinOrderq1_1 x1_0 x1_3 st) (Sum.elim (fun s => (.normal, S_treeinOrderq1_1 x1_0 x1_3 s)) (fun r => X_treeinOrderq1_1 x1_0 x1_3 r) o) := by
 obtain ⟨x1_1, x1_2, x1_4⟩ := st
 unfold B_treeinOrderq1_1 at h
 dsimp only at h
 cases x1_1 with
 | nil =>
  dsimp only at h
  by_cases hy1_1 : x1_4 < x1_3
  ·rw [if_pos hy1_1] at h
   obtain ⟨hy1_2, h⟩ := gd h
   obtain ⟨y1_3_, hy1_3, h⟩ := oB h
   have k0 := fun {A L l} (k : PL A L l) => zz 1 (xdT hy1_1) <|
    zz 8 (xk4 (x1_0).num (x1_0).off (x1_0).cap hy1_2) <|
    zz 9 (lk5 hy1_3 (toNatLt hy1_2)) <|
    k
   by_cases hy1_4 : x1_4 > (0 : Int)
   ·rw [if_pos hy1_4] at h
    obtain rfl := oI h
    exact runC2 hm ⟨[2], [], 0, 0, [], false, [], [], []⟩ (k0 <|
     zz 16 (xdT hy1_4) <|
     ee) (by kernel_rfl)
   ·rw [if_neg hy1_4] at h
    have k3 := fun {A L l} (k : PL A L l) => zz 16 (xdF hy1_4) <|
     k
    by_cases hy1_5 : ((((y1_3_.2.2.2.2.2.2.1)).l.length : Nat) : Int) > (0 : Int)
    ·rw [if_pos hy1_5] at h
     obtain rfl := oI h
     exact runC2 hm ⟨[0, 3, 8, 9, 10], [(0, 3, false)], 1, 0, [], false, [], [], []⟩ (k0 <|
      k3 <|
      zz 22 (xdT hy1_5) <|
      ee) (by kernel_rfl)
    ·rw [if_neg hy1_5] at h
     obtain rfl := oI h
     exact runC2 hm ⟨[0, 3, 8, 9, 10], [], 1, 0, [], false, [], [], []⟩ (k0 <|
      k3 <|
      zz 22 (xdF hy1_5) <|
      ee) (by kernel_rfl)
  ·rw [if_neg hy1_1] at h
   obtain rfl := oI h
   exact runC2 hm ⟨[3], [], 1, 0, [], false, [], [], []⟩ (zz 1 (xdF hy1_1) <|
    ee) (by kernel_rfl)
 | cons x1_1a x1_1t =>
  dsimp only at h
  by_cases hy1_1 : x1_4 < x1_3
  ·rw [if_pos hy1_1] at h
   obtain ⟨hy1_2, h⟩ := gd h
   obtain ⟨y1_3_, hy1_3, h⟩ := oB h
   have k0 := fun {A L l} (k : PL A L l) => zz 1 (xdT hy1_1) <|
    zz 8 (xk4 (x1_0).num (x1_0).off (x1_0).cap hy1_2) <|
    zz 9 (lk5 hy1_3 (toNatLt hy1_2)) <|
    k
   by_cases hy1_4 : x1_4 > (0 : Int)
   ·rw [if_pos hy1_4] at h
    have k3 := fun {A L l} (k : PL A L l) => zz 16 (xdT hy1_4) <|
     k
    by_cases hy1_5 : ((x1_2 : Nat) : Int) = (0 : Int)
    ·rw [if_pos hy1_5] at h
     obtain rfl := oI h
     exact runC2 hm ⟨[2], [], 0, 0, [], false, [], [], []⟩ (k0 <|
      k3 <|
      zz 22 (xeT hy1_5) <|
      ee) (by kernel_rfl)
    ·rw [if_neg hy1_5] at h
     obtain ⟨y1_6_, hy1_6, h⟩ := oB h
     obtain ⟨hy1_7, h⟩ := gd h
     obtain ⟨hy1_8, h⟩ := gd h
     obtain ⟨y1_9_, hy1_9, h⟩ := oB h
     obtain ⟨hy1_10, h⟩ := gd h
     obtain ⟨y1_11_, hy1_11, h⟩ := oB h
     obtain ⟨hy1_12, h⟩ := gd h
     obtain ⟨hy1_13, h⟩ := gd h
     obtain ⟨y1_14_, hy1_14, h⟩ := oB h
     have k4 := fun {A L l} (k : PL A L l) => zz 22 (xeF hy1_5) <|
      zz 28 (xnm hy1_6) <|
      zz 29 (xk21 0 U3 hy1_7) <|
      zz 36 (ok22 hy1_9 (hy1_8)) <|
      zz 37 (xk4 (x1_0).num (x1_0).off (x1_0).cap hy1_10) <|
      zz 38 (lk5 hy1_11 (toNatLt hy1_10)) <|
      zz 48 (ok23 hy1_9 (hy1_8)) <|
      zz 49 (xk12 (Nat.add ((y1_11_.2.2.2.2.2.2.1)).num 64) ((y1_11_.2.2.2.2.2.2.1)).off ((y1_11_.2.2.2.2.2.2.1)).cap hy1_12) <|
      zz 50 (nk13 hy1_14 hy1_13) <|
      k
     by_cases hy1_15 : y1_14_ = x1_4
     ·rw [if_pos hy1_15] at h
      have k13 := fun {A L l} (k : PL A L l) => zz 52 (xnF hy1_15) <|
       zz 59 (ok24 hy1_9 (hy1_8)) <|
       k
      by_cases hy1_16 : (y1_3_.2.2.1) < (y1_9_.2.2)
      ·rw [if_pos hy1_16] at h
       obtain rfl := oI h
       exact runC2 hm ⟨[2], [], 0, 0, [], false, [], [], []⟩ (k0 <|
        k3 <|
        k4 <|
        k13 <|
        zz 60 (xdT hy1_16) <|
        ee) (by kernel_rfl)
      ·rw [if_neg hy1_16] at h
       have k15 := fun {A L l} (k : PL A L l) => zz 60 (xdF hy1_16) <|
        k
       by_cases hy1_17 : (y1_3_.2.2.2.2.1) > (y1_11_.2.2.2.2.1)
       ·rw [if_pos hy1_17] at h
        obtain rfl := oI h
        exact runC2 hm ⟨[2], [], 0, 0, [], false, [], [], []⟩ (k0 <|
         k3 <|
         k4 <|
         k13 <|
         k15 <|
         zz 67 (xdT hy1_17) <|
         ee) (by kernel_rfl)
       ·rw [if_neg hy1_17] at h
        have k16 := fun {A L l} (k : PL A L l) => zz 67 (xdF hy1_17) <|
         zz 76 (ok23 hy1_9 (hy1_8)) <|
         yy 82 (.sto (layT (rows rw_iii (((x1_1a :: x1_1t)).set (y1_6_).toNat ((y1_9_.1), (w64 ((y1_9_.2.1) + (1 : Int))), (y1_9_.2.2)))))) <|
         ww (p := ∃ old, rdT (layT (rows rw_iii (x1_1a :: x1_1t))) 1 (Nat.add ((y1_6_).toNat * 3) 1) = some old) (Exists.elim (rows_stN rwf_iii (0, 0, 0) (hr := hy1_9) (i := (y1_6_).toNat) (j := 1) (l := [(i6 (w64 ((y1_9_.2.1) + (1 : Int))))]) ((y1_9_.1), (w64 ((y1_9_.2.1) + (1 : Int))), (y1_9_.2.2)) (Nat.add ((y1_6_).toNat * 3) 1) rfl (hy1_8) (Nat.le_of_ble_eq_true rfl) rfl) fun o h => ⟨o, h.1⟩) <|
         ww (p := layL [(i6 (w64 ((y1_9_.2.1) + (1 : Int))))] (Nat.add ((y1_6_).toNat * 3) 1) (layT (rows rw_iii (x1_1a :: x1_1t))) = layT (rows rw_iii (((x1_1a :: x1_1t)).set (y1_6_).toNat ((y1_9_.1), (w64 ((y1_9_.2.1) + (1 : Int))), (y1_9_.2.2))))) (Exists.elim (rows_stN rwf_iii (0, 0, 0) (hr := hy1_9) (i := (y1_6_).toNat) (j := 1) (l := [(i6 (w64 ((y1_9_.2.1) + (1 : Int))))]) ((y1_9_.1), (w64 ((y1_9_.2.1) + (1 : Int))), (y1_9_.2.2)) (Nat.add ((y1_6_).toNat * 3) 1) rfl (hy1_8) (Nat.le_of_ble_eq_true rfl) rfl) fun o h => h.2) <|
         yy 85 (.sto (layT (rows rw_iii (((x1_1a :: x1_1t)).set (y1_6_).toNat ((y1_9_.1), (w64 ((y1_9_.2.1) + (1 : Int))), (y1_3_.2.2.2.2.1)))))) <|
         ww (p := ∃ old, rdT (layT (rows rw_iii (((x1_1a :: x1_1t)).set (y1_6_).toNat ((y1_9_.1), (w64 ((y1_9_.2.1) + (1 : Int))), (y1_9_.2.2))))) 1 (Nat.add ((y1_6_).toNat * 3) 2) = some old) (Exists.elim (rows_stS rwf_iii (i := (y1_6_).toNat) (j := 2) (l := [(i6 (y1_3_.2.2.2.2.1))]) ((y1_9_.1), (w64 ((y1_9_.2.1) + (1 : Int))), (y1_9_.2.2)) ((y1_9_.1), (w64 ((y1_9_.2.1) + (1 : Int))), (y1_3_.2.2.2.2.1)) (Nat.add ((y1_6_).toNat * 3) 2) rfl (hy1_8) (Nat.le_of_ble_eq_true rfl) rfl) fun o h => ⟨o, h.1⟩) <|
         ww (p := layL [(i6 (y1_3_.2.2.2.2.1))] (Nat.add ((y1_6_).toNat * 3) 2) (layT (rows rw_iii (((x1_1a :: x1_1t)).set (y1_6_).toNat ((y1_9_.1), (w64 ((y1_9_.2.1) + (1 : Int))), (y1_9_.2.2))))) = layT (rows rw_iii (((x1_1a :: x1_1t)).set (y1_6_).toNat ((y1_9_.1), (w64 ((y1_9_.2.1) + (1 : Int))), (y1_3_.2.2.2.2.1))))) (Exists.elim (rows_stS rwf_iii (i := (y1_6_).toNat) (j := 2) (l := [(i6 (y1_3_.2.2.2.2.1))]) ((y1_9_.1), (w64 ((y1_9_.2.1) + (1 : Int))), (y1_9_.2.2)) ((y1_9_.1), (w64 ((y1_9_.2.1) + (1 : Int))), (y1_3_.2.2.2.2.1)) (Nat.add ((y1_6_).toNat * 3) 2) rfl (hy1_8) (Nat.le_of_ble_eq_true rfl) rfl) fun o h => h.2) <|
         yy 90 (.ld (i6 (w64 ((y1_9_.2.1) + (1 : Int))))) <|
         ww (p := (layT (rows rw_iii (((x1_1a :: x1_1t)).set (y1_6_).toNat ((y1_9_.1), (w64 ((y1_9_.2.1) + (1 : Int))), (y1_3_.2.2.2.2.1))))).get (Nat.add ((y1_6_).toNat * 3) 1) = some (i6 (w64 ((y1_9_.2.1) + (1 : Int))))) (rows_ldS rwf_iii (i := (y1_6_).toNat) (j := 1) ((y1_9_.1), (w64 ((y1_9_.2.1) + (1 : Int))), (y1_3_.2.2.2.2.1)) (Nat.add ((y1_6_).toNat * 3) 1) rfl (hy1_8) (by decide) rfl) <|
         k
        by_cases hy1_18 : (w64 ((y1_9_.2.1) + (1 : Int))) = ((((y1_11_.2.2.2.2.2.2.1)).l.length : Nat) : Int)
        ·rw [if_pos hy1_18] at h
         obtain ⟨hy1_19, h⟩ := gd h
         have k26 := fun {A L l} (k : PL A L l) => zz 94 (xeT hy1_18) <|
          zz 99 (xnm hy1_6) <|
          yy 100 (.pur (sN 0 0 (y1_6_).toNat (Nat.add big 3))) <|
          ww (p := opSlice P 61 (sN 0 0 x1_2 (Nat.add big 3)) none (some (i6 y1_6_)) none Ax.h0 = some ((sN 0 0 (y1_6_).toNat (Nat.add big 3)), Ax.h0)) (slRowHi (e := 64) (es := 3) (by kernel_rfl) (by kernel_rfl) rfl rfl hy1_19) <|
          k
         by_cases hy1_20 : ((((y1_3_.2.2.2.2.2.2.1)).l.length : Nat) : Int) > (0 : Int)
         ·rw [if_pos hy1_20] at h
          obtain ⟨hy1_21, h⟩ := gd h
          obtain ⟨hy1_22, h⟩ := gd h
          obtain rfl := oI h
          obtain ⟨za, zt, hz⟩ : ∃ a t, ((List.take (y1_6_).toNat (((x1_1a :: x1_1t)).set (y1_6_).toNat ((y1_9_.1), (w64 ((y1_9_.2.1) + (1 : Int))), (y1_3_.2.2.2.2.1)))) ++ [(x1_4, (0 : Int), (y1_3_.2.2.1))]) = a :: t := snoc_cons (List.take (y1_6_).toNat (((x1_1a :: x1_1t)).set (y1_6_).toNat ((y1_9_.1), (w64 ((y1_9_.2.1) + (1 : Int))), (y1_3_.2.2.2.2.1)))) (x1_4, (0 : Int), (y1_3_.2.2.1))
          rw [hz]
          try rw [hz] at k0
          try rw [hz] at k3
          try rw [hz] at k4
          try rw [hz] at k13
          try rw [hz] at k15
          try rw [hz] at k16
          try rw [hz] at k26
          exact runC2 hm ⟨[0, 3, 8, 9, 10], [(0, 4, true)], 1, 0, [], false, [], [], []⟩ (k0 <|
           k3 <|
           k4 <|
           k13 <|
           k15 <|
           k16 <|
           k26 <|
           zz 106 (xdT hy1_20) <|
           yy 114 (.app ⟨none, rows rw_iii (List.take (y1_6_).toNat (((x1_1a :: x1_1t)).set (y1_6_).toNat ((y1_9_.1), (w64 ((y1_9_.2.1) + (1 : Int))), (y1_3_.2.2.2.2.1)))), (rows rw_iii (za :: zt)), ((za :: zt)).length, false⟩) <|
           ww (p := 0 < 1) ((by decide)) <|
           ww (p := rdT (layT (rows rw_iii (((x1_1a :: x1_1t)).set (y1_6_).toNat ((y1_9_.1), (w64 ((y1_9_.2.1) + (1 : Int))), (y1_3_.2.2.2.2.1))))) (Nat.mul (y1_6_).toNat 3) 0 = some (rows rw_iii (List.take (y1_6_).toNat (((x1_1a :: x1_1t)).set (y1_6_).toNat ((y1_9_.1), (w64 ((y1_9_.2.1) + (1 : Int))), (y1_3_.2.2.2.2.1)))))) (rows_rdTake rwf_iii _ _ hy1_21) <|
           ww (p := fits (Nat.add (y1_6_).toNat 1) 24 = true) (fits_ok hy1_22 (by have := hy1_22; show (_ : Nat) + _ ≤ _; omega)) <|
           ww (p := allCells [(i6 x1_4), (i6 (0 : Int)), (i6 (y1_3_.2.2.1))] = true) (rfl) <|
           ww (p := allCells (rows rw_iii (List.take (y1_6_).toNat (((x1_1a :: x1_1t)).set (y1_6_).toNat ((y1_9_.1), (w64 ((y1_9_.2.1) + (1 : Int))), (y1_3_.2.2.2.2.1))))) = true) (rows_cells rwf_iii _) <|
           ww (p := rows rw_iii (List.take (y1_6_).toNat (((x1_1a :: x1_1t)).set (y1_6_).toNat ((y1_9_.1), (w64 ((y1_9_.2.1) + (1 : Int))), (y1_3_.2.2.2.2.1)))) ++ [(i6 x1_4), (i6 (0 : Int)), (i6 (y1_3_.2.2.1))] = (rows rw_iii (za :: zt))) (by rw [← hz]; exact (rows_app rw_iii (List.take (y1_6_).toNat (((x1_1a :: x1_1t)).set (y1_6_).toNat ((y1_9_.1), (w64 ((y1_9_.2.1) + (1 : Int))), (y1_3_.2.2.2.2.1)))) [(x1_4, (0 : Int), (y1_3_.2.2.1))])) <|
           ww (p := Nat.add (y1_6_).toNat 1 = ((za :: zt)).length) (by rw [← hz]; exact (take_len hy1_21 rfl)) <|
           ww (rows_flat rwf_iii (za :: zt) 64) <|
           ee) (by kernel_rfl)
         ·rw [if_neg hy1_20] at h
          obtain rfl := oI h
          obtain ⟨za, zt, hz⟩ : ∃ a t, (((x1_1a :: x1_1t)).set (y1_6_).toNat ((y1_9_.1), (w64 ((y1_9_.2.1) + (1 : Int))), (y1_3_.2.2.2.2.1))) = a :: t := set_cons
          rw [hz]
          try rw [hz] at k0
          try rw [hz] at k3
          try rw [hz] at k4
          try rw [hz] at k13
          try rw [hz] at k15
          try rw [hz] at k16
          try rw [hz] at k26
          exact runC2 hm ⟨[0, 3, 8, 9, 10], [(0, 0, true)], 1, 0, [], false, [], [], []⟩ (k0 <|
           k3 <|
           k4 <|
           k13 <|
           k15 <|
           k16 <|
           k26 <|
           zz 106 (xdF hy1_20) <|
           ww (rows_flat rwf_iii (za :: zt) 64) <|
           ee) (by kernel_rfl)
        ·rw [if_neg hy1_18] at h
         have k26 := fun {A L l} (k : PL A L l) => zz 94 (xeF hy1_18) <|
          k
         by_cases hy1_19 : ((((y1_3_.2.2.2.2.2.2.1)).l.length : Nat) : Int) > (0 : Int)
         ·rw [if_pos hy1_19] at h
          obtain ⟨hy1_20, h⟩ := gd h
          obtain ⟨hy1_21, h⟩ := gd h
          obtain rfl := oI h
          obtain ⟨za, zt, hz⟩ : ∃ a t, ((List.take x1_2 (((x1_1a :: x1_1t)).set (y1_6_).toNat ((y1_9_.1), (w64 ((y1_9_.2.1) + (1 : Int))), (y1_3_.2.2.2.2.1)))) ++ [(x1_4, (0 : Int), (y1_3_.2.2.1))]) = a :: t := snoc_cons (List.take x1_2 (((x1_1a :: x1_1t)).set (y1_6_).toNat ((y1_9_.1), (w64 ((y1_9_.2.1) + (1 : Int))), (y1_3_.2.2.2.2.1)))) (x1_4, (0 : Int), (y1_3_.2.2.1))
          rw [hz]
          try rw [hz] at k0
          try rw [hz] at k3
          try rw [hz] at k4
          try rw [hz] at k13
          try rw [hz] at k15
          try rw [hz] at k16
          try rw [hz] at k26
          exact runC2 hm ⟨[0, 3, 8, 9, 10], [(0, 4, true)], 1, 0, [], false, [], [], []⟩ (k0 <|
           k3 <|
           k4 <|
           k13 <|
           k15 <|
           k16 <|
           k26 <|
           zz 100 (xdT hy1_19) <|
           yy 108 (.app ⟨none, rows rw_iii (List.take x1_2 (((x1_1a :: x1_1t)).set (y1_6_).toNat ((y1_9_.1), (w64 ((y1_9_.2.1) + (1 : Int))), (y1_3_.2.2.2.2.1)))), (rows rw_iii (za :: zt)), ((za :: zt)).length, false⟩) <|
           ww (p := 0 < 1) ((by decide)) <|
           ww (p := rdT (layT (rows rw_iii (((x1_1a :: x1_1t)).set (y1_6_).toNat ((y1_9_.1), (w64 ((y1_9_.2.1) + (1 : Int))), (y1_3_.2.2.2.2.1))))) (Nat.mul x1_2 3) 0 = some (rows rw_iii (List.take x1_2 (((x1_1a :: x1_1t)).set (y1_6_).toNat ((y1_9_.1), (w64 ((y1_9_.2.1) + (1 : Int))), (y1_3_.2.2.2.2.1)))))) (rows_rdTake rwf_iii _ _ hy1_20) <|
           ww (p := fits (Nat.add x1_2 1) 24 = true) (fits_ok hy1_21 (by have := hy1_21; show (_ : Nat) + _ ≤ _; omega)) <|
           ww (p := allCells [(i6 x1_4), (i6 (0 : Int)), (i6 (y1_3_.2.2.1))] = true) (rfl) <|
           ww (p := allCells (rows rw_iii (List.take x1_2 (((x1_1a :: x1_1t)).set (y1_6_).toNat ((y1_9_.1), (w64 ((y1_9_.2.1) + (1 : Int))), (y1_3_.2.2.2.2.1))))) = true) (rows_cells rwf_iii _) <|
           ww (p := rows rw_iii (List.take x1_2 (((x1_1a :: x1_1t)).set (y1_6_).toNat ((y1_9_.1), (w64 ((y1_9_.2.1) + (1 : Int))), (y1_3_.2.2.2.2.1)))) ++ [(i6 x1_4), (i6 (0 : Int)), (i6 (y1_3_.2.2.1))] = (rows rw_iii (za :: zt))) (by rw [← hz]; exact (rows_app rw_iii (List.take x1_2 (((x1_1a :: x1_1t)).set (y1_6_).toNat ((y1_9_.1), (w64 ((y1_9_.2.1) + (1 : Int))), (y1_3_.2.2.2.2.1)))) [(x1_4, (0 : Int), (y1_3_.2.2.1))])) <|
           ww (p := Nat.add x1_2 1 = ((za :: zt)).length) (by rw [← hz]; exact (take_len hy1_20 rfl)) <|
           ww (rows_flat rwf_iii (za :: zt) 64) <|
           ee) (by kernel_rfl)
         ·rw [if_neg hy1_19] at h
          obtain rfl := oI h
          obtain ⟨za, zt, hz⟩ : ∃ a t, (((x1_1a :: x1_1t)).set (y1_6_).toNat ((y1_9_.1), (w64 ((y1_9_.2.1) + (1 : Int))), (y1_3_.2.2.2.2.1))) = a :: t := set_cons
          rw [hz]
          try rw [hz] at k0
          try rw [hz] at k3
          try rw [hz] at k4
          try rw [hz] at k13
          try rw [hz] at k15
          try rw [hz] at k16
          try rw [hz] at k26
          exact runC2 hm ⟨[0, 3, 8, 9, 10], [(0, 0, true)], 1, 0, [], false, [], [], []⟩ (k0 <|
           k3 <|
           k4 <|
           k13 <|
           k15 <|
           k16 <|
           k26 <|
           zz 100 (xdF hy1_19) <|
           ww (rows_flat rwf_iii (za :: zt) 64) <|
           ee) (by kernel_rfl)
     ·rw [if_neg hy1_15] at h
      obtain rfl := oI h
      exact runC2 hm ⟨[2], [], 0, 0, [], false, [], [], []⟩ (k0 <|
       k3 <|
       k4 <|
       zz 52 (xnT hy1_15) <|
       ee) (by kernel_rfl)
   ·rw [if_neg hy1_4] at h
    have k3 := fun {A L l} (k : PL A L l) => zz 16 (xdF hy1_4) <|
     k
    by_cases hy1_5 : ((((y1_3_.2.2.2.2.2.2.1)).l.length : Nat) : Int) > (0 : Int)
    ·rw [if_pos hy1_5] at h
     obtain ⟨hy1_6, h⟩ := gd h
     obtain ⟨hy1_7, h⟩ := gd h
     obtain rfl := oI h
     obtain ⟨za, zt, hz⟩ : ∃ a t, ((List.take x1_2 (x1_1a :: x1_1t)) ++ [(x1_4, (0 : Int), (y1_3_.2.2.1))]) = a :: t := snoc_cons (List.take x1_2 (x1_1a :: x1_1t)) (x1_4, (0 : Int), (y1_3_.2.2.1))
     rw [hz]
     try rw [hz] at k0
     try rw [hz] at k3
     exact runC2 hm ⟨[0, 3, 8, 9, 10], [(0, 3, true)], 1, 0, [], false, [], [], []⟩ (k0 <|
      k3 <|
      zz 22 (xdT hy1_5) <|
      yy 30 (.app ⟨none, rows rw_iii (List.take x1_2 (x1_1a :: x1_1t)), (rows rw_iii (za :: zt)), ((za :: zt)).length, false⟩) <|
      ww (p := 0 < 1) ((by decide)) <|
      ww (p := rdT (layT (rows rw_iii (x1_1a :: x1_1t))) (Nat.mul x1_2 3) 0 = some (rows rw_iii (List.take x1_2 (x1_1a :: x1_1t)))) (rows_rdTake rwf_iii _ _ hy1_6) <|
      ww (p := fits (Nat.add x1_2 1) 24 = true) (fits_ok hy1_7 (by have := hy1_7; show (_ : Nat) + _ ≤ _; omega)) <|
      ww (p := allCells [(i6 x1_4), (i6 (0 : Int)), (i6 (y1_3_.2.2.1))] = true) (rfl) <|
      ww (p := allCells (rows rw_iii (List.take x1_2 (x1_1a :: x1_1t))) = true) (rows_cells rwf_iii _) <|
      ww (p := rows rw_iii (List.take x1_2 (x1_1a :: x1_1t)) ++ [(i6 x1_4), (i6 (0 : Int)), (i6 (y1_3_.2.2.1))] = (rows rw_iii (za :: zt))) (by rw [← hz]; exact (rows_app rw_iii (List.take x1_2 (x1_1a :: x1_1t)) [(x1_4, (0 : Int), (y1_3_.2.2.1))])) <|
      ww (p := Nat.add x1_2 1 = ((za :: zt)).length) (by rw [← hz]; exact (take_len hy1_6 rfl)) <|
      ww (rows_flat rwf_iii (za :: zt) 64) <|
      ee) (by kernel_rfl)
    ·rw [if_neg hy1_5] at h
     obtain rfl := oI h
     exact runC2 hm ⟨[0, 3, 8, 9, 10], [(0, 0, true)], 1, 0, [], false, [], [], []⟩ (k0 <|
      k3 <|
      zz 22 (xdF hy1_5) <|
      ww (rows_flat rwf_iii (x1_1a :: x1_1t) 64) <|
      ee) (by kernel_rfl)
  ·rw [if_neg hy1_1] at h
   obtain rfl := oI h
   exact runC2 hm ⟨[3], [(0, 0, true)], 1, 0, [], false, [], [], []⟩ (zz 1 (xdF hy1_1) <|
    ww (rows_flat rwf_iii (x1_1a :: x1_1t) 64) <|
    ee) (by kernel_rfl)
theorem m_treeinOrderq1_1_ok (n : Nat) {rnd : Option Nat} (x1_0 : WL rw_iiiiiiLu) (x1_3 : Int) (st : List (Int × Int × Int) × Nat × Int) (r : (Unit) ⊕ (List (Int × Int × Int) × Nat)) (h : m_treeinOrderq1_1 n x1_0 x1_3 st = some r) : CG P rnd (fnN P 32) 0 (codeOf P 32 [false, true, false, true, true]) (S_treeinOrderq1_1 x1_0 x1_3 st) (X_treeinOrderq1_1 x1_0 x1_3 r) :=
 CG.iter (b := codeOf P 32 [false, false, true, false, true, true]) (by kernel_rfl) (body := B_treeinOrderq1_1 n x1_0 x1_3) (S := S_treeinOrderq1_1 x1_0 x1_3) (X := X_treeinOrderq1_1 x1_0 x1_3)
  (fun s s' h => b_treeinOrderq1_1 n x1_0 x1_3 s (.inl s') h)
  (fun s r h => b_treeinOrderq1_1 n x1_0 x1_3 s (.inr r) h)
  (fun r => by intro hx; rcases r with _ | _ <;> cases hx) h
def m_treeinOrderq1 (n : Nat) (a0 : WL rw_iiiiiiLu) : Option (Bool) :=
 match m_treeinOrderq1_1 n a0 (((a0).l.length : Nat) : Int) (([] : List (Int × Int × Int)), 0, 0) with
 | none => none
 | some (.inl _) =>
  some false
 | some (.inr (c1_0, c1_1)) =>
  match c1_0 with
  | [] =>
   some true
  | c1_0a :: c1_0t =>
   if ((c1_1 : Nat) : Int) = (0 : Int) then
    some true
   else
    some false
theorem m_treeinOrderq1_ok (n : Nat) (a0 : WL rw_iiiiiiLu) (r : Bool) (h : m_treeinOrderq1 n a0 = some r) : Gv P (.func 32) (A_treeinOrderq1 a0) (H_treeinOrderq1 a0) (V_treeinOrderq1 a0 r) (R_treeinOrderq1 a0 r) := by
 unfold m_treeinOrderq1 at h
 rcases hc1 : m_treeinOrderq1_1 n a0 (((a0).l.length : Nat) : Int) (([] : List (Int × Int × Int)), 0, 0) with _ | (⟨⟩ | ⟨c1_0, c1_1⟩)
 ·rw [hc1] at h; cases h
 ·rw [hc1] at h
  dsimp only at h
  obtain rfl := oI h
  exact runF2 hm ⟨[2], [], 0, 0, [], false, [], [], []⟩ (ww (p := U_treeinOrderq1_1 none a0 (((a0).l.length : Nat) : Int) (([] : List (Int × Int × Int)), 0, 0) (.inl ())) (m_treeinOrderq1_1_ok n a0 (((a0).l.length : Nat) : Int) (([] : List (Int × Int × Int)), 0, 0) (.inl ()) hc1) <|
   ll 10 ⟨⟨[0, 3, 8, 9, 10], [], 1, 0, [], false, [], [], []⟩, (X_treeinOrderq1_1 a0 (((a0).l.length : Nat) : Int) (.inl ())).1, (X_treeinOrderq1_1 a0 (((a0).l.length : Nat) : Int) (.inl ())).2⟩ <|
   ee) (by kernel_rfl)
 ·rw [hc1] at h
  dsimp only at h
  cases c1_0 with
  | nil =>
   dsimp only at h
   obtain rfl := oI h
   exact runF2 hm ⟨[2], [], 0, 0, [], false, [], [], []⟩ (ww (p := U_treeinOrderq1_1 none a0 (((a0).l.length : Nat) : Int) (([] : List (Int × Int × Int)), 0, 0) (.inr (([] : List (Int × Int × Int)), c1_1))) (m_treeinOrderq1_1_ok n a0 (((a0).l.length : Nat) : Int) (([] : List (Int × Int × Int)), 0, 0) (.inr (([] : List (Int × Int × Int)), c1_1)) hc1) <|
    ll 10 ⟨⟨[0, 3, 8, 9, 10], [], 1, 0, [], false, [], [], []⟩, (X_treeinOrderq1_1 a0 (((a0).l.length : Nat) : Int) (.inr (([] : List (Int × Int × Int)), c1_1))).1, (X_treeinOrderq1_1 a0 (((a0).l.length : Nat) : Int) (.inr (([] : List (Int × Int × Int)), c1_1))).2⟩ <|
    ee) (by kernel_rfl)
  | cons c1_0a c1_0t =>
   dsimp only at h
   have k0 := fun {A L l} (k : PL A L l) => ww (p := U_treeinOrderq1_1 none a0 (((a0).l.length : Nat) : Int) (([] : List (Int × Int × Int)), 0, 0) (.inr ((c1_0a :: c1_0t), c1_1))) (m_treeinOrderq1_1_ok n a0 (((a0).l.length : Nat) : Int) (([] : List (Int × Int × Int)), 0, 0) (.inr ((c1_0a :: c1_0t), c1_1)) hc1) <|
    ll 10 ⟨⟨[0, 3, 8, 9, 10], [], 1, 0, [], false, [], [], []⟩, (X_treeinOrderq1_1 a0 (((a0).l.length : Nat) : Int) (.inr ((c1_0a :: c1_0t), c1_1))).1, (X_treeinOrderq1_1 a0 (((a0).l.length : Nat) : Int) (.inr ((c1_0a :: c1_0t), c1_1))).2⟩ <|
    k
   by_cases hc2 : ((c1_1 : Nat) : Int) = (0 : Int)
   ·rw [if_pos hc2] at h
    obtain rfl := oI h
    exact runF2 hm ⟨[2], [], 0, 0, [], false, [], [], []⟩ (k0 <|
     zz 14 (xeT hc2) <|
     ee) (by kernel_rfl)
   ·rw [if_neg hc2] at h
    obtain rfl := oI h
    exact runF2 hm ⟨[2], [], 0, 0, [], false, [], [], []⟩ (k0 <|
     zz 14 (xeF hc2) <|
     ee) (by kernel_rfl)

def A_treesoundq1 (a0 : Int) (a1 : Int) (a2 : Int) (a3 : Int) (a4 : Int) (a5 : Int) (a6 : NL) (a7 : Int) : List Value := [(Value.agg #[(i6 a0), (i6 a1), (i6 a2), (i6 a3), (i6 a4), (i6 a5), (nlV a6), (Value.int .u64 a7)])]
def H_treesoundq1 (a0 : Int) (a1 : Int) (a2 : Int) (a3 : Int) (a4 : Int) (a5 : Int) (a6 : NL) (a7 : Int) : AH := ⟨sB [], 0, 0⟩
def V_treesoundq1 (a0 : Int) (a1 : Int) (a2 : Int) (a3 : Int) (a4 : Int) (a5 : Int) (a6 : NL) (a7 : Int) (r : Bool) : Value := match r with
 | o0 => (bO o0)
def R_treesoundq1 (a0 : Int) (a1 : Int) (a2 : Int) (a3 : Int) (a4 : Int) (a5 : Int) (a6 : NL) (a7 : Int) (r : Bool) : AH := match r with
 | o0 => ⟨sB [], 0, 0⟩
abbrev G_treesoundq1 (a0 : Int) (a1 : Int) (a2 : Int) (a3 : Int) (a4 : Int) (a5 : Int) (a6 : NL) (a7 : Int) (r : Bool) : Prop := Gv P (.func 33) (A_treesoundq1 a0 a1 a2 a3 a4 a5 a6 a7) (H_treesoundq1 a0 a1 a2 a3 a4 a5 a6 a7) (V_treesoundq1 a0 a1 a2 a3 a4 a5 a6 a7 r) (R_treesoundq1 a0 a1 a2 a3 a4 a5 a6 a7 r)
abbrev C_treesoundq1 (a0 : Int) (a1 : Int) (a2 : Int) (a3 : Int) (a4 : Int) (a5 : Int) (a6 : NL) (a7 : Int) (r : Bool) (ins outs : BL) : CallA := ⟨0, ins, V_treesoundq1 a0 a1 a2 a3 a4 a5 a6 a7 r, R_treesoundq1 a0 a1 a2 a3 a4 a5 a6 a7 r, outs⟩
def m_treesoundq1 (n : Nat) (a0 : Int) (a1 : Int) (a2 : Int) (a3 : Int) (a4 : Int) (a5 : Int) (a6 : NL) (a7 : Int) : Option (Bool) :=
 if a2 < (0 : Int) then
  some false
 else
  if a2 > a4 then
   some false
  else
   if a5 ≤ a2 then
    some false
   else
    if a1 = (1 : Int) then
     if a3 = a2 then
      some true
     else
      some false
    else
     if a1 = (2 : Int) then
      if a3 = a2 then
       some true
      else
       some false
     else
      if a1 = (4 : Int) then
       if a3 = a2 then
        if a4 = a2 then
         if (((a6).l.length : Nat) : Int) = (0 : Int) then
          some true
         else
          some false
        else
         some false
       else
        some false
      else
       if a1 = (3 : Int) then
        if a3 ≥ a2 then
         if a3 ≤ a4 then
          if (((a6).l.length : Nat) : Int) = (0 : Int) then
           some true
          else
           some false
         else
          some false
        else
         some false
       else
        if a1 = (5 : Int) then
         if a3 ≥ a2 then
          if a3 ≤ a4 then
           if (((a6).l.length : Nat) : Int) = (0 : Int) then
            some true
           else
            some false
          else
           some false
         else
          some false
        else
         if a1 = (6 : Int) then
          if a3 ≥ a2 then
           if a3 ≤ a4 then
            if (((a6).l.length : Nat) : Int) = (0 : Int) then
             some true
            else
             some false
           else
            some false
          else
           some false
         else
          some false
theorem m_treesoundq1_ok (n : Nat) (a0 : Int) (a1 : Int) (a2 : Int) (a3 : Int) (a4 : Int) (a5 : Int) (a6 : NL) (a7 : Int) (r : Bool) (h : m_treesoundq1 n a0 a1 a2 a3 a4 a5 a6 a7 = some r) : Gv P (.func 33) (A_treesoundq1 a0 a1 a2 a3 a4 a5 a6 a7) (H_treesoundq1 a0 a1 a2 a3 a4 a5 a6 a7) (V_treesoundq1 a0 a1 a2 a3 a4 a5 a6 a7 r) (R_treesoundq1 a0 a1 a2 a3 a4 a5 a6 a7 r) := by
 unfold m_treesoundq1 at h
 by_cases hc1 : a2 < (0 : Int)
 ·rw [if_pos hc1] at h
  obtain rfl := oI h
  exact runF2 hm ⟨[2], [], 0, 0, [], false, [], [], []⟩ (zz 7 (xdT hc1) <|
   ee) (by kernel_rfl)
 ·rw [if_neg hc1] at h
  have k0 := fun {A L l} (k : PL A L l) => zz 7 (xdF hc1) <|
   k
  by_cases hc2 : a2 > a4
  ·rw [if_pos hc2] at h
   obtain rfl := oI h
   exact runF2 hm ⟨[2], [], 0, 0, [], false, [], [], []⟩ (k0 <|
    zz 13 (xdT hc2) <|
    ee) (by kernel_rfl)
  ·rw [if_neg hc2] at h
   have k1 := fun {A L l} (k : PL A L l) => zz 13 (xdF hc2) <|
    k
   by_cases hc3 : a5 ≤ a2
   ·rw [if_pos hc3] at h
    obtain rfl := oI h
    exact runF2 hm ⟨[2], [], 0, 0, [], false, [], [], []⟩ (k0 <|
     k1 <|
     zz 20 (xdT hc3) <|
     ee) (by kernel_rfl)
   ·rw [if_neg hc3] at h
    have k2 := fun {A L l} (k : PL A L l) => zz 20 (xdF hc3) <|
     k
    by_cases hc4 : a1 = (1 : Int)
    ·rw [if_pos hc4] at h
     have k3 := fun {A L l} (k : PL A L l) => zz 30 (xeT hc4) <|
      k
     by_cases hc5 : a3 = a2
     ·rw [if_pos hc5] at h
      obtain rfl := oI h
      exact runF2 hm ⟨[2], [], 0, 0, [], false, [], [], []⟩ (k0 <|
       k1 <|
       k2 <|
       k3 <|
       zz 39 (xeT hc5) <|
       ee) (by kernel_rfl)
     ·rw [if_neg hc5] at h
      obtain rfl := oI h
      exact runF2 hm ⟨[2], [], 0, 0, [], false, [], [], []⟩ (k0 <|
       k1 <|
       k2 <|
       k3 <|
       zz 39 (xeF hc5) <|
       ee) (by kernel_rfl)
    ·rw [if_neg hc4] at h
     have k3 := fun {A L l} (k : PL A L l) => zz 30 (xeF hc4) <|
      k
     by_cases hc5 : a1 = (2 : Int)
     ·rw [if_pos hc5] at h
      have k4 := fun {A L l} (k : PL A L l) => zz 33 (xeT hc5) <|
       k
      by_cases hc6 : a3 = a2
      ·rw [if_pos hc6] at h
       obtain rfl := oI h
       exact runF2 hm ⟨[2], [], 0, 0, [], false, [], [], []⟩ (k0 <|
        k1 <|
        k2 <|
        k3 <|
        k4 <|
        zz 41 (xeT hc6) <|
        ee) (by kernel_rfl)
      ·rw [if_neg hc6] at h
       obtain rfl := oI h
       exact runF2 hm ⟨[2], [], 0, 0, [], false, [], [], []⟩ (k0 <|
        k1 <|
        k2 <|
        k3 <|
        k4 <|
        zz 41 (xeF hc6) <|
        ee) (by kernel_rfl)
     ·rw [if_neg hc5] at h
      have k4 := fun {A L l} (k : PL A L l) => zz 33 (xeF hc5) <|
       k
      by_cases hc6 : a1 = (4 : Int)
      ·rw [if_pos hc6] at h
       have k5 := fun {A L l} (k : PL A L l) => zz 37 (xeT hc6) <|
        k
       by_cases hc7 : a3 = a2
       ·rw [if_pos hc7] at h
        have k6 := fun {A L l} (k : PL A L l) => zz 45 (xeT hc7) <|
         k
        by_cases hc8 : a4 = a2
        ·rw [if_pos hc8] at h
         have k7 := fun {A L l} (k : PL A L l) => zz 51 (xeT hc8) <|
          k
         by_cases hc9 : (((a6).l.length : Nat) : Int) = (0 : Int)
         ·rw [if_pos hc9] at h
          obtain rfl := oI h
          exact runF2 hm ⟨[2], [], 0, 0, [], false, [], [], []⟩ (k0 <|
           k1 <|
           k2 <|
           k3 <|
           k4 <|
           k5 <|
           k6 <|
           k7 <|
           zz 57 (xeT hc9) <|
           ee) (by kernel_rfl)
         ·rw [if_neg hc9] at h
          obtain rfl := oI h
          exact runF2 hm ⟨[2], [], 0, 0, [], false, [], [], []⟩ (k0 <|
           k1 <|
           k2 <|
           k3 <|
           k4 <|
           k5 <|
           k6 <|
           k7 <|
           zz 57 (xeF hc9) <|
           ee) (by kernel_rfl)
        ·rw [if_neg hc8] at h
         obtain rfl := oI h
         exact runF2 hm ⟨[2], [], 0, 0, [], false, [], [], []⟩ (k0 <|
          k1 <|
          k2 <|
          k3 <|
          k4 <|
          k5 <|
          k6 <|
          zz 51 (xeF hc8) <|
          ee) (by kernel_rfl)
       ·rw [if_neg hc7] at h
        obtain rfl := oI h
        exact runF2 hm ⟨[2], [], 0, 0, [], false, [], [], []⟩ (k0 <|
         k1 <|
         k2 <|
         k3 <|
         k4 <|
         k5 <|
         zz 45 (xeF hc7) <|
         ee) (by kernel_rfl)
      ·rw [if_neg hc6] at h
       have k5 := fun {A L l} (k : PL A L l) => zz 37 (xeF hc6) <|
        k
       by_cases hc7 : a1 = (3 : Int)
       ·rw [if_pos hc7] at h
        have k6 := fun {A L l} (k : PL A L l) => zz 42 (xeT hc7) <|
         k
        by_cases hc8 : a3 ≥ a2
        ·rw [if_pos hc8] at h
         have k7 := fun {A L l} (k : PL A L l) => zz 51 (xdT hc8) <|
          k
         by_cases hc9 : a3 ≤ a4
         ·rw [if_pos hc9] at h
          have k8 := fun {A L l} (k : PL A L l) => zz 57 (xdT hc9) <|
           k
          by_cases hc10 : (((a6).l.length : Nat) : Int) = (0 : Int)
          ·rw [if_pos hc10] at h
           obtain rfl := oI h
           exact runF2 hm ⟨[2], [], 0, 0, [], false, [], [], []⟩ (k0 <|
            k1 <|
            k2 <|
            k3 <|
            k4 <|
            k5 <|
            k6 <|
            k7 <|
            k8 <|
            zz 63 (xeT hc10) <|
            ee) (by kernel_rfl)
          ·rw [if_neg hc10] at h
           obtain rfl := oI h
           exact runF2 hm ⟨[2], [], 0, 0, [], false, [], [], []⟩ (k0 <|
            k1 <|
            k2 <|
            k3 <|
            k4 <|
            k5 <|
            k6 <|
            k7 <|
            k8 <|
            zz 63 (xeF hc10) <|
            ee) (by kernel_rfl)
         ·rw [if_neg hc9] at h
          obtain rfl := oI h
          exact runF2 hm ⟨[2], [], 0, 0, [], false, [], [], []⟩ (k0 <|
           k1 <|
           k2 <|
           k3 <|
           k4 <|
           k5 <|
           k6 <|
           k7 <|
           zz 57 (xdF hc9) <|
           ee) (by kernel_rfl)
        ·rw [if_neg hc8] at h
         obtain rfl := oI h
         exact runF2 hm ⟨[2], [], 0, 0, [], false, [], [], []⟩ (k0 <|
          k1 <|
          k2 <|
          k3 <|
          k4 <|
          k5 <|
          k6 <|
          zz 51 (xdF hc8) <|
          ee) (by kernel_rfl)
       ·rw [if_neg hc7] at h
        have k6 := fun {A L l} (k : PL A L l) => zz 42 (xeF hc7) <|
         k
        by_cases hc8 : a1 = (5 : Int)
        ·rw [if_pos hc8] at h
         have k7 := fun {A L l} (k : PL A L l) => zz 46 (xeT hc8) <|
          k
         by_cases hc9 : a3 ≥ a2
         ·rw [if_pos hc9] at h
          have k8 := fun {A L l} (k : PL A L l) => zz 55 (xdT hc9) <|
           k
          by_cases hc10 : a3 ≤ a4
          ·rw [if_pos hc10] at h
           have k9 := fun {A L l} (k : PL A L l) => zz 61 (xdT hc10) <|
            k
           by_cases hc11 : (((a6).l.length : Nat) : Int) = (0 : Int)
           ·rw [if_pos hc11] at h
            obtain rfl := oI h
            exact runF2 hm ⟨[2], [], 0, 0, [], false, [], [], []⟩ (k0 <|
             k1 <|
             k2 <|
             k3 <|
             k4 <|
             k5 <|
             k6 <|
             k7 <|
             k8 <|
             k9 <|
             zz 67 (xeT hc11) <|
             ee) (by kernel_rfl)
           ·rw [if_neg hc11] at h
            obtain rfl := oI h
            exact runF2 hm ⟨[2], [], 0, 0, [], false, [], [], []⟩ (k0 <|
             k1 <|
             k2 <|
             k3 <|
             k4 <|
             k5 <|
             k6 <|
             k7 <|
             k8 <|
             k9 <|
             zz 67 (xeF hc11) <|
             ee) (by kernel_rfl)
          ·rw [if_neg hc10] at h
           obtain rfl := oI h
           exact runF2 hm ⟨[2], [], 0, 0, [], false, [], [], []⟩ (k0 <|
            k1 <|
            k2 <|
            k3 <|
            k4 <|
            k5 <|
            k6 <|
            k7 <|
            k8 <|
            zz 61 (xdF hc10) <|
            ee) (by kernel_rfl)
         ·rw [if_neg hc9] at h
          obtain rfl := oI h
          exact runF2 hm ⟨[2], [], 0, 0, [], false, [], [], []⟩ (k0 <|
           k1 <|
           k2 <|
           k3 <|
           k4 <|
           k5 <|
           k6 <|
           k7 <|
           zz 55 (xdF hc9) <|
           ee) (by kernel_rfl)
        ·rw [if_neg hc8] at h
         have k7 := fun {A L l} (k : PL A L l) => zz 46 (xeF hc8) <|
          k
         by_cases hc9 : a1 = (6 : Int)
         ·rw [if_pos hc9] at h
          have k8 := fun {A L l} (k : PL A L l) => zz 49 (xeT hc9) <|
           k
          by_cases hc10 : a3 ≥ a2
          ·rw [if_pos hc10] at h
           have k9 := fun {A L l} (k : PL A L l) => zz 57 (xdT hc10) <|
            k
           by_cases hc11 : a3 ≤ a4
           ·rw [if_pos hc11] at h
            have k10 := fun {A L l} (k : PL A L l) => zz 63 (xdT hc11) <|
             k
            by_cases hc12 : (((a6).l.length : Nat) : Int) = (0 : Int)
            ·rw [if_pos hc12] at h
             obtain rfl := oI h
             exact runF2 hm ⟨[2], [], 0, 0, [], false, [], [], []⟩ (k0 <|
              k1 <|
              k2 <|
              k3 <|
              k4 <|
              k5 <|
              k6 <|
              k7 <|
              k8 <|
              k9 <|
              k10 <|
              zz 69 (xeT hc12) <|
              ee) (by kernel_rfl)
            ·rw [if_neg hc12] at h
             obtain rfl := oI h
             exact runF2 hm ⟨[2], [], 0, 0, [], false, [], [], []⟩ (k0 <|
              k1 <|
              k2 <|
              k3 <|
              k4 <|
              k5 <|
              k6 <|
              k7 <|
              k8 <|
              k9 <|
              k10 <|
              zz 69 (xeF hc12) <|
              ee) (by kernel_rfl)
           ·rw [if_neg hc11] at h
            obtain rfl := oI h
            exact runF2 hm ⟨[2], [], 0, 0, [], false, [], [], []⟩ (k0 <|
             k1 <|
             k2 <|
             k3 <|
             k4 <|
             k5 <|
             k6 <|
             k7 <|
             k8 <|
             k9 <|
             zz 63 (xdF hc11) <|
             ee) (by kernel_rfl)
          ·rw [if_neg hc10] at h
           obtain rfl := oI h
           exact runF2 hm ⟨[2], [], 0, 0, [], false, [], [], []⟩ (k0 <|
            k1 <|
            k2 <|
            k3 <|
            k4 <|
            k5 <|
            k6 <|
            k7 <|
            k8 <|
            zz 57 (xdF hc10) <|
            ee) (by kernel_rfl)
         ·rw [if_neg hc9] at h
          obtain rfl := oI h
          exact runF2 hm ⟨[2], [], 0, 0, [], false, [], [], []⟩ (k0 <|
           k1 <|
           k2 <|
           k3 <|
           k4 <|
           k5 <|
           k6 <|
           k7 <|
           zz 49 (xeF hc9) <|
           ee) (by kernel_rfl)

def A_treeCheckq1 (a0 : WL rw_iiiiiiLu) : List Value := [(wlV a0)]
def H_treeCheckq1 (a0 : WL rw_iiiiiiLu) : AH := ⟨sB [], 0, 0⟩
def V_treeCheckq1 (a0 : WL rw_iiiiiiLu) (r : Int) : Value := match r with
 | o0 => (i6 o0)
def R_treeCheckq1 (a0 : WL rw_iiiiiiLu) (r : Int) : AH := match r with
 | o0 => ⟨sB [], 0, 0⟩
abbrev G_treeCheckq1 (a0 : WL rw_iiiiiiLu) (r : Int) : Prop := Gv P (.func 28) (A_treeCheckq1 a0) (H_treeCheckq1 a0) (V_treeCheckq1 a0 r) (R_treeCheckq1 a0 r)
abbrev C_treeCheckq1 (a0 : WL rw_iiiiiiLu) (r : Int) (ins outs : BL) : CallA := ⟨0, ins, V_treeCheckq1 a0 r, R_treeCheckq1 a0 r, outs⟩
def S_treeCheckq1_1 (x1_0 : WL rw_iiiiiiLu) (x1_1 : Int) (st : Int) : XSt := match st with
 | x1_2 => (sT 36 [(16, (wlV x1_0)), (17, (i6 x1_1)), (18, (i6 x1_2))], [], ⟨sB [], 0, 0⟩)
def X_treeCheckq1_1 (x1_0 : WL rw_iiiiiiLu) (x1_1 : Int) (r : (Unit) ⊕ (Unit)) : Ex × XSt := match r with
 | .inl _ => (.ret, (sT 36 [(2, (i6 (2 : Int)))], [], ⟨sB [], 0, 0⟩))
 | .inr _ => (.exit 0, (sT 36 [], [], ⟨sB [], 0, 0⟩))
abbrev Q_treeCheckq1_1 (rnd : Option Nat) (x1_0 : WL rw_iiiiiiLu) (x1_1 : Int) (st : Int) (c : Ex × XSt) : Prop := CG P rnd (fnN P 28) 0 (codeOf P 28 [false, false, true, false, true, true, true]) (S_treeCheckq1_1 x1_0 x1_1 st) c
abbrev U_treeCheckq1_1 (rd : Option Nat) (x1_0 : WL rw_iiiiiiLu) (x1_1 : Int) (st : Int) (r : (Unit) ⊕ (Unit)) : Prop := CG P rd (fnN P 28) 0 (codeOf P 28 [false, true, false, true, true, true]) (S_treeCheckq1_1 x1_0 x1_1 st) (X_treeCheckq1_1 x1_0 x1_1 r)
def B_treeCheckq1_1 (n : Nat) (x1_0 : WL rw_iiiiiiLu) (x1_1 : Int) (st : Int) : Option ((Int) ⊕ ((Unit) ⊕ (Unit))) := match st with
 | x1_2 =>
  if x1_2 < x1_1 then
   if 0 ≤ x1_2 ∧ x1_2 < (((x1_0).l.length : Nat) : Int) then
    ((some (((x1_0).l).getD (x1_2).toNat (0, 0, 0, 0, 0, 0, nl0, 0)))).bind fun y1_3_ =>
    (m_treesoundq1 n (y1_3_.1) (y1_3_.2.1) (y1_3_.2.2.1) (y1_3_.2.2.2.1) (y1_3_.2.2.2.2.1) (y1_3_.2.2.2.2.2.1) (y1_3_.2.2.2.2.2.2.1) (y1_3_.2.2.2.2.2.2.2)).bind fun y1_4_ =>
    if y1_4_ = true then
     if (y1_3_.2.1) = (1 : Int) then
      if x1_2 > (0 : Int) then
       some (.inr (.inl ()))
      else
       some (.inl (w64 (x1_2 + (1 : Int))))
     else
      some (.inl (w64 (x1_2 + (1 : Int))))
    else
     some (.inr (.inl ()))
   else none
  else
   some (.inr (.inr ()))
def m_treeCheckq1_1 (n : Nat) (x1_0 : WL rw_iiiiiiLu) (x1_1 : Int) (st : Int) : Option ((Unit) ⊕ (Unit)) := iterM (B_treeCheckq1_1 n x1_0 x1_1) n st
theorem b_treeCheckq1_1 (n : Nat) {rnd : Option Nat} (x1_0 : WL rw_iiiiiiLu) (x1_1 : Int) (x1_2 : Int) (o : (Int) ⊕ ((Unit) ⊕ (Unit))) (h : B_treeCheckq1_1 n x1_0 x1_1 x1_2 = some o) : CG P rnd (fnN P 28) 0 (codeOf P 28 [false, false, true, false, true, true, true]) (S_treeCheckq1_1 x1_0 x1_1 x1_2) (Sum.elim (fun s => (.normal, S_treeCheckq1_1 x1_0 x1_1 s)) (fun r => X_treeCheckq1_1 x1_0 x1_1 r) o) := by
 unfold B_treeCheckq1_1 at h
 dsimp only at h
 by_cases hy1_1 : x1_2 < x1_1
 ·rw [if_pos hy1_1] at h
  obtain ⟨hy1_2, h⟩ := gd h
  obtain ⟨y1_3_, hy1_3, h⟩ := oB h
  obtain ⟨y1_4_, hy1_4, h⟩ := oB h
  have k0 := fun {A L l} (k : PL A L l) => zz 1 (xdT hy1_1) <|
   zz 8 (xk4 (x1_0).num (x1_0).off (x1_0).cap hy1_2) <|
   zz 9 (lk5 hy1_3 (toNatLt hy1_2)) <|
   yy 15 (.call (C_treesoundq1 (y1_3_.1) (y1_3_.2.1) (y1_3_.2.2.1) (y1_3_.2.2.2.1) (y1_3_.2.2.2.2.1) (y1_3_.2.2.2.2.2.1) (y1_3_.2.2.2.2.2.2.1) (y1_3_.2.2.2.2.2.2.2) y1_4_ [] [])) <|
   ww (m_treesoundq1_ok n (y1_3_.1) (y1_3_.2.1) (y1_3_.2.2.1) (y1_3_.2.2.2.1) (y1_3_.2.2.2.2.1) (y1_3_.2.2.2.2.2.1) (y1_3_.2.2.2.2.2.2.1) (y1_3_.2.2.2.2.2.2.2) y1_4_ hy1_4) <|
   k
  by_cases hy1_5 : y1_4_ = true
  ·rw [if_pos hy1_5] at h
   have k5 := fun {A L l} (k : PL A L l) => yy 16 (vf) <|
    ww (p := (Value.bool (!y1_4_)) = (Value.bool false)) (vBn hy1_5) <|
    k
   by_cases hy1_6 : (y1_3_.2.1) = (1 : Int)
   ·rw [if_pos hy1_6] at h
    have k7 := fun {A L l} (k : PL A L l) => zz 20 (xeT hy1_6) <|
     k
    by_cases hy1_7 : x1_2 > (0 : Int)
    ·rw [if_pos hy1_7] at h
     obtain rfl := oI h
     exact runC2 hm ⟨[2], [], 0, 0, [], false, [], [], []⟩ (k0 <|
      k5 <|
      k7 <|
      zz 23 (xdT hy1_7) <|
      ee) (by kernel_rfl)
    ·rw [if_neg hy1_7] at h
     obtain rfl := oI h
     exact runC2 hm ⟨[16, 17, 18], [], 0, 0, [], false, [], [], []⟩ (k0 <|
      k5 <|
      k7 <|
      zz 23 (xdF hy1_7) <|
      ee) (by kernel_rfl)
   ·rw [if_neg hy1_6] at h
    obtain rfl := oI h
    exact runC2 hm ⟨[16, 17, 18], [], 0, 0, [], false, [], [], []⟩ (k0 <|
     k5 <|
     zz 20 (xeF hy1_6) <|
     ee) (by kernel_rfl)
  ·rw [if_neg hy1_5] at h
   obtain rfl := oI h
   exact runC2 hm ⟨[2], [], 0, 0, [], false, [], [], []⟩ (k0 <|
    yy 16 (vt) <|
    ww (p := (Value.bool (!y1_4_)) = (Value.bool true)) (vBn (Bool.eq_false_iff.2 hy1_5)) <|
    ee) (by kernel_rfl)
 ·rw [if_neg hy1_1] at h
  obtain rfl := oI h
  exact runC2 hm ⟨[], [], 0, 0, [], false, [], [], []⟩ (zz 1 (xdF hy1_1) <|
   ee) (by kernel_rfl)
theorem m_treeCheckq1_1_ok (n : Nat) {rnd : Option Nat} (x1_0 : WL rw_iiiiiiLu) (x1_1 : Int) (st : Int) (r : (Unit) ⊕ (Unit)) (h : m_treeCheckq1_1 n x1_0 x1_1 st = some r) : CG P rnd (fnN P 28) 0 (codeOf P 28 [false, true, false, true, true, true]) (S_treeCheckq1_1 x1_0 x1_1 st) (X_treeCheckq1_1 x1_0 x1_1 r) :=
 CG.iter (b := codeOf P 28 [false, false, true, false, true, true, true]) (by kernel_rfl) (body := B_treeCheckq1_1 n x1_0 x1_1) (S := S_treeCheckq1_1 x1_0 x1_1) (X := X_treeCheckq1_1 x1_0 x1_1)
  (fun s s' h => b_treeCheckq1_1 n x1_0 x1_1 s (.inl s') h)
  (fun s r h => b_treeCheckq1_1 n x1_0 x1_1 s (.inr r) h)
  (fun r => by intro hx; rcases r with _ | _ <;> cases hx) h
def m_treeCheckq1 (n : Nat) (a0 : WL rw_iiiiiiLu) : Option (Int) :=
 if (((a0).l.length : Nat) : Int) > (524288 : Int) then
  some 3
 else
  if (((a0).l.length : Nat) : Int) = (0 : Int) then
   some 2
  else
   (m_treeinOrderq1 n a0).bind fun c3_ =>
   if c3_ = true then
    match m_treeCheckq1_1 n a0 (((a0).l.length : Nat) : Int) 0 with
    | none => none
    | some (.inl _) =>
     some 2
    | some (.inr _) =>
     some 0
   else
    some 2
theorem m_treeCheckq1_ok (n : Nat) (a0 : WL rw_iiiiiiLu) (r : Int) (h : m_treeCheckq1 n a0 = some r) : Gv P (.func 28) (A_treeCheckq1 a0) (H_treeCheckq1 a0) (V_treeCheckq1 a0 r) (R_treeCheckq1 a0 r) := by
 unfold m_treeCheckq1 at h
 by_cases hc1 : (((a0).l.length : Nat) : Int) > (524288 : Int)
 ·rw [if_pos hc1] at h
  obtain rfl := oI h
  exact runF2 hm ⟨[2], [], 0, 0, [], false, [], [], []⟩ (zz 6 (xdT hc1) <|
   ee) (by kernel_rfl)
 ·rw [if_neg hc1] at h
  have k0 := fun {A L l} (k : PL A L l) => zz 6 (xdF hc1) <|
   k
  by_cases hc2 : (((a0).l.length : Nat) : Int) = (0 : Int)
  ·rw [if_pos hc2] at h
   obtain rfl := oI h
   exact runF2 hm ⟨[2], [], 0, 0, [], false, [], [], []⟩ (k0 <|
    zz 12 (xeT hc2) <|
    ee) (by kernel_rfl)
  ·rw [if_neg hc2] at h
   obtain ⟨c3_, hc3, h⟩ := oB h
   have k1 := fun {A L l} (k : PL A L l) => zz 12 (xeF hc2) <|
    yy 15 (.call (C_treeinOrderq1 a0 c3_ [] [])) <|
    ww (m_treeinOrderq1_ok n a0 c3_ hc3) <|
    k
   by_cases hc4 : c3_ = true
   ·rw [if_pos hc4] at h
    have k4 := fun {A L l} (k : PL A L l) => yy 16 (vf) <|
     ww (p := (Value.bool (!c3_)) = (Value.bool false)) (vBn hc4) <|
     k
    rcases hc5 : m_treeCheckq1_1 n a0 (((a0).l.length : Nat) : Int) 0 with _ | (⟨⟩ | ⟨⟩)
    ·rw [hc5] at h; cases h
    ·rw [hc5] at h
     dsimp only at h
     obtain rfl := oI h
     exact runF2 hm ⟨[2], [], 0, 0, [], false, [], [], []⟩ (k0 <|
      k1 <|
      k4 <|
      ww (p := U_treeCheckq1_1 none a0 (((a0).l.length : Nat) : Int) 0 (.inl ())) (m_treeCheckq1_1_ok n a0 (((a0).l.length : Nat) : Int) 0 (.inl ()) hc5) <|
      ll 25 ⟨⟨[16, 17, 18], [], 0, 0, [], false, [], [], []⟩, (X_treeCheckq1_1 a0 (((a0).l.length : Nat) : Int) (.inl ())).1, (X_treeCheckq1_1 a0 (((a0).l.length : Nat) : Int) (.inl ())).2⟩ <|
      ee) (by kernel_rfl)
    ·rw [hc5] at h
     dsimp only at h
     obtain rfl := oI h
     exact runF2 hm ⟨[2], [], 0, 0, [], false, [], [], []⟩ (k0 <|
      k1 <|
      k4 <|
      ww (p := U_treeCheckq1_1 none a0 (((a0).l.length : Nat) : Int) 0 (.inr ())) (m_treeCheckq1_1_ok n a0 (((a0).l.length : Nat) : Int) 0 (.inr ()) hc5) <|
      ll 25 ⟨⟨[16, 17, 18], [], 0, 0, [], false, [], [], []⟩, (X_treeCheckq1_1 a0 (((a0).l.length : Nat) : Int) (.inr ())).1, (X_treeCheckq1_1 a0 (((a0).l.length : Nat) : Int) (.inr ())).2⟩ <|
      ee) (by kernel_rfl)
   ·rw [if_neg hc4] at h
    obtain rfl := oI h
    exact runF2 hm ⟨[2], [], 0, 0, [], false, [], [], []⟩ (k0 <|
     k1 <|
     yy 16 (vt) <|
     ww (p := (Value.bool (!c3_)) = (Value.bool true)) (vBn (Bool.eq_false_iff.2 hc4)) <|
     ee) (by kernel_rfl)

def A_treehasq1 (a0 : WL rw_iiiiiiLu) (a1 : Int) : List Value := [(wlV a0), (i6 a1)]
def H_treehasq1 (a0 : WL rw_iiiiiiLu) (a1 : Int) : AH := ⟨sB [], 0, 0⟩
def V_treehasq1 (a0 : WL rw_iiiiiiLu) (a1 : Int) (r : Bool) : Value := match r with
 | o0 => (bO o0)
def R_treehasq1 (a0 : WL rw_iiiiiiLu) (a1 : Int) (r : Bool) : AH := match r with
 | o0 => ⟨sB [], 0, 0⟩
abbrev G_treehasq1 (a0 : WL rw_iiiiiiLu) (a1 : Int) (r : Bool) : Prop := Gv P (.func 24) (A_treehasq1 a0 a1) (H_treehasq1 a0 a1) (V_treehasq1 a0 a1 r) (R_treehasq1 a0 a1 r)
abbrev C_treehasq1 (a0 : WL rw_iiiiiiLu) (a1 : Int) (r : Bool) (ins outs : BL) : CallA := ⟨0, ins, V_treehasq1 a0 a1 r, R_treehasq1 a0 a1 r, outs⟩
def m_treehasq1 (n : Nat) (a0 : WL rw_iiiiiiLu) (a1 : Int) : Option (Bool) :=
 if a1 ≥ (0 : Int) then
  if a1 < (((a0).l.length : Nat) : Int) then
   (m_treeCheckq1 n a0).bind fun c3_ =>
   if c3_ = (0 : Int) then
    some true
   else
    some false
  else
   some false
 else
  some false
theorem m_treehasq1_ok (n : Nat) (a0 : WL rw_iiiiiiLu) (a1 : Int) (r : Bool) (h : m_treehasq1 n a0 a1 = some r) : Gv P (.func 24) (A_treehasq1 a0 a1) (H_treehasq1 a0 a1) (V_treehasq1 a0 a1 r) (R_treehasq1 a0 a1 r) := by
 unfold m_treehasq1 at h
 by_cases hc1 : a1 ≥ (0 : Int)
 ·rw [if_pos hc1] at h
  have k0 := fun {A L l} (k : PL A L l) => zz 4 (xdT hc1) <|
   k
  by_cases hc2 : a1 < (((a0).l.length : Nat) : Int)
  ·rw [if_pos hc2] at h
   obtain ⟨c3_, hc3, h⟩ := oB h
   have k1 := fun {A L l} (k : PL A L l) => zz 9 (xdT hc2) <|
    yy 13 (.call (C_treeCheckq1 a0 c3_ [] [])) <|
    ww (m_treeCheckq1_ok n a0 c3_ hc3) <|
    k
   by_cases hc4 : c3_ = (0 : Int)
   ·rw [if_pos hc4] at h
    obtain rfl := oI h
    exact runF2 hm ⟨[4], [], 0, 0, [], false, [], [], []⟩ (k0 <|
     k1 <|
     zz 14 (xeT hc4) <|
     ee) (by kernel_rfl)
   ·rw [if_neg hc4] at h
    obtain rfl := oI h
    exact runF2 hm ⟨[4], [], 0, 0, [], false, [], [], []⟩ (k0 <|
     k1 <|
     zz 14 (xeF hc4) <|
     ee) (by kernel_rfl)
  ·rw [if_neg hc2] at h
   obtain rfl := oI h
   exact runF2 hm ⟨[4], [], 0, 0, [], false, [], [], []⟩ (k0 <|
    zz 9 (xdF hc2) <|
    ee) (by kernel_rfl)
 ·rw [if_neg hc1] at h
  obtain rfl := oI h
  exact runF2 hm ⟨[4], [], 0, 0, [], false, [], [], []⟩ (zz 4 (xdF hc1) <|
   ee) (by kernel_rfl)

def A_cmpisNaNintq1 (a0 : Int) : List Value := [(i6 a0)]
def H_cmpisNaNintq1 (a0 : Int) : AH := ⟨sB [], 0, 0⟩
def V_cmpisNaNintq1 (a0 : Int) (r : Unit) : Value := match r with
 | _ => (bO false)
def R_cmpisNaNintq1 (a0 : Int) (r : Unit) : AH := match r with
 | _ => ⟨sB [], 0, 0⟩
abbrev G_cmpisNaNintq1 (a0 : Int) (r : Unit) : Prop := Gv P (.func 34) (A_cmpisNaNintq1 a0) (H_cmpisNaNintq1 a0) (V_cmpisNaNintq1 a0 r) (R_cmpisNaNintq1 a0 r)
abbrev C_cmpisNaNintq1 (a0 : Int) (r : Unit) (ins outs : BL) : CallA := ⟨0, ins, V_cmpisNaNintq1 a0 r, R_cmpisNaNintq1 a0 r, outs⟩
def m_cmpisNaNintq1 (n : Nat) (a0 : Int) : Option (Unit) :=
 some ()
theorem m_cmpisNaNintq1_ok (n : Nat) (a0 : Int) (r : Unit) (h : m_cmpisNaNintq1 n a0 = some r) : Gv P (.func 34) (A_cmpisNaNintq1 a0) (H_cmpisNaNintq1 a0) (V_cmpisNaNintq1 a0 r) (R_cmpisNaNintq1 a0 r) := by
 unfold m_cmpisNaNintq1 at h
 obtain rfl := oI h
 exact runF2 hm ⟨[2], [], 0, 0, [], false, [], [], []⟩ (zz 5 (xnF (a := a0) rfl) <|
  ee) (by kernel_rfl)

def A_cmpLessintq1 (a0 : Int) (a1 : Int) : List Value := [(i6 a0), (i6 a1)]
def H_cmpLessintq1 (a0 : Int) (a1 : Int) : AH := ⟨sB [], 0, 0⟩
def V_cmpLessintq1 (a0 : Int) (a1 : Int) (r : Bool) : Value := match r with
 | o0 => (bO o0)
def R_cmpLessintq1 (a0 : Int) (a1 : Int) (r : Bool) : AH := match r with
 | o0 => ⟨sB [], 0, 0⟩
abbrev G_cmpLessintq1 (a0 : Int) (a1 : Int) (r : Bool) : Prop := Gv P (.func 29) (A_cmpLessintq1 a0 a1) (H_cmpLessintq1 a0 a1) (V_cmpLessintq1 a0 a1 r) (R_cmpLessintq1 a0 a1 r)
abbrev C_cmpLessintq1 (a0 : Int) (a1 : Int) (r : Bool) (ins outs : BL) : CallA := ⟨0, ins, V_cmpLessintq1 a0 a1 r, R_cmpLessintq1 a0 a1 r, outs⟩
def m_cmpLessintq1 (n : Nat) (a0 : Int) (a1 : Int) : Option (Bool) :=
 (m_cmpisNaNintq1 n a0).bind fun _ =>
 if a0 < a1 then
  some true
 else
  some false
theorem m_cmpLessintq1_ok (n : Nat) (a0 : Int) (a1 : Int) (r : Bool) (h : m_cmpLessintq1 n a0 a1 = some r) : Gv P (.func 29) (A_cmpLessintq1 a0 a1) (H_cmpLessintq1 a0 a1) (V_cmpLessintq1 a0 a1 r) (R_cmpLessintq1 a0 a1 r) := by
 unfold m_cmpLessintq1 at h
 obtain ⟨_, hc1, h⟩ := oB h
 have k0 := fun {A L l} (k : PL A L l) => yy 4 (.call (C_cmpisNaNintq1 a0 () [] [])) <|
  ww (m_cmpisNaNintq1_ok n a0 () hc1) <|
  k
 by_cases hc2 : a0 < a1
 ·rw [if_pos hc2] at h
  obtain rfl := oI h
  exact runF2 hm ⟨[4], [], 0, 0, [], false, [], [], []⟩ (k0 <|
   zz 13 (xdT hc2) <|
   ee) (by kernel_rfl)
 ·rw [if_neg hc2] at h
  obtain rfl := oI h
  exact runF2 hm ⟨[4], [], 0, 0, [], false, [], [], []⟩ (k0 <|
   zz 13 (xdF hc2) <|
   ee) (by kernel_rfl)

def A_slicesisNaNintq1 (a0 : Int) : List Value := [(i6 a0)]
def H_slicesisNaNintq1 (a0 : Int) : AH := ⟨sB [], 0, 0⟩
def V_slicesisNaNintq1 (a0 : Int) (r : Unit) : Value := match r with
 | _ => (bO false)
def R_slicesisNaNintq1 (a0 : Int) (r : Unit) : AH := match r with
 | _ => ⟨sB [], 0, 0⟩
abbrev G_slicesisNaNintq1 (a0 : Int) (r : Unit) : Prop := Gv P (.func 30) (A_slicesisNaNintq1 a0) (H_slicesisNaNintq1 a0) (V_slicesisNaNintq1 a0 r) (R_slicesisNaNintq1 a0 r)
abbrev C_slicesisNaNintq1 (a0 : Int) (r : Unit) (ins outs : BL) : CallA := ⟨0, ins, V_slicesisNaNintq1 a0 r, R_slicesisNaNintq1 a0 r, outs⟩
def m_slicesisNaNintq1 (n : Nat) (a0 : Int) : Option (Unit) :=
 some ()
theorem m_slicesisNaNintq1_ok (n : Nat) (a0 : Int) (r : Unit) (h : m_slicesisNaNintq1 n a0 = some r) : Gv P (.func 30) (A_slicesisNaNintq1 a0) (H_slicesisNaNintq1 a0) (V_slicesisNaNintq1 a0 r) (R_slicesisNaNintq1 a0 r) := by
 unfold m_slicesisNaNintq1 at h
 obtain rfl := oI h
 exact runF2 hm ⟨[2], [], 0, 0, [], false, [], [], []⟩ (zz 5 (xnF (a := a0) rfl) <|
  ee) (by kernel_rfl)

def A_slicesBinarySearchintintq1 (a0 : NL) (a1 : Int) : List Value := [(nlV a0), (i6 a1)]
def H_slicesBinarySearchintintq1 (a0 : NL) (a1 : Int) : AH := ⟨sB [], 0, 0⟩
def V_slicesBinarySearchintintq1 (a0 : NL) (a1 : Int) (r : Int × Bool) : Value := match r with
 | (o0, o1) => (Value.tuple #[(i6 o0), (bO o1)])
def R_slicesBinarySearchintintq1 (a0 : NL) (a1 : Int) (r : Int × Bool) : AH := match r with
 | (o0, o1) => ⟨sB [], 0, 0⟩
abbrev G_slicesBinarySearchintintq1 (a0 : NL) (a1 : Int) (r : Int × Bool) : Prop := Gv P (.func 25) (A_slicesBinarySearchintintq1 a0 a1) (H_slicesBinarySearchintintq1 a0 a1) (V_slicesBinarySearchintintq1 a0 a1 r) (R_slicesBinarySearchintintq1 a0 a1 r)
abbrev C_slicesBinarySearchintintq1 (a0 : NL) (a1 : Int) (r : Int × Bool) (ins outs : BL) : CallA := ⟨0, ins, V_slicesBinarySearchintintq1 a0 a1 r, R_slicesBinarySearchintintq1 a0 a1 r, outs⟩
def S_slicesBinarySearchintintq1_1 (x1_0 : NL) (x1_1 : Int) (x1_2 : Int) (st : Int × Int) : XSt := match st with
 | (x1_3, x1_4) => (sT 54 [(0, (nlV x1_0)), (1, (i6 x1_1)), (6, (i6 x1_2)), (7, (i6 x1_3)), (8, (i6 x1_4))], [], ⟨sB [], 0, 0⟩)
def X_slicesBinarySearchintintq1_1 (x1_0 : NL) (x1_1 : Int) (x1_2 : Int) (r : Int) : Ex × XSt := match r with
 | z1_0 => (.exit 0, (sT 54 [(0, (nlV x1_0)), (1, (i6 x1_1)), (6, (i6 x1_2)), (7, (i6 z1_0))], [], ⟨sB [], 0, 0⟩))
abbrev Q_slicesBinarySearchintintq1_1 (rnd : Option Nat) (x1_0 : NL) (x1_1 : Int) (x1_2 : Int) (st : Int × Int) (c : Ex × XSt) : Prop := CG P rnd (fnN P 25) 0 (codeOf P 25 [false, false, false, true, true, true]) (S_slicesBinarySearchintintq1_1 x1_0 x1_1 x1_2 st) c
abbrev U_slicesBinarySearchintintq1_1 (rd : Option Nat) (x1_0 : NL) (x1_1 : Int) (x1_2 : Int) (st : Int × Int) (r : Int) : Prop := CG P rd (fnN P 25) 0 (codeOf P 25 [false, false, true, true, true]) (S_slicesBinarySearchintintq1_1 x1_0 x1_1 x1_2 st) (X_slicesBinarySearchintintq1_1 x1_0 x1_1 x1_2 r)
def B_slicesBinarySearchintintq1_1 (n : Nat) (x1_0 : NL) (x1_1 : Int) (x1_2 : Int) (st : Int × Int) : Option ((Int × Int) ⊕ (Int)) := match st with
 | (x1_3, x1_4) =>
  if x1_3 < x1_4 then
   if 0 ≤ (IntKind.i64.wrap (Int.fdiv (IntKind.u64.wrap (w64 (x1_3 + x1_4))) 2)) ∧ (IntKind.i64.wrap (Int.fdiv (IntKind.u64.wrap (w64 (x1_3 + x1_4))) 2)) < (((x1_0).l.length : Nat) : Int) then
    if ((IntKind.i64.wrap (Int.fdiv (IntKind.u64.wrap (w64 (x1_3 + x1_4))) 2))).toNat < ((x1_0).l).length then
     ((some (((x1_0).l).getD ((IntKind.i64.wrap (Int.fdiv (IntKind.u64.wrap (w64 (x1_3 + x1_4))) 2))).toNat 0))).bind fun y1_4_ =>
     (m_cmpLessintq1 n y1_4_ x1_1).bind fun y1_5_ =>
     if y1_5_ = true then
      ((some (w64 ((IntKind.i64.wrap (Int.fdiv (IntKind.u64.wrap (w64 (x1_3 + x1_4))) 2)) + (1 : Int))))).bind fun y1_7_ =>
      some (.inl (y1_7_, x1_4))
     else
      some (.inl (x1_3, (IntKind.i64.wrap (Int.fdiv (IntKind.u64.wrap (w64 (x1_3 + x1_4))) 2))))
    else none
   else none
  else
   some (.inr x1_3)
def m_slicesBinarySearchintintq1_1 (n : Nat) (x1_0 : NL) (x1_1 : Int) (x1_2 : Int) (st : Int × Int) : Option (Int) := iterM (B_slicesBinarySearchintintq1_1 n x1_0 x1_1 x1_2) n st
theorem b_slicesBinarySearchintintq1_1 (n : Nat) {rnd : Option Nat} (x1_0 : NL) (x1_1 : Int) (x1_2 : Int) (st : Int × Int) (o : (Int × Int) ⊕ (Int)) (h : B_slicesBinarySearchintintq1_1 n x1_0 x1_1 x1_2 st = some o) : CG P rnd (fnN P 25) 0 (codeOf P 25 [false, false, false, true, true, true]) (S_slicesBinarySearchintintq1_1 x1_0 x1_1 x1_2 st) (Sum.elim (fun s => (.normal, S_slicesBinarySearchintintq1_1 x1_0 x1_1 x1_2 s)) (fun r => X_slicesBinarySearchintintq1_1 x1_0 x1_1 x1_2 r) o) := by
 obtain ⟨x1_3, x1_4⟩ := st
 unfold B_slicesBinarySearchintintq1_1 at h
 dsimp only at h
 by_cases hy1_1 : x1_3 < x1_4
 ·rw [if_pos hy1_1] at h
  obtain ⟨hy1_2, h⟩ := gd h
  obtain ⟨hy1_3, h⟩ := gd h
  obtain ⟨y1_4_, hy1_4, h⟩ := oB h
  obtain ⟨y1_5_, hy1_5, h⟩ := oB h
  have k0 := fun {A L l} (k : PL A L l) => zz 4 (xdT hy1_1) <|
   zz 18 (xk12 (Nat.add (x1_0).num 64) (x1_0).off (x1_0).cap hy1_2) <|
   zz 19 (nk13 hy1_4 hy1_3) <|
   yy 21 (.call (C_cmpLessintq1 y1_4_ x1_1 y1_5_ [] [])) <|
   ww (m_cmpLessintq1_ok n y1_4_ x1_1 y1_5_ hy1_5) <|
   k
  by_cases hy1_6 : y1_5_ = true
  ·rw [if_pos hy1_6] at h
   obtain ⟨y1_7_, hy1_7, h⟩ := oB h
   obtain rfl := oI h
   exact runC2 hm ⟨[0, 1, 6, 7, 8], [], 0, 0, [], false, [], [], []⟩ (k0 <|
    zz 22 (xbT hy1_6) <|
    zz 24 (xnm hy1_7) <|
    ee) (by kernel_rfl)
  ·rw [if_neg hy1_6] at h
   obtain rfl := oI h
   exact runC2 hm ⟨[0, 1, 6, 7, 8], [], 0, 0, [], false, [], [], []⟩ (k0 <|
    zz 22 (xbF hy1_6) <|
    ee) (by kernel_rfl)
 ·rw [if_neg hy1_1] at h
  obtain rfl := oI h
  exact runC2 hm ⟨[0, 1, 6, 7], [], 0, 0, [], false, [], [], []⟩ (zz 4 (xdF hy1_1) <|
   ee) (by kernel_rfl)
theorem m_slicesBinarySearchintintq1_1_ok (n : Nat) {rnd : Option Nat} (x1_0 : NL) (x1_1 : Int) (x1_2 : Int) (st : Int × Int) (r : Int) (h : m_slicesBinarySearchintintq1_1 n x1_0 x1_1 x1_2 st = some r) : CG P rnd (fnN P 25) 0 (codeOf P 25 [false, false, true, true, true]) (S_slicesBinarySearchintintq1_1 x1_0 x1_1 x1_2 st) (X_slicesBinarySearchintintq1_1 x1_0 x1_1 x1_2 r) :=
 CG.iter (b := codeOf P 25 [false, false, false, true, true, true]) (by kernel_rfl) (body := B_slicesBinarySearchintintq1_1 n x1_0 x1_1 x1_2) (S := S_slicesBinarySearchintintq1_1 x1_0 x1_1 x1_2) (X := X_slicesBinarySearchintintq1_1 x1_0 x1_1 x1_2)
  (fun s s' h => b_slicesBinarySearchintintq1_1 n x1_0 x1_1 x1_2 s (.inl s') h)
  (fun s r h => b_slicesBinarySearchintintq1_1 n x1_0 x1_1 x1_2 s (.inr r) h)
  (fun r => by intro hx; cases hx) h
def m_slicesBinarySearchintintq1 (n : Nat) (a0 : NL) (a1 : Int) : Option (Int × Bool) :=
 (m_slicesBinarySearchintintq1_1 n a0 a1 (((a0).l.length : Nat) : Int) (0, (((a0).l.length : Nat) : Int))).bind fun c1_ =>
 if c1_ < (((a0).l.length : Nat) : Int) then
  if 0 ≤ c1_ ∧ c1_ < (((a0).l.length : Nat) : Int) then
   if (c1_).toNat < ((a0).l).length then
    ((some (((a0).l).getD (c1_).toNat 0))).bind fun c5_ =>
    if c5_ = a1 then
     some (c1_, true)
    else
     (m_slicesisNaNintq1 n c5_).bind fun _ =>
     some (c1_, false)
   else none
  else none
 else
  some (c1_, false)
theorem m_slicesBinarySearchintintq1_ok (n : Nat) (a0 : NL) (a1 : Int) (r : Int × Bool) (h : m_slicesBinarySearchintintq1 n a0 a1 = some r) : Gv P (.func 25) (A_slicesBinarySearchintintq1 a0 a1) (H_slicesBinarySearchintintq1 a0 a1) (V_slicesBinarySearchintintq1 a0 a1 r) (R_slicesBinarySearchintintq1 a0 a1 r) := by
 unfold m_slicesBinarySearchintintq1 at h
 obtain ⟨c1_, hc1, h⟩ := oB h
 have k0 := fun {A L l} (k : PL A L l) => ww (p := U_slicesBinarySearchintintq1_1 none a0 a1 (((a0).l.length : Nat) : Int) (0, (((a0).l.length : Nat) : Int)) c1_) (m_slicesBinarySearchintintq1_1_ok n a0 a1 (((a0).l.length : Nat) : Int) (0, (((a0).l.length : Nat) : Int)) c1_ hc1) <|
  ll 13 ⟨⟨[0, 1, 6, 7, 8], [], 0, 0, [], false, [], [], []⟩, (X_slicesBinarySearchintintq1_1 a0 a1 (((a0).l.length : Nat) : Int) c1_).1, (X_slicesBinarySearchintintq1_1 a0 a1 (((a0).l.length : Nat) : Int) c1_).2⟩ <|
  k
 by_cases hc2 : c1_ < (((a0).l.length : Nat) : Int)
 ·rw [if_pos hc2] at h
  obtain ⟨hc3, h⟩ := gd h
  obtain ⟨hc4, h⟩ := gd h
  obtain ⟨c5_, hc5, h⟩ := oB h
  have k2 := fun {A L l} (k : PL A L l) => zz 18 (xdT hc2) <|
   zz 22 (xk12 (Nat.add (a0).num 64) (a0).off (a0).cap hc3) <|
   zz 23 (nk13 hc5 hc4) <|
   k
  by_cases hc6 : c5_ = a1
  ·rw [if_pos hc6] at h
   obtain rfl := oI h
   exact runF2 hm ⟨[4, 5], [], 0, 0, [], false, [], [], []⟩ (k0 <|
    k2 <|
    zz 25 (xeT hc6) <|
    ee) (by kernel_rfl)
  ·rw [if_neg hc6] at h
   obtain ⟨_, hc7, h⟩ := oB h
   obtain rfl := oI h
   exact runF2 hm ⟨[4, 5], [], 0, 0, [], false, [], [], []⟩ (k0 <|
    k2 <|
    zz 25 (xeF hc6) <|
    zz 29 (xk12 (Nat.add (a0).num 64) (a0).off (a0).cap hc3) <|
    zz 30 (nk13 hc5 hc4) <|
    yy 31 (.call (C_slicesisNaNintq1 c5_ () [] [])) <|
    ww (m_slicesisNaNintq1_ok n c5_ () hc7) <|
    ee) (by kernel_rfl)
 ·rw [if_neg hc2] at h
  obtain rfl := oI h
  exact runF2 hm ⟨[4, 5], [], 0, 0, [], false, [], [], []⟩ (k0 <|
   zz 18 (xdF hc2) <|
   ee) (by kernel_rfl)

def A_treePathq1 (a0 : WL rw_iiiiiiLu) (a1 : Int) : List Value := [(wlV a0), (i6 a1)]
def H_treePathq1 (a0 : WL rw_iiiiiiLu) (a1 : Int) : AH := ⟨sB [], 0, 0⟩
def V_treePathq1 (a0 : WL rw_iiiiiiLu) (a1 : Int) (r : NL) : Value := match r with
 | o0 => (nlV o0)
def R_treePathq1 (a0 : WL rw_iiiiiiLu) (a1 : Int) (r : NL) : AH := match r with
 | o0 => ⟨sB [], 0, 0⟩
abbrev G_treePathq1 (a0 : WL rw_iiiiiiLu) (a1 : Int) (r : NL) : Prop := Gv P (.func 16) (A_treePathq1 a0 a1) (H_treePathq1 a0 a1) (V_treePathq1 a0 a1 r) (R_treePathq1 a0 a1 r)
abbrev C_treePathq1 (a0 : WL rw_iiiiiiLu) (a1 : Int) (r : NL) (ins outs : BL) : CallA := ⟨0, ins, V_treePathq1 a0 a1 r, R_treePathq1 a0 a1 r, outs⟩
def S_treePathq1_1 (x1_0 : WL rw_iiiiiiLu) (x1_1 : Int) (st : Int × List Int) : XSt := match st with
 | (x1_2, x1_3) => (sT 50 [(0, (wlV x1_0)), (1, (i6 x1_1)), (5, (i6 x1_2)), (6, (sN 0 0 (x1_3).length (Nat.add big 1)))], [], ⟨sB [(0, (some (.cells (layT (iv x1_3)) 3)))], 1, 0⟩)
def X_treePathq1_1 (x1_0 : WL rw_iiiiiiLu) (x1_1 : Int) (r : List Int) : Ex × XSt := match r with
 | z1_0 => (.exit 0, (sT 50 [(6, (sN 0 0 (z1_0).length (Nat.add big 1)))], [], ⟨sB [(0, (some (.cells (layT (iv z1_0)) 3)))], 1, 0⟩))
abbrev Q_treePathq1_1 (rnd : Option Nat) (x1_0 : WL rw_iiiiiiLu) (x1_1 : Int) (st : Int × List Int) (c : Ex × XSt) : Prop := CG P rnd (fnN P 16) 0 (codeOf P 16 [false, false, false, true, true, true, true]) (S_treePathq1_1 x1_0 x1_1 st) c
abbrev U_treePathq1_1 (rd : Option Nat) (x1_0 : WL rw_iiiiiiLu) (x1_1 : Int) (st : Int × List Int) (r : List Int) : Prop := CG P rd (fnN P 16) 0 (codeOf P 16 [false, false, true, true, true, true]) (S_treePathq1_1 x1_0 x1_1 st) (X_treePathq1_1 x1_0 x1_1 r)
def B_treePathq1_1 (n : Nat) (x1_0 : WL rw_iiiiiiLu) (x1_1 : Int) (st : Int × List Int) : Option ((Int × List Int) ⊕ (List Int)) := match st with
 | (x1_2, x1_3) =>
  if x1_2 = x1_1 then
   some (.inr x1_3)
  else
   if 0 ≤ x1_2 ∧ x1_2 < (((x1_0).l.length : Nat) : Int) then
    ((some (((x1_0).l).getD (x1_2).toNat (0, 0, 0, 0, 0, 0, nl0, 0)))).bind fun y1_3_ =>
    (m_slicesBinarySearchintintq1 n (y1_3_.2.2.2.2.2.2.1) x1_1).bind fun t => match t with
    | (y1_4_0, y1_4_1) =>
     if y1_4_1 = true then
      if 0 ≤ y1_4_0 ∧ y1_4_0 < ((((y1_3_.2.2.2.2.2.2.1)).l.length : Nat) : Int) then
       if (y1_4_0).toNat < (((y1_3_.2.2.2.2.2.2.1)).l).length then
        ((some ((((y1_3_.2.2.2.2.2.2.1)).l).getD (y1_4_0).toNat 0))).bind fun y1_8_ =>
        if 0 ≤ y1_8_ ∧ y1_8_ < (((x1_0).l.length : Nat) : Int) then
         ((some (((x1_0).l).getD (y1_8_).toNat (0, 0, 0, 0, 0, 0, nl0, 0)))).bind fun y1_10_ =>
         if ((x1_3).length + 1) * 8 ≤ 140737488355328 then
          some (.inl (y1_8_, (x1_3 ++ [(y1_10_.1)])))
         else none
        else none
       else none
      else none
     else
      if 0 ≤ (w64 (y1_4_0 - (1 : Int))) ∧ (w64 (y1_4_0 - (1 : Int))) < ((((y1_3_.2.2.2.2.2.2.1)).l.length : Nat) : Int) then
       if ((w64 (y1_4_0 - (1 : Int)))).toNat < (((y1_3_.2.2.2.2.2.2.1)).l).length then
        ((some ((((y1_3_.2.2.2.2.2.2.1)).l).getD ((w64 (y1_4_0 - (1 : Int)))).toNat 0))).bind fun y1_8_ =>
        if 0 ≤ y1_8_ ∧ y1_8_ < (((x1_0).l.length : Nat) : Int) then
         ((some (((x1_0).l).getD (y1_8_).toNat (0, 0, 0, 0, 0, 0, nl0, 0)))).bind fun y1_10_ =>
         if ((x1_3).length + 1) * 8 ≤ 140737488355328 then
          some (.inl (y1_8_, (x1_3 ++ [(y1_10_.1)])))
         else none
        else none
       else none
      else none
   else none
def m_treePathq1_1 (n : Nat) (x1_0 : WL rw_iiiiiiLu) (x1_1 : Int) (st : Int × List Int) : Option (List Int) := iterM (B_treePathq1_1 n x1_0 x1_1) n st
theorem b_treePathq1_1 (n : Nat) {rnd : Option Nat} (x1_0 : WL rw_iiiiiiLu) (x1_1 : Int) (st : Int × List Int) (o : (Int × List Int) ⊕ (List Int)) (h : B_treePathq1_1 n x1_0 x1_1 st = some o) : CG P rnd (fnN P 16) 0 (codeOf P 16 [false, false, false, true, true, true, true]) (S_treePathq1_1 x1_0 x1_1 st) (Sum.elim (fun s => (.normal, S_treePathq1_1 x1_0 x1_1 s)) (fun r => X_treePathq1_1 x1_0 x1_1 r) o) := by
 obtain ⟨x1_2, x1_3⟩ := st
 unfold B_treePathq1_1 at h
 dsimp only at h
 by_cases hy1_1 : x1_2 = x1_1
 ·rw [if_pos hy1_1] at h
  obtain rfl := oI h
  exact runC2 hm ⟨[6], [(0, 0, true)], 1, 0, [], false, [], [], []⟩ (zz 4 (xnF hy1_1) <|
   ww (iv_flat x1_3 3) <|
   ee) (by kernel_rfl)
 ·rw [if_neg hy1_1] at h
  obtain ⟨hy1_2, h⟩ := gd h
  obtain ⟨y1_3_, hy1_3, h⟩ := oB h
  obtain ⟨⟨y1_4_0, y1_4_1⟩, hy1_4, h⟩ := oB h
  dsimp only at h
  have k0 := fun {A L l} (k : PL A L l) => zz 4 (xnT hy1_1) <|
   zz 10 (xk4 (x1_0).num (x1_0).off (x1_0).cap hy1_2) <|
   zz 11 (fk10 (x1_0).num (Nat.add (x1_0).off ((x1_2).toNat * 8))) <|
   zz 12 (lk11 hy1_3 (toNatLt hy1_2)) <|
   yy 17 (.call (C_slicesBinarySearchintintq1 (y1_3_.2.2.2.2.2.2.1) x1_1 (y1_4_0, y1_4_1) [] [])) <|
   ww (m_slicesBinarySearchintintq1_ok n (y1_3_.2.2.2.2.2.2.1) x1_1 (y1_4_0, y1_4_1) hy1_4) <|
   k
  by_cases hy1_5 : y1_4_1 = true
  ·rw [if_pos hy1_5] at h
   obtain ⟨hy1_6, h⟩ := gd h
   obtain ⟨hy1_7, h⟩ := gd h
   obtain ⟨y1_8_, hy1_8, h⟩ := oB h
   obtain ⟨hy1_9, h⟩ := gd h
   obtain ⟨y1_10_, hy1_10, h⟩ := oB h
   obtain ⟨hy1_11, h⟩ := gd h
   obtain rfl := oI h
   exact runC2 hm ⟨[0, 1, 5, 6], [(0, 2, true)], 1, 0, [], false, [], [], []⟩ (k0 <|
    yy 26 (vf) <|
    ww (p := (Value.bool (!y1_4_1)) = (Value.bool false)) (vBn hy1_5) <|
    zz 31 (xk12 (Nat.add ((y1_3_.2.2.2.2.2.2.1)).num 64) ((y1_3_.2.2.2.2.2.2.1)).off ((y1_3_.2.2.2.2.2.2.1)).cap hy1_6) <|
    zz 32 (nk13 hy1_8 hy1_7) <|
    zz 37 (xk4 (x1_0).num (x1_0).off (x1_0).cap hy1_9) <|
    zz 38 (fk17 (x1_0).num (Nat.add (x1_0).off ((y1_8_).toNat * 8))) <|
    zz 39 (lk18 hy1_10 (toNatLt hy1_9)) <|
    yy 41 (.app ⟨none, iv x1_3, (iv (x1_3 ++ [(y1_10_.1)])), ((x1_3 ++ [(y1_10_.1)])).length, false⟩) <|
    ww (p := 0 < 1) ((by decide)) <|
    ww (p := rdT (layT (iv x1_3)) (Nat.mul (x1_3).length 1) 0 = some (iv x1_3)) (iv_rd _) <|
    ww (p := fits (Nat.add (x1_3).length 1) 8 = true) (fits_ok hy1_11 (by have := hy1_11; show (_ : Nat) + _ ≤ _; omega)) <|
    ww (p := allCells [(i6 (y1_10_.1))] = true) (rfl) <|
    ww (p := allCells (iv x1_3) = true) (iv_cells _) <|
    ww (p := iv x1_3 ++ [(i6 (y1_10_.1))] = (iv (x1_3 ++ [(y1_10_.1)]))) (by simp [iv]) <|
    ww (p := Nat.add (x1_3).length 1 = ((x1_3 ++ [(y1_10_.1)])).length) (by simp) <|
    ww (iv_flat (x1_3 ++ [(y1_10_.1)]) 3) <|
    ee) (by kernel_rfl)
  ·rw [if_neg hy1_5] at h
   obtain ⟨hy1_6, h⟩ := gd h
   obtain ⟨hy1_7, h⟩ := gd h
   obtain ⟨y1_8_, hy1_8, h⟩ := oB h
   obtain ⟨hy1_9, h⟩ := gd h
   obtain ⟨y1_10_, hy1_10, h⟩ := oB h
   obtain ⟨hy1_11, h⟩ := gd h
   obtain rfl := oI h
   exact runC2 hm ⟨[0, 1, 5, 6], [(0, 2, true)], 1, 0, [], false, [], [], []⟩ (k0 <|
    yy 26 (vt) <|
    ww (p := (Value.bool (!y1_4_1)) = (Value.bool true)) (vBn (Bool.eq_false_iff.2 hy1_5)) <|
    zz 34 (xk12 (Nat.add ((y1_3_.2.2.2.2.2.2.1)).num 64) ((y1_3_.2.2.2.2.2.2.1)).off ((y1_3_.2.2.2.2.2.2.1)).cap hy1_6) <|
    zz 35 (nk13 hy1_8 hy1_7) <|
    zz 40 (xk4 (x1_0).num (x1_0).off (x1_0).cap hy1_9) <|
    zz 41 (fk17 (x1_0).num (Nat.add (x1_0).off ((y1_8_).toNat * 8))) <|
    zz 42 (lk18 hy1_10 (toNatLt hy1_9)) <|
    yy 44 (.app ⟨none, iv x1_3, (iv (x1_3 ++ [(y1_10_.1)])), ((x1_3 ++ [(y1_10_.1)])).length, false⟩) <|
    ww (p := 0 < 1) ((by decide)) <|
    ww (p := rdT (layT (iv x1_3)) (Nat.mul (x1_3).length 1) 0 = some (iv x1_3)) (iv_rd _) <|
    ww (p := fits (Nat.add (x1_3).length 1) 8 = true) (fits_ok hy1_11 (by have := hy1_11; show (_ : Nat) + _ ≤ _; omega)) <|
    ww (p := allCells [(i6 (y1_10_.1))] = true) (rfl) <|
    ww (p := allCells (iv x1_3) = true) (iv_cells _) <|
    ww (p := iv x1_3 ++ [(i6 (y1_10_.1))] = (iv (x1_3 ++ [(y1_10_.1)]))) (by simp [iv]) <|
    ww (p := Nat.add (x1_3).length 1 = ((x1_3 ++ [(y1_10_.1)])).length) (by simp) <|
    ww (iv_flat (x1_3 ++ [(y1_10_.1)]) 3) <|
    ee) (by kernel_rfl)
theorem m_treePathq1_1_ok (n : Nat) {rnd : Option Nat} (x1_0 : WL rw_iiiiiiLu) (x1_1 : Int) (st : Int × List Int) (r : List Int) (h : m_treePathq1_1 n x1_0 x1_1 st = some r) : LG P rnd (fnN P 16) 0 (codeOf P 16 [false, false, false, true, true, true, true]) (S_treePathq1_1 x1_0 x1_1 st) (X_treePathq1_1 x1_0 x1_1 r) :=
 LG.iter (body := B_treePathq1_1 n x1_0 x1_1) (S := S_treePathq1_1 x1_0 x1_1) (X := X_treePathq1_1 x1_0 x1_1)
  (fun s s' h => b_treePathq1_1 n x1_0 x1_1 s (.inl s') h)
  (fun s r h => b_treePathq1_1 n x1_0 x1_1 s (.inr r) h)
  (fun r => by intro hx; cases hx) _ _ _ h
def m_treePathq1 (n : Nat) (a0 : WL rw_iiiiiiLu) (a1 : Int) : Option (NL) :=
 (m_treehasq1 n a0 a1).bind fun c1_ =>
 if c1_ = true then
  if 0 ≤ (0 : Int) ∧ (0 : Int) < (((a0).l.length : Nat) : Int) then
   ((some (((a0).l).getD ((0 : Int)).toNat (0, 0, 0, 0, 0, 0, nl0, 0)))).bind fun c4_ =>
   if (0 : Int) = a1 then
    if hc6 : [(c4_.1)].length ≤ 140737488355328 then
     some (frzL [(c4_.1)] hc6)
    else none
   else
    (m_slicesBinarySearchintintq1 n (c4_.2.2.2.2.2.2.1) a1).bind fun t => match t with
    | (c6_0, c6_1) =>
     if c6_1 = true then
      if 0 ≤ c6_0 ∧ c6_0 < ((((c4_.2.2.2.2.2.2.1)).l.length : Nat) : Int) then
       if (c6_0).toNat < (((c4_.2.2.2.2.2.2.1)).l).length then
        ((some ((((c4_.2.2.2.2.2.2.1)).l).getD (c6_0).toNat 0))).bind fun c10_ =>
        if 0 ≤ c10_ ∧ c10_ < (((a0).l.length : Nat) : Int) then
         ((some (((a0).l).getD (c10_).toNat (0, 0, 0, 0, 0, 0, nl0, 0)))).bind fun c12_ =>
         (m_treePathq1_1 n a0 a1 (c10_, [(c4_.1), (c12_.1)])).bind fun c13_ =>
         if hc14 : c13_.length ≤ 140737488355328 then
          some (frzL c13_ hc14)
         else none
        else none
       else none
      else none
     else
      if 0 ≤ (w64 (c6_0 - (1 : Int))) ∧ (w64 (c6_0 - (1 : Int))) < ((((c4_.2.2.2.2.2.2.1)).l.length : Nat) : Int) then
       if ((w64 (c6_0 - (1 : Int)))).toNat < (((c4_.2.2.2.2.2.2.1)).l).length then
        ((some ((((c4_.2.2.2.2.2.2.1)).l).getD ((w64 (c6_0 - (1 : Int)))).toNat 0))).bind fun c10_ =>
        if 0 ≤ c10_ ∧ c10_ < (((a0).l.length : Nat) : Int) then
         ((some (((a0).l).getD (c10_).toNat (0, 0, 0, 0, 0, 0, nl0, 0)))).bind fun c12_ =>
         (m_treePathq1_1 n a0 a1 (c10_, [(c4_.1), (c12_.1)])).bind fun c13_ =>
         if hc14 : c13_.length ≤ 140737488355328 then
          some (frzL c13_ hc14)
         else none
        else none
       else none
      else none
  else none
 else
  some nl0
theorem m_treePathq1_ok (n : Nat) (a0 : WL rw_iiiiiiLu) (a1 : Int) (r : NL) (h : m_treePathq1 n a0 a1 = some r) : Gv P (.func 16) (A_treePathq1 a0 a1) (H_treePathq1 a0 a1) (V_treePathq1 a0 a1 r) (R_treePathq1 a0 a1 r) := by
 unfold m_treePathq1 at h
 obtain ⟨c1_, hc1, h⟩ := oB h
 have k0 := fun {A L l} (k : PL A L l) => yy 6 (.call (C_treehasq1 a0 a1 c1_ [] [])) <|
  ww (m_treehasq1_ok n a0 a1 c1_ hc1) <|
  k
 by_cases hc2 : c1_ = true
 ·rw [if_pos hc2] at h
  obtain ⟨hc3, h⟩ := gd h
  obtain ⟨c4_, hc4, h⟩ := oB h
  have k2 := fun {A L l} (k : PL A L l) => yy 7 (vf) <|
   ww (p := (Value.bool (!c1_)) = (Value.bool false)) (vBn hc2) <|
   zz 13 (xk4 (a0).num (a0).off (a0).cap hc3) <|
   zz 14 (fk17 (a0).num (Nat.add (a0).off (((0 : Int)).toNat * 8))) <|
   zz 15 (lk18 hc4 (toNatLt hc3)) <|
   k
  by_cases hc5 : (0 : Int) = a1
  ·rw [if_pos hc5] at h
   obtain ⟨hc6, h⟩ := gdD h
   obtain rfl := oI h
   exact runF2 hm ⟨[4], [], 0, 0, [(0, Nat.add (2 * cod [(c4_.1)] + 1) 64)], true, [], [], []⟩ (k0 <|
    k2 <|
    zz 25 (xnF hc5) <|
    ww (frz_ok wins_nest wins_odd [(c4_.1)]) <|
    ee) (by kernel_rfl)
  ·rw [if_neg hc5] at h
   obtain ⟨⟨c6_0, c6_1⟩, hc6, h⟩ := oB h
   dsimp only at h
   have k7 := fun {A L l} (k : PL A L l) => zz 25 (xnT hc5) <|
    zz 31 (xk4 (a0).num (a0).off (a0).cap hc3) <|
    zz 32 (fk10 (a0).num (Nat.add (a0).off (((0 : Int)).toNat * 8))) <|
    zz 33 (lk11 hc4 (toNatLt hc3)) <|
    yy 38 (.call (C_slicesBinarySearchintintq1 (c4_.2.2.2.2.2.2.1) a1 (c6_0, c6_1) [] [])) <|
    ww (m_slicesBinarySearchintintq1_ok n (c4_.2.2.2.2.2.2.1) a1 (c6_0, c6_1) hc6) <|
    k
   by_cases hc7 : c6_1 = true
   ·rw [if_pos hc7] at h
    obtain ⟨hc8, h⟩ := gd h
    obtain ⟨hc9, h⟩ := gd h
    obtain ⟨c10_, hc10, h⟩ := oB h
    obtain ⟨hc11, h⟩ := gd h
    obtain ⟨c12_, hc12, h⟩ := oB h
    obtain ⟨c13_, hc13, h⟩ := oB h
    obtain ⟨hc14, h⟩ := gdD h
    obtain rfl := oI h
    exact runF2 hm ⟨[4], [], 0, 0, [(0, Nat.add (2 * cod c13_ + 1) 64)], true, [], [], []⟩ (k0 <|
     k2 <|
     k7 <|
     yy 47 (vf) <|
     ww (p := (Value.bool (!c6_1)) = (Value.bool false)) (vBn hc7) <|
     zz 52 (xk12 (Nat.add ((c4_.2.2.2.2.2.2.1)).num 64) ((c4_.2.2.2.2.2.2.1)).off ((c4_.2.2.2.2.2.2.1)).cap hc8) <|
     zz 53 (nk13 hc10 hc9) <|
     zz 58 (xk4 (a0).num (a0).off (a0).cap hc11) <|
     zz 59 (fk17 (a0).num (Nat.add (a0).off ((c10_).toNat * 8))) <|
     zz 60 (lk18 hc12 (toNatLt hc11)) <|
     ww (p := LG P none (fnN P 16) 0 (codeOf P 16 [false, false, false, true, true, true, true]) (S_treePathq1_1 a0 a1 (c10_, [(c4_.1), (c12_.1)])) (X_treePathq1_1 a0 a1 c13_)) (m_treePathq1_1_ok n a0 a1 (c10_, [(c4_.1), (c12_.1)]) c13_ hc13) <|
     ll 64 ⟨⟨[0, 1, 5, 6], [(0, 2, false)], 1, 0, [], false, [], [], []⟩, (X_treePathq1_1 a0 a1 c13_).1, (X_treePathq1_1 a0 a1 c13_).2⟩ <|
     ww (frz_ok wins_nest wins_odd c13_) <|
     ee) (by kernel_rfl)
   ·rw [if_neg hc7] at h
    obtain ⟨hc8, h⟩ := gd h
    obtain ⟨hc9, h⟩ := gd h
    obtain ⟨c10_, hc10, h⟩ := oB h
    obtain ⟨hc11, h⟩ := gd h
    obtain ⟨c12_, hc12, h⟩ := oB h
    obtain ⟨c13_, hc13, h⟩ := oB h
    obtain ⟨hc14, h⟩ := gdD h
    obtain rfl := oI h
    exact runF2 hm ⟨[4], [], 0, 0, [(0, Nat.add (2 * cod c13_ + 1) 64)], true, [], [], []⟩ (k0 <|
     k2 <|
     k7 <|
     yy 47 (vt) <|
     ww (p := (Value.bool (!c6_1)) = (Value.bool true)) (vBn (Bool.eq_false_iff.2 hc7)) <|
     zz 55 (xk12 (Nat.add ((c4_.2.2.2.2.2.2.1)).num 64) ((c4_.2.2.2.2.2.2.1)).off ((c4_.2.2.2.2.2.2.1)).cap hc8) <|
     zz 56 (nk13 hc10 hc9) <|
     zz 61 (xk4 (a0).num (a0).off (a0).cap hc11) <|
     zz 62 (fk17 (a0).num (Nat.add (a0).off ((c10_).toNat * 8))) <|
     zz 63 (lk18 hc12 (toNatLt hc11)) <|
     ww (p := LG P none (fnN P 16) 0 (codeOf P 16 [false, false, false, true, true, true, true]) (S_treePathq1_1 a0 a1 (c10_, [(c4_.1), (c12_.1)])) (X_treePathq1_1 a0 a1 c13_)) (m_treePathq1_1_ok n a0 a1 (c10_, [(c4_.1), (c12_.1)]) c13_ hc13) <|
     ll 67 ⟨⟨[0, 1, 5, 6], [(0, 2, false)], 1, 0, [], false, [], [], []⟩, (X_treePathq1_1 a0 a1 c13_).1, (X_treePathq1_1 a0 a1 c13_).2⟩ <|
     ww (frz_ok wins_nest wins_odd c13_) <|
     ee) (by kernel_rfl)
 ·rw [if_neg hc2] at h
  obtain rfl := oI h
  exact runF2 hm ⟨[4], [], 0, 0, [], true, [], [], [4]⟩ (k0 <|
   yy 7 (vt) <|
   ww (p := (Value.bool (!c1_)) = (Value.bool true)) (vBn (Bool.eq_false_iff.2 hc2)) <|
   ee) (by kernel_rfl)


end Go.Proofs.Ytejokkfeocohpaa.sow26
