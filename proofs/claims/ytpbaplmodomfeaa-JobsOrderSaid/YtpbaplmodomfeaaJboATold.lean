/-
  What functions do, told by pure functions. No condition.
-/
import Derived.Test.YtpbaplmodomfeaaJboLives
set_option linter.unusedSimpArgs false
set_option linter.unusedVariables false
set_option linter.unusedSectionVars false
set_option linter.unnecessarySimpa false
set_option maxRecDepth 100000
noncomputable section
namespace Go.Proofs.Ytpbaplmodomfeaa.jbo24
open Go Go.Proofs.Ytpbaplmodomfeaa Ax
abbrev R6 [Nest] : Type := Int × Int × Int × Int × Int × Int
variable [Args]
def rw_iiiiii (x : R6) : List Value := [Value.int .i64 (x.1), Value.int .i64 (x.2.1), Value.int .i64 (x.2.2.1), Value.int .i64 (x.2.2.2.1), Value.int .i64 (x.2.2.2.2.1), Value.int .i64 (x.2.2.2.2.2)]
theorem rwf_iiiiii : RowF rw_iiiiii 6 := ⟨fun _ => rfl, fun a v h => by
 simp only [rw_iiiiii, List.mem_cons, List.not_mem_nil, or_false] at h
 rcases h with rfl | rfl | rfl | rfl | rfl | rfl <;> rfl, fun _ => rfl⟩
abbrev xp1 (b n k : Nat) (i : Int) : Prop := IA P 22 (sW b 0 n k) i (pW b (i.toNat * 5))
theorem xk1 (b k : Nat) {n : Nat} {i : Int} (h : 0 ≤ i ∧ i < (n : Int)) : OB (.pur (pW b (i.toNat * 5))) (xp1 b n k i) := ⟨ixW (e := 37) (by kernel_rfl) (by kernel_rfl) h.1 h.2⟩
abbrev lp2 (i : Nat) (r : Int × Int × Int × Int × Int) : Prop := Lg P 37 (pW 0 (i * 5)) (Value.agg #[(i6 (r.1)), (i6 (r.2.1)), (i6 (r.2.2.1)), (i6 (r.2.2.2.1)), (i6 (r.2.2.2.2))])
theorem lk2 {i : Nat} {r : Int × Int × Int × Int × Int} (hr : some ((Args.A).getD i (0, 0, 0, 0, 0)) = some r) (h : i < (Args.A).length) : OB (.ld (Value.agg #[(i6 (r.1)), (i6 (r.2.1)), (i6 (r.2.2.1)), (i6 (r.2.2.2.1)), (i6 (r.2.2.2.2))])) (lp2 i r) := by cases hr; exact ⟨ldWA rwf_iiiii (0, 0, 0, 0, 0) (i := i) (q := 0) (L := Args.A) (n := 5) (i * 5) rfl rfl (by kernel_rfl) (by kernel_rfl) h (by decide) rfl⟩
abbrev fp3 (o : Nat) : Prop := FA P 37 (pW 0 o) 0 (pW 0 (Nat.add o 0))
theorem fk3 (o : Nat) : OB (.pur (pW 0 (Nat.add o 0))) (fp3 o) := ⟨by unfold fp3 FA; kernel_rfl⟩
abbrev lp4 (i : Nat) (r : Int × Int × Int × Int × Int) : Prop := Lg P 3 (pW 0 (Nat.add (i * 5) 0)) (i6 (r.1))
theorem lk4 {i : Nat} {r : Int × Int × Int × Int × Int} (hr : some ((Args.A).getD i (0, 0, 0, 0, 0)) = some r) (h : i < (Args.A).length) : OB (.ld (i6 (r.1))) (lp4 i r) := by cases hr; exact ⟨ldWS rwf_iiiii (0, 0, 0, 0, 0) (i := i) (q := 0) (L := Args.A) (Nat.add (i * 5) 0) rfl rfl (by kernel_rfl) h (by decide) rfl⟩
abbrev xp5 (b n k : Nat) (i : Int) : Prop := IA P 51 (sN b 0 n k) i (pN b (i.toNat * 6))
theorem xk5 (b k : Nat) {n : Nat} {i : Int} (h : 0 ≤ i ∧ i < (n : Int)) : OB (.pur (pN b (i.toNat * 6))) (xp5 b n k i) := ⟨ixS (e := 58) (by kernel_rfl) (by kernel_rfl) h.1 h.2⟩
theorem snoc_cons {α : Type} (l : List α) (x : α) : ∃ a t, l ++ [x] = a :: t := by
 cases l with
 | nil => exact ⟨_, _, rfl⟩
 | cons a t => exact ⟨_, _, rfl⟩
abbrev xp6 (b n k : Nat) (i : Int) : Prop := IA P 28 (sN b 0 n k) i (pN b i.toNat)
theorem xk6 (b k : Nat) {n : Nat} {i : Int} (h : 0 ≤ i ∧ i < (n : Int)) : OB (.pur (pN b i.toNat)) (xp6 b n k i) := ⟨ixS1 (e := 3) (by kernel_rfl) (by kernel_rfl) h⟩
abbrev xp7 (b n k : Nat) (i : Int) : Prop := IA P 22 (sN b 0 n k) i (pN b (i.toNat * 5))
theorem xk7 (b k : Nat) {n : Nat} {i : Int} (h : 0 ≤ i ∧ i < (n : Int)) : OB (.pur (pN b (i.toNat * 5))) (xp7 b n k i) := ⟨ixS (e := 37) (by kernel_rfl) (by kernel_rfl) h.1 h.2⟩
abbrev op8 (L : List (Int × Int × Int × Int × Int)) (i : Nat) (r : Int × Int × Int × Int × Int) : Prop := (layT (rows rw_iiiii L)).get (Nat.add (i * 5) 0) = some (i6 (r.1))
theorem ok8 {L : List (Int × Int × Int × Int × Int)} {i : Nat} {r : Int × Int × Int × Int × Int} (hr : some (L.getD i (0, 0, 0, 0, 0)) = some r) (h : i < L.length) : OB (.ld (i6 (r.1))) (op8 L i r) := by cases hr; exact ⟨rows_ld rwf_iiiii (0, 0, 0, 0, 0) (i := i) (j := 0) (Nat.add (i * 5) 0) rfl h (by decide) rfl⟩

def m_viewportlaw24lives (n : Nat) : Option Unit := some ()
theorem m_viewportlaw24lives_ok (n : Nat) (r : Unit) (h : m_viewportlaw24lives n = some r) : Gv P (.func 4) [] Ax.h0 (.bool true) Ax.h0 := lives_gv

def A_viewportref22Checkq1 : List Value := [(sW 0 0 (Args.A).length Args.cA)]
def H_viewportref22Checkq1 : AH := ⟨sB [], 0, 0⟩
def V_viewportref22Checkq1 (r : Int) : Value := match r with
 | o0 => (i6 o0)
def R_viewportref22Checkq1 (r : Int) : AH := match r with
 | o0 => ⟨sB [], 0, 0⟩
abbrev G_viewportref22Checkq1 (r : Int) : Prop := Gv P (.func 5) A_viewportref22Checkq1 H_viewportref22Checkq1 (V_viewportref22Checkq1  r) (R_viewportref22Checkq1  r)
abbrev C_viewportref22Checkq1 (r : Int) (ins outs : BL) : CallA := ⟨0, ins, V_viewportref22Checkq1  r, R_viewportref22Checkq1  r, outs⟩
def S_viewportref22Checkq1_1 (st : Int) : XSt := match st with
 | x1_0 => (sT 66 [(0, (sW 0 0 (Args.A).length Args.cA)), (3, (i6 x1_0))], [], ⟨sB [], 0, 0⟩)
def X_viewportref22Checkq1_1 (r : (Unit) ⊕ (Unit)) : Ex × XSt := match r with
 | .inl _ => (.ret, (sT 66 [(2, (i6 (2 : Int)))], [], ⟨sB [], 0, 0⟩))
 | .inr _ => (.exit 0, (sT 66 [], [], ⟨sB [], 0, 0⟩))
abbrev Q_viewportref22Checkq1_1 (rnd : Option Nat) (st : Int) (c : Ex × XSt) : Prop := CG P rnd (fnN P 5) 0 (codeOf P 5 [false, false, true, false, true, true]) (S_viewportref22Checkq1_1 st) c
abbrev U_viewportref22Checkq1_1 (rd : Option Nat) (st : Int) (r : (Unit) ⊕ (Unit)) : Prop := CG P rd (fnN P 5) 0 (codeOf P 5 [false, true, false, true, true]) (S_viewportref22Checkq1_1 st) (X_viewportref22Checkq1_1 r)
def B_viewportref22Checkq1_1 (n : Nat) (st : Int) : Option ((Int) ⊕ ((Unit) ⊕ (Unit))) := match st with
 | x1_0 =>
  if x1_0 < (Args.A.length : Int) then
   if 0 ≤ x1_0 ∧ x1_0 < (Args.A.length : Int) then
    ((some ((Args.A).getD (x1_0).toNat (0, 0, 0, 0, 0)))).bind fun y1_3_ =>
    if (y1_3_.1) < (0 : Int) then
     some (.inr (.inl ()))
    else
     if (y1_3_.1) ≥ (64 : Int) then
      some (.inr (.inl ()))
     else
      if (y1_3_.2.1) < (0 : Int) then
       some (.inr (.inl ()))
      else
       if (y1_3_.2.1) > (y1_3_.2.2.1) then
        some (.inr (.inl ()))
       else
        if (y1_3_.2.2.2.1) < (0 : Int) then
         some (.inr (.inl ()))
        else
         if (y1_3_.2.2.2.2) < (0 : Int) then
          some (.inr (.inl ()))
         else
          if x1_0 > (0 : Int) then
           if 0 ≤ (w64 (x1_0 - (1 : Int))) ∧ (w64 (x1_0 - (1 : Int))) < (Args.A.length : Int) then
            ((some ((Args.A).getD ((w64 (x1_0 - (1 : Int)))).toNat (0, 0, 0, 0, 0)))).bind fun y1_12_ =>
            if (y1_12_.1) ≥ (y1_3_.1) then
             some (.inr (.inl ()))
            else
             some (.inl (w64 (x1_0 + (1 : Int))))
           else none
          else
           some (.inl (w64 (x1_0 + (1 : Int))))
   else none
  else
   some (.inr (.inr ()))
def m_viewportref22Checkq1_1 (n : Nat) (st : Int) : Option ((Unit) ⊕ (Unit)) := iterM (B_viewportref22Checkq1_1 n) n st
theorem q_viewportref22Checkq1_1_0 (n : Nat) {rnd : Option Nat} (x1_0 : Int) (hy1_1 : x1_0 < (Args.A.length : Int)) (hy1_2 : 0 ≤ x1_0 ∧ x1_0 < (Args.A.length : Int)) (y1_3_ : Int × Int × Int × Int × Int) (hy1_3 : (some ((Args.A).getD (x1_0).toNat (0, 0, 0, 0, 0))) = some y1_3_) (hy1_4 : (y1_3_.1) < (0 : Int)) : Q_viewportref22Checkq1_1 rnd x1_0 (X_viewportref22Checkq1_1 (.inl ())) :=
 runC2 hm (L := lT []) ⟨[2], [], 0, 0⟩ (zz 5 (xdT hy1_1) <|
zz 12 (xk1 0 Args.cA hy1_2) <|
zz 13 (lk2 hy1_3 (toNatLt hy1_2)) <|
zz 19 (xdT hy1_4) <|
ee) (by kernel_rfl)
theorem q_viewportref22Checkq1_1_1 (n : Nat) {rnd : Option Nat} (x1_0 : Int) (hy1_1 : x1_0 < (Args.A.length : Int)) (hy1_2 : 0 ≤ x1_0 ∧ x1_0 < (Args.A.length : Int)) (y1_3_ : Int × Int × Int × Int × Int) (hy1_3 : (some ((Args.A).getD (x1_0).toNat (0, 0, 0, 0, 0))) = some y1_3_) (hy1_4 : ¬ ((y1_3_.1) < (0 : Int))) (hy1_5 : (y1_3_.1) ≥ (64 : Int)) : Q_viewportref22Checkq1_1 rnd x1_0 (X_viewportref22Checkq1_1 (.inl ())) :=
 runC2 hm (L := lT []) ⟨[2], [], 0, 0⟩ (zz 5 (xdT hy1_1) <|
zz 12 (xk1 0 Args.cA hy1_2) <|
zz 13 (lk2 hy1_3 (toNatLt hy1_2)) <|
zz 19 (xdF hy1_4) <|
zz 23 (xdT hy1_5) <|
ee) (by kernel_rfl)
theorem q_viewportref22Checkq1_1_2 (n : Nat) {rnd : Option Nat} (x1_0 : Int) (hy1_1 : x1_0 < (Args.A.length : Int)) (hy1_2 : 0 ≤ x1_0 ∧ x1_0 < (Args.A.length : Int)) (y1_3_ : Int × Int × Int × Int × Int) (hy1_3 : (some ((Args.A).getD (x1_0).toNat (0, 0, 0, 0, 0))) = some y1_3_) (hy1_4 : ¬ ((y1_3_.1) < (0 : Int))) (hy1_5 : ¬ ((y1_3_.1) ≥ (64 : Int))) (hy1_6 : (y1_3_.2.1) < (0 : Int)) : Q_viewportref22Checkq1_1 rnd x1_0 (X_viewportref22Checkq1_1 (.inl ())) :=
 runC2 hm (L := lT []) ⟨[2], [], 0, 0⟩ (zz 5 (xdT hy1_1) <|
zz 12 (xk1 0 Args.cA hy1_2) <|
zz 13 (lk2 hy1_3 (toNatLt hy1_2)) <|
zz 19 (xdF hy1_4) <|
zz 23 (xdF hy1_5) <|
zz 29 (xdT hy1_6) <|
ee) (by kernel_rfl)
theorem q_viewportref22Checkq1_1_3 (n : Nat) {rnd : Option Nat} (x1_0 : Int) (hy1_1 : x1_0 < (Args.A.length : Int)) (hy1_2 : 0 ≤ x1_0 ∧ x1_0 < (Args.A.length : Int)) (y1_3_ : Int × Int × Int × Int × Int) (hy1_3 : (some ((Args.A).getD (x1_0).toNat (0, 0, 0, 0, 0))) = some y1_3_) (hy1_4 : ¬ ((y1_3_.1) < (0 : Int))) (hy1_5 : ¬ ((y1_3_.1) ≥ (64 : Int))) (hy1_6 : ¬ ((y1_3_.2.1) < (0 : Int))) (hy1_7 : (y1_3_.2.1) > (y1_3_.2.2.1)) : Q_viewportref22Checkq1_1 rnd x1_0 (X_viewportref22Checkq1_1 (.inl ())) :=
 runC2 hm (L := lT []) ⟨[2], [], 0, 0⟩ (zz 5 (xdT hy1_1) <|
zz 12 (xk1 0 Args.cA hy1_2) <|
zz 13 (lk2 hy1_3 (toNatLt hy1_2)) <|
zz 19 (xdF hy1_4) <|
zz 23 (xdF hy1_5) <|
zz 29 (xdF hy1_6) <|
zz 38 (xdT hy1_7) <|
ee) (by kernel_rfl)
theorem q_viewportref22Checkq1_1_4 (n : Nat) {rnd : Option Nat} (x1_0 : Int) (hy1_1 : x1_0 < (Args.A.length : Int)) (hy1_2 : 0 ≤ x1_0 ∧ x1_0 < (Args.A.length : Int)) (y1_3_ : Int × Int × Int × Int × Int) (hy1_3 : (some ((Args.A).getD (x1_0).toNat (0, 0, 0, 0, 0))) = some y1_3_) (hy1_4 : ¬ ((y1_3_.1) < (0 : Int))) (hy1_5 : ¬ ((y1_3_.1) ≥ (64 : Int))) (hy1_6 : ¬ ((y1_3_.2.1) < (0 : Int))) (hy1_7 : ¬ ((y1_3_.2.1) > (y1_3_.2.2.1))) (hy1_8 : (y1_3_.2.2.2.1) < (0 : Int)) : Q_viewportref22Checkq1_1 rnd x1_0 (X_viewportref22Checkq1_1 (.inl ())) :=
 runC2 hm (L := lT []) ⟨[2], [], 0, 0⟩ (zz 5 (xdT hy1_1) <|
zz 12 (xk1 0 Args.cA hy1_2) <|
zz 13 (lk2 hy1_3 (toNatLt hy1_2)) <|
zz 19 (xdF hy1_4) <|
zz 23 (xdF hy1_5) <|
zz 29 (xdF hy1_6) <|
zz 38 (xdF hy1_7) <|
zz 43 (xdT hy1_8) <|
ee) (by kernel_rfl)
theorem q_viewportref22Checkq1_1_5 (n : Nat) {rnd : Option Nat} (x1_0 : Int) (hy1_1 : x1_0 < (Args.A.length : Int)) (hy1_2 : 0 ≤ x1_0 ∧ x1_0 < (Args.A.length : Int)) (y1_3_ : Int × Int × Int × Int × Int) (hy1_3 : (some ((Args.A).getD (x1_0).toNat (0, 0, 0, 0, 0))) = some y1_3_) (hy1_4 : ¬ ((y1_3_.1) < (0 : Int))) (hy1_5 : ¬ ((y1_3_.1) ≥ (64 : Int))) (hy1_6 : ¬ ((y1_3_.2.1) < (0 : Int))) (hy1_7 : ¬ ((y1_3_.2.1) > (y1_3_.2.2.1))) (hy1_8 : ¬ ((y1_3_.2.2.2.1) < (0 : Int))) (hy1_9 : (y1_3_.2.2.2.2) < (0 : Int)) : Q_viewportref22Checkq1_1 rnd x1_0 (X_viewportref22Checkq1_1 (.inl ())) :=
 runC2 hm (L := lT []) ⟨[2], [], 0, 0⟩ (zz 5 (xdT hy1_1) <|
zz 12 (xk1 0 Args.cA hy1_2) <|
zz 13 (lk2 hy1_3 (toNatLt hy1_2)) <|
zz 19 (xdF hy1_4) <|
zz 23 (xdF hy1_5) <|
zz 29 (xdF hy1_6) <|
zz 38 (xdF hy1_7) <|
zz 43 (xdF hy1_8) <|
zz 48 (xdT hy1_9) <|
ee) (by kernel_rfl)
theorem q_viewportref22Checkq1_1_6 (n : Nat) {rnd : Option Nat} (x1_0 : Int) (hy1_1 : x1_0 < (Args.A.length : Int)) (hy1_2 : 0 ≤ x1_0 ∧ x1_0 < (Args.A.length : Int)) (y1_3_ : Int × Int × Int × Int × Int) (hy1_3 : (some ((Args.A).getD (x1_0).toNat (0, 0, 0, 0, 0))) = some y1_3_) (hy1_4 : ¬ ((y1_3_.1) < (0 : Int))) (hy1_5 : ¬ ((y1_3_.1) ≥ (64 : Int))) (hy1_6 : ¬ ((y1_3_.2.1) < (0 : Int))) (hy1_7 : ¬ ((y1_3_.2.1) > (y1_3_.2.2.1))) (hy1_8 : ¬ ((y1_3_.2.2.2.1) < (0 : Int))) (hy1_9 : ¬ ((y1_3_.2.2.2.2) < (0 : Int))) (hy1_10 : x1_0 > (0 : Int)) (hy1_11 : 0 ≤ (w64 (x1_0 - (1 : Int))) ∧ (w64 (x1_0 - (1 : Int))) < (Args.A.length : Int)) (y1_12_ : Int × Int × Int × Int × Int) (hy1_12 : (some ((Args.A).getD ((w64 (x1_0 - (1 : Int)))).toNat (0, 0, 0, 0, 0))) = some y1_12_) (hy1_13 : (y1_12_.1) ≥ (y1_3_.1)) : Q_viewportref22Checkq1_1 rnd x1_0 (X_viewportref22Checkq1_1 (.inl ())) :=
 runC2 hm (L := lT []) ⟨[2], [], 0, 0⟩ (zz 5 (xdT hy1_1) <|
zz 12 (xk1 0 Args.cA hy1_2) <|
zz 13 (lk2 hy1_3 (toNatLt hy1_2)) <|
zz 19 (xdF hy1_4) <|
zz 23 (xdF hy1_5) <|
zz 29 (xdF hy1_6) <|
zz 38 (xdF hy1_7) <|
zz 43 (xdF hy1_8) <|
zz 48 (xdF hy1_9) <|
zz 52 (xdT hy1_10) <|
zz 57 (xk1 0 Args.cA hy1_11) <|
zz 58 (fk3 (((w64 (x1_0 - (1 : Int)))).toNat * 5)) <|
zz 59 (lk4 hy1_12 (toNatLt hy1_11)) <|
zz 62 (xdT hy1_13) <|
ee) (by kernel_rfl)
theorem q_viewportref22Checkq1_1_7 (n : Nat) {rnd : Option Nat} (x1_0 : Int) (hy1_1 : x1_0 < (Args.A.length : Int)) (hy1_2 : 0 ≤ x1_0 ∧ x1_0 < (Args.A.length : Int)) (y1_3_ : Int × Int × Int × Int × Int) (hy1_3 : (some ((Args.A).getD (x1_0).toNat (0, 0, 0, 0, 0))) = some y1_3_) (hy1_4 : ¬ ((y1_3_.1) < (0 : Int))) (hy1_5 : ¬ ((y1_3_.1) ≥ (64 : Int))) (hy1_6 : ¬ ((y1_3_.2.1) < (0 : Int))) (hy1_7 : ¬ ((y1_3_.2.1) > (y1_3_.2.2.1))) (hy1_8 : ¬ ((y1_3_.2.2.2.1) < (0 : Int))) (hy1_9 : ¬ ((y1_3_.2.2.2.2) < (0 : Int))) (hy1_10 : x1_0 > (0 : Int)) (hy1_11 : 0 ≤ (w64 (x1_0 - (1 : Int))) ∧ (w64 (x1_0 - (1 : Int))) < (Args.A.length : Int)) (y1_12_ : Int × Int × Int × Int × Int) (hy1_12 : (some ((Args.A).getD ((w64 (x1_0 - (1 : Int)))).toNat (0, 0, 0, 0, 0))) = some y1_12_) (hy1_13 : ¬ ((y1_12_.1) ≥ (y1_3_.1))) : Q_viewportref22Checkq1_1 rnd x1_0 (.normal, S_viewportref22Checkq1_1 (w64 (x1_0 + (1 : Int)))) :=
 runC2 hm (L := lT []) ⟨[0, 3], [], 0, 0⟩ (zz 5 (xdT hy1_1) <|
zz 12 (xk1 0 Args.cA hy1_2) <|
zz 13 (lk2 hy1_3 (toNatLt hy1_2)) <|
zz 19 (xdF hy1_4) <|
zz 23 (xdF hy1_5) <|
zz 29 (xdF hy1_6) <|
zz 38 (xdF hy1_7) <|
zz 43 (xdF hy1_8) <|
zz 48 (xdF hy1_9) <|
zz 52 (xdT hy1_10) <|
zz 57 (xk1 0 Args.cA hy1_11) <|
zz 58 (fk3 (((w64 (x1_0 - (1 : Int)))).toNat * 5)) <|
zz 59 (lk4 hy1_12 (toNatLt hy1_11)) <|
zz 62 (xdF hy1_13) <|
ee) (by kernel_rfl)
theorem q_viewportref22Checkq1_1_8 (n : Nat) {rnd : Option Nat} (x1_0 : Int) (hy1_1 : x1_0 < (Args.A.length : Int)) (hy1_2 : 0 ≤ x1_0 ∧ x1_0 < (Args.A.length : Int)) (y1_3_ : Int × Int × Int × Int × Int) (hy1_3 : (some ((Args.A).getD (x1_0).toNat (0, 0, 0, 0, 0))) = some y1_3_) (hy1_4 : ¬ ((y1_3_.1) < (0 : Int))) (hy1_5 : ¬ ((y1_3_.1) ≥ (64 : Int))) (hy1_6 : ¬ ((y1_3_.2.1) < (0 : Int))) (hy1_7 : ¬ ((y1_3_.2.1) > (y1_3_.2.2.1))) (hy1_8 : ¬ ((y1_3_.2.2.2.1) < (0 : Int))) (hy1_9 : ¬ ((y1_3_.2.2.2.2) < (0 : Int))) (hy1_10 : ¬ (x1_0 > (0 : Int))) : Q_viewportref22Checkq1_1 rnd x1_0 (.normal, S_viewportref22Checkq1_1 (w64 (x1_0 + (1 : Int)))) :=
 runC2 hm (L := lT []) ⟨[0, 3], [], 0, 0⟩ (zz 5 (xdT hy1_1) <|
zz 12 (xk1 0 Args.cA hy1_2) <|
zz 13 (lk2 hy1_3 (toNatLt hy1_2)) <|
zz 19 (xdF hy1_4) <|
zz 23 (xdF hy1_5) <|
zz 29 (xdF hy1_6) <|
zz 38 (xdF hy1_7) <|
zz 43 (xdF hy1_8) <|
zz 48 (xdF hy1_9) <|
zz 52 (xdF hy1_10) <|
ee) (by kernel_rfl)
theorem q_viewportref22Checkq1_1_9 (n : Nat) {rnd : Option Nat} (x1_0 : Int) (hy1_1 : ¬ (x1_0 < (Args.A.length : Int))) : Q_viewportref22Checkq1_1 rnd x1_0 (X_viewportref22Checkq1_1 (.inr ())) :=
 runC2 hm (L := lT []) ⟨[], [], 0, 0⟩ (zz 5 (xdF hy1_1) <|
ee) (by kernel_rfl)
theorem m_viewportref22Checkq1_1_ok (n : Nat) {rnd : Option Nat} (st : Int) (r : (Unit) ⊕ (Unit)) (h : m_viewportref22Checkq1_1 n st = some r) : CG P rnd (fnN P 5) 0 (codeOf P 5 [false, true, false, true, true]) (S_viewportref22Checkq1_1 st) (X_viewportref22Checkq1_1 r) :=
 CG.iter (b := codeOf P 5 [false, false, true, false, true, true]) (by kernel_rfl) (body := B_viewportref22Checkq1_1 n) (S := S_viewportref22Checkq1_1) (X := X_viewportref22Checkq1_1)
  (fun x1_0 s' h => by
  unfold B_viewportref22Checkq1_1 at h
  dsimp only at h
  by_cases hy1_1 : x1_0 < (Args.A.length : Int)
  ·rw [if_pos hy1_1] at h
   by_cases hy1_2 : 0 ≤ x1_0 ∧ x1_0 < (Args.A.length : Int)
   ·rw [if_pos hy1_2] at h
    obtain ⟨y1_3_, hy1_3, h⟩ := Option.bind_eq_some_iff.1 h
    by_cases hy1_4 : (y1_3_.1) < (0 : Int)
    ·rw [if_pos hy1_4] at h
     cases h
    ·rw [if_neg hy1_4] at h
     by_cases hy1_5 : (y1_3_.1) ≥ (64 : Int)
     ·rw [if_pos hy1_5] at h
      cases h
     ·rw [if_neg hy1_5] at h
      by_cases hy1_6 : (y1_3_.2.1) < (0 : Int)
      ·rw [if_pos hy1_6] at h
       cases h
      ·rw [if_neg hy1_6] at h
       by_cases hy1_7 : (y1_3_.2.1) > (y1_3_.2.2.1)
       ·rw [if_pos hy1_7] at h
        cases h
       ·rw [if_neg hy1_7] at h
        by_cases hy1_8 : (y1_3_.2.2.2.1) < (0 : Int)
        ·rw [if_pos hy1_8] at h
         cases h
        ·rw [if_neg hy1_8] at h
         by_cases hy1_9 : (y1_3_.2.2.2.2) < (0 : Int)
         ·rw [if_pos hy1_9] at h
          cases h
         ·rw [if_neg hy1_9] at h
          by_cases hy1_10 : x1_0 > (0 : Int)
          ·rw [if_pos hy1_10] at h
           by_cases hy1_11 : 0 ≤ (w64 (x1_0 - (1 : Int))) ∧ (w64 (x1_0 - (1 : Int))) < (Args.A.length : Int)
           ·rw [if_pos hy1_11] at h
            obtain ⟨y1_12_, hy1_12, h⟩ := Option.bind_eq_some_iff.1 h
            by_cases hy1_13 : (y1_12_.1) ≥ (y1_3_.1)
            ·rw [if_pos hy1_13] at h
             cases h
            ·rw [if_neg hy1_13] at h
             obtain rfl := Sum.inl.inj (oI h); exact q_viewportref22Checkq1_1_7 n x1_0 hy1_1 hy1_2 y1_3_ hy1_3 hy1_4 hy1_5 hy1_6 hy1_7 hy1_8 hy1_9 hy1_10 hy1_11 y1_12_ hy1_12 hy1_13
           ·rw [if_neg hy1_11] at h; cases h
          ·rw [if_neg hy1_10] at h
           obtain rfl := Sum.inl.inj (oI h); exact q_viewportref22Checkq1_1_8 n x1_0 hy1_1 hy1_2 y1_3_ hy1_3 hy1_4 hy1_5 hy1_6 hy1_7 hy1_8 hy1_9 hy1_10
   ·rw [if_neg hy1_2] at h; cases h
  ·rw [if_neg hy1_1] at h
   cases h)
  (fun x1_0 r h => by
  unfold B_viewportref22Checkq1_1 at h
  dsimp only at h
  by_cases hy1_1 : x1_0 < (Args.A.length : Int)
  ·rw [if_pos hy1_1] at h
   by_cases hy1_2 : 0 ≤ x1_0 ∧ x1_0 < (Args.A.length : Int)
   ·rw [if_pos hy1_2] at h
    obtain ⟨y1_3_, hy1_3, h⟩ := Option.bind_eq_some_iff.1 h
    by_cases hy1_4 : (y1_3_.1) < (0 : Int)
    ·rw [if_pos hy1_4] at h
     obtain rfl := Sum.inr.inj (oI h); exact q_viewportref22Checkq1_1_0 n x1_0 hy1_1 hy1_2 y1_3_ hy1_3 hy1_4
    ·rw [if_neg hy1_4] at h
     by_cases hy1_5 : (y1_3_.1) ≥ (64 : Int)
     ·rw [if_pos hy1_5] at h
      obtain rfl := Sum.inr.inj (oI h); exact q_viewportref22Checkq1_1_1 n x1_0 hy1_1 hy1_2 y1_3_ hy1_3 hy1_4 hy1_5
     ·rw [if_neg hy1_5] at h
      by_cases hy1_6 : (y1_3_.2.1) < (0 : Int)
      ·rw [if_pos hy1_6] at h
       obtain rfl := Sum.inr.inj (oI h); exact q_viewportref22Checkq1_1_2 n x1_0 hy1_1 hy1_2 y1_3_ hy1_3 hy1_4 hy1_5 hy1_6
      ·rw [if_neg hy1_6] at h
       by_cases hy1_7 : (y1_3_.2.1) > (y1_3_.2.2.1)
       ·rw [if_pos hy1_7] at h
        obtain rfl := Sum.inr.inj (oI h); exact q_viewportref22Checkq1_1_3 n x1_0 hy1_1 hy1_2 y1_3_ hy1_3 hy1_4 hy1_5 hy1_6 hy1_7
       ·rw [if_neg hy1_7] at h
        by_cases hy1_8 : (y1_3_.2.2.2.1) < (0 : Int)
        ·rw [if_pos hy1_8] at h
         obtain rfl := Sum.inr.inj (oI h); exact q_viewportref22Checkq1_1_4 n x1_0 hy1_1 hy1_2 y1_3_ hy1_3 hy1_4 hy1_5 hy1_6 hy1_7 hy1_8
        ·rw [if_neg hy1_8] at h
         by_cases hy1_9 : (y1_3_.2.2.2.2) < (0 : Int)
         ·rw [if_pos hy1_9] at h
          obtain rfl := Sum.inr.inj (oI h); exact q_viewportref22Checkq1_1_5 n x1_0 hy1_1 hy1_2 y1_3_ hy1_3 hy1_4 hy1_5 hy1_6 hy1_7 hy1_8 hy1_9
         ·rw [if_neg hy1_9] at h
          by_cases hy1_10 : x1_0 > (0 : Int)
          ·rw [if_pos hy1_10] at h
           by_cases hy1_11 : 0 ≤ (w64 (x1_0 - (1 : Int))) ∧ (w64 (x1_0 - (1 : Int))) < (Args.A.length : Int)
           ·rw [if_pos hy1_11] at h
            obtain ⟨y1_12_, hy1_12, h⟩ := Option.bind_eq_some_iff.1 h
            by_cases hy1_13 : (y1_12_.1) ≥ (y1_3_.1)
            ·rw [if_pos hy1_13] at h
             obtain rfl := Sum.inr.inj (oI h); exact q_viewportref22Checkq1_1_6 n x1_0 hy1_1 hy1_2 y1_3_ hy1_3 hy1_4 hy1_5 hy1_6 hy1_7 hy1_8 hy1_9 hy1_10 hy1_11 y1_12_ hy1_12 hy1_13
            ·rw [if_neg hy1_13] at h
             cases h
           ·rw [if_neg hy1_11] at h; cases h
          ·rw [if_neg hy1_10] at h
           cases h
   ·rw [if_neg hy1_2] at h; cases h
  ·rw [if_neg hy1_1] at h
   obtain rfl := Sum.inr.inj (oI h); exact q_viewportref22Checkq1_1_9 n x1_0 hy1_1)
  (fun r => by intro hx; rcases r with _ | _ <;> cases hx) h
def m_viewportref22Checkq1 (n : Nat) : Option (Int) :=
 if (Args.A.length : Int) > (32 : Int) then
  some 2
 else
  match m_viewportref22Checkq1_1 n 0 with
  | none => none
  | some (.inl _) =>
   some 2
  | some (.inr _) =>
   some 0
theorem m_viewportref22Checkq1_ok (n : Nat) (r : Int) (h : m_viewportref22Checkq1 n = some r) : Gv P (.func 5) A_viewportref22Checkq1 H_viewportref22Checkq1 (V_viewportref22Checkq1  r) (R_viewportref22Checkq1  r) := by
 unfold m_viewportref22Checkq1 at h
 by_cases hc1 : (Args.A.length : Int) > (32 : Int)
 ·rw [if_pos hc1] at h
  obtain rfl := oI h; exact (runF2 hm (L := lT []) ⟨[2], [], 0, 0⟩ (zz 6 (xdT hc1) ee) (by kernel_rfl))
 ·rw [if_neg hc1] at h
  rcases hc2 : m_viewportref22Checkq1_1 n 0 with _ | (⟨⟩ | ⟨⟩)
  ·rw [hc2] at h; cases h
  ·rw [hc2] at h
   dsimp only at h
   obtain rfl := oI h; exact (runF2 hm (L := lT [(12, ⟨⟨[0, 3], [], 0, 0⟩, (X_viewportref22Checkq1_1 (.inl ())).1, (X_viewportref22Checkq1_1 (.inl ())).2⟩)]) ⟨[2], [], 0, 0⟩ (zz 6 (xdF hc1) <|
ww (p := U_viewportref22Checkq1_1 none 0 (.inl ())) (m_viewportref22Checkq1_1_ok n 0 (.inl ()) hc2) ee) (by kernel_rfl))
  ·rw [hc2] at h
   dsimp only at h
   obtain rfl := oI h; exact (runF2 hm (L := lT [(12, ⟨⟨[0, 3], [], 0, 0⟩, (X_viewportref22Checkq1_1 (.inr ())).1, (X_viewportref22Checkq1_1 (.inr ())).2⟩)]) ⟨[2], [], 0, 0⟩ (zz 6 (xdF hc1) <|
ww (p := U_viewportref22Checkq1_1 none 0 (.inr ())) (m_viewportref22Checkq1_1_ok n 0 (.inr ()) hc2) ee) (by kernel_rfl))

def A_jobsorderq1 (a0 : Int) (a1 : Int) (a2 : Int) : List Value := [(Value.agg #[(i6 a0), (i6 a1)]), (i6 a2)]
def H_jobsorderq1 (a0 : Int) (a1 : Int) (a2 : Int) : AH := ⟨sB [], 0, 0⟩
def V_jobsorderq1 (a0 : Int) (a1 : Int) (a2 : Int) (r : Unit) : Value := match r with
 | _ => (Value.func (.func 24) #[] #[(pN 0 0), (pN 1 0)])
def R_jobsorderq1 (a0 : Int) (a1 : Int) (a2 : Int) (r : Unit) : AH := match r with
 | _ => ⟨sB [(0, (some (.cells (layT [(i6 a2)]) 3))), (1, (some (.cells (layT [(i6 a0), (i6 a1)]) 24)))], 2, 0⟩
abbrev G_jobsorderq1 (a0 : Int) (a1 : Int) (a2 : Int) (r : Unit) : Prop := Gv P (.func 16) (A_jobsorderq1 a0 a1 a2) (H_jobsorderq1 a0 a1 a2) (V_jobsorderq1 a0 a1 a2 r) (R_jobsorderq1 a0 a1 a2 r)
abbrev C_jobsorderq1 (a0 : Int) (a1 : Int) (a2 : Int) (r : Unit) (ins outs : BL) : CallA := ⟨0, ins, V_jobsorderq1 a0 a1 a2 r, R_jobsorderq1 a0 a1 a2 r, outs⟩
def m_jobsorderq1 (n : Nat) (a0 : Int) (a1 : Int) (a2 : Int) : Option (Unit) :=
 some ()
theorem m_jobsorderq1_ok (n : Nat) (a0 : Int) (a1 : Int) (a2 : Int) (r : Unit) (h : m_jobsorderq1 n a0 a1 a2 = some r) : Gv P (.func 16) (A_jobsorderq1 a0 a1 a2) (H_jobsorderq1 a0 a1 a2) (V_jobsorderq1 a0 a1 a2 r) (R_jobsorderq1 a0 a1 a2 r) := by
 unfold m_jobsorderq1 at h
 obtain rfl := oI h; exact (runF2 hm (L := lT []) ⟨[4], [(0, 1, false), (1, 0, false)], 2, 0⟩ (ee) (by kernel_rfl))

def A_heapNewapiDirtyq1 (a0 : Int) (a1 : Int) (a2 : Int) : List Value := [(Value.func (.func 24) #[] #[(pN 0 0), (pN 1 0)])]
def H_heapNewapiDirtyq1 (a0 : Int) (a1 : Int) (a2 : Int) : AH := ⟨sB [(0, (some (.cells (layT [(i6 a0)]) 3))), (1, (some (.cells (layT [(i6 a1), (i6 a2)]) 24)))], 2, 2⟩
def V_heapNewapiDirtyq1 (a0 : Int) (a1 : Int) (a2 : Int) (r : Unit) : Value := match r with
 | _ => (pN 2 0)
def R_heapNewapiDirtyq1 (a0 : Int) (a1 : Int) (a2 : Int) (r : Unit) : AH := match r with
 | _ => ⟨sB [(0, (some (.cells (layT [(i6 a0)]) 3))), (1, (some (.cells (layT [(i6 a1), (i6 a2)]) 24))), (2, (some (.cells (layT [(pN 2 0), (Value.func (.func 24) #[] #[(pN 0 0), (pN 1 0)]), (Value.slice none 0 0), (i6 (0 : Int))]) 53)))], 3, 2⟩
abbrev G_heapNewapiDirtyq1 (a0 : Int) (a1 : Int) (a2 : Int) (r : Unit) : Prop := Gv P (.func 15) (A_heapNewapiDirtyq1 a0 a1 a2) (H_heapNewapiDirtyq1 a0 a1 a2) (V_heapNewapiDirtyq1 a0 a1 a2 r) (R_heapNewapiDirtyq1 a0 a1 a2 r)
abbrev C_heapNewapiDirtyq1 (a0 : Int) (a1 : Int) (a2 : Int) (r : Unit) (ins outs : BL) : CallA := ⟨2, ins, V_heapNewapiDirtyq1 a0 a1 a2 r, R_heapNewapiDirtyq1 a0 a1 a2 r, outs⟩
def m_heapNewapiDirtyq1 (n : Nat) (a0 : Int) (a1 : Int) (a2 : Int) : Option (Unit) :=
 some ()
theorem m_heapNewapiDirtyq1_ok (n : Nat) (a0 : Int) (a1 : Int) (a2 : Int) (r : Unit) (h : m_heapNewapiDirtyq1 n a0 a1 a2 = some r) : Gv P (.func 15) (A_heapNewapiDirtyq1 a0 a1 a2) (H_heapNewapiDirtyq1 a0 a1 a2) (V_heapNewapiDirtyq1 a0 a1 a2 r) (R_heapNewapiDirtyq1 a0 a1 a2 r) := by
 unfold m_heapNewapiDirtyq1 at h
 obtain rfl := oI h; exact (runF2 hm (L := lT []) ⟨[2], [(0, 0, false), (1, 1, false), (2, 2, false)], 3, 2⟩ (ee) (by kernel_rfl))

def A_dirtyCheckq1 : List Value := [(sW 0 0 (Args.A).length Args.cA)]
def H_dirtyCheckq1 : AH := ⟨sB [], 0, 0⟩
def V_dirtyCheckq1 (r : Int) : Value := match r with
 | o0 => (i6 o0)
def R_dirtyCheckq1 (r : Int) : AH := match r with
 | o0 => ⟨sB [], 0, 0⟩
abbrev G_dirtyCheckq1 (r : Int) : Prop := Gv P (.func 17) A_dirtyCheckq1 H_dirtyCheckq1 (V_dirtyCheckq1  r) (R_dirtyCheckq1  r)
abbrev C_dirtyCheckq1 (r : Int) (ins outs : BL) : CallA := ⟨0, ins, V_dirtyCheckq1  r, R_dirtyCheckq1  r, outs⟩
def S_dirtyCheckq1_1 (x1_1 : Int) (st : Int × Int) : XSt := match st with
 | (x1_0, x1_2) => (sT 52 [(3, (i6 x1_0)), (9, (sW 0 0 (Args.A).length Args.cA)), (10, (i6 x1_1)), (11, (i6 x1_2))], [], ⟨sB [], 0, 0⟩)
def X_dirtyCheckq1_1 (x1_1 : Int) (r : (Unit) ⊕ (Unit)) : Ex × XSt := match r with
 | .inl _ => (.ret, (sT 52 [(2, (i6 (2 : Int)))], [], ⟨sB [], 0, 0⟩))
 | .inr _ => (.exit 0, (sT 52 [], [], ⟨sB [], 0, 0⟩))
abbrev Q_dirtyCheckq1_1 (rnd : Option Nat) (x1_1 : Int) (st : Int × Int) (c : Ex × XSt) : Prop := CG P rnd (fnN P 17) 0 (codeOf P 17 [false, false, true, false, true, true, true]) (S_dirtyCheckq1_1 x1_1 st) c
abbrev U_dirtyCheckq1_1 (rd : Option Nat) (x1_1 : Int) (st : Int × Int) (r : (Unit) ⊕ (Unit)) : Prop := CG P rd (fnN P 17) 0 (codeOf P 17 [false, true, false, true, true, true]) (S_dirtyCheckq1_1 x1_1 st) (X_dirtyCheckq1_1 x1_1 r)
def B_dirtyCheckq1_1 (n : Nat) (x1_1 : Int) (st : Int × Int) : Option ((Int × Int) ⊕ ((Unit) ⊕ (Unit))) := match st with
 | (x1_0, x1_2) =>
  if x1_2 < x1_1 then
   if 0 ≤ x1_2 ∧ x1_2 < (Args.A.length : Int) then
    ((some ((Args.A).getD (x1_2).toNat (0, 0, 0, 0, 0)))).bind fun y1_3_ =>
    if (y1_3_.1) ≤ x1_0 then
     some (.inr (.inl ()))
    else
     if (y1_3_.1) > (63 : Int) then
      some (.inr (.inl ()))
     else
      if (y1_3_.2.1) < (0 : Int) then
       some (.inr (.inl ()))
      else
       if (y1_3_.2.1) > (y1_3_.2.2.1) then
        some (.inr (.inl ()))
       else
        if (y1_3_.2.2.2.1) < (0 : Int) then
         some (.inr (.inl ()))
        else
         if (y1_3_.2.2.2.2) < (0 : Int) then
          some (.inr (.inl ()))
         else
          some (.inl ((y1_3_.1), (w64 (x1_2 + (1 : Int)))))
   else none
  else
   some (.inr (.inr ()))
def m_dirtyCheckq1_1 (n : Nat) (x1_1 : Int) (st : Int × Int) : Option ((Unit) ⊕ (Unit)) := iterM (B_dirtyCheckq1_1 n x1_1) n st
theorem q_dirtyCheckq1_1_0 (n : Nat) {rnd : Option Nat} (x1_0 x1_1 x1_2 : Int) (hy1_1 : x1_2 < x1_1) (hy1_2 : 0 ≤ x1_2 ∧ x1_2 < (Args.A.length : Int)) (y1_3_ : Int × Int × Int × Int × Int) (hy1_3 : (some ((Args.A).getD (x1_2).toNat (0, 0, 0, 0, 0))) = some y1_3_) (hy1_4 : (y1_3_.1) ≤ x1_0) : Q_dirtyCheckq1_1 rnd x1_1 (x1_0, x1_2) (X_dirtyCheckq1_1 x1_1 (.inl ())) :=
 runC2 hm (L := lT []) ⟨[2], [], 0, 0⟩ (zz 1 (xdT hy1_1) <|
zz 7 (xk1 0 Args.cA hy1_2) <|
zz 8 (lk2 hy1_3 (toNatLt hy1_2)) <|
zz 16 (xdT hy1_4) <|
ee) (by kernel_rfl)
theorem q_dirtyCheckq1_1_1 (n : Nat) {rnd : Option Nat} (x1_0 x1_1 x1_2 : Int) (hy1_1 : x1_2 < x1_1) (hy1_2 : 0 ≤ x1_2 ∧ x1_2 < (Args.A.length : Int)) (y1_3_ : Int × Int × Int × Int × Int) (hy1_3 : (some ((Args.A).getD (x1_2).toNat (0, 0, 0, 0, 0))) = some y1_3_) (hy1_4 : ¬ ((y1_3_.1) ≤ x1_0)) (hy1_5 : (y1_3_.1) > (63 : Int)) : Q_dirtyCheckq1_1 rnd x1_1 (x1_0, x1_2) (X_dirtyCheckq1_1 x1_1 (.inl ())) :=
 runC2 hm (L := lT []) ⟨[2], [], 0, 0⟩ (zz 1 (xdT hy1_1) <|
zz 7 (xk1 0 Args.cA hy1_2) <|
zz 8 (lk2 hy1_3 (toNatLt hy1_2)) <|
zz 16 (xdF hy1_4) <|
zz 20 (xdT hy1_5) <|
ee) (by kernel_rfl)
theorem q_dirtyCheckq1_1_2 (n : Nat) {rnd : Option Nat} (x1_0 x1_1 x1_2 : Int) (hy1_1 : x1_2 < x1_1) (hy1_2 : 0 ≤ x1_2 ∧ x1_2 < (Args.A.length : Int)) (y1_3_ : Int × Int × Int × Int × Int) (hy1_3 : (some ((Args.A).getD (x1_2).toNat (0, 0, 0, 0, 0))) = some y1_3_) (hy1_4 : ¬ ((y1_3_.1) ≤ x1_0)) (hy1_5 : ¬ ((y1_3_.1) > (63 : Int))) (hy1_6 : (y1_3_.2.1) < (0 : Int)) : Q_dirtyCheckq1_1 rnd x1_1 (x1_0, x1_2) (X_dirtyCheckq1_1 x1_1 (.inl ())) :=
 runC2 hm (L := lT []) ⟨[2], [], 0, 0⟩ (zz 1 (xdT hy1_1) <|
zz 7 (xk1 0 Args.cA hy1_2) <|
zz 8 (lk2 hy1_3 (toNatLt hy1_2)) <|
zz 16 (xdF hy1_4) <|
zz 20 (xdF hy1_5) <|
zz 26 (xdT hy1_6) <|
ee) (by kernel_rfl)
theorem q_dirtyCheckq1_1_3 (n : Nat) {rnd : Option Nat} (x1_0 x1_1 x1_2 : Int) (hy1_1 : x1_2 < x1_1) (hy1_2 : 0 ≤ x1_2 ∧ x1_2 < (Args.A.length : Int)) (y1_3_ : Int × Int × Int × Int × Int) (hy1_3 : (some ((Args.A).getD (x1_2).toNat (0, 0, 0, 0, 0))) = some y1_3_) (hy1_4 : ¬ ((y1_3_.1) ≤ x1_0)) (hy1_5 : ¬ ((y1_3_.1) > (63 : Int))) (hy1_6 : ¬ ((y1_3_.2.1) < (0 : Int))) (hy1_7 : (y1_3_.2.1) > (y1_3_.2.2.1)) : Q_dirtyCheckq1_1 rnd x1_1 (x1_0, x1_2) (X_dirtyCheckq1_1 x1_1 (.inl ())) :=
 runC2 hm (L := lT []) ⟨[2], [], 0, 0⟩ (zz 1 (xdT hy1_1) <|
zz 7 (xk1 0 Args.cA hy1_2) <|
zz 8 (lk2 hy1_3 (toNatLt hy1_2)) <|
zz 16 (xdF hy1_4) <|
zz 20 (xdF hy1_5) <|
zz 26 (xdF hy1_6) <|
zz 35 (xdT hy1_7) <|
ee) (by kernel_rfl)
theorem q_dirtyCheckq1_1_4 (n : Nat) {rnd : Option Nat} (x1_0 x1_1 x1_2 : Int) (hy1_1 : x1_2 < x1_1) (hy1_2 : 0 ≤ x1_2 ∧ x1_2 < (Args.A.length : Int)) (y1_3_ : Int × Int × Int × Int × Int) (hy1_3 : (some ((Args.A).getD (x1_2).toNat (0, 0, 0, 0, 0))) = some y1_3_) (hy1_4 : ¬ ((y1_3_.1) ≤ x1_0)) (hy1_5 : ¬ ((y1_3_.1) > (63 : Int))) (hy1_6 : ¬ ((y1_3_.2.1) < (0 : Int))) (hy1_7 : ¬ ((y1_3_.2.1) > (y1_3_.2.2.1))) (hy1_8 : (y1_3_.2.2.2.1) < (0 : Int)) : Q_dirtyCheckq1_1 rnd x1_1 (x1_0, x1_2) (X_dirtyCheckq1_1 x1_1 (.inl ())) :=
 runC2 hm (L := lT []) ⟨[2], [], 0, 0⟩ (zz 1 (xdT hy1_1) <|
zz 7 (xk1 0 Args.cA hy1_2) <|
zz 8 (lk2 hy1_3 (toNatLt hy1_2)) <|
zz 16 (xdF hy1_4) <|
zz 20 (xdF hy1_5) <|
zz 26 (xdF hy1_6) <|
zz 35 (xdF hy1_7) <|
zz 40 (xdT hy1_8) <|
ee) (by kernel_rfl)
theorem q_dirtyCheckq1_1_5 (n : Nat) {rnd : Option Nat} (x1_0 x1_1 x1_2 : Int) (hy1_1 : x1_2 < x1_1) (hy1_2 : 0 ≤ x1_2 ∧ x1_2 < (Args.A.length : Int)) (y1_3_ : Int × Int × Int × Int × Int) (hy1_3 : (some ((Args.A).getD (x1_2).toNat (0, 0, 0, 0, 0))) = some y1_3_) (hy1_4 : ¬ ((y1_3_.1) ≤ x1_0)) (hy1_5 : ¬ ((y1_3_.1) > (63 : Int))) (hy1_6 : ¬ ((y1_3_.2.1) < (0 : Int))) (hy1_7 : ¬ ((y1_3_.2.1) > (y1_3_.2.2.1))) (hy1_8 : ¬ ((y1_3_.2.2.2.1) < (0 : Int))) (hy1_9 : (y1_3_.2.2.2.2) < (0 : Int)) : Q_dirtyCheckq1_1 rnd x1_1 (x1_0, x1_2) (X_dirtyCheckq1_1 x1_1 (.inl ())) :=
 runC2 hm (L := lT []) ⟨[2], [], 0, 0⟩ (zz 1 (xdT hy1_1) <|
zz 7 (xk1 0 Args.cA hy1_2) <|
zz 8 (lk2 hy1_3 (toNatLt hy1_2)) <|
zz 16 (xdF hy1_4) <|
zz 20 (xdF hy1_5) <|
zz 26 (xdF hy1_6) <|
zz 35 (xdF hy1_7) <|
zz 40 (xdF hy1_8) <|
zz 45 (xdT hy1_9) <|
ee) (by kernel_rfl)
theorem q_dirtyCheckq1_1_6 (n : Nat) {rnd : Option Nat} (x1_0 x1_1 x1_2 : Int) (hy1_1 : x1_2 < x1_1) (hy1_2 : 0 ≤ x1_2 ∧ x1_2 < (Args.A.length : Int)) (y1_3_ : Int × Int × Int × Int × Int) (hy1_3 : (some ((Args.A).getD (x1_2).toNat (0, 0, 0, 0, 0))) = some y1_3_) (hy1_4 : ¬ ((y1_3_.1) ≤ x1_0)) (hy1_5 : ¬ ((y1_3_.1) > (63 : Int))) (hy1_6 : ¬ ((y1_3_.2.1) < (0 : Int))) (hy1_7 : ¬ ((y1_3_.2.1) > (y1_3_.2.2.1))) (hy1_8 : ¬ ((y1_3_.2.2.2.1) < (0 : Int))) (hy1_9 : ¬ ((y1_3_.2.2.2.2) < (0 : Int))) : Q_dirtyCheckq1_1 rnd x1_1 (x1_0, x1_2) (.normal, S_dirtyCheckq1_1 x1_1 ((y1_3_.1), (w64 (x1_2 + (1 : Int))))) :=
 runC2 hm (L := lT []) ⟨[3, 9, 10, 11], [], 0, 0⟩ (zz 1 (xdT hy1_1) <|
zz 7 (xk1 0 Args.cA hy1_2) <|
zz 8 (lk2 hy1_3 (toNatLt hy1_2)) <|
zz 16 (xdF hy1_4) <|
zz 20 (xdF hy1_5) <|
zz 26 (xdF hy1_6) <|
zz 35 (xdF hy1_7) <|
zz 40 (xdF hy1_8) <|
zz 45 (xdF hy1_9) <|
ee) (by kernel_rfl)
theorem q_dirtyCheckq1_1_7 (n : Nat) {rnd : Option Nat} (x1_0 x1_1 x1_2 : Int) (hy1_1 : ¬ (x1_2 < x1_1)) : Q_dirtyCheckq1_1 rnd x1_1 (x1_0, x1_2) (X_dirtyCheckq1_1 x1_1 (.inr ())) :=
 runC2 hm (L := lT []) ⟨[], [], 0, 0⟩ (zz 1 (xdF hy1_1) <|
ee) (by kernel_rfl)
theorem m_dirtyCheckq1_1_ok (n : Nat) {rnd : Option Nat} (x1_1 : Int) (st : Int × Int) (r : (Unit) ⊕ (Unit)) (h : m_dirtyCheckq1_1 n x1_1 st = some r) : CG P rnd (fnN P 17) 0 (codeOf P 17 [false, true, false, true, true, true]) (S_dirtyCheckq1_1 x1_1 st) (X_dirtyCheckq1_1 x1_1 r) :=
 CG.iter (b := codeOf P 17 [false, false, true, false, true, true, true]) (by kernel_rfl) (body := B_dirtyCheckq1_1 n x1_1) (S := S_dirtyCheckq1_1 x1_1) (X := X_dirtyCheckq1_1 x1_1)
  (fun s s' h => by
  obtain ⟨x1_0, x1_2⟩ := s
  unfold B_dirtyCheckq1_1 at h
  dsimp only at h
  by_cases hy1_1 : x1_2 < x1_1
  ·rw [if_pos hy1_1] at h
   by_cases hy1_2 : 0 ≤ x1_2 ∧ x1_2 < (Args.A.length : Int)
   ·rw [if_pos hy1_2] at h
    obtain ⟨y1_3_, hy1_3, h⟩ := Option.bind_eq_some_iff.1 h
    by_cases hy1_4 : (y1_3_.1) ≤ x1_0
    ·rw [if_pos hy1_4] at h
     cases h
    ·rw [if_neg hy1_4] at h
     by_cases hy1_5 : (y1_3_.1) > (63 : Int)
     ·rw [if_pos hy1_5] at h
      cases h
     ·rw [if_neg hy1_5] at h
      by_cases hy1_6 : (y1_3_.2.1) < (0 : Int)
      ·rw [if_pos hy1_6] at h
       cases h
      ·rw [if_neg hy1_6] at h
       by_cases hy1_7 : (y1_3_.2.1) > (y1_3_.2.2.1)
       ·rw [if_pos hy1_7] at h
        cases h
       ·rw [if_neg hy1_7] at h
        by_cases hy1_8 : (y1_3_.2.2.2.1) < (0 : Int)
        ·rw [if_pos hy1_8] at h
         cases h
        ·rw [if_neg hy1_8] at h
         by_cases hy1_9 : (y1_3_.2.2.2.2) < (0 : Int)
         ·rw [if_pos hy1_9] at h
          cases h
         ·rw [if_neg hy1_9] at h
          obtain rfl := Sum.inl.inj (oI h); exact q_dirtyCheckq1_1_6 n x1_0 x1_1 x1_2 hy1_1 hy1_2 y1_3_ hy1_3 hy1_4 hy1_5 hy1_6 hy1_7 hy1_8 hy1_9
   ·rw [if_neg hy1_2] at h; cases h
  ·rw [if_neg hy1_1] at h
   cases h)
  (fun s r h => by
  obtain ⟨x1_0, x1_2⟩ := s
  unfold B_dirtyCheckq1_1 at h
  dsimp only at h
  by_cases hy1_1 : x1_2 < x1_1
  ·rw [if_pos hy1_1] at h
   by_cases hy1_2 : 0 ≤ x1_2 ∧ x1_2 < (Args.A.length : Int)
   ·rw [if_pos hy1_2] at h
    obtain ⟨y1_3_, hy1_3, h⟩ := Option.bind_eq_some_iff.1 h
    by_cases hy1_4 : (y1_3_.1) ≤ x1_0
    ·rw [if_pos hy1_4] at h
     obtain rfl := Sum.inr.inj (oI h); exact q_dirtyCheckq1_1_0 n x1_0 x1_1 x1_2 hy1_1 hy1_2 y1_3_ hy1_3 hy1_4
    ·rw [if_neg hy1_4] at h
     by_cases hy1_5 : (y1_3_.1) > (63 : Int)
     ·rw [if_pos hy1_5] at h
      obtain rfl := Sum.inr.inj (oI h); exact q_dirtyCheckq1_1_1 n x1_0 x1_1 x1_2 hy1_1 hy1_2 y1_3_ hy1_3 hy1_4 hy1_5
     ·rw [if_neg hy1_5] at h
      by_cases hy1_6 : (y1_3_.2.1) < (0 : Int)
      ·rw [if_pos hy1_6] at h
       obtain rfl := Sum.inr.inj (oI h); exact q_dirtyCheckq1_1_2 n x1_0 x1_1 x1_2 hy1_1 hy1_2 y1_3_ hy1_3 hy1_4 hy1_5 hy1_6
      ·rw [if_neg hy1_6] at h
       by_cases hy1_7 : (y1_3_.2.1) > (y1_3_.2.2.1)
       ·rw [if_pos hy1_7] at h
        obtain rfl := Sum.inr.inj (oI h); exact q_dirtyCheckq1_1_3 n x1_0 x1_1 x1_2 hy1_1 hy1_2 y1_3_ hy1_3 hy1_4 hy1_5 hy1_6 hy1_7
       ·rw [if_neg hy1_7] at h
        by_cases hy1_8 : (y1_3_.2.2.2.1) < (0 : Int)
        ·rw [if_pos hy1_8] at h
         obtain rfl := Sum.inr.inj (oI h); exact q_dirtyCheckq1_1_4 n x1_0 x1_1 x1_2 hy1_1 hy1_2 y1_3_ hy1_3 hy1_4 hy1_5 hy1_6 hy1_7 hy1_8
        ·rw [if_neg hy1_8] at h
         by_cases hy1_9 : (y1_3_.2.2.2.2) < (0 : Int)
         ·rw [if_pos hy1_9] at h
          obtain rfl := Sum.inr.inj (oI h); exact q_dirtyCheckq1_1_5 n x1_0 x1_1 x1_2 hy1_1 hy1_2 y1_3_ hy1_3 hy1_4 hy1_5 hy1_6 hy1_7 hy1_8 hy1_9
         ·rw [if_neg hy1_9] at h
          cases h
   ·rw [if_neg hy1_2] at h; cases h
  ·rw [if_neg hy1_1] at h
   obtain rfl := Sum.inr.inj (oI h); exact q_dirtyCheckq1_1_7 n x1_0 x1_1 x1_2 hy1_1)
  (fun r => by intro hx; rcases r with _ | _ <;> cases hx) h
def m_dirtyCheckq1 (n : Nat) : Option (Int) :=
 if (Args.A.length : Int) > (32 : Int) then
  some 2
 else
  match m_dirtyCheckq1_1 n (Args.A.length : Int) ((-1), 0) with
  | none => none
  | some (.inl _) =>
   some 2
  | some (.inr _) =>
   some 0
theorem m_dirtyCheckq1_ok (n : Nat) (r : Int) (h : m_dirtyCheckq1 n = some r) : Gv P (.func 17) A_dirtyCheckq1 H_dirtyCheckq1 (V_dirtyCheckq1  r) (R_dirtyCheckq1  r) := by
 unfold m_dirtyCheckq1 at h
 by_cases hc1 : (Args.A.length : Int) > (32 : Int)
 ·rw [if_pos hc1] at h
  obtain rfl := oI h; exact (runF2 hm (L := lT []) ⟨[2], [], 0, 0⟩ (zz 6 (xdT hc1) ee) (by kernel_rfl))
 ·rw [if_neg hc1] at h
  rcases hc2 : m_dirtyCheckq1_1 n (Args.A.length : Int) ((-1), 0) with _ | (⟨⟩ | ⟨⟩)
  ·rw [hc2] at h; cases h
  ·rw [hc2] at h
   dsimp only at h
   obtain rfl := oI h; exact (runF2 hm (L := lT [(16, ⟨⟨[3, 9, 10, 11], [], 0, 0⟩, (X_dirtyCheckq1_1 (Args.A.length : Int) (.inl ())).1, (X_dirtyCheckq1_1 (Args.A.length : Int) (.inl ())).2⟩)]) ⟨[2], [], 0, 0⟩ (zz 6 (xdF hc1) <|
ww (p := U_dirtyCheckq1_1 none (Args.A.length : Int) ((-1), 0) (.inl ())) (m_dirtyCheckq1_1_ok n (Args.A.length : Int) ((-1), 0) (.inl ()) hc2) ee) (by kernel_rfl))
  ·rw [hc2] at h
   dsimp only at h
   obtain rfl := oI h; exact (runF2 hm (L := lT [(16, ⟨⟨[3, 9, 10, 11], [], 0, 0⟩, (X_dirtyCheckq1_1 (Args.A.length : Int) (.inr ())).1, (X_dirtyCheckq1_1 (Args.A.length : Int) (.inr ())).2⟩)]) ⟨[2], [], 0, 0⟩ (zz 6 (xdF hc1) <|
ww (p := U_dirtyCheckq1_1 none (Args.A.length : Int) ((-1), 0) (.inr ())) (m_dirtyCheckq1_1_ok n (Args.A.length : Int) ((-1), 0) (.inr ()) hc2) ee) (by kernel_rfl))

def A_heapHeapapiDirtyvalidq1 (a0 : Int) (a1 : Int) (a2 : Int) (a3 : Int) : List Value := [(pN 0 0)]
def H_heapHeapapiDirtyvalidq1 (a0 : Int) (a1 : Int) (a2 : Int) (a3 : Int) : AH := ⟨sB [(0, (some (.cells (layT [(pN 0 0), (Value.func (.func 24) #[] #[(pN 1 0), (pN 2 0)]), (Value.slice none 0 0), (i6 a3)]) 53))), (1, (some (.cells (layT [(i6 a0)]) 3))), (2, (some (.cells (layT [(i6 a1), (i6 a2)]) 24)))], 3, 3⟩
def V_heapHeapapiDirtyvalidq1 (a0 : Int) (a1 : Int) (a2 : Int) (a3 : Int) (r : Unit) : Value := match r with
 | _ => (bO true)
def R_heapHeapapiDirtyvalidq1 (a0 : Int) (a1 : Int) (a2 : Int) (a3 : Int) (r : Unit) : AH := match r with
 | _ => ⟨sB [], 3, 3⟩
abbrev G_heapHeapapiDirtyvalidq1 (a0 : Int) (a1 : Int) (a2 : Int) (a3 : Int) (r : Unit) : Prop := Gv P (.func 20) (A_heapHeapapiDirtyvalidq1 a0 a1 a2 a3) (H_heapHeapapiDirtyvalidq1 a0 a1 a2 a3) (V_heapHeapapiDirtyvalidq1 a0 a1 a2 a3 r) (R_heapHeapapiDirtyvalidq1 a0 a1 a2 a3 r)
abbrev C_heapHeapapiDirtyvalidq1 (a0 : Int) (a1 : Int) (a2 : Int) (a3 : Int) (r : Unit) (ins outs : BL) : CallA := ⟨3, ins, V_heapHeapapiDirtyvalidq1 a0 a1 a2 a3 r, R_heapHeapapiDirtyvalidq1 a0 a1 a2 a3 r, outs⟩
def m_heapHeapapiDirtyvalidq1 (n : Nat) (a0 : Int) (a1 : Int) (a2 : Int) (a3 : Int) : Option (Unit) :=
 some ()
theorem m_heapHeapapiDirtyvalidq1_ok (n : Nat) (a0 : Int) (a1 : Int) (a2 : Int) (a3 : Int) (r : Unit) (h : m_heapHeapapiDirtyvalidq1 n a0 a1 a2 a3 = some r) : Gv P (.func 20) (A_heapHeapapiDirtyvalidq1 a0 a1 a2 a3) (H_heapHeapapiDirtyvalidq1 a0 a1 a2 a3) (V_heapHeapapiDirtyvalidq1 a0 a1 a2 a3 r) (R_heapHeapapiDirtyvalidq1 a0 a1 a2 a3 r) := by
 unfold m_heapHeapapiDirtyvalidq1 at h
 obtain rfl := oI h; exact (runF2 hm (L := lT []) ⟨[2], [], 3, 3⟩ (ee) (by kernel_rfl))

def A_jobswaitedq1 (a0 : Int) (a1 : Int) (a2 : Int) (a3 : Int) (a4 : Int) (a5 : Int) : List Value := [(Value.agg #[(i6 a0), (i6 a1), (i6 a2), (i6 a3), (i6 a4)]), (i6 a5)]
def H_jobswaitedq1 (a0 : Int) (a1 : Int) (a2 : Int) (a3 : Int) (a4 : Int) (a5 : Int) : AH := ⟨sB [], 0, 0⟩
def V_jobswaitedq1 (a0 : Int) (a1 : Int) (a2 : Int) (a3 : Int) (a4 : Int) (a5 : Int) (r : Int) : Value := match r with
 | o0 => (i6 o0)
def R_jobswaitedq1 (a0 : Int) (a1 : Int) (a2 : Int) (a3 : Int) (a4 : Int) (a5 : Int) (r : Int) : AH := match r with
 | o0 => ⟨sB [], 0, 0⟩
abbrev G_jobswaitedq1 (a0 : Int) (a1 : Int) (a2 : Int) (a3 : Int) (a4 : Int) (a5 : Int) (r : Int) : Prop := Gv P (.func 25) (A_jobswaitedq1 a0 a1 a2 a3 a4 a5) (H_jobswaitedq1 a0 a1 a2 a3 a4 a5) (V_jobswaitedq1 a0 a1 a2 a3 a4 a5 r) (R_jobswaitedq1 a0 a1 a2 a3 a4 a5 r)
abbrev C_jobswaitedq1 (a0 : Int) (a1 : Int) (a2 : Int) (a3 : Int) (a4 : Int) (a5 : Int) (r : Int) (ins outs : BL) : CallA := ⟨0, ins, V_jobswaitedq1 a0 a1 a2 a3 a4 a5 r, R_jobswaitedq1 a0 a1 a2 a3 a4 a5 r, outs⟩
def m_jobswaitedq1 (n : Nat) (a0 : Int) (a1 : Int) (a2 : Int) (a3 : Int) (a4 : Int) (a5 : Int) : Option (Int) :=
 if a3 ≥ a5 then
  some a3
 else
  some (-1)
theorem m_jobswaitedq1_ok (n : Nat) (a0 : Int) (a1 : Int) (a2 : Int) (a3 : Int) (a4 : Int) (a5 : Int) (r : Int) (h : m_jobswaitedq1 n a0 a1 a2 a3 a4 a5 = some r) : Gv P (.func 25) (A_jobswaitedq1 a0 a1 a2 a3 a4 a5) (H_jobswaitedq1 a0 a1 a2 a3 a4 a5) (V_jobswaitedq1 a0 a1 a2 a3 a4 a5 r) (R_jobswaitedq1 a0 a1 a2 a3 a4 a5 r) := by
 unfold m_jobswaitedq1 at h
 by_cases hc1 : a3 ≥ a5
 ·rw [if_pos hc1] at h
  obtain rfl := oI h; exact (runF2 hm (L := lT []) ⟨[4], [], 0, 0⟩ (zz 8 (xdT hc1) ee) (by kernel_rfl))
 ·rw [if_neg hc1] at h
  obtain rfl := oI h; exact (runF2 hm (L := lT []) ⟨[4], [], 0, 0⟩ (zz 8 (xdF hc1) ee) (by kernel_rfl))

def A_shiftboundintq1 (a0 : Int) (a1 : Int) (a2 : Int) (a3 : Int) : List Value := [(i6 a0), (i6 a1), (sN 0 0 2 2)]
def H_shiftboundintq1 (a0 : Int) (a1 : Int) (a2 : Int) (a3 : Int) : AH := ⟨sB [(0, (some (.cells (layT [(pN 1 0), (pN 1 1)]) 71))), (1, (some (.cells (layT [(i6 a2), (i6 a3)]) 24)))], 2, 2⟩
def V_shiftboundintq1 (a0 : Int) (a1 : Int) (a2 : Int) (a3 : Int) (r : Unit) : Value := match r with
 | _ => (Value.tuple #[])
def R_shiftboundintq1 (a0 : Int) (a1 : Int) (a2 : Int) (a3 : Int) (r : Unit) : AH := match r with
 | _ => ⟨sB [(1, (some (.cells (layT [(i6 (minB (maxB a2 a0) a1)), (i6 (minB (maxB a3 a0) a1))]) 24)))], 2, 1⟩
abbrev G_shiftboundintq1 (a0 : Int) (a1 : Int) (a2 : Int) (a3 : Int) (r : Unit) : Prop := Gv P (.func 37) (A_shiftboundintq1 a0 a1 a2 a3) (H_shiftboundintq1 a0 a1 a2 a3) (V_shiftboundintq1 a0 a1 a2 a3 r) (R_shiftboundintq1 a0 a1 a2 a3 r)
abbrev C_shiftboundintq1 (a0 : Int) (a1 : Int) (a2 : Int) (a3 : Int) (r : Unit) (ins outs : BL) : CallA := ⟨2, ins, V_shiftboundintq1 a0 a1 a2 a3 r, R_shiftboundintq1 a0 a1 a2 a3 r, outs⟩
def m_shiftboundintq1 (n : Nat) (a0 : Int) (a1 : Int) (a2 : Int) (a3 : Int) : Option (Unit) :=
 some ()
theorem m_shiftboundintq1_ok (n : Nat) (a0 : Int) (a1 : Int) (a2 : Int) (a3 : Int) (r : Unit) (h : m_shiftboundintq1 n a0 a1 a2 a3 = some r) : Gv P (.func 37) (A_shiftboundintq1 a0 a1 a2 a3) (H_shiftboundintq1 a0 a1 a2 a3) (V_shiftboundintq1 a0 a1 a2 a3 r) (R_shiftboundintq1 a0 a1 a2 a3 r) := by
 unfold m_shiftboundintq1 at h
 obtain rfl := oI h; exact (runF2 hm (L := lT []) ⟨[], [(1, 1, false)], 2, 1⟩ (ee) (by kernel_rfl))

def A_shiftspanq1 (a0 : Int) (a1 : Int) : List Value := [(Value.agg #[(i6 a0), (i6 a1)])]
def H_shiftspanq1 (a0 : Int) (a1 : Int) : AH := ⟨sB [], 0, 0⟩
def V_shiftspanq1 (a0 : Int) (a1 : Int) (r : Unit) : Value := match r with
 | _ => (Value.agg #[(i6 (minB (maxB a0 (-1099511627776)) 1099511627776)), (i6 (minB (maxB a1 (-1099511627776)) 1099511627776))])
def R_shiftspanq1 (a0 : Int) (a1 : Int) (r : Unit) : AH := match r with
 | _ => ⟨sB [(0, (some (.cells (layT [(i6 (minB (maxB a0 (-1099511627776)) 1099511627776)), (i6 (minB (maxB a1 (-1099511627776)) 1099511627776))]) 24)))], 1, 0⟩
abbrev G_shiftspanq1 (a0 : Int) (a1 : Int) (r : Unit) : Prop := Gv P (.func 33) (A_shiftspanq1 a0 a1) (H_shiftspanq1 a0 a1) (V_shiftspanq1 a0 a1 r) (R_shiftspanq1 a0 a1 r)
abbrev C_shiftspanq1 (a0 : Int) (a1 : Int) (r : Unit) (ins outs : BL) : CallA := ⟨0, ins, V_shiftspanq1 a0 a1 r, R_shiftspanq1 a0 a1 r, outs⟩
def m_shiftspanq1 (n : Nat) (a0 : Int) (a1 : Int) : Option (Unit) :=
 (m_shiftboundintq1 n (-1099511627776) 1099511627776 a0 a1).bind fun _ =>
 some ()
theorem m_shiftspanq1_ok (n : Nat) (a0 : Int) (a1 : Int) (r : Unit) (h : m_shiftspanq1 n a0 a1 = some r) : Gv P (.func 33) (A_shiftspanq1 a0 a1) (H_shiftspanq1 a0 a1) (V_shiftspanq1 a0 a1 r) (R_shiftspanq1 a0 a1 r) := by
 unfold m_shiftspanq1 at h
 obtain ⟨_, hc1, h⟩ := Option.bind_eq_some_iff.1 h
 obtain rfl := oI h; exact (runF2 hm (L := lT []) ⟨[2], [(0, 1, false)], 1, 0⟩ (yy 7 (.call (C_shiftboundintq1 (-1099511627776) 1099511627776 a0 a1 () [(0, 2, false), (1, 0, false)] [(0, 1, false)])) <|
ww (m_shiftboundintq1_ok n (-1099511627776) 1099511627776 a0 a1 () hc1) ee) (by kernel_rfl))

def A_shiftTouchq1 (a0 : Int) (a1 : Int) (a2 : Int) (a3 : Int) : List Value := [(Value.agg #[(i6 a0), (i6 a1)]), (Value.agg #[(i6 a2), (i6 a3)])]
def H_shiftTouchq1 (a0 : Int) (a1 : Int) (a2 : Int) (a3 : Int) : AH := ⟨sB [], 0, 0⟩
def V_shiftTouchq1 (a0 : Int) (a1 : Int) (a2 : Int) (a3 : Int) (r : Bool) : Value := match r with
 | o0 => (bO o0)
def R_shiftTouchq1 (a0 : Int) (a1 : Int) (a2 : Int) (a3 : Int) (r : Bool) : AH := match r with
 | o0 => ⟨sB [], 0, 0⟩
abbrev G_shiftTouchq1 (a0 : Int) (a1 : Int) (a2 : Int) (a3 : Int) (r : Bool) : Prop := Gv P (.func 34) (A_shiftTouchq1 a0 a1 a2 a3) (H_shiftTouchq1 a0 a1 a2 a3) (V_shiftTouchq1 a0 a1 a2 a3 r) (R_shiftTouchq1 a0 a1 a2 a3 r)
abbrev C_shiftTouchq1 (a0 : Int) (a1 : Int) (a2 : Int) (a3 : Int) (r : Bool) (ins outs : BL) : CallA := ⟨0, ins, V_shiftTouchq1 a0 a1 a2 a3 r, R_shiftTouchq1 a0 a1 a2 a3 r, outs⟩
def m_shiftTouchq1 (n : Nat) (a0 : Int) (a1 : Int) (a2 : Int) (a3 : Int) : Option (Bool) :=
 (m_shiftspanq1 n a0 a1).bind fun _ =>
 (m_shiftspanq1 n a2 a3).bind fun _ =>
 if (minB (maxB a0 (-1099511627776)) 1099511627776) ≤ (minB (maxB a3 (-1099511627776)) 1099511627776) then
  if (minB (maxB a2 (-1099511627776)) 1099511627776) ≤ (minB (maxB a1 (-1099511627776)) 1099511627776) then
   some true
  else
   some false
 else
  some false
theorem m_shiftTouchq1_ok (n : Nat) (a0 : Int) (a1 : Int) (a2 : Int) (a3 : Int) (r : Bool) (h : m_shiftTouchq1 n a0 a1 a2 a3 = some r) : Gv P (.func 34) (A_shiftTouchq1 a0 a1 a2 a3) (H_shiftTouchq1 a0 a1 a2 a3) (V_shiftTouchq1 a0 a1 a2 a3 r) (R_shiftTouchq1 a0 a1 a2 a3 r) := by
 unfold m_shiftTouchq1 at h
 obtain ⟨_, hc1, h⟩ := Option.bind_eq_some_iff.1 h
 obtain ⟨_, hc2, h⟩ := Option.bind_eq_some_iff.1 h
 by_cases hc3 : (minB (maxB a0 (-1099511627776)) 1099511627776) ≤ (minB (maxB a3 (-1099511627776)) 1099511627776)
 ·rw [if_pos hc3] at h
  by_cases hc4 : (minB (maxB a2 (-1099511627776)) 1099511627776) ≤ (minB (maxB a1 (-1099511627776)) 1099511627776)
  ·rw [if_pos hc4] at h
   obtain rfl := oI h; exact (runF2 hm (L := lT []) ⟨[4], [], 0, 0⟩ (yy 6 (.call (C_shiftspanq1 a0 a1 () [] [(2, 0, false)])) <|
ww (m_shiftspanq1_ok n a0 a1 () hc1) <|
yy 8 (.call (C_shiftspanq1 a2 a3 () [] [(3, 0, false)])) <|
ww (m_shiftspanq1_ok n a2 a3 () hc2) <|
zz 16 (xdT hc3) <|
zz 22 (xdT hc4) ee) (by kernel_rfl))
  ·rw [if_neg hc4] at h
   obtain rfl := oI h; exact (runF2 hm (L := lT []) ⟨[4], [], 0, 0⟩ (yy 6 (.call (C_shiftspanq1 a0 a1 () [] [(2, 0, false)])) <|
ww (m_shiftspanq1_ok n a0 a1 () hc1) <|
yy 8 (.call (C_shiftspanq1 a2 a3 () [] [(3, 0, false)])) <|
ww (m_shiftspanq1_ok n a2 a3 () hc2) <|
zz 16 (xdT hc3) <|
zz 22 (xdF hc4) ee) (by kernel_rfl))
 ·rw [if_neg hc3] at h
  obtain rfl := oI h; exact (runF2 hm (L := lT []) ⟨[4], [], 0, 0⟩ (yy 6 (.call (C_shiftspanq1 a0 a1 () [] [(2, 0, false)])) <|
ww (m_shiftspanq1_ok n a0 a1 () hc1) <|
yy 8 (.call (C_shiftspanq1 a2 a3 () [] [(3, 0, false)])) <|
ww (m_shiftspanq1_ok n a2 a3 () hc2) <|
zz 16 (xdF hc3) ee) (by kernel_rfl))

def A_shiftFarq1 (a0 : Int) (a1 : Int) (a2 : Int) (a3 : Int) : List Value := [(Value.agg #[(i6 a0), (i6 a1)]), (Value.agg #[(i6 a2), (i6 a3)])]
def H_shiftFarq1 (a0 : Int) (a1 : Int) (a2 : Int) (a3 : Int) : AH := ⟨sB [], 0, 0⟩
def V_shiftFarq1 (a0 : Int) (a1 : Int) (a2 : Int) (a3 : Int) (r : Int) : Value := match r with
 | o0 => (i6 o0)
def R_shiftFarq1 (a0 : Int) (a1 : Int) (a2 : Int) (a3 : Int) (r : Int) : AH := match r with
 | o0 => ⟨sB [], 0, 0⟩
abbrev G_shiftFarq1 (a0 : Int) (a1 : Int) (a2 : Int) (a3 : Int) (r : Int) : Prop := Gv P (.func 28) (A_shiftFarq1 a0 a1 a2 a3) (H_shiftFarq1 a0 a1 a2 a3) (V_shiftFarq1 a0 a1 a2 a3 r) (R_shiftFarq1 a0 a1 a2 a3 r)
abbrev C_shiftFarq1 (a0 : Int) (a1 : Int) (a2 : Int) (a3 : Int) (r : Int) (ins outs : BL) : CallA := ⟨0, ins, V_shiftFarq1 a0 a1 a2 a3 r, R_shiftFarq1 a0 a1 a2 a3 r, outs⟩
def m_shiftFarq1 (n : Nat) (a0 : Int) (a1 : Int) (a2 : Int) (a3 : Int) : Option (Int) :=
 (m_shiftspanq1 n a0 a1).bind fun _ =>
 (m_shiftspanq1 n a2 a3).bind fun _ =>
 (m_shiftTouchq1 n (minB (maxB a0 (-1099511627776)) 1099511627776) (minB (maxB a1 (-1099511627776)) 1099511627776) (minB (maxB a2 (-1099511627776)) 1099511627776) (minB (maxB a3 (-1099511627776)) 1099511627776)).bind fun c3_ =>
 if c3_ = true then
  some 0
 else
  if (minB (maxB a1 (-1099511627776)) 1099511627776) < (minB (maxB a2 (-1099511627776)) 1099511627776) then
   ((some (w64 ((minB (maxB a2 (-1099511627776)) 1099511627776) - (minB (maxB a1 (-1099511627776)) 1099511627776))))).bind fun c6_ =>
   some c6_
  else
   ((some (w64 ((minB (maxB a0 (-1099511627776)) 1099511627776) - (minB (maxB a3 (-1099511627776)) 1099511627776))))).bind fun c6_ =>
   some c6_
theorem m_shiftFarq1_ok (n : Nat) (a0 : Int) (a1 : Int) (a2 : Int) (a3 : Int) (r : Int) (h : m_shiftFarq1 n a0 a1 a2 a3 = some r) : Gv P (.func 28) (A_shiftFarq1 a0 a1 a2 a3) (H_shiftFarq1 a0 a1 a2 a3) (V_shiftFarq1 a0 a1 a2 a3 r) (R_shiftFarq1 a0 a1 a2 a3 r) := by
 unfold m_shiftFarq1 at h
 obtain ⟨_, hc1, h⟩ := Option.bind_eq_some_iff.1 h
 obtain ⟨_, hc2, h⟩ := Option.bind_eq_some_iff.1 h
 obtain ⟨c3_, hc3, h⟩ := Option.bind_eq_some_iff.1 h
 by_cases hc4 : c3_ = true
 ·rw [if_pos hc4] at h
  obtain rfl := oI h; exact (runF2 hm (L := lT []) ⟨[4], [], 0, 0⟩ (yy 6 (.call (C_shiftspanq1 a0 a1 () [] [(2, 0, false)])) <|
ww (m_shiftspanq1_ok n a0 a1 () hc1) <|
yy 8 (.call (C_shiftspanq1 a2 a3 () [] [(3, 0, false)])) <|
ww (m_shiftspanq1_ok n a2 a3 () hc2) <|
yy 16 (.call (C_shiftTouchq1 (minB (maxB a0 (-1099511627776)) 1099511627776) (minB (maxB a1 (-1099511627776)) 1099511627776) (minB (maxB a2 (-1099511627776)) 1099511627776) (minB (maxB a3 (-1099511627776)) 1099511627776) c3_ [] [])) <|
ww (m_shiftTouchq1_ok n (minB (maxB a0 (-1099511627776)) 1099511627776) (minB (maxB a1 (-1099511627776)) 1099511627776) (minB (maxB a2 (-1099511627776)) 1099511627776) (minB (maxB a3 (-1099511627776)) 1099511627776) c3_ hc3) <|
zz 18 (xbT hc4) ee) (by kernel_rfl))
 ·rw [if_neg hc4] at h
  by_cases hc5 : (minB (maxB a1 (-1099511627776)) 1099511627776) < (minB (maxB a2 (-1099511627776)) 1099511627776)
  ·rw [if_pos hc5] at h
   obtain ⟨c6_, hc6, h⟩ := Option.bind_eq_some_iff.1 h
   obtain rfl := oI h; exact (runF2 hm (L := lT []) ⟨[4], [], 0, 0⟩ (yy 6 (.call (C_shiftspanq1 a0 a1 () [] [(2, 0, false)])) <|
ww (m_shiftspanq1_ok n a0 a1 () hc1) <|
yy 8 (.call (C_shiftspanq1 a2 a3 () [] [(3, 0, false)])) <|
ww (m_shiftspanq1_ok n a2 a3 () hc2) <|
yy 16 (.call (C_shiftTouchq1 (minB (maxB a0 (-1099511627776)) 1099511627776) (minB (maxB a1 (-1099511627776)) 1099511627776) (minB (maxB a2 (-1099511627776)) 1099511627776) (minB (maxB a3 (-1099511627776)) 1099511627776) c3_ [] [])) <|
ww (m_shiftTouchq1_ok n (minB (maxB a0 (-1099511627776)) 1099511627776) (minB (maxB a1 (-1099511627776)) 1099511627776) (minB (maxB a2 (-1099511627776)) 1099511627776) (minB (maxB a3 (-1099511627776)) 1099511627776) c3_ hc3) <|
zz 18 (xbF hc4) <|
zz 24 (xdT hc5) <|
zz 32 (xnm hc6) ee) (by kernel_rfl))
  ·rw [if_neg hc5] at h
   obtain ⟨c6_, hc6, h⟩ := Option.bind_eq_some_iff.1 h
   obtain rfl := oI h; exact (runF2 hm (L := lT []) ⟨[4], [], 0, 0⟩ (yy 6 (.call (C_shiftspanq1 a0 a1 () [] [(2, 0, false)])) <|
ww (m_shiftspanq1_ok n a0 a1 () hc1) <|
yy 8 (.call (C_shiftspanq1 a2 a3 () [] [(3, 0, false)])) <|
ww (m_shiftspanq1_ok n a2 a3 () hc2) <|
yy 16 (.call (C_shiftTouchq1 (minB (maxB a0 (-1099511627776)) 1099511627776) (minB (maxB a1 (-1099511627776)) 1099511627776) (minB (maxB a2 (-1099511627776)) 1099511627776) (minB (maxB a3 (-1099511627776)) 1099511627776) c3_ [] [])) <|
ww (m_shiftTouchq1_ok n (minB (maxB a0 (-1099511627776)) 1099511627776) (minB (maxB a1 (-1099511627776)) 1099511627776) (minB (maxB a2 (-1099511627776)) 1099511627776) (minB (maxB a3 (-1099511627776)) 1099511627776) c3_ hc3) <|
zz 18 (xbF hc4) <|
zz 24 (xdF hc5) <|
zz 32 (xnm hc6) ee) (by kernel_rfl))

def A_cmpisNaNintq1 (a0 : Int) : List Value := [(i6 a0)]
def H_cmpisNaNintq1 (a0 : Int) : AH := ⟨sB [], 0, 0⟩
def V_cmpisNaNintq1 (a0 : Int) (r : Unit) : Value := match r with
 | _ => (bO false)
def R_cmpisNaNintq1 (a0 : Int) (r : Unit) : AH := match r with
 | _ => ⟨sB [], 0, 0⟩
abbrev G_cmpisNaNintq1 (a0 : Int) (r : Unit) : Prop := Gv P (.func 32) (A_cmpisNaNintq1 a0) (H_cmpisNaNintq1 a0) (V_cmpisNaNintq1 a0 r) (R_cmpisNaNintq1 a0 r)
abbrev C_cmpisNaNintq1 (a0 : Int) (r : Unit) (ins outs : BL) : CallA := ⟨0, ins, V_cmpisNaNintq1 a0 r, R_cmpisNaNintq1 a0 r, outs⟩
def m_cmpisNaNintq1 (n : Nat) (a0 : Int) : Option (Unit) :=
 some ()
theorem m_cmpisNaNintq1_ok (n : Nat) (a0 : Int) (r : Unit) (h : m_cmpisNaNintq1 n a0 = some r) : Gv P (.func 32) (A_cmpisNaNintq1 a0) (H_cmpisNaNintq1 a0) (V_cmpisNaNintq1 a0 r) (R_cmpisNaNintq1 a0 r) := by
 unfold m_cmpisNaNintq1 at h
 obtain rfl := oI h; exact (runF2 hm (L := lT []) ⟨[2], [], 0, 0⟩ (zz 5 (xnF (a := a0) rfl) ee) (by kernel_rfl))

def A_cmpCompareintq1 (a0 : Int) (a1 : Int) : List Value := [(i6 a0), (i6 a1)]
def H_cmpCompareintq1 (a0 : Int) (a1 : Int) : AH := ⟨sB [], 0, 0⟩
def V_cmpCompareintq1 (a0 : Int) (a1 : Int) (r : Int) : Value := match r with
 | o0 => (i6 o0)
def R_cmpCompareintq1 (a0 : Int) (a1 : Int) (r : Int) : AH := match r with
 | o0 => ⟨sB [], 0, 0⟩
abbrev G_cmpCompareintq1 (a0 : Int) (a1 : Int) (r : Int) : Prop := Gv P (.func 27) (A_cmpCompareintq1 a0 a1) (H_cmpCompareintq1 a0 a1) (V_cmpCompareintq1 a0 a1 r) (R_cmpCompareintq1 a0 a1 r)
abbrev C_cmpCompareintq1 (a0 : Int) (a1 : Int) (r : Int) (ins outs : BL) : CallA := ⟨0, ins, V_cmpCompareintq1 a0 a1 r, R_cmpCompareintq1 a0 a1 r, outs⟩
def m_cmpCompareintq1 (n : Nat) (a0 : Int) (a1 : Int) : Option (Int) :=
 (m_cmpisNaNintq1 n a0).bind fun _ =>
 (m_cmpisNaNintq1 n a1).bind fun _ =>
 if a0 < a1 then
  some (-1)
 else
  if a0 > a1 then
   some 1
  else
   some 0
theorem m_cmpCompareintq1_ok (n : Nat) (a0 : Int) (a1 : Int) (r : Int) (h : m_cmpCompareintq1 n a0 a1 = some r) : Gv P (.func 27) (A_cmpCompareintq1 a0 a1) (H_cmpCompareintq1 a0 a1) (V_cmpCompareintq1 a0 a1 r) (R_cmpCompareintq1 a0 a1 r) := by
 unfold m_cmpCompareintq1 at h
 obtain ⟨_, hc1, h⟩ := Option.bind_eq_some_iff.1 h
 obtain ⟨_, hc2, h⟩ := Option.bind_eq_some_iff.1 h
 by_cases hc3 : a0 < a1
 ·rw [if_pos hc3] at h
  obtain rfl := oI h; exact (runF2 hm (L := lT []) ⟨[4], [], 0, 0⟩ (yy 4 (.call (C_cmpisNaNintq1 a0 () [] [])) <|
ww (m_cmpisNaNintq1_ok n a0 () hc1) <|
yy 8 (.call (C_cmpisNaNintq1 a1 () [] [])) <|
ww (m_cmpisNaNintq1_ok n a1 () hc2) <|
zz 22 (xdT hc3) ee) (by kernel_rfl))
 ·rw [if_neg hc3] at h
  by_cases hc4 : a0 > a1
  ·rw [if_pos hc4] at h
   obtain rfl := oI h; exact (runF2 hm (L := lT []) ⟨[4], [], 0, 0⟩ (yy 4 (.call (C_cmpisNaNintq1 a0 () [] [])) <|
ww (m_cmpisNaNintq1_ok n a0 () hc1) <|
yy 8 (.call (C_cmpisNaNintq1 a1 () [] [])) <|
ww (m_cmpisNaNintq1_ok n a1 () hc2) <|
zz 22 (xdF hc3) <|
zz 28 (xdT hc4) ee) (by kernel_rfl))
  ·rw [if_neg hc4] at h
   obtain rfl := oI h; exact (runF2 hm (L := lT []) ⟨[4], [], 0, 0⟩ (yy 4 (.call (C_cmpisNaNintq1 a0 () [] [])) <|
ww (m_cmpisNaNintq1_ok n a0 () hc1) <|
yy 8 (.call (C_cmpisNaNintq1 a1 () [] [])) <|
ww (m_cmpisNaNintq1_ok n a1 () hc2) <|
zz 22 (xdF hc3) <|
zz 28 (xdF hc4) ee) (by kernel_rfl))

def A_cmpOrintq1 (a0 : Int) (a1 : Int) : List Value := [(sN 0 0 2 2)]
def H_cmpOrintq1 (a0 : Int) (a1 : Int) : AH := ⟨sB [(0, (some (.cells (layT [(i6 a0), (i6 a1)]) 3)))], 1, 1⟩
def V_cmpOrintq1 (a0 : Int) (a1 : Int) (r : Int) : Value := match r with
 | o0 => (i6 o0)
def R_cmpOrintq1 (a0 : Int) (a1 : Int) (r : Int) : AH := match r with
 | o0 => ⟨sB [], 1, 1⟩
abbrev G_cmpOrintq1 (a0 : Int) (a1 : Int) (r : Int) : Prop := Gv P (.func 26) (A_cmpOrintq1 a0 a1) (H_cmpOrintq1 a0 a1) (V_cmpOrintq1 a0 a1 r) (R_cmpOrintq1 a0 a1 r)
abbrev C_cmpOrintq1 (a0 : Int) (a1 : Int) (r : Int) (ins outs : BL) : CallA := ⟨1, ins, V_cmpOrintq1 a0 a1 r, R_cmpOrintq1 a0 a1 r, outs⟩
def m_cmpOrintq1 (n : Nat) (a0 : Int) (a1 : Int) : Option (Int) :=
 if a0 = (0 : Int) then
  if a1 = (0 : Int) then
   some 0
  else
   some a1
 else
  some a0
theorem m_cmpOrintq1_ok (n : Nat) (a0 : Int) (a1 : Int) (r : Int) (h : m_cmpOrintq1 n a0 a1 = some r) : Gv P (.func 26) (A_cmpOrintq1 a0 a1) (H_cmpOrintq1 a0 a1) (V_cmpOrintq1 a0 a1 r) (R_cmpOrintq1 a0 a1 r) := by
 unfold m_cmpOrintq1 at h
 by_cases hc1 : a0 = (0 : Int)
 ·rw [if_pos hc1] at h
  by_cases hc2 : a1 = (0 : Int)
  ·rw [if_pos hc2] at h
   obtain rfl := oI h; exact (runF2 hm (L := lT []) ⟨[2], [], 1, 1⟩ (zz 24 (xnF hc1) <|
zz 42 (xnF hc2) ee) (by kernel_rfl))
  ·rw [if_neg hc2] at h
   obtain rfl := oI h; exact (runF2 hm (L := lT []) ⟨[2], [], 1, 1⟩ (zz 24 (xnF hc1) <|
zz 42 (xnT hc2) ee) (by kernel_rfl))
 ·rw [if_neg hc1] at h
  obtain rfl := oI h; exact (runF2 hm (L := lT []) ⟨[2], [], 1, 1⟩ (zz 24 (xnT hc1) ee) (by kernel_rfl))

def A_cmpOrintq2 (a0 : Int) (a1 : Int) (a2 : Int) : List Value := [(sN 0 0 3 3)]
def H_cmpOrintq2 (a0 : Int) (a1 : Int) (a2 : Int) : AH := ⟨sB [(0, (some (.cells (layT [(i6 a0), (i6 a1), (i6 a2)]) 3)))], 1, 1⟩
def V_cmpOrintq2 (a0 : Int) (a1 : Int) (a2 : Int) (r : Int) : Value := match r with
 | o0 => (i6 o0)
def R_cmpOrintq2 (a0 : Int) (a1 : Int) (a2 : Int) (r : Int) : AH := match r with
 | o0 => ⟨sB [], 1, 1⟩
abbrev G_cmpOrintq2 (a0 : Int) (a1 : Int) (a2 : Int) (r : Int) : Prop := Gv P (.func 26) (A_cmpOrintq2 a0 a1 a2) (H_cmpOrintq2 a0 a1 a2) (V_cmpOrintq2 a0 a1 a2 r) (R_cmpOrintq2 a0 a1 a2 r)
abbrev C_cmpOrintq2 (a0 : Int) (a1 : Int) (a2 : Int) (r : Int) (ins outs : BL) : CallA := ⟨1, ins, V_cmpOrintq2 a0 a1 a2 r, R_cmpOrintq2 a0 a1 a2 r, outs⟩
def m_cmpOrintq2 (n : Nat) (a0 : Int) (a1 : Int) (a2 : Int) : Option (Int) :=
 if a0 = (0 : Int) then
  if a1 = (0 : Int) then
   if a2 = (0 : Int) then
    some 0
   else
    some a2
  else
   some a1
 else
  some a0
theorem m_cmpOrintq2_ok (n : Nat) (a0 : Int) (a1 : Int) (a2 : Int) (r : Int) (h : m_cmpOrintq2 n a0 a1 a2 = some r) : Gv P (.func 26) (A_cmpOrintq2 a0 a1 a2) (H_cmpOrintq2 a0 a1 a2) (V_cmpOrintq2 a0 a1 a2 r) (R_cmpOrintq2 a0 a1 a2 r) := by
 unfold m_cmpOrintq2 at h
 by_cases hc1 : a0 = (0 : Int)
 ·rw [if_pos hc1] at h
  by_cases hc2 : a1 = (0 : Int)
  ·rw [if_pos hc2] at h
   by_cases hc3 : a2 = (0 : Int)
   ·rw [if_pos hc3] at h
    obtain rfl := oI h; exact (runF2 hm (L := lT []) ⟨[2], [], 1, 1⟩ (zz 24 (xnF hc1) <|
zz 42 (xnF hc2) <|
zz 60 (xnF hc3) ee) (by kernel_rfl))
   ·rw [if_neg hc3] at h
    obtain rfl := oI h; exact (runF2 hm (L := lT []) ⟨[2], [], 1, 1⟩ (zz 24 (xnF hc1) <|
zz 42 (xnF hc2) <|
zz 60 (xnT hc3) ee) (by kernel_rfl))
  ·rw [if_neg hc2] at h
   obtain rfl := oI h; exact (runF2 hm (L := lT []) ⟨[2], [], 1, 1⟩ (zz 24 (xnF hc1) <|
zz 42 (xnT hc2) ee) (by kernel_rfl))
 ·rw [if_neg hc1] at h
  obtain rfl := oI h; exact (runF2 hm (L := lT []) ⟨[2], [], 1, 1⟩ (zz 24 (xnT hc1) ee) (by kernel_rfl))

def A_jobsorder1q1 (a0 : Int) (a1 : Int) (a2 : Int) (a3 : Int) (a4 : Int) (a5 : Int) (a6 : Int) (a7 : Int) (a8 : Int) (a9 : Int) (a10 : Int) (a11 : Int) (a12 : Int) : List Value := [(Value.agg #[(i6 a0), (i6 a1), (i6 a2), (i6 a3), (i6 a4)]), (Value.agg #[(i6 a5), (i6 a6), (i6 a7), (i6 a8), (i6 a9)]), (pN 0 0), (pN 1 0)]
def H_jobsorder1q1 (a0 : Int) (a1 : Int) (a2 : Int) (a3 : Int) (a4 : Int) (a5 : Int) (a6 : Int) (a7 : Int) (a8 : Int) (a9 : Int) (a10 : Int) (a11 : Int) (a12 : Int) : AH := ⟨sB [(0, (some (.cells (layT [(i6 a10)]) 3))), (1, (some (.cells (layT [(i6 a11), (i6 a12)]) 24)))], 2, 2⟩
def V_jobsorder1q1 (a0 : Int) (a1 : Int) (a2 : Int) (a3 : Int) (a4 : Int) (a5 : Int) (a6 : Int) (a7 : Int) (a8 : Int) (a9 : Int) (a10 : Int) (a11 : Int) (a12 : Int) (r : Int) : Value := match r with
 | o0 => (i6 o0)
def R_jobsorder1q1 (a0 : Int) (a1 : Int) (a2 : Int) (a3 : Int) (a4 : Int) (a5 : Int) (a6 : Int) (a7 : Int) (a8 : Int) (a9 : Int) (a10 : Int) (a11 : Int) (a12 : Int) (r : Int) : AH := match r with
 | o0 => ⟨sB [], 2, 2⟩
abbrev G_jobsorder1q1 (a0 : Int) (a1 : Int) (a2 : Int) (a3 : Int) (a4 : Int) (a5 : Int) (a6 : Int) (a7 : Int) (a8 : Int) (a9 : Int) (a10 : Int) (a11 : Int) (a12 : Int) (r : Int) : Prop := Gv P (.func 24) (A_jobsorder1q1 a0 a1 a2 a3 a4 a5 a6 a7 a8 a9 a10 a11 a12) (H_jobsorder1q1 a0 a1 a2 a3 a4 a5 a6 a7 a8 a9 a10 a11 a12) (V_jobsorder1q1 a0 a1 a2 a3 a4 a5 a6 a7 a8 a9 a10 a11 a12 r) (R_jobsorder1q1 a0 a1 a2 a3 a4 a5 a6 a7 a8 a9 a10 a11 a12 r)
abbrev C_jobsorder1q1 (a0 : Int) (a1 : Int) (a2 : Int) (a3 : Int) (a4 : Int) (a5 : Int) (a6 : Int) (a7 : Int) (a8 : Int) (a9 : Int) (a10 : Int) (a11 : Int) (a12 : Int) (r : Int) (ins outs : BL) : CallA := ⟨2, ins, V_jobsorder1q1 a0 a1 a2 a3 a4 a5 a6 a7 a8 a9 a10 a11 a12 r, R_jobsorder1q1 a0 a1 a2 a3 a4 a5 a6 a7 a8 a9 a10 a11 a12 r, outs⟩
def m_jobsorder1q1 (n : Nat) (a0 : Int) (a1 : Int) (a2 : Int) (a3 : Int) (a4 : Int) (a5 : Int) (a6 : Int) (a7 : Int) (a8 : Int) (a9 : Int) (a10 : Int) (a11 : Int) (a12 : Int) : Option (Int) :=
 (m_jobswaitedq1 n a0 a1 a2 a3 a4 a10).bind fun c1_ =>
 (m_jobswaitedq1 n a5 a6 a7 a8 a9 a10).bind fun c2_ =>
 if c1_ < (0 : Int) then
  if c2_ < (0 : Int) then
   (m_shiftFarq1 n a1 a2 a11 a12).bind fun c5_ =>
   (m_shiftFarq1 n a6 a7 a11 a12).bind fun c6_ =>
   (m_cmpCompareintq1 n c5_ c6_).bind fun c7_ =>
   (m_cmpCompareintq1 n a1 a6).bind fun c8_ =>
   (m_cmpOrintq1 n c7_ c8_).bind fun c9_ =>
   (m_cmpCompareintq1 n c2_ c1_).bind fun c10_ =>
   (m_cmpCompareintq1 n a0 a5).bind fun c11_ =>
   (m_cmpOrintq2 n c10_ c9_ c11_).bind fun c12_ =>
   some c12_
  else
   (m_cmpCompareintq1 n c2_ c1_).bind fun c5_ =>
   (m_cmpCompareintq1 n a0 a5).bind fun c6_ =>
   (m_cmpOrintq2 n c5_ 0 c6_).bind fun c7_ =>
   some c7_
 else
  (m_cmpCompareintq1 n c2_ c1_).bind fun c4_ =>
  (m_cmpCompareintq1 n a0 a5).bind fun c5_ =>
  (m_cmpOrintq2 n c4_ 0 c5_).bind fun c6_ =>
  some c6_
theorem m_jobsorder1q1_ok (n : Nat) (a0 : Int) (a1 : Int) (a2 : Int) (a3 : Int) (a4 : Int) (a5 : Int) (a6 : Int) (a7 : Int) (a8 : Int) (a9 : Int) (a10 : Int) (a11 : Int) (a12 : Int) (r : Int) (h : m_jobsorder1q1 n a0 a1 a2 a3 a4 a5 a6 a7 a8 a9 a10 a11 a12 = some r) : Gv P (.func 24) (A_jobsorder1q1 a0 a1 a2 a3 a4 a5 a6 a7 a8 a9 a10 a11 a12) (H_jobsorder1q1 a0 a1 a2 a3 a4 a5 a6 a7 a8 a9 a10 a11 a12) (V_jobsorder1q1 a0 a1 a2 a3 a4 a5 a6 a7 a8 a9 a10 a11 a12 r) (R_jobsorder1q1 a0 a1 a2 a3 a4 a5 a6 a7 a8 a9 a10 a11 a12 r) := by
 unfold m_jobsorder1q1 at h
 obtain ⟨c1_, hc1, h⟩ := Option.bind_eq_some_iff.1 h
 obtain ⟨c2_, hc2, h⟩ := Option.bind_eq_some_iff.1 h
 by_cases hc3 : c1_ < (0 : Int)
 ·rw [if_pos hc3] at h
  by_cases hc4 : c2_ < (0 : Int)
  ·rw [if_pos hc4] at h
   obtain ⟨c5_, hc5, h⟩ := Option.bind_eq_some_iff.1 h
   obtain ⟨c6_, hc6, h⟩ := Option.bind_eq_some_iff.1 h
   obtain ⟨c7_, hc7, h⟩ := Option.bind_eq_some_iff.1 h
   obtain ⟨c8_, hc8, h⟩ := Option.bind_eq_some_iff.1 h
   obtain ⟨c9_, hc9, h⟩ := Option.bind_eq_some_iff.1 h
   obtain ⟨c10_, hc10, h⟩ := Option.bind_eq_some_iff.1 h
   obtain ⟨c11_, hc11, h⟩ := Option.bind_eq_some_iff.1 h
   obtain ⟨c12_, hc12, h⟩ := Option.bind_eq_some_iff.1 h
   obtain rfl := oI h; exact (runF2 hm (L := lT []) ⟨[6], [], 2, 2⟩ (yy 7 (.call (C_jobswaitedq1 a0 a1 a2 a3 a4 a10 c1_ [] [])) <|
ww (m_jobswaitedq1_ok n a0 a1 a2 a3 a4 a10 c1_ hc1) <|
yy 10 (.call (C_jobswaitedq1 a5 a6 a7 a8 a9 a10 c2_ [] [])) <|
ww (m_jobswaitedq1_ok n a5 a6 a7 a8 a9 a10 c2_ hc2) <|
zz 18 (xdT hc3) <|
zz 21 (xdT hc4) <|
yy 27 (.call (C_shiftFarq1 a1 a2 a11 a12 c5_ [] [])) <|
ww (m_shiftFarq1_ok n a1 a2 a11 a12 c5_ hc5) <|
yy 31 (.call (C_shiftFarq1 a6 a7 a11 a12 c6_ [] [])) <|
ww (m_shiftFarq1_ok n a6 a7 a11 a12 c6_ hc6) <|
yy 32 (.call (C_cmpCompareintq1 c5_ c6_ c7_ [] [])) <|
ww (m_cmpCompareintq1_ok n c5_ c6_ c7_ hc7) <|
yy 39 (.call (C_cmpCompareintq1 a1 a6 c8_ [] [])) <|
ww (m_cmpCompareintq1_ok n a1 a6 c8_ hc8) <|
yy 41 (.call (C_cmpOrintq1 c7_ c8_ c9_ [(0, 20, false)] [])) <|
ww (m_cmpOrintq1_ok n c7_ c8_ c9_ hc9) <|
yy 46 (.call (C_cmpCompareintq1 c2_ c1_ c10_ [] [])) <|
ww (m_cmpCompareintq1_ok n c2_ c1_ c10_ hc10) <|
yy 52 (.call (C_cmpCompareintq1 a0 a5 c11_ [] [])) <|
ww (m_cmpCompareintq1_ok n a0 a5 c11_ hc11) <|
yy 54 (.call (C_cmpOrintq2 c10_ c9_ c11_ c12_ [(0, 30, false)] [])) <|
ww (m_cmpOrintq2_ok n c10_ c9_ c11_ c12_ hc12) ee) (by kernel_rfl))
  ·rw [if_neg hc4] at h
   obtain ⟨c5_, hc5, h⟩ := Option.bind_eq_some_iff.1 h
   obtain ⟨c6_, hc6, h⟩ := Option.bind_eq_some_iff.1 h
   obtain ⟨c7_, hc7, h⟩ := Option.bind_eq_some_iff.1 h
   obtain rfl := oI h; exact (runF2 hm (L := lT []) ⟨[6], [], 2, 2⟩ (yy 7 (.call (C_jobswaitedq1 a0 a1 a2 a3 a4 a10 c1_ [] [])) <|
ww (m_jobswaitedq1_ok n a0 a1 a2 a3 a4 a10 c1_ hc1) <|
yy 10 (.call (C_jobswaitedq1 a5 a6 a7 a8 a9 a10 c2_ [] [])) <|
ww (m_jobswaitedq1_ok n a5 a6 a7 a8 a9 a10 c2_ hc2) <|
zz 18 (xdT hc3) <|
zz 21 (xdF hc4) <|
yy 27 (.call (C_cmpCompareintq1 c2_ c1_ c5_ [] [])) <|
ww (m_cmpCompareintq1_ok n c2_ c1_ c5_ hc5) <|
yy 33 (.call (C_cmpCompareintq1 a0 a5 c6_ [] [])) <|
ww (m_cmpCompareintq1_ok n a0 a5 c6_ hc6) <|
yy 35 (.call (C_cmpOrintq2 c5_ 0 c6_ c7_ [(0, 13, false)] [])) <|
ww (m_cmpOrintq2_ok n c5_ 0 c6_ c7_ hc7) ee) (by kernel_rfl))
 ·rw [if_neg hc3] at h
  obtain ⟨c4_, hc4, h⟩ := Option.bind_eq_some_iff.1 h
  obtain ⟨c5_, hc5, h⟩ := Option.bind_eq_some_iff.1 h
  obtain ⟨c6_, hc6, h⟩ := Option.bind_eq_some_iff.1 h
  obtain rfl := oI h; exact (runF2 hm (L := lT []) ⟨[6], [], 2, 2⟩ (yy 7 (.call (C_jobswaitedq1 a0 a1 a2 a3 a4 a10 c1_ [] [])) <|
ww (m_jobswaitedq1_ok n a0 a1 a2 a3 a4 a10 c1_ hc1) <|
yy 10 (.call (C_jobswaitedq1 a5 a6 a7 a8 a9 a10 c2_ [] [])) <|
ww (m_jobswaitedq1_ok n a5 a6 a7 a8 a9 a10 c2_ hc2) <|
zz 18 (xdF hc3) <|
yy 27 (.call (C_cmpCompareintq1 c2_ c1_ c4_ [] [])) <|
ww (m_cmpCompareintq1_ok n c2_ c1_ c4_ hc4) <|
yy 33 (.call (C_cmpCompareintq1 a0 a5 c5_ [] [])) <|
ww (m_cmpCompareintq1_ok n a0 a5 c5_ hc5) <|
yy 35 (.call (C_cmpOrintq2 c4_ 0 c5_ c6_ [(0, 13, false)] [])) <|
ww (m_cmpOrintq2_ok n c4_ 0 c5_ c6_ hc6) ee) (by kernel_rfl))

def A_heapHeapapiDirtybeforeq1 (a0 : Int) (a1 : Int) (a2 : Int) (a3 : List R6) (a4 : Int) (a5 : Int) (a6 : Int) : List Value := [(pN 0 0), (i6 a5), (i6 a6)]
def H_heapHeapapiDirtybeforeq1 (a0 : Int) (a1 : Int) (a2 : Int) (a3 : List R6) (a4 : Int) (a5 : Int) (a6 : Int) : AH := ⟨sB [(0, (some (.cells (layT [(pN 0 0), (Value.func (.func 24) #[] #[(pN 1 0), (pN 2 0)]), (sN 3 0 (a3).length (Nat.add big 6)), (i6 a4)]) 53))), (1, (some (.cells (layT [(i6 a0)]) 3))), (2, (some (.cells (layT [(i6 a1), (i6 a2)]) 24))), (3, (some (.cells (layT (rows rw_iiiiii a3)) 58)))], 4, 4⟩
def V_heapHeapapiDirtybeforeq1 (a0 : Int) (a1 : Int) (a2 : Int) (a3 : List R6) (a4 : Int) (a5 : Int) (a6 : Int) (r : Bool) : Value := match r with
 | o0 => (bO o0)
def R_heapHeapapiDirtybeforeq1 (a0 : Int) (a1 : Int) (a2 : Int) (a3 : List R6) (a4 : Int) (a5 : Int) (a6 : Int) (r : Bool) : AH := match r with
 | o0 => ⟨sB [], 4, 4⟩
abbrev G_heapHeapapiDirtybeforeq1 (a0 : Int) (a1 : Int) (a2 : Int) (a3 : List R6) (a4 : Int) (a5 : Int) (a6 : Int) (r : Bool) : Prop := Gv P (.func 35) (A_heapHeapapiDirtybeforeq1 a0 a1 a2 a3 a4 a5 a6) (H_heapHeapapiDirtybeforeq1 a0 a1 a2 a3 a4 a5 a6) (V_heapHeapapiDirtybeforeq1 a0 a1 a2 a3 a4 a5 a6 r) (R_heapHeapapiDirtybeforeq1 a0 a1 a2 a3 a4 a5 a6 r)
abbrev C_heapHeapapiDirtybeforeq1 (a0 : Int) (a1 : Int) (a2 : Int) (a3 : List R6) (a4 : Int) (a5 : Int) (a6 : Int) (r : Bool) (ins outs : BL) : CallA := ⟨4, ins, V_heapHeapapiDirtybeforeq1 a0 a1 a2 a3 a4 a5 a6 r, R_heapHeapapiDirtybeforeq1 a0 a1 a2 a3 a4 a5 a6 r, outs⟩
def m_heapHeapapiDirtybeforeq1 (n : Nat) (a0 : Int) (a1 : Int) (a2 : Int) (a3 : List R6) (a4 : Int) (a5 : Int) (a6 : Int) : Option (Bool) :=
 if 0 ≤ a5 ∧ a5 < (a3.length : Int) then
  ((some ((a3).getD (a5).toNat (0, 0, 0, 0, 0, 0)))).bind fun c2_ =>
  if 0 ≤ a6 ∧ a6 < (a3.length : Int) then
   ((some ((a3).getD (a6).toNat (0, 0, 0, 0, 0, 0)))).bind fun c4_ =>
   (m_jobsorder1q1 n (c2_.2.1) (c2_.2.2.1) (c2_.2.2.2.1) (c2_.2.2.2.2.1) (c2_.2.2.2.2.2) (c4_.2.1) (c4_.2.2.1) (c4_.2.2.2.1) (c4_.2.2.2.2.1) (c4_.2.2.2.2.2) a0 a1 a2).bind fun c5_ =>
   if c5_ = (0 : Int) then
    if (c2_.1) < (c4_.1) then
     some true
    else
     some false
   else
    if c5_ < (0 : Int) then
     some true
    else
     some false
  else none
 else none
theorem m_heapHeapapiDirtybeforeq1_ok (n : Nat) (a0 : Int) (a1 : Int) (a2 : Int) (a3 : List R6) (a4 : Int) (a5 : Int) (a6 : Int) (r : Bool) (h : m_heapHeapapiDirtybeforeq1 n a0 a1 a2 a3 a4 a5 a6 = some r) : Gv P (.func 35) (A_heapHeapapiDirtybeforeq1 a0 a1 a2 a3 a4 a5 a6) (H_heapHeapapiDirtybeforeq1 a0 a1 a2 a3 a4 a5 a6) (V_heapHeapapiDirtybeforeq1 a0 a1 a2 a3 a4 a5 a6 r) (R_heapHeapapiDirtybeforeq1 a0 a1 a2 a3 a4 a5 a6 r) := by
 unfold m_heapHeapapiDirtybeforeq1 at h
 by_cases hc1 : 0 ≤ a5 ∧ a5 < (a3.length : Int)
 ·rw [if_pos hc1] at h
  obtain ⟨c2_, hc2, h⟩ := Option.bind_eq_some_iff.1 h
  by_cases hc3 : 0 ≤ a6 ∧ a6 < (a3.length : Int)
  ·rw [if_pos hc3] at h
   obtain ⟨c4_, hc4, h⟩ := Option.bind_eq_some_iff.1 h
   obtain ⟨c5_, hc5, h⟩ := Option.bind_eq_some_iff.1 h
   by_cases hc6 : c5_ = (0 : Int)
   ·rw [if_pos hc6] at h
    by_cases hc7 : (c2_.1) < (c4_.1)
    ·rw [if_pos hc7] at h
     obtain rfl := oI h; exact (runF2 hm (L := lT []) ⟨[6], [], 4, 4⟩ (zz 8 (xk5 3 U6 hc1) <|
yy 9 (.ld (Value.agg #[(i6 (c2_.1)), (i6 (c2_.2.1)), (i6 (c2_.2.2.1)), (i6 (c2_.2.2.2.1)), (i6 (c2_.2.2.2.2.1)), (i6 (c2_.2.2.2.2.2))])) <|
ww (p := rdT (layT (rows rw_iiiiii a3)) 6 ((a5).toNat * 6) = some [(i6 (c2_.1)), (i6 (c2_.2.1)), (i6 (c2_.2.2.1)), (i6 (c2_.2.2.2.1)), (i6 (c2_.2.2.2.2.1)), (i6 (c2_.2.2.2.2.2))]) (rows_rdpN rwf_iiiiii (0, 0, 0, 0, 0, 0) (hr := hc2) (i := (a5).toNat) (j := 0) ((a5).toNat * 6) rfl (toNatLt hc1) (by decide) rfl) <|
zz 15 (xk5 3 U6 hc3) <|
yy 16 (.ld (Value.agg #[(i6 (c4_.1)), (i6 (c4_.2.1)), (i6 (c4_.2.2.1)), (i6 (c4_.2.2.2.1)), (i6 (c4_.2.2.2.2.1)), (i6 (c4_.2.2.2.2.2))])) <|
ww (p := rdT (layT (rows rw_iiiiii a3)) 6 ((a6).toNat * 6) = some [(i6 (c4_.1)), (i6 (c4_.2.1)), (i6 (c4_.2.2.1)), (i6 (c4_.2.2.2.1)), (i6 (c4_.2.2.2.2.1)), (i6 (c4_.2.2.2.2.2))]) (rows_rdpN rwf_iiiiii (0, 0, 0, 0, 0, 0) (hr := hc4) (i := (a6).toNat) (j := 0) ((a6).toNat * 6) rfl (toNatLt hc3) (by decide) rfl) <|
yy 31 (.call (C_jobsorder1q1 (c2_.2.1) (c2_.2.2.1) (c2_.2.2.2.1) (c2_.2.2.2.2.1) (c2_.2.2.2.2.2) (c4_.2.1) (c4_.2.2.1) (c4_.2.2.2.1) (c4_.2.2.2.2.1) (c4_.2.2.2.2.2) a0 a1 a2 c5_ [(0, 1, false), (1, 2, false)] [])) <|
ww (m_jobsorder1q1_ok n (c2_.2.1) (c2_.2.2.1) (c2_.2.2.2.1) (c2_.2.2.2.2.1) (c2_.2.2.2.2.2) (c4_.2.1) (c4_.2.2.1) (c4_.2.2.2.1) (c4_.2.2.2.2.1) (c4_.2.2.2.2.2) a0 a1 a2 c5_ hc5) <|
zz 35 (xnF hc6) <|
zz 44 (xdT hc7) ee) (by kernel_rfl))
    ·rw [if_neg hc7] at h
     obtain rfl := oI h; exact (runF2 hm (L := lT []) ⟨[6], [], 4, 4⟩ (zz 8 (xk5 3 U6 hc1) <|
yy 9 (.ld (Value.agg #[(i6 (c2_.1)), (i6 (c2_.2.1)), (i6 (c2_.2.2.1)), (i6 (c2_.2.2.2.1)), (i6 (c2_.2.2.2.2.1)), (i6 (c2_.2.2.2.2.2))])) <|
ww (p := rdT (layT (rows rw_iiiiii a3)) 6 ((a5).toNat * 6) = some [(i6 (c2_.1)), (i6 (c2_.2.1)), (i6 (c2_.2.2.1)), (i6 (c2_.2.2.2.1)), (i6 (c2_.2.2.2.2.1)), (i6 (c2_.2.2.2.2.2))]) (rows_rdpN rwf_iiiiii (0, 0, 0, 0, 0, 0) (hr := hc2) (i := (a5).toNat) (j := 0) ((a5).toNat * 6) rfl (toNatLt hc1) (by decide) rfl) <|
zz 15 (xk5 3 U6 hc3) <|
yy 16 (.ld (Value.agg #[(i6 (c4_.1)), (i6 (c4_.2.1)), (i6 (c4_.2.2.1)), (i6 (c4_.2.2.2.1)), (i6 (c4_.2.2.2.2.1)), (i6 (c4_.2.2.2.2.2))])) <|
ww (p := rdT (layT (rows rw_iiiiii a3)) 6 ((a6).toNat * 6) = some [(i6 (c4_.1)), (i6 (c4_.2.1)), (i6 (c4_.2.2.1)), (i6 (c4_.2.2.2.1)), (i6 (c4_.2.2.2.2.1)), (i6 (c4_.2.2.2.2.2))]) (rows_rdpN rwf_iiiiii (0, 0, 0, 0, 0, 0) (hr := hc4) (i := (a6).toNat) (j := 0) ((a6).toNat * 6) rfl (toNatLt hc3) (by decide) rfl) <|
yy 31 (.call (C_jobsorder1q1 (c2_.2.1) (c2_.2.2.1) (c2_.2.2.2.1) (c2_.2.2.2.2.1) (c2_.2.2.2.2.2) (c4_.2.1) (c4_.2.2.1) (c4_.2.2.2.1) (c4_.2.2.2.2.1) (c4_.2.2.2.2.2) a0 a1 a2 c5_ [(0, 1, false), (1, 2, false)] [])) <|
ww (m_jobsorder1q1_ok n (c2_.2.1) (c2_.2.2.1) (c2_.2.2.2.1) (c2_.2.2.2.2.1) (c2_.2.2.2.2.2) (c4_.2.1) (c4_.2.2.1) (c4_.2.2.2.1) (c4_.2.2.2.2.1) (c4_.2.2.2.2.2) a0 a1 a2 c5_ hc5) <|
zz 35 (xnF hc6) <|
zz 44 (xdF hc7) ee) (by kernel_rfl))
   ·rw [if_neg hc6] at h
    by_cases hc7 : c5_ < (0 : Int)
    ·rw [if_pos hc7] at h
     obtain rfl := oI h; exact (runF2 hm (L := lT []) ⟨[6], [], 4, 4⟩ (zz 8 (xk5 3 U6 hc1) <|
yy 9 (.ld (Value.agg #[(i6 (c2_.1)), (i6 (c2_.2.1)), (i6 (c2_.2.2.1)), (i6 (c2_.2.2.2.1)), (i6 (c2_.2.2.2.2.1)), (i6 (c2_.2.2.2.2.2))])) <|
ww (p := rdT (layT (rows rw_iiiiii a3)) 6 ((a5).toNat * 6) = some [(i6 (c2_.1)), (i6 (c2_.2.1)), (i6 (c2_.2.2.1)), (i6 (c2_.2.2.2.1)), (i6 (c2_.2.2.2.2.1)), (i6 (c2_.2.2.2.2.2))]) (rows_rdpN rwf_iiiiii (0, 0, 0, 0, 0, 0) (hr := hc2) (i := (a5).toNat) (j := 0) ((a5).toNat * 6) rfl (toNatLt hc1) (by decide) rfl) <|
zz 15 (xk5 3 U6 hc3) <|
yy 16 (.ld (Value.agg #[(i6 (c4_.1)), (i6 (c4_.2.1)), (i6 (c4_.2.2.1)), (i6 (c4_.2.2.2.1)), (i6 (c4_.2.2.2.2.1)), (i6 (c4_.2.2.2.2.2))])) <|
ww (p := rdT (layT (rows rw_iiiiii a3)) 6 ((a6).toNat * 6) = some [(i6 (c4_.1)), (i6 (c4_.2.1)), (i6 (c4_.2.2.1)), (i6 (c4_.2.2.2.1)), (i6 (c4_.2.2.2.2.1)), (i6 (c4_.2.2.2.2.2))]) (rows_rdpN rwf_iiiiii (0, 0, 0, 0, 0, 0) (hr := hc4) (i := (a6).toNat) (j := 0) ((a6).toNat * 6) rfl (toNatLt hc3) (by decide) rfl) <|
yy 31 (.call (C_jobsorder1q1 (c2_.2.1) (c2_.2.2.1) (c2_.2.2.2.1) (c2_.2.2.2.2.1) (c2_.2.2.2.2.2) (c4_.2.1) (c4_.2.2.1) (c4_.2.2.2.1) (c4_.2.2.2.2.1) (c4_.2.2.2.2.2) a0 a1 a2 c5_ [(0, 1, false), (1, 2, false)] [])) <|
ww (m_jobsorder1q1_ok n (c2_.2.1) (c2_.2.2.1) (c2_.2.2.2.1) (c2_.2.2.2.2.1) (c2_.2.2.2.2.2) (c4_.2.1) (c4_.2.2.1) (c4_.2.2.2.1) (c4_.2.2.2.2.1) (c4_.2.2.2.2.2) a0 a1 a2 c5_ hc5) <|
zz 35 (xnT hc6) <|
zz 39 (xdT hc7) ee) (by kernel_rfl))
    ·rw [if_neg hc7] at h
     obtain rfl := oI h; exact (runF2 hm (L := lT []) ⟨[6], [], 4, 4⟩ (zz 8 (xk5 3 U6 hc1) <|
yy 9 (.ld (Value.agg #[(i6 (c2_.1)), (i6 (c2_.2.1)), (i6 (c2_.2.2.1)), (i6 (c2_.2.2.2.1)), (i6 (c2_.2.2.2.2.1)), (i6 (c2_.2.2.2.2.2))])) <|
ww (p := rdT (layT (rows rw_iiiiii a3)) 6 ((a5).toNat * 6) = some [(i6 (c2_.1)), (i6 (c2_.2.1)), (i6 (c2_.2.2.1)), (i6 (c2_.2.2.2.1)), (i6 (c2_.2.2.2.2.1)), (i6 (c2_.2.2.2.2.2))]) (rows_rdpN rwf_iiiiii (0, 0, 0, 0, 0, 0) (hr := hc2) (i := (a5).toNat) (j := 0) ((a5).toNat * 6) rfl (toNatLt hc1) (by decide) rfl) <|
zz 15 (xk5 3 U6 hc3) <|
yy 16 (.ld (Value.agg #[(i6 (c4_.1)), (i6 (c4_.2.1)), (i6 (c4_.2.2.1)), (i6 (c4_.2.2.2.1)), (i6 (c4_.2.2.2.2.1)), (i6 (c4_.2.2.2.2.2))])) <|
ww (p := rdT (layT (rows rw_iiiiii a3)) 6 ((a6).toNat * 6) = some [(i6 (c4_.1)), (i6 (c4_.2.1)), (i6 (c4_.2.2.1)), (i6 (c4_.2.2.2.1)), (i6 (c4_.2.2.2.2.1)), (i6 (c4_.2.2.2.2.2))]) (rows_rdpN rwf_iiiiii (0, 0, 0, 0, 0, 0) (hr := hc4) (i := (a6).toNat) (j := 0) ((a6).toNat * 6) rfl (toNatLt hc3) (by decide) rfl) <|
yy 31 (.call (C_jobsorder1q1 (c2_.2.1) (c2_.2.2.1) (c2_.2.2.2.1) (c2_.2.2.2.2.1) (c2_.2.2.2.2.2) (c4_.2.1) (c4_.2.2.1) (c4_.2.2.2.1) (c4_.2.2.2.2.1) (c4_.2.2.2.2.2) a0 a1 a2 c5_ [(0, 1, false), (1, 2, false)] [])) <|
ww (m_jobsorder1q1_ok n (c2_.2.1) (c2_.2.2.1) (c2_.2.2.2.1) (c2_.2.2.2.2.1) (c2_.2.2.2.2.2) (c4_.2.1) (c4_.2.2.1) (c4_.2.2.2.1) (c4_.2.2.2.2.1) (c4_.2.2.2.2.2) a0 a1 a2 c5_ hc5) <|
zz 35 (xnT hc6) <|
zz 39 (xdF hc7) ee) (by kernel_rfl))
  ·rw [if_neg hc3] at h; cases h
 ·rw [if_neg hc1] at h; cases h

def A_heapHeapapiDirtybeforeq2 (a0 : Int) (a1 : Int) (a2 : Int) (a3 : List R6) (a4 : Nat) (a5 : Int) (a6 : Int) (a7 : Int) : List Value := [(pN 0 0), (i6 a6), (i6 a7)]
def H_heapHeapapiDirtybeforeq2 (a0 : Int) (a1 : Int) (a2 : Int) (a3 : List R6) (a4 : Nat) (a5 : Int) (a6 : Int) (a7 : Int) : AH := ⟨sB [(0, (some (.cells (layT [(pN 0 0), (Value.func (.func 24) #[] #[(pN 1 0), (pN 2 0)]), (sN 3 0 a4 (Nat.add big 6)), (i6 a5)]) 53))), (1, (some (.cells (layT [(i6 a0)]) 3))), (2, (some (.cells (layT [(i6 a1), (i6 a2)]) 24))), (3, (some (.cells (layT (rows rw_iiiiii a3)) 58)))], 4, 4⟩
def V_heapHeapapiDirtybeforeq2 (a0 : Int) (a1 : Int) (a2 : Int) (a3 : List R6) (a4 : Nat) (a5 : Int) (a6 : Int) (a7 : Int) (r : Bool) : Value := match r with
 | o0 => (bO o0)
def R_heapHeapapiDirtybeforeq2 (a0 : Int) (a1 : Int) (a2 : Int) (a3 : List R6) (a4 : Nat) (a5 : Int) (a6 : Int) (a7 : Int) (r : Bool) : AH := match r with
 | o0 => ⟨sB [], 4, 4⟩
abbrev G_heapHeapapiDirtybeforeq2 (a0 : Int) (a1 : Int) (a2 : Int) (a3 : List R6) (a4 : Nat) (a5 : Int) (a6 : Int) (a7 : Int) (r : Bool) : Prop := Gv P (.func 35) (A_heapHeapapiDirtybeforeq2 a0 a1 a2 a3 a4 a5 a6 a7) (H_heapHeapapiDirtybeforeq2 a0 a1 a2 a3 a4 a5 a6 a7) (V_heapHeapapiDirtybeforeq2 a0 a1 a2 a3 a4 a5 a6 a7 r) (R_heapHeapapiDirtybeforeq2 a0 a1 a2 a3 a4 a5 a6 a7 r)
abbrev C_heapHeapapiDirtybeforeq2 (a0 : Int) (a1 : Int) (a2 : Int) (a3 : List R6) (a4 : Nat) (a5 : Int) (a6 : Int) (a7 : Int) (r : Bool) (ins outs : BL) : CallA := ⟨4, ins, V_heapHeapapiDirtybeforeq2 a0 a1 a2 a3 a4 a5 a6 a7 r, R_heapHeapapiDirtybeforeq2 a0 a1 a2 a3 a4 a5 a6 a7 r, outs⟩
def m_heapHeapapiDirtybeforeq2 (n : Nat) (a0 : Int) (a1 : Int) (a2 : Int) (a3 : List R6) (a4 : Nat) (a5 : Int) (a6 : Int) (a7 : Int) : Option (Bool) :=
 if 0 ≤ a6 ∧ a6 < ((a4 : Nat) : Int) then
  if (a6).toNat < (a3).length then
   ((some ((a3).getD (a6).toNat (0, 0, 0, 0, 0, 0)))).bind fun c3_ =>
   if 0 ≤ a7 ∧ a7 < ((a4 : Nat) : Int) then
    if (a7).toNat < (a3).length then
     ((some ((a3).getD (a7).toNat (0, 0, 0, 0, 0, 0)))).bind fun c6_ =>
     (m_jobsorder1q1 n (c3_.2.1) (c3_.2.2.1) (c3_.2.2.2.1) (c3_.2.2.2.2.1) (c3_.2.2.2.2.2) (c6_.2.1) (c6_.2.2.1) (c6_.2.2.2.1) (c6_.2.2.2.2.1) (c6_.2.2.2.2.2) a0 a1 a2).bind fun c7_ =>
     if c7_ = (0 : Int) then
      if (c3_.1) < (c6_.1) then
       some true
      else
       some false
     else
      if c7_ < (0 : Int) then
       some true
      else
       some false
    else none
   else none
  else none
 else none
theorem m_heapHeapapiDirtybeforeq2_ok (n : Nat) (a0 : Int) (a1 : Int) (a2 : Int) (a3 : List R6) (a4 : Nat) (a5 : Int) (a6 : Int) (a7 : Int) (r : Bool) (h : m_heapHeapapiDirtybeforeq2 n a0 a1 a2 a3 a4 a5 a6 a7 = some r) : Gv P (.func 35) (A_heapHeapapiDirtybeforeq2 a0 a1 a2 a3 a4 a5 a6 a7) (H_heapHeapapiDirtybeforeq2 a0 a1 a2 a3 a4 a5 a6 a7) (V_heapHeapapiDirtybeforeq2 a0 a1 a2 a3 a4 a5 a6 a7 r) (R_heapHeapapiDirtybeforeq2 a0 a1 a2 a3 a4 a5 a6 a7 r) := by
 unfold m_heapHeapapiDirtybeforeq2 at h
 by_cases hc1 : 0 ≤ a6 ∧ a6 < ((a4 : Nat) : Int)
 ·rw [if_pos hc1] at h
  by_cases hc2 : (a6).toNat < (a3).length
  ·rw [if_pos hc2] at h
   obtain ⟨c3_, hc3, h⟩ := Option.bind_eq_some_iff.1 h
   by_cases hc4 : 0 ≤ a7 ∧ a7 < ((a4 : Nat) : Int)
   ·rw [if_pos hc4] at h
    by_cases hc5 : (a7).toNat < (a3).length
    ·rw [if_pos hc5] at h
     obtain ⟨c6_, hc6, h⟩ := Option.bind_eq_some_iff.1 h
     obtain ⟨c7_, hc7, h⟩ := Option.bind_eq_some_iff.1 h
     by_cases hc8 : c7_ = (0 : Int)
     ·rw [if_pos hc8] at h
      by_cases hc9 : (c3_.1) < (c6_.1)
      ·rw [if_pos hc9] at h
       obtain rfl := oI h; exact (runF2 hm (L := lT []) ⟨[6], [], 4, 4⟩ (zz 8 (xk5 3 U6 hc1) <|
yy 9 (.ld (Value.agg #[(i6 (c3_.1)), (i6 (c3_.2.1)), (i6 (c3_.2.2.1)), (i6 (c3_.2.2.2.1)), (i6 (c3_.2.2.2.2.1)), (i6 (c3_.2.2.2.2.2))])) <|
ww (p := rdT (layT (rows rw_iiiiii a3)) 6 ((a6).toNat * 6) = some [(i6 (c3_.1)), (i6 (c3_.2.1)), (i6 (c3_.2.2.1)), (i6 (c3_.2.2.2.1)), (i6 (c3_.2.2.2.2.1)), (i6 (c3_.2.2.2.2.2))]) (rows_rdpN rwf_iiiiii (0, 0, 0, 0, 0, 0) (hr := hc3) (i := (a6).toNat) (j := 0) ((a6).toNat * 6) rfl (hc2) (by decide) rfl) <|
zz 15 (xk5 3 U6 hc4) <|
yy 16 (.ld (Value.agg #[(i6 (c6_.1)), (i6 (c6_.2.1)), (i6 (c6_.2.2.1)), (i6 (c6_.2.2.2.1)), (i6 (c6_.2.2.2.2.1)), (i6 (c6_.2.2.2.2.2))])) <|
ww (p := rdT (layT (rows rw_iiiiii a3)) 6 ((a7).toNat * 6) = some [(i6 (c6_.1)), (i6 (c6_.2.1)), (i6 (c6_.2.2.1)), (i6 (c6_.2.2.2.1)), (i6 (c6_.2.2.2.2.1)), (i6 (c6_.2.2.2.2.2))]) (rows_rdpN rwf_iiiiii (0, 0, 0, 0, 0, 0) (hr := hc6) (i := (a7).toNat) (j := 0) ((a7).toNat * 6) rfl (hc5) (by decide) rfl) <|
yy 31 (.call (C_jobsorder1q1 (c3_.2.1) (c3_.2.2.1) (c3_.2.2.2.1) (c3_.2.2.2.2.1) (c3_.2.2.2.2.2) (c6_.2.1) (c6_.2.2.1) (c6_.2.2.2.1) (c6_.2.2.2.2.1) (c6_.2.2.2.2.2) a0 a1 a2 c7_ [(0, 1, false), (1, 2, false)] [])) <|
ww (m_jobsorder1q1_ok n (c3_.2.1) (c3_.2.2.1) (c3_.2.2.2.1) (c3_.2.2.2.2.1) (c3_.2.2.2.2.2) (c6_.2.1) (c6_.2.2.1) (c6_.2.2.2.1) (c6_.2.2.2.2.1) (c6_.2.2.2.2.2) a0 a1 a2 c7_ hc7) <|
zz 35 (xnF hc8) <|
zz 44 (xdT hc9) ee) (by kernel_rfl))
      ·rw [if_neg hc9] at h
       obtain rfl := oI h; exact (runF2 hm (L := lT []) ⟨[6], [], 4, 4⟩ (zz 8 (xk5 3 U6 hc1) <|
yy 9 (.ld (Value.agg #[(i6 (c3_.1)), (i6 (c3_.2.1)), (i6 (c3_.2.2.1)), (i6 (c3_.2.2.2.1)), (i6 (c3_.2.2.2.2.1)), (i6 (c3_.2.2.2.2.2))])) <|
ww (p := rdT (layT (rows rw_iiiiii a3)) 6 ((a6).toNat * 6) = some [(i6 (c3_.1)), (i6 (c3_.2.1)), (i6 (c3_.2.2.1)), (i6 (c3_.2.2.2.1)), (i6 (c3_.2.2.2.2.1)), (i6 (c3_.2.2.2.2.2))]) (rows_rdpN rwf_iiiiii (0, 0, 0, 0, 0, 0) (hr := hc3) (i := (a6).toNat) (j := 0) ((a6).toNat * 6) rfl (hc2) (by decide) rfl) <|
zz 15 (xk5 3 U6 hc4) <|
yy 16 (.ld (Value.agg #[(i6 (c6_.1)), (i6 (c6_.2.1)), (i6 (c6_.2.2.1)), (i6 (c6_.2.2.2.1)), (i6 (c6_.2.2.2.2.1)), (i6 (c6_.2.2.2.2.2))])) <|
ww (p := rdT (layT (rows rw_iiiiii a3)) 6 ((a7).toNat * 6) = some [(i6 (c6_.1)), (i6 (c6_.2.1)), (i6 (c6_.2.2.1)), (i6 (c6_.2.2.2.1)), (i6 (c6_.2.2.2.2.1)), (i6 (c6_.2.2.2.2.2))]) (rows_rdpN rwf_iiiiii (0, 0, 0, 0, 0, 0) (hr := hc6) (i := (a7).toNat) (j := 0) ((a7).toNat * 6) rfl (hc5) (by decide) rfl) <|
yy 31 (.call (C_jobsorder1q1 (c3_.2.1) (c3_.2.2.1) (c3_.2.2.2.1) (c3_.2.2.2.2.1) (c3_.2.2.2.2.2) (c6_.2.1) (c6_.2.2.1) (c6_.2.2.2.1) (c6_.2.2.2.2.1) (c6_.2.2.2.2.2) a0 a1 a2 c7_ [(0, 1, false), (1, 2, false)] [])) <|
ww (m_jobsorder1q1_ok n (c3_.2.1) (c3_.2.2.1) (c3_.2.2.2.1) (c3_.2.2.2.2.1) (c3_.2.2.2.2.2) (c6_.2.1) (c6_.2.2.1) (c6_.2.2.2.1) (c6_.2.2.2.2.1) (c6_.2.2.2.2.2) a0 a1 a2 c7_ hc7) <|
zz 35 (xnF hc8) <|
zz 44 (xdF hc9) ee) (by kernel_rfl))
     ·rw [if_neg hc8] at h
      by_cases hc9 : c7_ < (0 : Int)
      ·rw [if_pos hc9] at h
       obtain rfl := oI h; exact (runF2 hm (L := lT []) ⟨[6], [], 4, 4⟩ (zz 8 (xk5 3 U6 hc1) <|
yy 9 (.ld (Value.agg #[(i6 (c3_.1)), (i6 (c3_.2.1)), (i6 (c3_.2.2.1)), (i6 (c3_.2.2.2.1)), (i6 (c3_.2.2.2.2.1)), (i6 (c3_.2.2.2.2.2))])) <|
ww (p := rdT (layT (rows rw_iiiiii a3)) 6 ((a6).toNat * 6) = some [(i6 (c3_.1)), (i6 (c3_.2.1)), (i6 (c3_.2.2.1)), (i6 (c3_.2.2.2.1)), (i6 (c3_.2.2.2.2.1)), (i6 (c3_.2.2.2.2.2))]) (rows_rdpN rwf_iiiiii (0, 0, 0, 0, 0, 0) (hr := hc3) (i := (a6).toNat) (j := 0) ((a6).toNat * 6) rfl (hc2) (by decide) rfl) <|
zz 15 (xk5 3 U6 hc4) <|
yy 16 (.ld (Value.agg #[(i6 (c6_.1)), (i6 (c6_.2.1)), (i6 (c6_.2.2.1)), (i6 (c6_.2.2.2.1)), (i6 (c6_.2.2.2.2.1)), (i6 (c6_.2.2.2.2.2))])) <|
ww (p := rdT (layT (rows rw_iiiiii a3)) 6 ((a7).toNat * 6) = some [(i6 (c6_.1)), (i6 (c6_.2.1)), (i6 (c6_.2.2.1)), (i6 (c6_.2.2.2.1)), (i6 (c6_.2.2.2.2.1)), (i6 (c6_.2.2.2.2.2))]) (rows_rdpN rwf_iiiiii (0, 0, 0, 0, 0, 0) (hr := hc6) (i := (a7).toNat) (j := 0) ((a7).toNat * 6) rfl (hc5) (by decide) rfl) <|
yy 31 (.call (C_jobsorder1q1 (c3_.2.1) (c3_.2.2.1) (c3_.2.2.2.1) (c3_.2.2.2.2.1) (c3_.2.2.2.2.2) (c6_.2.1) (c6_.2.2.1) (c6_.2.2.2.1) (c6_.2.2.2.2.1) (c6_.2.2.2.2.2) a0 a1 a2 c7_ [(0, 1, false), (1, 2, false)] [])) <|
ww (m_jobsorder1q1_ok n (c3_.2.1) (c3_.2.2.1) (c3_.2.2.2.1) (c3_.2.2.2.2.1) (c3_.2.2.2.2.2) (c6_.2.1) (c6_.2.2.1) (c6_.2.2.2.1) (c6_.2.2.2.2.1) (c6_.2.2.2.2.2) a0 a1 a2 c7_ hc7) <|
zz 35 (xnT hc8) <|
zz 39 (xdT hc9) ee) (by kernel_rfl))
      ·rw [if_neg hc9] at h
       obtain rfl := oI h; exact (runF2 hm (L := lT []) ⟨[6], [], 4, 4⟩ (zz 8 (xk5 3 U6 hc1) <|
yy 9 (.ld (Value.agg #[(i6 (c3_.1)), (i6 (c3_.2.1)), (i6 (c3_.2.2.1)), (i6 (c3_.2.2.2.1)), (i6 (c3_.2.2.2.2.1)), (i6 (c3_.2.2.2.2.2))])) <|
ww (p := rdT (layT (rows rw_iiiiii a3)) 6 ((a6).toNat * 6) = some [(i6 (c3_.1)), (i6 (c3_.2.1)), (i6 (c3_.2.2.1)), (i6 (c3_.2.2.2.1)), (i6 (c3_.2.2.2.2.1)), (i6 (c3_.2.2.2.2.2))]) (rows_rdpN rwf_iiiiii (0, 0, 0, 0, 0, 0) (hr := hc3) (i := (a6).toNat) (j := 0) ((a6).toNat * 6) rfl (hc2) (by decide) rfl) <|
zz 15 (xk5 3 U6 hc4) <|
yy 16 (.ld (Value.agg #[(i6 (c6_.1)), (i6 (c6_.2.1)), (i6 (c6_.2.2.1)), (i6 (c6_.2.2.2.1)), (i6 (c6_.2.2.2.2.1)), (i6 (c6_.2.2.2.2.2))])) <|
ww (p := rdT (layT (rows rw_iiiiii a3)) 6 ((a7).toNat * 6) = some [(i6 (c6_.1)), (i6 (c6_.2.1)), (i6 (c6_.2.2.1)), (i6 (c6_.2.2.2.1)), (i6 (c6_.2.2.2.2.1)), (i6 (c6_.2.2.2.2.2))]) (rows_rdpN rwf_iiiiii (0, 0, 0, 0, 0, 0) (hr := hc6) (i := (a7).toNat) (j := 0) ((a7).toNat * 6) rfl (hc5) (by decide) rfl) <|
yy 31 (.call (C_jobsorder1q1 (c3_.2.1) (c3_.2.2.1) (c3_.2.2.2.1) (c3_.2.2.2.2.1) (c3_.2.2.2.2.2) (c6_.2.1) (c6_.2.2.1) (c6_.2.2.2.1) (c6_.2.2.2.2.1) (c6_.2.2.2.2.2) a0 a1 a2 c7_ [(0, 1, false), (1, 2, false)] [])) <|
ww (m_jobsorder1q1_ok n (c3_.2.1) (c3_.2.2.1) (c3_.2.2.2.1) (c3_.2.2.2.2.1) (c3_.2.2.2.2.2) (c6_.2.1) (c6_.2.2.1) (c6_.2.2.2.1) (c6_.2.2.2.2.1) (c6_.2.2.2.2.2) a0 a1 a2 c7_ hc7) <|
zz 35 (xnT hc8) <|
zz 39 (xdF hc9) ee) (by kernel_rfl))
    ·rw [if_neg hc5] at h; cases h
   ·rw [if_neg hc4] at h; cases h
  ·rw [if_neg hc2] at h; cases h
 ·rw [if_neg hc1] at h; cases h

def A_heapHeapapiDirtyupq1 (a0 : Int) (a1 : Int) (a2 : Int) (a3 : List R6) (a4 : Int) (a5 : Int) : List Value := [(pN 0 0), (i6 a5)]
def H_heapHeapapiDirtyupq1 (a0 : Int) (a1 : Int) (a2 : Int) (a3 : List R6) (a4 : Int) (a5 : Int) : AH := ⟨sB [(0, (some (.cells (layT [(pN 0 0), (Value.func (.func 24) #[] #[(pN 1 0), (pN 2 0)]), (sN 3 0 (a3).length (Nat.add big 6)), (i6 a4)]) 53))), (1, (some (.cells (layT [(i6 a0)]) 3))), (2, (some (.cells (layT [(i6 a1), (i6 a2)]) 24))), (3, (some (.cells (layT (rows rw_iiiiii a3)) 58)))], 4, 4⟩
def V_heapHeapapiDirtyupq1 (a0 : Int) (a1 : Int) (a2 : Int) (a3 : List R6) (a4 : Int) (a5 : Int) (r : List R6) : Value := match r with
 | o0 => (Value.tuple #[])
def R_heapHeapapiDirtyupq1 (a0 : Int) (a1 : Int) (a2 : Int) (a3 : List R6) (a4 : Int) (a5 : Int) (r : List R6) : AH := match r with
 | o0 => ⟨sB [(3, (some (.cells (layT (rows rw_iiiiii o0)) 58)))], 4, 3⟩
abbrev G_heapHeapapiDirtyupq1 (a0 : Int) (a1 : Int) (a2 : Int) (a3 : List R6) (a4 : Int) (a5 : Int) (r : List R6) : Prop := Gv P (.func 29) (A_heapHeapapiDirtyupq1 a0 a1 a2 a3 a4 a5) (H_heapHeapapiDirtyupq1 a0 a1 a2 a3 a4 a5) (V_heapHeapapiDirtyupq1 a0 a1 a2 a3 a4 a5 r) (R_heapHeapapiDirtyupq1 a0 a1 a2 a3 a4 a5 r)
abbrev C_heapHeapapiDirtyupq1 (a0 : Int) (a1 : Int) (a2 : Int) (a3 : List R6) (a4 : Int) (a5 : Int) (r : List R6) (ins outs : BL) : CallA := ⟨4, ins, V_heapHeapapiDirtyupq1 a0 a1 a2 a3 a4 a5 r, R_heapHeapapiDirtyupq1 a0 a1 a2 a3 a4 a5 r, outs⟩
def S_heapHeapapiDirtyupq1_1 (x1_0 : Int) (x1_1 : Int) (x1_2 : Int) (x1_4 : Nat) (x1_5 : Int) (st : List R6 × Int × Int) : XSt := match st with
 | (x1_3, x1_6, x1_7) => (sT 46 [(0, (pN 0 0)), (1, (i6 x1_6)), (4, (i6 x1_7))], [], ⟨sB [(0, (some (.cells (layT [(pN 0 0), (Value.func (.func 24) #[] #[(pN 1 0), (pN 2 0)]), (sN 3 0 x1_4 (Nat.add big 6)), (i6 x1_5)]) 53))), (1, (some (.cells (layT [(i6 x1_0)]) 3))), (2, (some (.cells (layT [(i6 x1_1), (i6 x1_2)]) 24))), (3, (some (.cells (layT (rows rw_iiiiii x1_3)) 58)))], 4, 3⟩)
def X_heapHeapapiDirtyupq1_1 (x1_0 : Int) (x1_1 : Int) (x1_2 : Int) (x1_4 : Nat) (x1_5 : Int) (r : List R6) : Ex × XSt := match r with
 | z1_0 => (.exit 0, (sT 46 [], [], ⟨sB [(0, (some (.cells (layT [(pN 0 0), (Value.func (.func 24) #[] #[(pN 1 0), (pN 2 0)]), (sN 3 0 x1_4 (Nat.add big 6)), (i6 x1_5)]) 53))), (1, (some (.cells (layT [(i6 x1_0)]) 3))), (2, (some (.cells (layT [(i6 x1_1), (i6 x1_2)]) 24))), (3, (some (.cells (layT (rows rw_iiiiii z1_0)) 58)))], 4, 3⟩))
abbrev Q_heapHeapapiDirtyupq1_1 (rnd : Option Nat) (x1_0 : Int) (x1_1 : Int) (x1_2 : Int) (x1_4 : Nat) (x1_5 : Int) (st : List R6 × Int × Int) (c : Ex × XSt) : Prop := CG P rnd (fnN P 29) 4 (codeOf P 29 [false, false, true]) (S_heapHeapapiDirtyupq1_1 x1_0 x1_1 x1_2 x1_4 x1_5 st) c
abbrev U_heapHeapapiDirtyupq1_1 (rd : Option Nat) (x1_0 : Int) (x1_1 : Int) (x1_2 : Int) (x1_4 : Nat) (x1_5 : Int) (st : List R6 × Int × Int) (r : List R6) : Prop := CG P rd (fnN P 29) 4 (codeOf P 29 [false, true]) (S_heapHeapapiDirtyupq1_1 x1_0 x1_1 x1_2 x1_4 x1_5 st) (X_heapHeapapiDirtyupq1_1 x1_0 x1_1 x1_2 x1_4 x1_5 r)
def B_heapHeapapiDirtyupq1_1 (n : Nat) (x1_0 : Int) (x1_1 : Int) (x1_2 : Int) (x1_4 : Nat) (x1_5 : Int) (st : List R6 × Int × Int) : Option ((List R6 × Int × Int) ⊕ (List R6)) := match st with
 | (x1_3, x1_6, x1_7) =>
  if x1_6 > (0 : Int) then
   (m_heapHeapapiDirtybeforeq2 n x1_0 x1_1 x1_2 x1_3 x1_4 x1_5 x1_6 x1_7).bind fun y1_2_ =>
   if y1_2_ = true then
    if 0 ≤ x1_7 ∧ x1_7 < ((x1_4 : Nat) : Int) then
     if (x1_7).toNat < (x1_3).length then
      ((some ((x1_3).getD (x1_7).toNat (0, 0, 0, 0, 0, 0)))).bind fun y1_6_ =>
      if 0 ≤ x1_6 ∧ x1_6 < ((x1_4 : Nat) : Int) then
       if (x1_6).toNat < (x1_3).length then
        ((some ((x1_3).getD (x1_6).toNat (0, 0, 0, 0, 0, 0)))).bind fun y1_9_ =>
        if (x1_7).toNat < (((x1_3).set (x1_6).toNat ((y1_6_.1), (y1_6_.2.1), (y1_6_.2.2.1), (y1_6_.2.2.2.1), (y1_6_.2.2.2.2.1), (y1_6_.2.2.2.2.2)))).length then
         some (.inl (((((x1_3).set (x1_6).toNat ((y1_6_.1), (y1_6_.2.1), (y1_6_.2.2.1), (y1_6_.2.2.2.1), (y1_6_.2.2.2.2.1), (y1_6_.2.2.2.2.2)))).set (x1_7).toNat ((y1_9_.1), (y1_9_.2.1), (y1_9_.2.2.1), (y1_9_.2.2.2.1), (y1_9_.2.2.2.2.1), (y1_9_.2.2.2.2.2))), x1_7, (Int.fdiv (w64 (x1_7 - (1 : Int))) 2)))
        else none
       else none
      else none
     else none
    else none
   else
    some (.inr x1_3)
  else
   some (.inr x1_3)
def m_heapHeapapiDirtyupq1_1 (n : Nat) (x1_0 : Int) (x1_1 : Int) (x1_2 : Int) (x1_4 : Nat) (x1_5 : Int) (st : List R6 × Int × Int) : Option (List R6) := iterM (B_heapHeapapiDirtyupq1_1 n x1_0 x1_1 x1_2 x1_4 x1_5) n st
theorem q_heapHeapapiDirtyupq1_1_0 (n : Nat) {rnd : Option Nat} (x1_0 x1_1 x1_2 : Int) (x1_3 : List R6) (x1_4 : Nat) (x1_5 x1_6 x1_7 : Int) (hy1_1 : x1_6 > (0 : Int)) (y1_2_ : Bool) (hy1_2 : m_heapHeapapiDirtybeforeq2 n x1_0 x1_1 x1_2 x1_3 x1_4 x1_5 x1_6 x1_7 = some y1_2_) (hy1_3 : y1_2_ = true) (hy1_4 : 0 ≤ x1_7 ∧ x1_7 < ((x1_4 : Nat) : Int)) (hy1_5 : (x1_7).toNat < (x1_3).length) (y1_6_ : R6) (hy1_6 : (some ((x1_3).getD (x1_7).toNat (0, 0, 0, 0, 0, 0))) = some y1_6_) (hy1_7 : 0 ≤ x1_6 ∧ x1_6 < ((x1_4 : Nat) : Int)) (hy1_8 : (x1_6).toNat < (x1_3).length) (y1_9_ : R6) (hy1_9 : (some ((x1_3).getD (x1_6).toNat (0, 0, 0, 0, 0, 0))) = some y1_9_) (hy1_10 : (x1_7).toNat < (((x1_3).set (x1_6).toNat ((y1_6_.1), (y1_6_.2.1), (y1_6_.2.2.1), (y1_6_.2.2.2.1), (y1_6_.2.2.2.2.1), (y1_6_.2.2.2.2.2)))).length) : Q_heapHeapapiDirtyupq1_1 rnd x1_0 x1_1 x1_2 x1_4 x1_5 (x1_3, x1_6, x1_7) (.normal, S_heapHeapapiDirtyupq1_1 x1_0 x1_1 x1_2 x1_4 x1_5 (((((x1_3).set (x1_6).toNat ((y1_6_.1), (y1_6_.2.1), (y1_6_.2.2.1), (y1_6_.2.2.2.1), (y1_6_.2.2.2.2.1), (y1_6_.2.2.2.2.2)))).set (x1_7).toNat ((y1_9_.1), (y1_9_.2.1), (y1_9_.2.2.1), (y1_9_.2.2.2.1), (y1_9_.2.2.2.2.1), (y1_9_.2.2.2.2.2))), x1_7, (Int.fdiv (w64 (x1_7 - (1 : Int))) 2))) :=
 runC2 hm (L := lT []) ⟨[0, 1, 4], [(0, 0, false), (1, 1, false), (2, 2, false), (3, 3, true)], 4, 3⟩ (zz 3 (xdT hy1_1) <|
yy 8 (.call (C_heapHeapapiDirtybeforeq2 x1_0 x1_1 x1_2 x1_3 x1_4 x1_5 x1_6 x1_7 y1_2_ [(0, 0, false), (1, 1, false), (2, 2, false), (3, 3, true)] [])) <|
ww (m_heapHeapapiDirtybeforeq2_ok n x1_0 x1_1 x1_2 x1_3 x1_4 x1_5 x1_6 x1_7 y1_2_ hy1_2) <|
ww (rows_flat rwf_iiiiii x1_3 58) <|
zz 10 (xbT hy1_3) <|
zz 29 (xk5 3 U6 hy1_4) <|
yy 30 (.ld (Value.agg #[(i6 (y1_6_.1)), (i6 (y1_6_.2.1)), (i6 (y1_6_.2.2.1)), (i6 (y1_6_.2.2.2.1)), (i6 (y1_6_.2.2.2.2.1)), (i6 (y1_6_.2.2.2.2.2))])) <|
ww (p := rdT (layT (rows rw_iiiiii x1_3)) 6 ((x1_7).toNat * 6) = some [(i6 (y1_6_.1)), (i6 (y1_6_.2.1)), (i6 (y1_6_.2.2.1)), (i6 (y1_6_.2.2.2.1)), (i6 (y1_6_.2.2.2.2.1)), (i6 (y1_6_.2.2.2.2.2))]) (rows_rdpN rwf_iiiiii (0, 0, 0, 0, 0, 0) (hr := hy1_6) (i := (x1_7).toNat) (j := 0) ((x1_7).toNat * 6) rfl (hy1_5) (by decide) rfl) <|
zz 36 (xk5 3 U6 hy1_7) <|
yy 37 (.ld (Value.agg #[(i6 (y1_9_.1)), (i6 (y1_9_.2.1)), (i6 (y1_9_.2.2.1)), (i6 (y1_9_.2.2.2.1)), (i6 (y1_9_.2.2.2.2.1)), (i6 (y1_9_.2.2.2.2.2))])) <|
ww (p := rdT (layT (rows rw_iiiiii x1_3)) 6 ((x1_6).toNat * 6) = some [(i6 (y1_9_.1)), (i6 (y1_9_.2.1)), (i6 (y1_9_.2.2.1)), (i6 (y1_9_.2.2.2.1)), (i6 (y1_9_.2.2.2.2.1)), (i6 (y1_9_.2.2.2.2.2))]) (rows_rdpN rwf_iiiiii (0, 0, 0, 0, 0, 0) (hr := hy1_9) (i := (x1_6).toNat) (j := 0) ((x1_6).toNat * 6) rfl (hy1_8) (by decide) rfl) <|
zz 38 (xk5 3 U6 hy1_7) <|
yy 39 (.sto (layT (rows rw_iiiiii ((x1_3).set (x1_6).toNat ((y1_6_.1), (y1_6_.2.1), (y1_6_.2.2.1), (y1_6_.2.2.2.1), (y1_6_.2.2.2.2.1), (y1_6_.2.2.2.2.2)))))) <|
ww (p := ∃ old, rdT (layT (rows rw_iiiiii x1_3)) 6 ((x1_6).toNat * 6) = some old) (Exists.elim (rows_st rwf_iiiiii (0, 0, 0, 0, 0, 0) (i := (x1_6).toNat) (j := 0) (l := [(i6 (y1_6_.1)), (i6 (y1_6_.2.1)), (i6 (y1_6_.2.2.1)), (i6 (y1_6_.2.2.2.1)), (i6 (y1_6_.2.2.2.2.1)), (i6 (y1_6_.2.2.2.2.2))]) ((y1_6_.1), (y1_6_.2.1), (y1_6_.2.2.1), (y1_6_.2.2.2.1), (y1_6_.2.2.2.2.1), (y1_6_.2.2.2.2.2)) ((x1_6).toNat * 6) rfl (hy1_8) (Nat.le_of_ble_eq_true rfl) rfl) fun o h => ⟨o, h.1⟩) <|
ww (p := layL [(i6 (y1_6_.1)), (i6 (y1_6_.2.1)), (i6 (y1_6_.2.2.1)), (i6 (y1_6_.2.2.2.1)), (i6 (y1_6_.2.2.2.2.1)), (i6 (y1_6_.2.2.2.2.2))] ((x1_6).toNat * 6) (layT (rows rw_iiiiii x1_3)) = layT (rows rw_iiiiii ((x1_3).set (x1_6).toNat ((y1_6_.1), (y1_6_.2.1), (y1_6_.2.2.1), (y1_6_.2.2.2.1), (y1_6_.2.2.2.2.1), (y1_6_.2.2.2.2.2))))) (Exists.elim (rows_st rwf_iiiiii (0, 0, 0, 0, 0, 0) (i := (x1_6).toNat) (j := 0) (l := [(i6 (y1_6_.1)), (i6 (y1_6_.2.1)), (i6 (y1_6_.2.2.1)), (i6 (y1_6_.2.2.2.1)), (i6 (y1_6_.2.2.2.2.1)), (i6 (y1_6_.2.2.2.2.2))]) ((y1_6_.1), (y1_6_.2.1), (y1_6_.2.2.1), (y1_6_.2.2.2.1), (y1_6_.2.2.2.2.1), (y1_6_.2.2.2.2.2)) ((x1_6).toNat * 6) rfl (hy1_8) (Nat.le_of_ble_eq_true rfl) rfl) fun o h => h.2) <|
zz 40 (xk5 3 U6 hy1_4) <|
yy 41 (.sto (layT (rows rw_iiiiii ((((x1_3).set (x1_6).toNat ((y1_6_.1), (y1_6_.2.1), (y1_6_.2.2.1), (y1_6_.2.2.2.1), (y1_6_.2.2.2.2.1), (y1_6_.2.2.2.2.2)))).set (x1_7).toNat ((y1_9_.1), (y1_9_.2.1), (y1_9_.2.2.1), (y1_9_.2.2.2.1), (y1_9_.2.2.2.2.1), (y1_9_.2.2.2.2.2)))))) <|
ww (p := ∃ old, rdT (layT (rows rw_iiiiii ((x1_3).set (x1_6).toNat ((y1_6_.1), (y1_6_.2.1), (y1_6_.2.2.1), (y1_6_.2.2.2.1), (y1_6_.2.2.2.2.1), (y1_6_.2.2.2.2.2))))) 6 ((x1_7).toNat * 6) = some old) (Exists.elim (rows_st rwf_iiiiii (0, 0, 0, 0, 0, 0) (i := (x1_7).toNat) (j := 0) (l := [(i6 (y1_9_.1)), (i6 (y1_9_.2.1)), (i6 (y1_9_.2.2.1)), (i6 (y1_9_.2.2.2.1)), (i6 (y1_9_.2.2.2.2.1)), (i6 (y1_9_.2.2.2.2.2))]) ((y1_9_.1), (y1_9_.2.1), (y1_9_.2.2.1), (y1_9_.2.2.2.1), (y1_9_.2.2.2.2.1), (y1_9_.2.2.2.2.2)) ((x1_7).toNat * 6) rfl (hy1_10) (Nat.le_of_ble_eq_true rfl) rfl) fun o h => ⟨o, h.1⟩) <|
ww (p := layL [(i6 (y1_9_.1)), (i6 (y1_9_.2.1)), (i6 (y1_9_.2.2.1)), (i6 (y1_9_.2.2.2.1)), (i6 (y1_9_.2.2.2.2.1)), (i6 (y1_9_.2.2.2.2.2))] ((x1_7).toNat * 6) (layT (rows rw_iiiiii ((x1_3).set (x1_6).toNat ((y1_6_.1), (y1_6_.2.1), (y1_6_.2.2.1), (y1_6_.2.2.2.1), (y1_6_.2.2.2.2.1), (y1_6_.2.2.2.2.2))))) = layT (rows rw_iiiiii ((((x1_3).set (x1_6).toNat ((y1_6_.1), (y1_6_.2.1), (y1_6_.2.2.1), (y1_6_.2.2.2.1), (y1_6_.2.2.2.2.1), (y1_6_.2.2.2.2.2)))).set (x1_7).toNat ((y1_9_.1), (y1_9_.2.1), (y1_9_.2.2.1), (y1_9_.2.2.2.1), (y1_9_.2.2.2.2.1), (y1_9_.2.2.2.2.2))))) (Exists.elim (rows_st rwf_iiiiii (0, 0, 0, 0, 0, 0) (i := (x1_7).toNat) (j := 0) (l := [(i6 (y1_9_.1)), (i6 (y1_9_.2.1)), (i6 (y1_9_.2.2.1)), (i6 (y1_9_.2.2.2.1)), (i6 (y1_9_.2.2.2.2.1)), (i6 (y1_9_.2.2.2.2.2))]) ((y1_9_.1), (y1_9_.2.1), (y1_9_.2.2.1), (y1_9_.2.2.2.1), (y1_9_.2.2.2.2.1), (y1_9_.2.2.2.2.2)) ((x1_7).toNat * 6) rfl (hy1_10) (Nat.le_of_ble_eq_true rfl) rfl) fun o h => h.2) <|
ww (rows_flat rwf_iiiiii ((((x1_3).set (x1_6).toNat ((y1_6_.1), (y1_6_.2.1), (y1_6_.2.2.1), (y1_6_.2.2.2.1), (y1_6_.2.2.2.2.1), (y1_6_.2.2.2.2.2)))).set (x1_7).toNat ((y1_9_.1), (y1_9_.2.1), (y1_9_.2.2.1), (y1_9_.2.2.2.1), (y1_9_.2.2.2.2.1), (y1_9_.2.2.2.2.2))) 58) <|
ee) (by kernel_rfl)
theorem q_heapHeapapiDirtyupq1_1_1 (n : Nat) {rnd : Option Nat} (x1_0 x1_1 x1_2 : Int) (x1_3 : List R6) (x1_4 : Nat) (x1_5 x1_6 x1_7 : Int) (hy1_1 : x1_6 > (0 : Int)) (y1_2_ : Bool) (hy1_2 : m_heapHeapapiDirtybeforeq2 n x1_0 x1_1 x1_2 x1_3 x1_4 x1_5 x1_6 x1_7 = some y1_2_) (hy1_3 : ¬ (y1_2_ = true)) : Q_heapHeapapiDirtyupq1_1 rnd x1_0 x1_1 x1_2 x1_4 x1_5 (x1_3, x1_6, x1_7) (X_heapHeapapiDirtyupq1_1 x1_0 x1_1 x1_2 x1_4 x1_5 x1_3) :=
 runC2 hm (L := lT []) ⟨[], [(0, 0, false), (1, 1, false), (2, 2, false), (3, 3, true)], 4, 3⟩ (zz 3 (xdT hy1_1) <|
yy 8 (.call (C_heapHeapapiDirtybeforeq2 x1_0 x1_1 x1_2 x1_3 x1_4 x1_5 x1_6 x1_7 y1_2_ [(0, 0, false), (1, 1, false), (2, 2, false), (3, 3, true)] [])) <|
ww (m_heapHeapapiDirtybeforeq2_ok n x1_0 x1_1 x1_2 x1_3 x1_4 x1_5 x1_6 x1_7 y1_2_ hy1_2) <|
ww (rows_flat rwf_iiiiii x1_3 58) <|
zz 10 (xbF hy1_3) <|
ww (rows_flat rwf_iiiiii x1_3 58) <|
ee) (by kernel_rfl)
theorem q_heapHeapapiDirtyupq1_1_2 (n : Nat) {rnd : Option Nat} (x1_0 x1_1 x1_2 : Int) (x1_3 : List R6) (x1_4 : Nat) (x1_5 x1_6 x1_7 : Int) (hy1_1 : ¬ (x1_6 > (0 : Int))) : Q_heapHeapapiDirtyupq1_1 rnd x1_0 x1_1 x1_2 x1_4 x1_5 (x1_3, x1_6, x1_7) (X_heapHeapapiDirtyupq1_1 x1_0 x1_1 x1_2 x1_4 x1_5 x1_3) :=
 runC2 hm (L := lT []) ⟨[], [(0, 0, false), (1, 1, false), (2, 2, false), (3, 3, true)], 4, 3⟩ (zz 3 (xdF hy1_1) <|
ww (rows_flat rwf_iiiiii x1_3 58) <|
ee) (by kernel_rfl)
theorem m_heapHeapapiDirtyupq1_1_ok (n : Nat) {rnd : Option Nat} (x1_0 : Int) (x1_1 : Int) (x1_2 : Int) (x1_4 : Nat) (x1_5 : Int) (st : List R6 × Int × Int) (r : List R6) (h : m_heapHeapapiDirtyupq1_1 n x1_0 x1_1 x1_2 x1_4 x1_5 st = some r) : CG P rnd (fnN P 29) 4 (codeOf P 29 [false, true]) (S_heapHeapapiDirtyupq1_1 x1_0 x1_1 x1_2 x1_4 x1_5 st) (X_heapHeapapiDirtyupq1_1 x1_0 x1_1 x1_2 x1_4 x1_5 r) :=
 CG.iter (b := codeOf P 29 [false, false, true]) (by kernel_rfl) (body := B_heapHeapapiDirtyupq1_1 n x1_0 x1_1 x1_2 x1_4 x1_5) (S := S_heapHeapapiDirtyupq1_1 x1_0 x1_1 x1_2 x1_4 x1_5) (X := X_heapHeapapiDirtyupq1_1 x1_0 x1_1 x1_2 x1_4 x1_5)
  (fun s s' h => by
  obtain ⟨x1_3, x1_6, x1_7⟩ := s
  unfold B_heapHeapapiDirtyupq1_1 at h
  dsimp only at h
  by_cases hy1_1 : x1_6 > (0 : Int)
  ·rw [if_pos hy1_1] at h
   obtain ⟨y1_2_, hy1_2, h⟩ := Option.bind_eq_some_iff.1 h
   by_cases hy1_3 : y1_2_ = true
   ·rw [if_pos hy1_3] at h
    by_cases hy1_4 : 0 ≤ x1_7 ∧ x1_7 < ((x1_4 : Nat) : Int)
    ·rw [if_pos hy1_4] at h
     by_cases hy1_5 : (x1_7).toNat < (x1_3).length
     ·rw [if_pos hy1_5] at h
      obtain ⟨y1_6_, hy1_6, h⟩ := Option.bind_eq_some_iff.1 h
      by_cases hy1_7 : 0 ≤ x1_6 ∧ x1_6 < ((x1_4 : Nat) : Int)
      ·rw [if_pos hy1_7] at h
       by_cases hy1_8 : (x1_6).toNat < (x1_3).length
       ·rw [if_pos hy1_8] at h
        obtain ⟨y1_9_, hy1_9, h⟩ := Option.bind_eq_some_iff.1 h
        by_cases hy1_10 : (x1_7).toNat < (((x1_3).set (x1_6).toNat ((y1_6_.1), (y1_6_.2.1), (y1_6_.2.2.1), (y1_6_.2.2.2.1), (y1_6_.2.2.2.2.1), (y1_6_.2.2.2.2.2)))).length
        ·rw [if_pos hy1_10] at h
         obtain rfl := Sum.inl.inj (oI h); exact q_heapHeapapiDirtyupq1_1_0 n x1_0 x1_1 x1_2 x1_3 x1_4 x1_5 x1_6 x1_7 hy1_1 y1_2_ hy1_2 hy1_3 hy1_4 hy1_5 y1_6_ hy1_6 hy1_7 hy1_8 y1_9_ hy1_9 hy1_10
        ·rw [if_neg hy1_10] at h; cases h
       ·rw [if_neg hy1_8] at h; cases h
      ·rw [if_neg hy1_7] at h; cases h
     ·rw [if_neg hy1_5] at h; cases h
    ·rw [if_neg hy1_4] at h; cases h
   ·rw [if_neg hy1_3] at h
    cases h
  ·rw [if_neg hy1_1] at h
   cases h)
  (fun s r h => by
  obtain ⟨x1_3, x1_6, x1_7⟩ := s
  unfold B_heapHeapapiDirtyupq1_1 at h
  dsimp only at h
  by_cases hy1_1 : x1_6 > (0 : Int)
  ·rw [if_pos hy1_1] at h
   obtain ⟨y1_2_, hy1_2, h⟩ := Option.bind_eq_some_iff.1 h
   by_cases hy1_3 : y1_2_ = true
   ·rw [if_pos hy1_3] at h
    by_cases hy1_4 : 0 ≤ x1_7 ∧ x1_7 < ((x1_4 : Nat) : Int)
    ·rw [if_pos hy1_4] at h
     by_cases hy1_5 : (x1_7).toNat < (x1_3).length
     ·rw [if_pos hy1_5] at h
      obtain ⟨y1_6_, hy1_6, h⟩ := Option.bind_eq_some_iff.1 h
      by_cases hy1_7 : 0 ≤ x1_6 ∧ x1_6 < ((x1_4 : Nat) : Int)
      ·rw [if_pos hy1_7] at h
       by_cases hy1_8 : (x1_6).toNat < (x1_3).length
       ·rw [if_pos hy1_8] at h
        obtain ⟨y1_9_, hy1_9, h⟩ := Option.bind_eq_some_iff.1 h
        by_cases hy1_10 : (x1_7).toNat < (((x1_3).set (x1_6).toNat ((y1_6_.1), (y1_6_.2.1), (y1_6_.2.2.1), (y1_6_.2.2.2.1), (y1_6_.2.2.2.2.1), (y1_6_.2.2.2.2.2)))).length
        ·rw [if_pos hy1_10] at h
         cases h
        ·rw [if_neg hy1_10] at h; cases h
       ·rw [if_neg hy1_8] at h; cases h
      ·rw [if_neg hy1_7] at h; cases h
     ·rw [if_neg hy1_5] at h; cases h
    ·rw [if_neg hy1_4] at h; cases h
   ·rw [if_neg hy1_3] at h
    obtain rfl := Sum.inr.inj (oI h); exact q_heapHeapapiDirtyupq1_1_1 n x1_0 x1_1 x1_2 x1_3 x1_4 x1_5 x1_6 x1_7 hy1_1 y1_2_ hy1_2 hy1_3
  ·rw [if_neg hy1_1] at h
   obtain rfl := Sum.inr.inj (oI h); exact q_heapHeapapiDirtyupq1_1_2 n x1_0 x1_1 x1_2 x1_3 x1_4 x1_5 x1_6 x1_7 hy1_1)
  (fun r => by intro hx; cases hx) h
def m_heapHeapapiDirtyupq1 (n : Nat) (a0 : Int) (a1 : Int) (a2 : Int) (a3 : List R6) (a4 : Int) (a5 : Int) : Option (List R6) :=
 (m_heapHeapapiDirtyupq1_1 n a0 a1 a2 ((a3).length) a4 (a3, a5, (Int.fdiv (w64 (a5 - (1 : Int))) 2))).bind fun c1_ =>
 some c1_
theorem m_heapHeapapiDirtyupq1_ok (n : Nat) (a0 : Int) (a1 : Int) (a2 : Int) (a3 : List R6) (a4 : Int) (a5 : Int) (r : List R6) (h : m_heapHeapapiDirtyupq1 n a0 a1 a2 a3 a4 a5 = some r) : Gv P (.func 29) (A_heapHeapapiDirtyupq1 a0 a1 a2 a3 a4 a5) (H_heapHeapapiDirtyupq1 a0 a1 a2 a3 a4 a5) (V_heapHeapapiDirtyupq1 a0 a1 a2 a3 a4 a5 r) (R_heapHeapapiDirtyupq1 a0 a1 a2 a3 a4 a5 r) := by
 unfold m_heapHeapapiDirtyupq1 at h
 obtain ⟨c1_, hc1, h⟩ := Option.bind_eq_some_iff.1 h
 obtain rfl := oI h; exact (runF2 hm (L := lT [(6, ⟨⟨[0, 1, 4], [(0, 0, false), (1, 1, false), (2, 2, false), (3, 3, true)], 4, 3⟩, (X_heapHeapapiDirtyupq1_1 a0 a1 a2 ((a3).length) a4 c1_).1, (X_heapHeapapiDirtyupq1_1 a0 a1 a2 ((a3).length) a4 c1_).2⟩)]) ⟨[], [(3, 3, true)], 4, 3⟩ (ww (p := U_heapHeapapiDirtyupq1_1 none a0 a1 a2 ((a3).length) a4 (a3, a5, (Int.fdiv (w64 (a5 - (1 : Int))) 2)) c1_) (m_heapHeapapiDirtyupq1_1_ok n a0 a1 a2 ((a3).length) a4 (a3, a5, (Int.fdiv (w64 (a5 - (1 : Int))) 2)) c1_ hc1) <|
ww (rows_flat rwf_iiiiii a3 58) <|
ww (rows_flat rwf_iiiiii c1_ 58) ee) (by kernel_rfl))

def A_heapHeapapiDirtyPutq1 (a0 : Int) (a1 : Int) (a2 : Int) (a3 : Int) (a4 : Int) (a5 : Int) (a6 : Int) (a7 : Int) (a8 : Int) : List Value := [(pN 0 0), (Value.agg #[(i6 a4), (i6 a5), (i6 a6), (i6 a7), (i6 a8)])]
def H_heapHeapapiDirtyPutq1 (a0 : Int) (a1 : Int) (a2 : Int) (a3 : Int) (a4 : Int) (a5 : Int) (a6 : Int) (a7 : Int) (a8 : Int) : AH := ⟨sB [(0, (some (.cells (layT [(pN 0 0), (Value.func (.func 24) #[] #[(pN 1 0), (pN 2 0)]), (Value.slice none 0 0), (i6 a3)]) 53))), (1, (some (.cells (layT [(i6 a0)]) 3))), (2, (some (.cells (layT [(i6 a1), (i6 a2)]) 24)))], 3, 3⟩
def V_heapHeapapiDirtyPutq1 (a0 : Int) (a1 : Int) (a2 : Int) (a3 : Int) (a4 : Int) (a5 : Int) (a6 : Int) (a7 : Int) (a8 : Int) (r : List R6) : Value := match r with
 | o0 => (Value.tuple #[])
def R_heapHeapapiDirtyPutq1 (a0 : Int) (a1 : Int) (a2 : Int) (a3 : Int) (a4 : Int) (a5 : Int) (a6 : Int) (a7 : Int) (a8 : Int) (r : List R6) : AH := match r with
 | o0 => ⟨sB [(0, (some (.cells (layT [(pN 0 0), (Value.func (.func 24) #[] #[(pN 1 0), (pN 2 0)]), (sN 3 0 1 (Nat.add big 6)), (i6 (w64 (a3 + (1 : Int))))]) 53))), (1, (some (.cells (layT [(i6 a0)]) 3))), (2, (some (.cells (layT [(i6 a1), (i6 a2)]) 24))), (3, (some (.cells (layT (rows rw_iiiiii o0)) 58)))], 4, 0⟩
abbrev G_heapHeapapiDirtyPutq1 (a0 : Int) (a1 : Int) (a2 : Int) (a3 : Int) (a4 : Int) (a5 : Int) (a6 : Int) (a7 : Int) (a8 : Int) (r : List R6) : Prop := Gv P (.func 18) (A_heapHeapapiDirtyPutq1 a0 a1 a2 a3 a4 a5 a6 a7 a8) (H_heapHeapapiDirtyPutq1 a0 a1 a2 a3 a4 a5 a6 a7 a8) (V_heapHeapapiDirtyPutq1 a0 a1 a2 a3 a4 a5 a6 a7 a8 r) (R_heapHeapapiDirtyPutq1 a0 a1 a2 a3 a4 a5 a6 a7 a8 r)
abbrev C_heapHeapapiDirtyPutq1 (a0 : Int) (a1 : Int) (a2 : Int) (a3 : Int) (a4 : Int) (a5 : Int) (a6 : Int) (a7 : Int) (a8 : Int) (r : List R6) (ins outs : BL) : CallA := ⟨3, ins, V_heapHeapapiDirtyPutq1 a0 a1 a2 a3 a4 a5 a6 a7 a8 r, R_heapHeapapiDirtyPutq1 a0 a1 a2 a3 a4 a5 a6 a7 a8 r, outs⟩
def m_heapHeapapiDirtyPutq1 (n : Nat) (a0 : Int) (a1 : Int) (a2 : Int) (a3 : Int) (a4 : Int) (a5 : Int) (a6 : Int) (a7 : Int) (a8 : Int) : Option (List R6) :=
 (m_heapHeapapiDirtyvalidq1 n a0 a1 a2 a3).bind fun _ =>
 (m_heapHeapapiDirtyupq1 n a0 a1 a2 [(a3, a4, a5, a6, a7, a8)] (w64 (a3 + (1 : Int))) 0).bind fun c2_ =>
 some c2_
theorem m_heapHeapapiDirtyPutq1_ok (n : Nat) (a0 : Int) (a1 : Int) (a2 : Int) (a3 : Int) (a4 : Int) (a5 : Int) (a6 : Int) (a7 : Int) (a8 : Int) (r : List R6) (h : m_heapHeapapiDirtyPutq1 n a0 a1 a2 a3 a4 a5 a6 a7 a8 = some r) : Gv P (.func 18) (A_heapHeapapiDirtyPutq1 a0 a1 a2 a3 a4 a5 a6 a7 a8) (H_heapHeapapiDirtyPutq1 a0 a1 a2 a3 a4 a5 a6 a7 a8) (V_heapHeapapiDirtyPutq1 a0 a1 a2 a3 a4 a5 a6 a7 a8 r) (R_heapHeapapiDirtyPutq1 a0 a1 a2 a3 a4 a5 a6 a7 a8 r) := by
 unfold m_heapHeapapiDirtyPutq1 at h
 obtain ⟨_, hc1, h⟩ := Option.bind_eq_some_iff.1 h
 obtain ⟨c2_, hc2, h⟩ := Option.bind_eq_some_iff.1 h
 obtain rfl := oI h; exact (runF2 hm (L := lT []) ⟨[], [(0, 0, false), (1, 1, false), (2, 2, false), (3, 17, true)], 4, 0⟩ (yy 5 (.call (C_heapHeapapiDirtyvalidq1 a0 a1 a2 a3 () [(0, 0, false), (1, 1, false), (2, 2, false)] [])) <|
ww (m_heapHeapapiDirtyvalidq1_ok n a0 a1 a2 a3 () hc1) <|
yy 42 (.call (C_heapHeapapiDirtyupq1 a0 a1 a2 [(a3, a4, a5, a6, a7, a8)] (w64 (a3 + (1 : Int))) 0 c2_ [(0, 0, false), (1, 1, false), (2, 2, false), (3, 17, false)] [(17, 3, true)])) <|
ww (m_heapHeapapiDirtyupq1_ok n a0 a1 a2 [(a3, a4, a5, a6, a7, a8)] (w64 (a3 + (1 : Int))) 0 c2_ hc2) <|
ww (rows_flat rwf_iiiiii c2_ 58) <|
ww (rows_flat rwf_iiiiii c2_ 58) ee) (by kernel_rfl))

def A_heapHeapapiDirtyvalidq2 (a0 : Int) (a1 : Int) (a2 : Int) (a3 : List R6) (a4 : Int) : List Value := [(pN 0 0)]
def H_heapHeapapiDirtyvalidq2 (a0 : Int) (a1 : Int) (a2 : Int) (a3 : List R6) (a4 : Int) : AH := ⟨sB [(0, (some (.cells (layT [(pN 0 0), (Value.func (.func 24) #[] #[(pN 1 0), (pN 2 0)]), (sN 3 0 (a3).length (Nat.add big 6)), (i6 a4)]) 53))), (1, (some (.cells (layT [(i6 a0)]) 3))), (2, (some (.cells (layT [(i6 a1), (i6 a2)]) 24))), (3, (some (.cells (layT (rows rw_iiiiii a3)) 58)))], 4, 4⟩
def V_heapHeapapiDirtyvalidq2 (a0 : Int) (a1 : Int) (a2 : Int) (a3 : List R6) (a4 : Int) (r : Unit) : Value := match r with
 | _ => (bO true)
def R_heapHeapapiDirtyvalidq2 (a0 : Int) (a1 : Int) (a2 : Int) (a3 : List R6) (a4 : Int) (r : Unit) : AH := match r with
 | _ => ⟨sB [], 4, 4⟩
abbrev G_heapHeapapiDirtyvalidq2 (a0 : Int) (a1 : Int) (a2 : Int) (a3 : List R6) (a4 : Int) (r : Unit) : Prop := Gv P (.func 20) (A_heapHeapapiDirtyvalidq2 a0 a1 a2 a3 a4) (H_heapHeapapiDirtyvalidq2 a0 a1 a2 a3 a4) (V_heapHeapapiDirtyvalidq2 a0 a1 a2 a3 a4 r) (R_heapHeapapiDirtyvalidq2 a0 a1 a2 a3 a4 r)
abbrev C_heapHeapapiDirtyvalidq2 (a0 : Int) (a1 : Int) (a2 : Int) (a3 : List R6) (a4 : Int) (r : Unit) (ins outs : BL) : CallA := ⟨4, ins, V_heapHeapapiDirtyvalidq2 a0 a1 a2 a3 a4 r, R_heapHeapapiDirtyvalidq2 a0 a1 a2 a3 a4 r, outs⟩
def m_heapHeapapiDirtyvalidq2 (n : Nat) (a0 : Int) (a1 : Int) (a2 : Int) (a3 : List R6) (a4 : Int) : Option (Unit) :=
 some ()
theorem m_heapHeapapiDirtyvalidq2_ok (n : Nat) (a0 : Int) (a1 : Int) (a2 : Int) (a3 : List R6) (a4 : Int) (r : Unit) (h : m_heapHeapapiDirtyvalidq2 n a0 a1 a2 a3 a4 = some r) : Gv P (.func 20) (A_heapHeapapiDirtyvalidq2 a0 a1 a2 a3 a4) (H_heapHeapapiDirtyvalidq2 a0 a1 a2 a3 a4) (V_heapHeapapiDirtyvalidq2 a0 a1 a2 a3 a4 r) (R_heapHeapapiDirtyvalidq2 a0 a1 a2 a3 a4 r) := by
 unfold m_heapHeapapiDirtyvalidq2 at h
 obtain rfl := oI h; exact (runF2 hm (L := lT []) ⟨[2], [], 4, 4⟩ (ee) (by kernel_rfl))

def A_heapHeapapiDirtyPutq2 (a0 : Int) (a1 : Int) (a2 : Int) (a3 : List R6) (a4 : Int) (a5 : Int) (a6 : Int) (a7 : Int) (a8 : Int) (a9 : Int) : List Value := [(pN 0 0), (Value.agg #[(i6 a5), (i6 a6), (i6 a7), (i6 a8), (i6 a9)])]
def H_heapHeapapiDirtyPutq2 (a0 : Int) (a1 : Int) (a2 : Int) (a3 : List R6) (a4 : Int) (a5 : Int) (a6 : Int) (a7 : Int) (a8 : Int) (a9 : Int) : AH := ⟨sB [(0, (some (.cells (layT [(pN 0 0), (Value.func (.func 24) #[] #[(pN 1 0), (pN 2 0)]), (sN 3 0 (a3).length (Nat.add big 6)), (i6 a4)]) 53))), (1, (some (.cells (layT [(i6 a0)]) 3))), (2, (some (.cells (layT [(i6 a1), (i6 a2)]) 24))), (3, (some (.cells (layT (rows rw_iiiiii a3)) 58)))], 4, 4⟩
def V_heapHeapapiDirtyPutq2 (a0 : Int) (a1 : Int) (a2 : Int) (a3 : List R6) (a4 : Int) (a5 : Int) (a6 : Int) (a7 : Int) (a8 : Int) (a9 : Int) (r : List R6) : Value := match r with
 | o0 => (Value.tuple #[])
def R_heapHeapapiDirtyPutq2 (a0 : Int) (a1 : Int) (a2 : Int) (a3 : List R6) (a4 : Int) (a5 : Int) (a6 : Int) (a7 : Int) (a8 : Int) (a9 : Int) (r : List R6) : AH := match r with
 | o0 => ⟨sB [(0, (some (.cells (layT [(pN 0 0), (Value.func (.func 24) #[] #[(pN 1 0), (pN 2 0)]), (sN 4 0 ((a3 ++ [(a4, a5, a6, a7, a8, a9)])).length (Nat.add big 6)), (i6 (w64 (a4 + (1 : Int))))]) 53))), (1, (some (.cells (layT [(i6 a0)]) 3))), (2, (some (.cells (layT [(i6 a1), (i6 a2)]) 24))), (4, (some (.cells (layT (rows rw_iiiiii o0)) 58)))], 5, 0⟩
abbrev G_heapHeapapiDirtyPutq2 (a0 : Int) (a1 : Int) (a2 : Int) (a3 : List R6) (a4 : Int) (a5 : Int) (a6 : Int) (a7 : Int) (a8 : Int) (a9 : Int) (r : List R6) : Prop := Gv P (.func 18) (A_heapHeapapiDirtyPutq2 a0 a1 a2 a3 a4 a5 a6 a7 a8 a9) (H_heapHeapapiDirtyPutq2 a0 a1 a2 a3 a4 a5 a6 a7 a8 a9) (V_heapHeapapiDirtyPutq2 a0 a1 a2 a3 a4 a5 a6 a7 a8 a9 r) (R_heapHeapapiDirtyPutq2 a0 a1 a2 a3 a4 a5 a6 a7 a8 a9 r)
abbrev C_heapHeapapiDirtyPutq2 (a0 : Int) (a1 : Int) (a2 : Int) (a3 : List R6) (a4 : Int) (a5 : Int) (a6 : Int) (a7 : Int) (a8 : Int) (a9 : Int) (r : List R6) (ins outs : BL) : CallA := ⟨4, ins, V_heapHeapapiDirtyPutq2 a0 a1 a2 a3 a4 a5 a6 a7 a8 a9 r, R_heapHeapapiDirtyPutq2 a0 a1 a2 a3 a4 a5 a6 a7 a8 a9 r, outs⟩
def m_heapHeapapiDirtyPutq2 (n : Nat) (a0 : Int) (a1 : Int) (a2 : Int) (a3 : List R6) (a4 : Int) (a5 : Int) (a6 : Int) (a7 : Int) (a8 : Int) (a9 : Int) : Option (List R6) :=
 (m_heapHeapapiDirtyvalidq2 n a0 a1 a2 a3 a4).bind fun _ =>
 if ((a3).length + 1) * 48 ≤ 140737488355328 then
  ((some (w64 (((((a3 ++ [(a4, a5, a6, a7, a8, a9)])).length : Nat) : Int) - (1 : Int))))).bind fun c3_ =>
  (m_heapHeapapiDirtyupq1 n a0 a1 a2 (a3 ++ [(a4, a5, a6, a7, a8, a9)]) (w64 (a4 + (1 : Int))) c3_).bind fun c4_ =>
  some c4_
 else none
theorem m_heapHeapapiDirtyPutq2_ok (n : Nat) (a0 : Int) (a1 : Int) (a2 : Int) (a3 : List R6) (a4 : Int) (a5 : Int) (a6 : Int) (a7 : Int) (a8 : Int) (a9 : Int) (r : List R6) (h : m_heapHeapapiDirtyPutq2 n a0 a1 a2 a3 a4 a5 a6 a7 a8 a9 = some r) : Gv P (.func 18) (A_heapHeapapiDirtyPutq2 a0 a1 a2 a3 a4 a5 a6 a7 a8 a9) (H_heapHeapapiDirtyPutq2 a0 a1 a2 a3 a4 a5 a6 a7 a8 a9) (V_heapHeapapiDirtyPutq2 a0 a1 a2 a3 a4 a5 a6 a7 a8 a9 r) (R_heapHeapapiDirtyPutq2 a0 a1 a2 a3 a4 a5 a6 a7 a8 a9 r) := by
 unfold m_heapHeapapiDirtyPutq2 at h
 obtain ⟨_, hc1, h⟩ := Option.bind_eq_some_iff.1 h
 by_cases hc2 : ((a3).length + 1) * 48 ≤ 140737488355328
 ·rw [if_pos hc2] at h
  obtain ⟨c3_, hc3, h⟩ := Option.bind_eq_some_iff.1 h
  obtain ⟨c4_, hc4, h⟩ := Option.bind_eq_some_iff.1 h
  obtain rfl := oI h; exact (runF2 hm (L := lT []) ⟨[], [(0, 0, false), (1, 1, false), (2, 2, false), (4, 18, true)], 5, 0⟩ (yy 5 (.call (C_heapHeapapiDirtyvalidq2 a0 a1 a2 a3 a4 () [(0, 0, false), (1, 1, false), (2, 2, false), (3, 3, true)] [])) <|
ww (m_heapHeapapiDirtyvalidq2_ok n a0 a1 a2 a3 a4 () hc1) <|
ww (rows_flat rwf_iiiiii a3 58) <|
yy 22 (.app ⟨none, rows rw_iiiiii a3, (rows rw_iiiiii (a3 ++ [(a4, a5, a6, a7, a8, a9)])), ((a3 ++ [(a4, a5, a6, a7, a8, a9)])).length, false⟩) <|
ww (p := 0 < 1) ((by decide)) <|
ww (p := rdT (layT (rows rw_iiiiii a3)) (Nat.mul (a3).length 6) 0 = some (rows rw_iiiiii a3)) (rows_rd rwf_iiiiii _ _ rfl) <|
ww (p := fits (Nat.add (a3).length 1) 48 = true) (fits_ok hc2 (by have := hc2; show (_ : Nat) + _ ≤ _; omega)) <|
ww (p := allCells [(i6 a4), (i6 a5), (i6 a6), (i6 a7), (i6 a8), (i6 a9)] = true) (rfl) <|
ww (p := allCells (rows rw_iiiiii a3) = true) (rows_cells rwf_iiiiii _) <|
ww (p := rows rw_iiiiii a3 ++ [(i6 a4), (i6 a5), (i6 a6), (i6 a7), (i6 a8), (i6 a9)] = (rows rw_iiiiii (a3 ++ [(a4, a5, a6, a7, a8, a9)]))) (rows_app rw_iiiiii a3 [(a4, a5, a6, a7, a8, a9)]) <|
ww (p := Nat.add (a3).length 1 = ((a3 ++ [(a4, a5, a6, a7, a8, a9)])).length) (by simp) <|
zz 41 (xnm hc3) <|
yy 42 (.call (C_heapHeapapiDirtyupq1 a0 a1 a2 (a3 ++ [(a4, a5, a6, a7, a8, a9)]) (w64 (a4 + (1 : Int))) c3_ c4_ [(0, 0, false), (1, 1, false), (2, 2, false), (3, 18, true)] [(18, 3, true)])) <|
ww (m_heapHeapapiDirtyupq1_ok n a0 a1 a2 (a3 ++ [(a4, a5, a6, a7, a8, a9)]) (w64 (a4 + (1 : Int))) c3_ c4_ hc4) <|
ww (rows_flat rwf_iiiiii (a3 ++ [(a4, a5, a6, a7, a8, a9)]) 58) <|
ww (rows_flat rwf_iiiiii c4_ 58) <|
ww (rows_flat rwf_iiiiii c4_ 58) ee) (by kernel_rfl))
 ·rw [if_neg hc2] at h; cases h

def A_heapHeapapiDirtyvalidq3 (a0 : Int) (a1 : Int) (a2 : Int) (a3 : List R6) (a4 : Nat) (a5 : Int) : List Value := [(pN 0 0)]
def H_heapHeapapiDirtyvalidq3 (a0 : Int) (a1 : Int) (a2 : Int) (a3 : List R6) (a4 : Nat) (a5 : Int) : AH := ⟨sB [(0, (some (.cells (layT [(pN 0 0), (Value.func (.func 24) #[] #[(pN 1 0), (pN 2 0)]), (sN 3 0 a4 (Nat.add big 6)), (i6 a5)]) 53))), (1, (some (.cells (layT [(i6 a0)]) 3))), (2, (some (.cells (layT [(i6 a1), (i6 a2)]) 24))), (3, (some (.cells (layT (rows rw_iiiiii a3)) 58)))], 4, 4⟩
def V_heapHeapapiDirtyvalidq3 (a0 : Int) (a1 : Int) (a2 : Int) (a3 : List R6) (a4 : Nat) (a5 : Int) (r : Unit) : Value := match r with
 | _ => (bO true)
def R_heapHeapapiDirtyvalidq3 (a0 : Int) (a1 : Int) (a2 : Int) (a3 : List R6) (a4 : Nat) (a5 : Int) (r : Unit) : AH := match r with
 | _ => ⟨sB [], 4, 4⟩
abbrev G_heapHeapapiDirtyvalidq3 (a0 : Int) (a1 : Int) (a2 : Int) (a3 : List R6) (a4 : Nat) (a5 : Int) (r : Unit) : Prop := Gv P (.func 20) (A_heapHeapapiDirtyvalidq3 a0 a1 a2 a3 a4 a5) (H_heapHeapapiDirtyvalidq3 a0 a1 a2 a3 a4 a5) (V_heapHeapapiDirtyvalidq3 a0 a1 a2 a3 a4 a5 r) (R_heapHeapapiDirtyvalidq3 a0 a1 a2 a3 a4 a5 r)
abbrev C_heapHeapapiDirtyvalidq3 (a0 : Int) (a1 : Int) (a2 : Int) (a3 : List R6) (a4 : Nat) (a5 : Int) (r : Unit) (ins outs : BL) : CallA := ⟨4, ins, V_heapHeapapiDirtyvalidq3 a0 a1 a2 a3 a4 a5 r, R_heapHeapapiDirtyvalidq3 a0 a1 a2 a3 a4 a5 r, outs⟩
def m_heapHeapapiDirtyvalidq3 (n : Nat) (a0 : Int) (a1 : Int) (a2 : Int) (a3 : List R6) (a4 : Nat) (a5 : Int) : Option (Unit) :=
 some ()
theorem m_heapHeapapiDirtyvalidq3_ok (n : Nat) (a0 : Int) (a1 : Int) (a2 : Int) (a3 : List R6) (a4 : Nat) (a5 : Int) (r : Unit) (h : m_heapHeapapiDirtyvalidq3 n a0 a1 a2 a3 a4 a5 = some r) : Gv P (.func 20) (A_heapHeapapiDirtyvalidq3 a0 a1 a2 a3 a4 a5) (H_heapHeapapiDirtyvalidq3 a0 a1 a2 a3 a4 a5) (V_heapHeapapiDirtyvalidq3 a0 a1 a2 a3 a4 a5 r) (R_heapHeapapiDirtyvalidq3 a0 a1 a2 a3 a4 a5 r) := by
 unfold m_heapHeapapiDirtyvalidq3 at h
 obtain rfl := oI h; exact (runF2 hm (L := lT []) ⟨[2], [], 4, 4⟩ (ee) (by kernel_rfl))


end Go.Proofs.Ytpbaplmodomfeaa.jbo24
