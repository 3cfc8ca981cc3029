/-
  What functions do, told by pure functions. No condition.
-/
import Derived.Test.YtmjibnlojmdcgaaGreatDoorMltLives
set_option linter.unusedSimpArgs false
set_option linter.unusedVariables false
set_option linter.unusedSectionVars false
set_option linter.unnecessarySimpa false
set_option maxRecDepth 100000
noncomputable section
namespace Go.Proofs.YtmjibnlojmdcgaaGreatDoor.mlt19
open Go Go.Proofs.YtmjibnlojmdcgaaGreatDoor Ax
abbrev R8 [Nest] : Type := Int × Int × Int × Int × Int × Int × NL × Int
variable [Args]
def rw_b (x : Bool) : List Value := [Value.bool x]
theorem rwf_b : RowF rw_b 1 := ⟨fun _ => rfl, fun a v h => by
 simp only [rw_b, List.mem_cons, List.not_mem_nil, or_false] at h
 rcases h with rfl <;> rfl, fun _ => rfl⟩
def ql_ (x : Int × Int × Int) : List Value := [Value.int .i64 (x.1), Value.int .i64 (x.2.1), Value.int .i64 (x.2.2)]
theorem qw_ : RowF ql_ 3 := ⟨fun _ => rfl, fun a v h => by
 simp only [ql_, List.mem_cons, List.not_mem_nil, or_false] at h
 rcases h with rfl | rfl | rfl <;> rfl, fun _ => rfl⟩
abbrev xp1 (b n k : Nat) (i : Int) : Prop := IA P 22 (sW b 0 n k) i (pW b (i.toNat * 8))
theorem xk1 (b k : Nat) {n : Nat} {i : Int} (h : 0 ≤ i ∧ i < (n : Int)) : OB (.pur (pW b (i.toNat * 8))) (xp1 b n k i) := ⟨ixW (e := 43) (by kernel_rfl) (by kernel_rfl) h.1 h.2⟩
abbrev lp2 (i : Nat) (r : R8) : Prop := Lg P 43 (pW 0 (i * 8)) (Value.agg #[(i6 (r.1)), (i6 (r.2.1)), (i6 (r.2.2.1)), (i6 (r.2.2.2.1)), (i6 (r.2.2.2.2.1)), (i6 (r.2.2.2.2.2.1)), (nlV (r.2.2.2.2.2.2.1)), (Value.int .u64 (r.2.2.2.2.2.2.2))])
theorem lk2 {i : Nat} {r : Int × Int × Int × Int × Int × Int × NL × Int} (hr : some ((Args.A).getD i (0, 0, 0, 0, 0, 0, nl0, 0)) = some r) (h : i < (Args.A).length) : OB (.ld (Value.agg #[(i6 (r.1)), (i6 (r.2.1)), (i6 (r.2.2.1)), (i6 (r.2.2.2.1)), (i6 (r.2.2.2.2.1)), (i6 (r.2.2.2.2.2.1)), (nlV (r.2.2.2.2.2.2.1)), (Value.int .u64 (r.2.2.2.2.2.2.2))])) (lp2 i r) := by cases hr; exact ⟨ldWA rwf_iiiiiiLu (0, 0, 0, 0, 0, 0, nl0, 0) (i := i) (q := 0) (L := Args.A) (n := 8) (i * 8) rfl rfl (by kernel_rfl) (by kernel_rfl) h (by decide) rfl⟩
abbrev fp3 (o : Nat) : Prop := FA P 43 (pW 0 o) 1 (pW 0 (Nat.add o 1))
theorem fk3 (o : Nat) : OB (.pur (pW 0 (Nat.add o 1))) (fp3 o) := ⟨by unfold fp3 FA; kernel_rfl⟩
abbrev lp4 (i : Nat) (r : R8) : Prop := Lg P 3 (pW 0 (Nat.add (i * 8) 1)) (i6 (r.2.1))
theorem lk4 {i : Nat} {r : Int × Int × Int × Int × Int × Int × NL × Int} (hr : some ((Args.A).getD i (0, 0, 0, 0, 0, 0, nl0, 0)) = some r) (h : i < (Args.A).length) : OB (.ld (i6 (r.2.1))) (lp4 i r) := by cases hr; exact ⟨ldWS rwf_iiiiiiLu (0, 0, 0, 0, 0, 0, nl0, 0) (i := i) (q := 1) (L := Args.A) (Nat.add (i * 8) 1) rfl rfl (by kernel_rfl) h (by decide) rfl⟩
abbrev fp5 (o : Nat) : Prop := FA P 43 (pW 0 o) 2 (pW 0 (Nat.add o 2))
theorem fk5 (o : Nat) : OB (.pur (pW 0 (Nat.add o 2))) (fp5 o) := ⟨by unfold fp5 FA; kernel_rfl⟩
abbrev lp6 (i : Nat) (r : R8) : Prop := Lg P 3 (pW 0 (Nat.add (i * 8) 2)) (i6 (r.2.2.1))
theorem lk6 {i : Nat} {r : Int × Int × Int × Int × Int × Int × NL × Int} (hr : some ((Args.A).getD i (0, 0, 0, 0, 0, 0, nl0, 0)) = some r) (h : i < (Args.A).length) : OB (.ld (i6 (r.2.2.1))) (lp6 i r) := by cases hr; exact ⟨ldWS rwf_iiiiiiLu (0, 0, 0, 0, 0, 0, nl0, 0) (i := i) (q := 2) (L := Args.A) (Nat.add (i * 8) 2) rfl rfl (by kernel_rfl) h (by decide) rfl⟩
abbrev fp7 (o : Nat) : Prop := FA P 43 (pW 0 o) 6 (pW 0 (Nat.add o 6))
theorem fk7 (o : Nat) : OB (.pur (pW 0 (Nat.add o 6))) (fp7 o) := ⟨by unfold fp7 FA; kernel_rfl⟩
abbrev lp8 (i : Nat) (r : R8) : Prop := Lg P 27 (pW 0 (Nat.add (i * 8) 6)) (nlV (r.2.2.2.2.2.2.1))
theorem lk8 {i : Nat} {r : Int × Int × Int × Int × Int × Int × NL × Int} (hr : some ((Args.A).getD i (0, 0, 0, 0, 0, 0, nl0, 0)) = some r) (h : i < (Args.A).length) : OB (.ld (nlV (r.2.2.2.2.2.2.1))) (lp8 i r) := by cases hr; exact ⟨ldWS rwf_iiiiiiLu (0, 0, 0, 0, 0, 0, nl0, 0) (i := i) (q := 6) (L := Args.A) (Nat.add (i * 8) 6) rfl rfl (by kernel_rfl) h (by decide) rfl⟩
abbrev xp9 (b n k : Nat) (i : Int) : Prop := IA P 27 (sW b 0 n k) i (pW b i.toNat)
theorem xk9 (b k : Nat) {n : Nat} {i : Int} (h : 0 ≤ i ∧ i < (n : Int)) : OB (.pur (pW b i.toNat)) (xp9 b n k i) := ⟨ixW1 (e := 3) (by kernel_rfl) (by kernel_rfl) h⟩
theorem nk10 {x : NL} {i : Nat} {v : Int} (hv : some (x.l.getD i 0) = some v) (h : i < x.l.length) : OB (.ld (i6 v)) (Lg P 3 (pW (Nat.add x.num 64) i) (i6 v)) := by cases hv; exact ⟨ldN x (by kernel_rfl) h⟩
abbrev fp11 (o : Nat) : Prop := FA P 43 (pW 0 o) 4 (pW 0 (Nat.add o 4))
theorem fk11 (o : Nat) : OB (.pur (pW 0 (Nat.add o 4))) (fp11 o) := ⟨by unfold fp11 FA; kernel_rfl⟩
abbrev lp12 (i : Nat) (r : R8) : Prop := Lg P 3 (pW 0 (Nat.add (i * 8) 4)) (i6 (r.2.2.2.2.1))
theorem lk12 {i : Nat} {r : Int × Int × Int × Int × Int × Int × NL × Int} (hr : some ((Args.A).getD i (0, 0, 0, 0, 0, 0, nl0, 0)) = some r) (h : i < (Args.A).length) : OB (.ld (i6 (r.2.2.2.2.1))) (lp12 i r) := by cases hr; exact ⟨ldWS rwf_iiiiiiLu (0, 0, 0, 0, 0, 0, nl0, 0) (i := i) (q := 4) (L := Args.A) (Nat.add (i * 8) 4) rfl rfl (by kernel_rfl) h (by decide) rfl⟩
abbrev xp13 (b n k : Nat) (i : Int) : Prop := IA P 174 (sN b 0 n k) i (pN b (i.toNat * 3))
theorem xk13 (b k : Nat) {n : Nat} {i : Int} (h : 0 ≤ i ∧ i < (n : Int)) : OB (.pur (pN b (i.toNat * 3))) (xp13 b n k i) := ⟨ixS (e := 177) (by kernel_rfl) (by kernel_rfl) h.1 h.2⟩
abbrev op14 (L : List (Int × Int × Int)) (i : Nat) (r : Int × Int × Int) : Prop := (layT (rows ql_ L)).get (Nat.add (i * 3) 0) = some (i6 (r.1))
theorem ok14 {L : List (Int × Int × Int)} {i : Nat} {r : Int × Int × Int} (hr : some (L.getD i (0, 0, 0)) = some r) (h : i < L.length) : OB (.ld (i6 (r.1))) (op14 L i r) := by cases hr; exact ⟨rows_ld qw_ (0, 0, 0) (i := i) (j := 0) (Nat.add (i * 3) 0) rfl h (by decide) rfl⟩
abbrev op15 (L : List (Int × Int × Int)) (i : Nat) (r : Int × Int × Int) : Prop := (layT (rows ql_ L)).get (Nat.add (i * 3) 1) = some (i6 (r.2.1))
theorem ok15 {L : List (Int × Int × Int)} {i : Nat} {r : Int × Int × Int} (hr : some (L.getD i (0, 0, 0)) = some r) (h : i < L.length) : OB (.ld (i6 (r.2.1))) (op15 L i r) := by cases hr; exact ⟨rows_ld qw_ (0, 0, 0) (i := i) (j := 1) (Nat.add (i * 3) 1) rfl h (by decide) rfl⟩
abbrev op16 (L : List (Int × Int × Int)) (i : Nat) (r : Int × Int × Int) : Prop := (layT (rows ql_ L)).get (Nat.add (i * 3) 2) = some (i6 (r.2.2))
theorem ok16 {L : List (Int × Int × Int)} {i : Nat} {r : Int × Int × Int} (hr : some (L.getD i (0, 0, 0)) = some r) (h : i < L.length) : OB (.ld (i6 (r.2.2))) (op16 L i r) := by cases hr; exact ⟨rows_ld qw_ (0, 0, 0) (i := i) (j := 2) (Nat.add (i * 3) 2) rfl h (by decide) rfl⟩
theorem qjc_ {α : Type} (l : List α) (x : α) : ∃ a t, l ++ [x] = a :: t := by
 cases l with
 | nil => exact ⟨_, _, rfl⟩
 | cons a t => exact ⟨_, _, rfl⟩
theorem set_cons {α : Type} {x v : α} {l : List α} {n : Nat} : ∃ a t, (x :: l).set n v = a :: t := by cases n <;> exact ⟨_, _, rfl⟩
abbrev xp17 (b n k : Nat) (i : Int) : Prop := IA P 27 (sN b 0 n k) i (pN b i.toNat)
theorem xk17 (b k : Nat) {n : Nat} {i : Int} (h : 0 ≤ i ∧ i < (n : Int)) : OB (.pur (pN b i.toNat)) (xp17 b n k i) := ⟨ixS1 (e := 3) (by kernel_rfl) (by kernel_rfl) h⟩
abbrev fp18 (o : Nat) : Prop := FA P 43 (pW 0 o) 5 (pW 0 (Nat.add o 5))
theorem fk18 (o : Nat) : OB (.pur (pW 0 (Nat.add o 5))) (fp18 o) := ⟨by unfold fp18 FA; kernel_rfl⟩
abbrev lp19 (i : Nat) (r : R8) : Prop := Lg P 3 (pW 0 (Nat.add (i * 8) 5)) (i6 (r.2.2.2.2.2.1))
theorem lk19 {i : Nat} {r : Int × Int × Int × Int × Int × Int × NL × Int} (hr : some ((Args.A).getD i (0, 0, 0, 0, 0, 0, nl0, 0)) = some r) (h : i < (Args.A).length) : OB (.ld (i6 (r.2.2.2.2.2.1))) (lp19 i r) := by cases hr; exact ⟨ldWS rwf_iiiiiiLu (0, 0, 0, 0, 0, 0, nl0, 0) (i := i) (q := 5) (L := Args.A) (Nat.add (i * 8) 5) rfl rfl (by kernel_rfl) h (by decide) rfl⟩
abbrev xp20 (b n k : Nat) (i : Int) : Prop := IA P 47 (sN b 0 n k) i (pN b (i.toNat * 1))
theorem xk20 (b k : Nat) {n : Nat} {i : Int} (h : 0 ≤ i ∧ i < (n : Int)) : OB (.pur (pN b (i.toNat * 1))) (xp20 b n k i) := ⟨ixS (e := 4) (by kernel_rfl) (by kernel_rfl) h.1 h.2⟩
abbrev op21 (L : List (Bool)) (i : Nat) (r : Bool) : Prop := (layT (rows rw_b L)).get (i * 1) = some (bO r)
theorem ok21 {L : List (Bool)} {i : Nat} {r : Bool} (hr : some (L.getD i (false)) = some r) (h : i < L.length) : OB (.ld (bO r)) (op21 L i r) := by cases hr; exact ⟨rows_ld rwf_b (false) (i := i) (j := 0) (i * 1) rfl h (by decide) rfl⟩

def qbz_ (n : Nat) : Option Unit := some ()
theorem qbk_ (n : Nat) (r : Unit) (h : qbz_ n = some r) : Gv P (.func 4) [] Ax.h0 (.bool true) Ax.h0 := lives_gv

def A_LPq1 (a0 : Int) : List Value := [(sW 0 0 (Args.A).length Args.cA), (i6 a0)]
def H_LPq1 (a0 : Int) : AH := ⟨sB [], 0, 0⟩
def V_LPq1 (a0 : Int) (r : Bool) : Value := match r with
 | o0 => (bO o0)
def R_LPq1 (a0 : Int) (r : Bool) : AH := match r with
 | o0 => ⟨sB [], 0, 0⟩
abbrev G_LPq1 (a0 : Int) (r : Bool) : Prop := Gv P (.func 5) (A_LPq1 a0) (H_LPq1 a0) (V_LPq1 a0 r) (R_LPq1 a0 r)
abbrev C_LPq1 (a0 : Int) (r : Bool) (ins outs : BL) : CallA := ⟨0, ins, V_LPq1 a0 r, R_LPq1 a0 r, outs⟩
def qku_ (x0 : Int) (st : Int × Int) : XSt := match st with
 | (x1, x2) => (sT 66 [(0, (sW 0 0 (Args.A).length Args.cA)), (1, (i6 x0)), (5, (i6 x1)), (6, (i6 x2))], [], ⟨sB [], 0, 0⟩)
def qbe_ (x0 : Int) (r : (Unit) ⊕ (Int)) : Ex × XSt := match r with
 | .inl _ => (.ret, (sT 66 [(4, (bO false))], [], ⟨sB [], 0, 0⟩))
 | .inr z0 => (.exit 0, (sT 66 [(0, (sW 0 0 (Args.A).length Args.cA)), (1, (i6 x0)), (5, (i6 z0))], [], ⟨sB [], 0, 0⟩))
abbrev qek_ (rnd : Option Nat) (x0 : Int) (st : Int × Int) (c : Ex × XSt) : Prop := CG P rnd (fnN P 5) 0 (qq_ P 5 [false, false, true, false, true, true]) (qku_ x0 st) c
abbrev qna_ (rd : Option Nat) (x0 : Int) (st : Int × Int) (r : (Unit) ⊕ (Int)) : Prop := CG P rd (fnN P 5) 0 (qq_ P 5 [false, true, false, true, true]) (qku_ x0 st) (qbe_ x0 r)
def qh5_ (n : Nat) (x0 : Int) (st : Int × Int) : Option ((Int × Int) ⊕ ((Unit) ⊕ (Int))) := match st with
 | (x1, x2) =>
  if x2 < (Args.A.length : Int) then
   if x2 ≤ x0 then
    if 0 ≤ x2 ∧ x2 < (Args.A.length : Int) then
     ((some ((Args.A).getD (x2).toNat (0, 0, 0, 0, 0, 0, nl0, 0)))).bind fun y4_ =>
     ((some (w64 (x1 + (y4_.2.2.2.2.2.2.1.l.length : Int))))).bind fun y5_ =>
     if (y4_.2.2.1) > 1048576 then
      some (.inr (.inl ()))
     else
      if (y4_.2.2.2.2.1) > 1048576 then
       some (.inr (.inl ()))
      else
       if (y4_.2.2.2.2.2.1) > 1048576 then
        some (.inr (.inl ()))
       else
        if (y4_.2.2.1) < (-1048576 : Int) then
         some (.inr (.inl ()))
        else
         if (y4_.2.2.2.2.1) < (-1048576 : Int) then
          some (.inr (.inl ()))
         else
          if (y4_.2.2.2.2.2.1) < (-1048576 : Int) then
           some (.inr (.inl ()))
          else
           some (.inl (y5_, (w64 (x2 + 1))))
    else none
   else
    some (.inr (.inr x1))
  else
   some (.inr (.inr x1))
def qnb_ (n : Nat) (x0 : Int) (st : Int × Int) : Option ((Unit) ⊕ (Int)) := iterM (qh5_ n x0) n st
theorem q_LPq1_1_0 (n : Nat) {rnd : Option Nat} (x0 x1 x2 : Int) (hy1 : x2 < (Args.A.length : Int)) (hy2 : x2 ≤ x0) (hy3 : 0 ≤ x2 ∧ x2 < (Args.A.length : Int)) (y4_ : R8) (hy4 : (some ((Args.A).getD (x2).toNat (0, 0, 0, 0, 0, 0, nl0, 0))) = some y4_) (y5_ : Int) (hy5 : (some (w64 (x1 + (y4_.2.2.2.2.2.2.1.l.length : Int)))) = some y5_) (hy6 : (y4_.2.2.1) > 1048576) : qek_ rnd x0 (x1, x2) (qbe_ x0 (.inl ())) :=
 runC2 hm (L := lT []) ⟨[4], [], 0, 0⟩ (zz 5 (xdT hy1) <|
zz 9 (xdT hy2) <|
zz 17 (xk1 0 Args.cA hy3) <|
zz 18 (lk2 hy4 (qc_ hy3)) <|
zz 26 (xnm hy5) <|
zz 31 (xdT hy6) <|
ee) (by kernel_rfl)
theorem q_LPq1_1_1 (n : Nat) {rnd : Option Nat} (x0 x1 x2 : Int) (hy1 : x2 < (Args.A.length : Int)) (hy2 : x2 ≤ x0) (hy3 : 0 ≤ x2 ∧ x2 < (Args.A.length : Int)) (y4_ : R8) (hy4 : (some ((Args.A).getD (x2).toNat (0, 0, 0, 0, 0, 0, nl0, 0))) = some y4_) (y5_ : Int) (hy5 : (some (w64 (x1 + (y4_.2.2.2.2.2.2.1.l.length : Int)))) = some y5_) (hy6 : ¬ ((y4_.2.2.1) > 1048576)) (hy7 : (y4_.2.2.2.2.1) > 1048576) : qek_ rnd x0 (x1, x2) (qbe_ x0 (.inl ())) :=
 runC2 hm (L := lT []) ⟨[4], [], 0, 0⟩ (zz 5 (xdT hy1) <|
zz 9 (xdT hy2) <|
zz 17 (xk1 0 Args.cA hy3) <|
zz 18 (lk2 hy4 (qc_ hy3)) <|
zz 26 (xnm hy5) <|
zz 31 (xdF hy6) <|
zz 35 (xdT hy7) <|
ee) (by kernel_rfl)
theorem q_LPq1_1_2 (n : Nat) {rnd : Option Nat} (x0 x1 x2 : Int) (hy1 : x2 < (Args.A.length : Int)) (hy2 : x2 ≤ x0) (hy3 : 0 ≤ x2 ∧ x2 < (Args.A.length : Int)) (y4_ : R8) (hy4 : (some ((Args.A).getD (x2).toNat (0, 0, 0, 0, 0, 0, nl0, 0))) = some y4_) (y5_ : Int) (hy5 : (some (w64 (x1 + (y4_.2.2.2.2.2.2.1.l.length : Int)))) = some y5_) (hy6 : ¬ ((y4_.2.2.1) > 1048576)) (hy7 : ¬ ((y4_.2.2.2.2.1) > 1048576)) (hy8 : (y4_.2.2.2.2.2.1) > 1048576) : qek_ rnd x0 (x1, x2) (qbe_ x0 (.inl ())) :=
 runC2 hm (L := lT []) ⟨[4], [], 0, 0⟩ (zz 5 (xdT hy1) <|
zz 9 (xdT hy2) <|
zz 17 (xk1 0 Args.cA hy3) <|
zz 18 (lk2 hy4 (qc_ hy3)) <|
zz 26 (xnm hy5) <|
zz 31 (xdF hy6) <|
zz 35 (xdF hy7) <|
zz 40 (xdT hy8) <|
ee) (by kernel_rfl)
theorem q_LPq1_1_3 (n : Nat) {rnd : Option Nat} (x0 x1 x2 : Int) (hy1 : x2 < (Args.A.length : Int)) (hy2 : x2 ≤ x0) (hy3 : 0 ≤ x2 ∧ x2 < (Args.A.length : Int)) (y4_ : R8) (hy4 : (some ((Args.A).getD (x2).toNat (0, 0, 0, 0, 0, 0, nl0, 0))) = some y4_) (y5_ : Int) (hy5 : (some (w64 (x1 + (y4_.2.2.2.2.2.2.1.l.length : Int)))) = some y5_) (hy6 : ¬ ((y4_.2.2.1) > 1048576)) (hy7 : ¬ ((y4_.2.2.2.2.1) > 1048576)) (hy8 : ¬ ((y4_.2.2.2.2.2.1) > 1048576)) (hy9 : (y4_.2.2.1) < (-1048576 : Int)) : qek_ rnd x0 (x1, x2) (qbe_ x0 (.inl ())) :=
 runC2 hm (L := lT []) ⟨[4], [], 0, 0⟩ (zz 5 (xdT hy1) <|
zz 9 (xdT hy2) <|
zz 17 (xk1 0 Args.cA hy3) <|
zz 18 (lk2 hy4 (qc_ hy3)) <|
zz 26 (xnm hy5) <|
zz 31 (xdF hy6) <|
zz 35 (xdF hy7) <|
zz 40 (xdF hy8) <|
zz 45 (xdT hy9) <|
ee) (by kernel_rfl)
theorem q_LPq1_1_4 (n : Nat) {rnd : Option Nat} (x0 x1 x2 : Int) (hy1 : x2 < (Args.A.length : Int)) (hy2 : x2 ≤ x0) (hy3 : 0 ≤ x2 ∧ x2 < (Args.A.length : Int)) (y4_ : R8) (hy4 : (some ((Args.A).getD (x2).toNat (0, 0, 0, 0, 0, 0, nl0, 0))) = some y4_) (y5_ : Int) (hy5 : (some (w64 (x1 + (y4_.2.2.2.2.2.2.1.l.length : Int)))) = some y5_) (hy6 : ¬ ((y4_.2.2.1) > 1048576)) (hy7 : ¬ ((y4_.2.2.2.2.1) > 1048576)) (hy8 : ¬ ((y4_.2.2.2.2.2.1) > 1048576)) (hy9 : ¬ ((y4_.2.2.1) < (-1048576 : Int))) (hy10 : (y4_.2.2.2.2.1) < (-1048576 : Int)) : qek_ rnd x0 (x1, x2) (qbe_ x0 (.inl ())) :=
 runC2 hm (L := lT []) ⟨[4], [], 0, 0⟩ (zz 5 (xdT hy1) <|
zz 9 (xdT hy2) <|
zz 17 (xk1 0 Args.cA hy3) <|
zz 18 (lk2 hy4 (qc_ hy3)) <|
zz 26 (xnm hy5) <|
zz 31 (xdF hy6) <|
zz 35 (xdF hy7) <|
zz 40 (xdF hy8) <|
zz 45 (xdF hy9) <|
zz 50 (xdT hy10) <|
ee) (by kernel_rfl)
theorem q_LPq1_1_5 (n : Nat) {rnd : Option Nat} (x0 x1 x2 : Int) (hy1 : x2 < (Args.A.length : Int)) (hy2 : x2 ≤ x0) (hy3 : 0 ≤ x2 ∧ x2 < (Args.A.length : Int)) (y4_ : R8) (hy4 : (some ((Args.A).getD (x2).toNat (0, 0, 0, 0, 0, 0, nl0, 0))) = some y4_) (y5_ : Int) (hy5 : (some (w64 (x1 + (y4_.2.2.2.2.2.2.1.l.length : Int)))) = some y5_) (hy6 : ¬ ((y4_.2.2.1) > 1048576)) (hy7 : ¬ ((y4_.2.2.2.2.1) > 1048576)) (hy8 : ¬ ((y4_.2.2.2.2.2.1) > 1048576)) (hy9 : ¬ ((y4_.2.2.1) < (-1048576 : Int))) (hy10 : ¬ ((y4_.2.2.2.2.1) < (-1048576 : Int))) (hy11 : (y4_.2.2.2.2.2.1) < (-1048576 : Int)) : qek_ rnd x0 (x1, x2) (qbe_ x0 (.inl ())) :=
 runC2 hm (L := lT []) ⟨[4], [], 0, 0⟩ (zz 5 (xdT hy1) <|
zz 9 (xdT hy2) <|
zz 17 (xk1 0 Args.cA hy3) <|
zz 18 (lk2 hy4 (qc_ hy3)) <|
zz 26 (xnm hy5) <|
zz 31 (xdF hy6) <|
zz 35 (xdF hy7) <|
zz 40 (xdF hy8) <|
zz 45 (xdF hy9) <|
zz 50 (xdF hy10) <|
zz 55 (xdT hy11) <|
ee) (by kernel_rfl)
theorem q_LPq1_1_6 (n : Nat) {rnd : Option Nat} (x0 x1 x2 : Int) (hy1 : x2 < (Args.A.length : Int)) (hy2 : x2 ≤ x0) (hy3 : 0 ≤ x2 ∧ x2 < (Args.A.length : Int)) (y4_ : R8) (hy4 : (some ((Args.A).getD (x2).toNat (0, 0, 0, 0, 0, 0, nl0, 0))) = some y4_) (y5_ : Int) (hy5 : (some (w64 (x1 + (y4_.2.2.2.2.2.2.1.l.length : Int)))) = some y5_) (hy6 : ¬ ((y4_.2.2.1) > 1048576)) (hy7 : ¬ ((y4_.2.2.2.2.1) > 1048576)) (hy8 : ¬ ((y4_.2.2.2.2.2.1) > 1048576)) (hy9 : ¬ ((y4_.2.2.1) < (-1048576 : Int))) (hy10 : ¬ ((y4_.2.2.2.2.1) < (-1048576 : Int))) (hy11 : ¬ ((y4_.2.2.2.2.2.1) < (-1048576 : Int))) : qek_ rnd x0 (x1, x2) (.normal, qku_ x0 (y5_, (w64 (x2 + 1)))) :=
 runC2 hm (L := lT []) ⟨[0, 1, 5, 6], [], 0, 0⟩ (zz 5 (xdT hy1) <|
zz 9 (xdT hy2) <|
zz 17 (xk1 0 Args.cA hy3) <|
zz 18 (lk2 hy4 (qc_ hy3)) <|
zz 26 (xnm hy5) <|
zz 31 (xdF hy6) <|
zz 35 (xdF hy7) <|
zz 40 (xdF hy8) <|
zz 45 (xdF hy9) <|
zz 50 (xdF hy10) <|
zz 55 (xdF hy11) <|
ee) (by kernel_rfl)
theorem q_LPq1_1_7 (n : Nat) {rnd : Option Nat} (x0 x1 x2 : Int) (hy1 : x2 < (Args.A.length : Int)) (hy2 : ¬ (x2 ≤ x0)) : qek_ rnd x0 (x1, x2) (qbe_ x0 (.inr x1)) :=
 runC2 hm (L := lT []) ⟨[0, 1, 5], [], 0, 0⟩ (zz 5 (xdT hy1) <|
zz 9 (xdF hy2) <|
ee) (by kernel_rfl)
theorem q_LPq1_1_8 (n : Nat) {rnd : Option Nat} (x0 x1 x2 : Int) (hy1 : ¬ (x2 < (Args.A.length : Int))) : qek_ rnd x0 (x1, x2) (qbe_ x0 (.inr x1)) :=
 runC2 hm (L := lT []) ⟨[0, 1, 5], [], 0, 0⟩ (zz 5 (xdF hy1) <|
ee) (by kernel_rfl)
theorem qf4_ (n : Nat) {rnd : Option Nat} (x0 : Int) (st : Int × Int) (r : (Unit) ⊕ (Int)) (h : qnb_ n x0 st = some r) : CG P rnd (fnN P 5) 0 (qq_ P 5 [false, true, false, true, true]) (qku_ x0 st) (qbe_ x0 r) :=
 CG.iter (b := qq_ P 5 [false, false, true, false, true, true]) (by kernel_rfl) (body := qh5_ n x0) (S := qku_ x0) (X := qbe_ x0)
  (fun s s' h => by
  obtain ⟨x1, x2⟩ := s
  unfold qh5_ at h
  dsimp only at h
  by_cases hy1 : x2 < (Args.A.length : Int)
  ·rw [if_pos hy1] at h
   by_cases hy2 : x2 ≤ x0
   ·rw [if_pos hy2] at h
    obtain ⟨hy3, h⟩ := gd h
    obtain ⟨y4_, hy4, h⟩ := oB h
    obtain ⟨y5_, hy5, h⟩ := oB h
    by_cases hy6 : (y4_.2.2.1) > 1048576
    ·rw [if_pos hy6] at h
     cases h
    ·rw [if_neg hy6] at h
     by_cases hy7 : (y4_.2.2.2.2.1) > 1048576
     ·rw [if_pos hy7] at h
      cases h
     ·rw [if_neg hy7] at h
      by_cases hy8 : (y4_.2.2.2.2.2.1) > 1048576
      ·rw [if_pos hy8] at h
       cases h
      ·rw [if_neg hy8] at h
       by_cases hy9 : (y4_.2.2.1) < (-1048576 : Int)
       ·rw [if_pos hy9] at h
        cases h
       ·rw [if_neg hy9] at h
        by_cases hy10 : (y4_.2.2.2.2.1) < (-1048576 : Int)
        ·rw [if_pos hy10] at h
         cases h
        ·rw [if_neg hy10] at h
         by_cases hy11 : (y4_.2.2.2.2.2.1) < (-1048576 : Int)
         ·rw [if_pos hy11] at h
          cases h
         ·rw [if_neg hy11] at h
          obtain rfl := Sum.inl.inj (oI h); exact q_LPq1_1_6 n x0 x1 x2 hy1 hy2 hy3 y4_ hy4 y5_ hy5 hy6 hy7 hy8 hy9 hy10 hy11
   ·rw [if_neg hy2] at h
    cases h
  ·rw [if_neg hy1] at h
   cases h)
  (fun s r h => by
  obtain ⟨x1, x2⟩ := s
  unfold qh5_ at h
  dsimp only at h
  by_cases hy1 : x2 < (Args.A.length : Int)
  ·rw [if_pos hy1] at h
   by_cases hy2 : x2 ≤ x0
   ·rw [if_pos hy2] at h
    obtain ⟨hy3, h⟩ := gd h
    obtain ⟨y4_, hy4, h⟩ := oB h
    obtain ⟨y5_, hy5, h⟩ := oB h
    by_cases hy6 : (y4_.2.2.1) > 1048576
    ·rw [if_pos hy6] at h
     obtain rfl := Sum.inr.inj (oI h); exact q_LPq1_1_0 n x0 x1 x2 hy1 hy2 hy3 y4_ hy4 y5_ hy5 hy6
    ·rw [if_neg hy6] at h
     by_cases hy7 : (y4_.2.2.2.2.1) > 1048576
     ·rw [if_pos hy7] at h
      obtain rfl := Sum.inr.inj (oI h); exact q_LPq1_1_1 n x0 x1 x2 hy1 hy2 hy3 y4_ hy4 y5_ hy5 hy6 hy7
     ·rw [if_neg hy7] at h
      by_cases hy8 : (y4_.2.2.2.2.2.1) > 1048576
      ·rw [if_pos hy8] at h
       obtain rfl := Sum.inr.inj (oI h); exact q_LPq1_1_2 n x0 x1 x2 hy1 hy2 hy3 y4_ hy4 y5_ hy5 hy6 hy7 hy8
      ·rw [if_neg hy8] at h
       by_cases hy9 : (y4_.2.2.1) < (-1048576 : Int)
       ·rw [if_pos hy9] at h
        obtain rfl := Sum.inr.inj (oI h); exact q_LPq1_1_3 n x0 x1 x2 hy1 hy2 hy3 y4_ hy4 y5_ hy5 hy6 hy7 hy8 hy9
       ·rw [if_neg hy9] at h
        by_cases hy10 : (y4_.2.2.2.2.1) < (-1048576 : Int)
        ·rw [if_pos hy10] at h
         obtain rfl := Sum.inr.inj (oI h); exact q_LPq1_1_4 n x0 x1 x2 hy1 hy2 hy3 y4_ hy4 y5_ hy5 hy6 hy7 hy8 hy9 hy10
        ·rw [if_neg hy10] at h
         by_cases hy11 : (y4_.2.2.2.2.2.1) < (-1048576 : Int)
         ·rw [if_pos hy11] at h
          obtain rfl := Sum.inr.inj (oI h); exact q_LPq1_1_5 n x0 x1 x2 hy1 hy2 hy3 y4_ hy4 y5_ hy5 hy6 hy7 hy8 hy9 hy10 hy11
         ·rw [if_neg hy11] at h
          cases h
   ·rw [if_neg hy2] at h
    obtain rfl := Sum.inr.inj (oI h); exact q_LPq1_1_7 n x0 x1 x2 hy1 hy2
  ·rw [if_neg hy1] at h
   obtain rfl := Sum.inr.inj (oI h); exact q_LPq1_1_8 n x0 x1 x2 hy1)
  (fun r => by intro hx; rcases r with _ | _ <;> cases hx) h
def m_LPq1 (n : Nat) (a0 : Int) : Option (Bool) :=
 match qnb_ n a0 (0, 0) with
 | none => none
 | some (.inl _) =>
  some false
 | some (.inr c1_) =>
  if (Args.A.length : Int) ≤ a0 then
   if c1_ ≤ (w64 ((2 : Int) * a0)) then
    some true
   else
    some false
  else
   some false
theorem qnc_ (n : Nat) (a0 : Int) (r : Bool) (h : m_LPq1 n a0 = some r) : Gv P (.func 5) (A_LPq1 a0) (H_LPq1 a0) (V_LPq1 a0 r) (R_LPq1 a0 r) := by
 unfold m_LPq1 at h
 rcases hc1 : qnb_ n a0 (0, 0) with _ | (⟨⟩ | c1_)
 ·rw [hc1] at h; cases h
 ·rw [hc1] at h
  dsimp only at h
  obtain rfl := oI h; exact (runF2 hm (L := lT [(8, ⟨⟨[0, 1, 5, 6], [], 0, 0⟩, (qbe_ a0 (.inl ())).1, (qbe_ a0 (.inl ())).2⟩)]) ⟨[4], [], 0, 0⟩ (ww (p := qna_ none a0 (0, 0) (.inl ())) (qf4_ n a0 (0, 0) (.inl ()) hc1) ee) (by kernel_rfl))
 ·rw [hc1] at h
  dsimp only at h
  by_cases hc2 : (Args.A.length : Int) ≤ a0
  ·rw [if_pos hc2] at h
   by_cases hc3 : c1_ ≤ (w64 ((2 : Int) * a0))
   ·rw [if_pos hc3] at h
    obtain rfl := oI h; exact (runF2 hm (L := lT [(8, ⟨⟨[0, 1, 5, 6], [], 0, 0⟩, (qbe_ a0 (.inr c1_)).1, (qbe_ a0 (.inr c1_)).2⟩)]) ⟨[4], [], 0, 0⟩ (ww (p := qna_ none a0 (0, 0) (.inr c1_)) (qf4_ n a0 (0, 0) (.inr c1_) hc1) <|
zz 13 (xdT hc2) <|
zz 18 (xdT hc3) ee) (by kernel_rfl))
   ·rw [if_neg hc3] at h
    obtain rfl := oI h; exact (runF2 hm (L := lT [(8, ⟨⟨[0, 1, 5, 6], [], 0, 0⟩, (qbe_ a0 (.inr c1_)).1, (qbe_ a0 (.inr c1_)).2⟩)]) ⟨[4], [], 0, 0⟩ (ww (p := qna_ none a0 (0, 0) (.inr c1_)) (qf4_ n a0 (0, 0) (.inr c1_) hc1) <|
zz 13 (xdT hc2) <|
zz 18 (xdF hc3) ee) (by kernel_rfl))
  ·rw [if_neg hc2] at h
   obtain rfl := oI h; exact (runF2 hm (L := lT [(8, ⟨⟨[0, 1, 5, 6], [], 0, 0⟩, (qbe_ a0 (.inr c1_)).1, (qbe_ a0 (.inr c1_)).2⟩)]) ⟨[4], [], 0, 0⟩ (ww (p := qna_ none a0 (0, 0) (.inr c1_)) (qf4_ n a0 (0, 0) (.inr c1_) hc1) <|
zz 13 (xdF hc2) ee) (by kernel_rfl))

def A_Rleafq1 (a0 : Int) : List Value := [(i6 a0)]
def H_Rleafq1 (a0 : Int) : AH := ⟨sB [], 0, 0⟩
def qnd_ (a0 : Int) (r : Bool) : Value := match r with
 | o0 => (bO o0)
def qne_ (a0 : Int) (r : Bool) : AH := match r with
 | o0 => ⟨sB [], 0, 0⟩
abbrev G_Rleafq1 (a0 : Int) (r : Bool) : Prop := Gv P (.func 28) (A_Rleafq1 a0) (H_Rleafq1 a0) (qnd_ a0 r) (qne_ a0 r)
abbrev qo_ (a0 : Int) (r : Bool) (ins outs : BL) : CallA := ⟨0, ins, qnd_ a0 r, qne_ a0 r, outs⟩
def qbx_ (n : Nat) (a0 : Int) : Option (Bool) :=
 if a0 = 1 then
  some false
 else
  if a0 = 2 then
   some false
  else
   some true
theorem qe_ (n : Nat) (a0 : Int) (r : Bool) (h : qbx_ n a0 = some r) : Gv P (.func 28) (A_Rleafq1 a0) (H_Rleafq1 a0) (qnd_ a0 r) (qne_ a0 r) := by
 unfold qbx_ at h
 by_cases hc1 : a0 = 1
 ·rw [if_pos hc1] at h
  obtain rfl := oI h; exact (runF2 hm (L := lT []) ⟨[2], [], 0, 0⟩ (zz 4 (xnF hc1) ee) (by kernel_rfl))
 ·rw [if_neg hc1] at h
  by_cases hc2 : a0 = 2
  ·rw [if_pos hc2] at h
   obtain rfl := oI h; exact (runF2 hm (L := lT []) ⟨[2], [], 0, 0⟩ (zz 4 (xnT hc1) <|
zz 7 (xnF hc2) ee) (by kernel_rfl))
  ·rw [if_neg hc2] at h
   obtain rfl := oI h; exact (runF2 hm (L := lT []) ⟨[2], [], 0, 0⟩ (zz 4 (xnT hc1) <|
zz 7 (xnT hc2) ee) (by kernel_rfl))

def A_Rbareq1 (a0 : Int) (a1 : Int) (a2 : Int) (a3 : Int) (a4 : Int) (a5 : Int) (a6 : NL) (a7 : Int) : List Value := [(Value.agg #[(i6 a0), (i6 a1), (i6 a2), (i6 a3), (i6 a4), (i6 a5), (nlV a6), (Value.int .u64 a7)])]
def H_Rbareq1 (a0 : Int) (a1 : Int) (a2 : Int) (a3 : Int) (a4 : Int) (a5 : Int) (a6 : NL) (a7 : Int) : AH := ⟨sB [], 0, 0⟩
def qnf_ (a0 : Int) (a1 : Int) (a2 : Int) (a3 : Int) (a4 : Int) (a5 : Int) (a6 : NL) (a7 : Int) (r : Bool) : Value := match r with
 | o0 => (bO o0)
def qng_ (a0 : Int) (a1 : Int) (a2 : Int) (a3 : Int) (a4 : Int) (a5 : Int) (a6 : NL) (a7 : Int) (r : Bool) : AH := match r with
 | o0 => ⟨sB [], 0, 0⟩
abbrev G_Rbareq1 (a0 : Int) (a1 : Int) (a2 : Int) (a3 : Int) (a4 : Int) (a5 : Int) (a6 : NL) (a7 : Int) (r : Bool) : Prop := Gv P (.func 11) (A_Rbareq1 a0 a1 a2 a3 a4 a5 a6 a7) (H_Rbareq1 a0 a1 a2 a3 a4 a5 a6 a7) (qnf_ a0 a1 a2 a3 a4 a5 a6 a7 r) (qng_ a0 a1 a2 a3 a4 a5 a6 a7 r)
abbrev qjd_ (a0 : Int) (a1 : Int) (a2 : Int) (a3 : Int) (a4 : Int) (a5 : Int) (a6 : NL) (a7 : Int) (r : Bool) (ins outs : BL) : CallA := ⟨0, ins, qnf_ a0 a1 a2 a3 a4 a5 a6 a7 r, qng_ a0 a1 a2 a3 a4 a5 a6 a7 r, outs⟩
def qca_ (n : Nat) (a0 : Int) (a1 : Int) (a2 : Int) (a3 : Int) (a4 : Int) (a5 : Int) (a6 : NL) (a7 : Int) : Option (Bool) :=
 if a1 < 1 then
  some false
 else
  if a1 > 6 then
   some false
  else
   if a2 < 0 then
    some false
   else
    if a2 > a4 then
     some false
    else
     if a5 ≤ a2 then
      some false
     else
      if a1 = 3 then
       if a3 < a2 then
        some false
       else
        if a3 > a4 then
         some false
        else
         if a1 = 4 then
          if a2 = a4 then
           (qbx_ n a1).bind fun c11_ =>
           if c11_ = true then
            if (a6.l.length : Int) = 0 then
             some true
            else
             some false
           else
            some true
          else
           some false
         else
          (qbx_ n a1).bind fun c10_ =>
          if c10_ = true then
           if (a6.l.length : Int) = 0 then
            some true
           else
            some false
          else
           some true
      else
       if a1 = 5 then
        if a3 < a2 then
         some false
        else
         if a3 > a4 then
          some false
         else
          if a1 = 4 then
           if a2 = a4 then
            (qbx_ n a1).bind fun c12_ =>
            if c12_ = true then
             if (a6.l.length : Int) = 0 then
              some true
             else
              some false
            else
             some true
           else
            some false
          else
           (qbx_ n a1).bind fun c11_ =>
           if c11_ = true then
            if (a6.l.length : Int) = 0 then
             some true
            else
             some false
           else
            some true
       else
        if a1 = 6 then
         if a3 < a2 then
          some false
         else
          if a3 > a4 then
           some false
          else
           if a1 = 4 then
            if a2 = a4 then
             (qbx_ n a1).bind fun c13_ =>
             if c13_ = true then
              if (a6.l.length : Int) = 0 then
               some true
              else
               some false
             else
              some true
            else
             some false
           else
            (qbx_ n a1).bind fun c12_ =>
            if c12_ = true then
             if (a6.l.length : Int) = 0 then
              some true
             else
              some false
            else
             some true
        else
         if a3 = a2 then
          if a1 = 4 then
           if a2 = a4 then
            (qbx_ n a1).bind fun c12_ =>
            if c12_ = true then
             if (a6.l.length : Int) = 0 then
              some true
             else
              some false
            else
             some true
           else
            some false
          else
           (qbx_ n a1).bind fun c11_ =>
           if c11_ = true then
            if (a6.l.length : Int) = 0 then
             some true
            else
             some false
           else
            some true
         else
          some false
theorem qel_ (n : Nat) (a0 : Int) (a1 : Int) (a2 : Int) (a3 : Int) (a4 : Int) (a5 : Int) (a6 : NL) (a7 : Int) (r : Bool) (h : qca_ n a0 a1 a2 a3 a4 a5 a6 a7 = some r) : Gv P (.func 11) (A_Rbareq1 a0 a1 a2 a3 a4 a5 a6 a7) (H_Rbareq1 a0 a1 a2 a3 a4 a5 a6 a7) (qnf_ a0 a1 a2 a3 a4 a5 a6 a7 r) (qng_ a0 a1 a2 a3 a4 a5 a6 a7 r) := by
 unfold qca_ at h
 by_cases hc1 : a1 < 1
 ·rw [if_pos hc1] at h
  obtain rfl := oI h; exact (runF2 hm (L := lT []) ⟨[2], [], 0, 0⟩ (zz 7 (xdT hc1) ee) (by kernel_rfl))
 ·rw [if_neg hc1] at h
  by_cases hc2 : a1 > 6
  ·rw [if_pos hc2] at h
   obtain rfl := oI h; exact (runF2 hm (L := lT []) ⟨[2], [], 0, 0⟩ (zz 7 (xdF hc1) <|
zz 11 (xdT hc2) ee) (by kernel_rfl))
  ·rw [if_neg hc2] at h
   by_cases hc3 : a2 < 0
   ·rw [if_pos hc3] at h
    obtain rfl := oI h; exact (runF2 hm (L := lT []) ⟨[2], [], 0, 0⟩ (zz 7 (xdF hc1) <|
zz 11 (xdF hc2) <|
zz 16 (xdT hc3) ee) (by kernel_rfl))
   ·rw [if_neg hc3] at h
    by_cases hc4 : a2 > a4
    ·rw [if_pos hc4] at h
     obtain rfl := oI h; exact (runF2 hm (L := lT []) ⟨[2], [], 0, 0⟩ (zz 7 (xdF hc1) <|
zz 11 (xdF hc2) <|
zz 16 (xdF hc3) <|
zz 23 (xdT hc4) ee) (by kernel_rfl))
    ·rw [if_neg hc4] at h
     by_cases hc5 : a5 ≤ a2
     ·rw [if_pos hc5] at h
      obtain rfl := oI h; exact (runF2 hm (L := lT []) ⟨[2], [], 0, 0⟩ (zz 7 (xdF hc1) <|
zz 11 (xdF hc2) <|
zz 16 (xdF hc3) <|
zz 23 (xdF hc4) <|
zz 30 (xdT hc5) ee) (by kernel_rfl))
     ·rw [if_neg hc5] at h
      by_cases hc6 : a1 = 3
      ·rw [if_pos hc6] at h
       by_cases hc7 : a3 < a2
       ·rw [if_pos hc7] at h
        obtain rfl := oI h; exact (runF2 hm (L := lT []) ⟨[2], [], 0, 0⟩ (zz 7 (xdF hc1) <|
zz 11 (xdF hc2) <|
zz 16 (xdF hc3) <|
zz 23 (xdF hc4) <|
zz 30 (xdF hc5) <|
zz 36 (xeT hc6) <|
zz 56 (xdT hc7) ee) (by kernel_rfl))
       ·rw [if_neg hc7] at h
        by_cases hc8 : a3 > a4
        ·rw [if_pos hc8] at h
         obtain rfl := oI h; exact (runF2 hm (L := lT []) ⟨[2], [], 0, 0⟩ (zz 7 (xdF hc1) <|
zz 11 (xdF hc2) <|
zz 16 (xdF hc3) <|
zz 23 (xdF hc4) <|
zz 30 (xdF hc5) <|
zz 36 (xeT hc6) <|
zz 56 (xdF hc7) <|
zz 62 (xdT hc8) ee) (by kernel_rfl))
        ·rw [if_neg hc8] at h
         by_cases hc9 : a1 = 4
         ·rw [if_pos hc9] at h
          by_cases hc10 : a2 = a4
          ·rw [if_pos hc10] at h
           obtain ⟨c11_, hc11, h⟩ := oB h
           by_cases hc12 : c11_ = true
           ·rw [if_pos hc12] at h
            by_cases hc13 : (a6.l.length : Int) = 0
            ·rw [if_pos hc13] at h
             obtain rfl := oI h; exact (runF2 hm (L := lT []) ⟨[2], [], 0, 0⟩ (zz 7 (xdF hc1) <|
zz 11 (xdF hc2) <|
zz 16 (xdF hc3) <|
zz 23 (xdF hc4) <|
zz 30 (xdF hc5) <|
zz 36 (xeT hc6) <|
zz 56 (xdF hc7) <|
zz 62 (xdF hc8) <|
zz 80 (xnF hc9) <|
zz 86 (xeT hc10) <|
yy 91 (.call (qo_ a1 c11_ [] [])) <|
ww (qe_ n a1 c11_ hc11) <|
yy 92 (vf) <|
ww (p := (Value.bool (!c11_)) = (Value.bool false)) (vBn hc12) <|
zz 97 (xeT hc13) ee) (by kernel_rfl))
            ·rw [if_neg hc13] at h
             obtain rfl := oI h; exact (runF2 hm (L := lT []) ⟨[2], [], 0, 0⟩ (zz 7 (xdF hc1) <|
zz 11 (xdF hc2) <|
zz 16 (xdF hc3) <|
zz 23 (xdF hc4) <|
zz 30 (xdF hc5) <|
zz 36 (xeT hc6) <|
zz 56 (xdF hc7) <|
zz 62 (xdF hc8) <|
zz 80 (xnF hc9) <|
zz 86 (xeT hc10) <|
yy 91 (.call (qo_ a1 c11_ [] [])) <|
ww (qe_ n a1 c11_ hc11) <|
yy 92 (vf) <|
ww (p := (Value.bool (!c11_)) = (Value.bool false)) (vBn hc12) <|
zz 97 (xeF hc13) ee) (by kernel_rfl))
           ·rw [if_neg hc12] at h
            obtain rfl := oI h; exact (runF2 hm (L := lT []) ⟨[2], [], 0, 0⟩ (zz 7 (xdF hc1) <|
zz 11 (xdF hc2) <|
zz 16 (xdF hc3) <|
zz 23 (xdF hc4) <|
zz 30 (xdF hc5) <|
zz 36 (xeT hc6) <|
zz 56 (xdF hc7) <|
zz 62 (xdF hc8) <|
zz 80 (xnF hc9) <|
zz 86 (xeT hc10) <|
yy 91 (.call (qo_ a1 c11_ [] [])) <|
ww (qe_ n a1 c11_ hc11) <|
yy 92 (vt) <|
ww (p := (Value.bool (!c11_)) = (Value.bool true)) (vBn (Bool.eq_false_iff.2 hc12)) ee) (by kernel_rfl))
          ·rw [if_neg hc10] at h
           obtain rfl := oI h; exact (runF2 hm (L := lT []) ⟨[2], [], 0, 0⟩ (zz 7 (xdF hc1) <|
zz 11 (xdF hc2) <|
zz 16 (xdF hc3) <|
zz 23 (xdF hc4) <|
zz 30 (xdF hc5) <|
zz 36 (xeT hc6) <|
zz 56 (xdF hc7) <|
zz 62 (xdF hc8) <|
zz 80 (xnF hc9) <|
zz 86 (xeF hc10) ee) (by kernel_rfl))
         ·rw [if_neg hc9] at h
          obtain ⟨c10_, hc10, h⟩ := oB h
          by_cases hc11 : c10_ = true
          ·rw [if_pos hc11] at h
           by_cases hc12 : (a6.l.length : Int) = 0
           ·rw [if_pos hc12] at h
            obtain rfl := oI h; exact (runF2 hm (L := lT []) ⟨[2], [], 0, 0⟩ (zz 7 (xdF hc1) <|
zz 11 (xdF hc2) <|
zz 16 (xdF hc3) <|
zz 23 (xdF hc4) <|
zz 30 (xdF hc5) <|
zz 36 (xeT hc6) <|
zz 56 (xdF hc7) <|
zz 62 (xdF hc8) <|
zz 80 (xnT hc9) <|
yy 91 (.call (qo_ a1 c10_ [] [])) <|
ww (qe_ n a1 c10_ hc10) <|
yy 92 (vf) <|
ww (p := (Value.bool (!c10_)) = (Value.bool false)) (vBn hc11) <|
zz 97 (xeT hc12) ee) (by kernel_rfl))
           ·rw [if_neg hc12] at h
            obtain rfl := oI h; exact (runF2 hm (L := lT []) ⟨[2], [], 0, 0⟩ (zz 7 (xdF hc1) <|
zz 11 (xdF hc2) <|
zz 16 (xdF hc3) <|
zz 23 (xdF hc4) <|
zz 30 (xdF hc5) <|
zz 36 (xeT hc6) <|
zz 56 (xdF hc7) <|
zz 62 (xdF hc8) <|
zz 80 (xnT hc9) <|
yy 91 (.call (qo_ a1 c10_ [] [])) <|
ww (qe_ n a1 c10_ hc10) <|
yy 92 (vf) <|
ww (p := (Value.bool (!c10_)) = (Value.bool false)) (vBn hc11) <|
zz 97 (xeF hc12) ee) (by kernel_rfl))
          ·rw [if_neg hc11] at h
           obtain rfl := oI h; exact (runF2 hm (L := lT []) ⟨[2], [], 0, 0⟩ (zz 7 (xdF hc1) <|
zz 11 (xdF hc2) <|
zz 16 (xdF hc3) <|
zz 23 (xdF hc4) <|
zz 30 (xdF hc5) <|
zz 36 (xeT hc6) <|
zz 56 (xdF hc7) <|
zz 62 (xdF hc8) <|
zz 80 (xnT hc9) <|
yy 91 (.call (qo_ a1 c10_ [] [])) <|
ww (qe_ n a1 c10_ hc10) <|
yy 92 (vt) <|
ww (p := (Value.bool (!c10_)) = (Value.bool true)) (vBn (Bool.eq_false_iff.2 hc11)) ee) (by kernel_rfl))
      ·rw [if_neg hc6] at h
       by_cases hc7 : a1 = 5
       ·rw [if_pos hc7] at h
        by_cases hc8 : a3 < a2
        ·rw [if_pos hc8] at h
         obtain rfl := oI h; exact (runF2 hm (L := lT []) ⟨[2], [], 0, 0⟩ (zz 7 (xdF hc1) <|
zz 11 (xdF hc2) <|
zz 16 (xdF hc3) <|
zz 23 (xdF hc4) <|
zz 30 (xdF hc5) <|
zz 36 (xeF hc6) <|
zz 40 (xeT hc7) <|
zz 56 (xdT hc8) ee) (by kernel_rfl))
        ·rw [if_neg hc8] at h
         by_cases hc9 : a3 > a4
         ·rw [if_pos hc9] at h
          obtain rfl := oI h; exact (runF2 hm (L := lT []) ⟨[2], [], 0, 0⟩ (zz 7 (xdF hc1) <|
zz 11 (xdF hc2) <|
zz 16 (xdF hc3) <|
zz 23 (xdF hc4) <|
zz 30 (xdF hc5) <|
zz 36 (xeF hc6) <|
zz 40 (xeT hc7) <|
zz 56 (xdF hc8) <|
zz 62 (xdT hc9) ee) (by kernel_rfl))
         ·rw [if_neg hc9] at h
          by_cases hc10 : a1 = 4
          ·rw [if_pos hc10] at h
           by_cases hc11 : a2 = a4
           ·rw [if_pos hc11] at h
            obtain ⟨c12_, hc12, h⟩ := oB h
            by_cases hc13 : c12_ = true
            ·rw [if_pos hc13] at h
             by_cases hc14 : (a6.l.length : Int) = 0
             ·rw [if_pos hc14] at h
              obtain rfl := oI h; exact (runF2 hm (L := lT []) ⟨[2], [], 0, 0⟩ (zz 7 (xdF hc1) <|
zz 11 (xdF hc2) <|
zz 16 (xdF hc3) <|
zz 23 (xdF hc4) <|
zz 30 (xdF hc5) <|
zz 36 (xeF hc6) <|
zz 40 (xeT hc7) <|
zz 56 (xdF hc8) <|
zz 62 (xdF hc9) <|
zz 80 (xnF hc10) <|
zz 86 (xeT hc11) <|
yy 91 (.call (qo_ a1 c12_ [] [])) <|
ww (qe_ n a1 c12_ hc12) <|
yy 92 (vf) <|
ww (p := (Value.bool (!c12_)) = (Value.bool false)) (vBn hc13) <|
zz 97 (xeT hc14) ee) (by kernel_rfl))
             ·rw [if_neg hc14] at h
              obtain rfl := oI h; exact (runF2 hm (L := lT []) ⟨[2], [], 0, 0⟩ (zz 7 (xdF hc1) <|
zz 11 (xdF hc2) <|
zz 16 (xdF hc3) <|
zz 23 (xdF hc4) <|
zz 30 (xdF hc5) <|
zz 36 (xeF hc6) <|
zz 40 (xeT hc7) <|
zz 56 (xdF hc8) <|
zz 62 (xdF hc9) <|
zz 80 (xnF hc10) <|
zz 86 (xeT hc11) <|
yy 91 (.call (qo_ a1 c12_ [] [])) <|
ww (qe_ n a1 c12_ hc12) <|
yy 92 (vf) <|
ww (p := (Value.bool (!c12_)) = (Value.bool false)) (vBn hc13) <|
zz 97 (xeF hc14) ee) (by kernel_rfl))
            ·rw [if_neg hc13] at h
             obtain rfl := oI h; exact (runF2 hm (L := lT []) ⟨[2], [], 0, 0⟩ (zz 7 (xdF hc1) <|
zz 11 (xdF hc2) <|
zz 16 (xdF hc3) <|
zz 23 (xdF hc4) <|
zz 30 (xdF hc5) <|
zz 36 (xeF hc6) <|
zz 40 (xeT hc7) <|
zz 56 (xdF hc8) <|
zz 62 (xdF hc9) <|
zz 80 (xnF hc10) <|
zz 86 (xeT hc11) <|
yy 91 (.call (qo_ a1 c12_ [] [])) <|
ww (qe_ n a1 c12_ hc12) <|
yy 92 (vt) <|
ww (p := (Value.bool (!c12_)) = (Value.bool true)) (vBn (Bool.eq_false_iff.2 hc13)) ee) (by kernel_rfl))
           ·rw [if_neg hc11] at h
            obtain rfl := oI h; exact (runF2 hm (L := lT []) ⟨[2], [], 0, 0⟩ (zz 7 (xdF hc1) <|
zz 11 (xdF hc2) <|
zz 16 (xdF hc3) <|
zz 23 (xdF hc4) <|
zz 30 (xdF hc5) <|
zz 36 (xeF hc6) <|
zz 40 (xeT hc7) <|
zz 56 (xdF hc8) <|
zz 62 (xdF hc9) <|
zz 80 (xnF hc10) <|
zz 86 (xeF hc11) ee) (by kernel_rfl))
          ·rw [if_neg hc10] at h
           obtain ⟨c11_, hc11, h⟩ := oB h
           by_cases hc12 : c11_ = true
           ·rw [if_pos hc12] at h
            by_cases hc13 : (a6.l.length : Int) = 0
            ·rw [if_pos hc13] at h
             obtain rfl := oI h; exact (runF2 hm (L := lT []) ⟨[2], [], 0, 0⟩ (zz 7 (xdF hc1) <|
zz 11 (xdF hc2) <|
zz 16 (xdF hc3) <|
zz 23 (xdF hc4) <|
zz 30 (xdF hc5) <|
zz 36 (xeF hc6) <|
zz 40 (xeT hc7) <|
zz 56 (xdF hc8) <|
zz 62 (xdF hc9) <|
zz 80 (xnT hc10) <|
yy 91 (.call (qo_ a1 c11_ [] [])) <|
ww (qe_ n a1 c11_ hc11) <|
yy 92 (vf) <|
ww (p := (Value.bool (!c11_)) = (Value.bool false)) (vBn hc12) <|
zz 97 (xeT hc13) ee) (by kernel_rfl))
            ·rw [if_neg hc13] at h
             obtain rfl := oI h; exact (runF2 hm (L := lT []) ⟨[2], [], 0, 0⟩ (zz 7 (xdF hc1) <|
zz 11 (xdF hc2) <|
zz 16 (xdF hc3) <|
zz 23 (xdF hc4) <|
zz 30 (xdF hc5) <|
zz 36 (xeF hc6) <|
zz 40 (xeT hc7) <|
zz 56 (xdF hc8) <|
zz 62 (xdF hc9) <|
zz 80 (xnT hc10) <|
yy 91 (.call (qo_ a1 c11_ [] [])) <|
ww (qe_ n a1 c11_ hc11) <|
yy 92 (vf) <|
ww (p := (Value.bool (!c11_)) = (Value.bool false)) (vBn hc12) <|
zz 97 (xeF hc13) ee) (by kernel_rfl))
           ·rw [if_neg hc12] at h
            obtain rfl := oI h; exact (runF2 hm (L := lT []) ⟨[2], [], 0, 0⟩ (zz 7 (xdF hc1) <|
zz 11 (xdF hc2) <|
zz 16 (xdF hc3) <|
zz 23 (xdF hc4) <|
zz 30 (xdF hc5) <|
zz 36 (xeF hc6) <|
zz 40 (xeT hc7) <|
zz 56 (xdF hc8) <|
zz 62 (xdF hc9) <|
zz 80 (xnT hc10) <|
yy 91 (.call (qo_ a1 c11_ [] [])) <|
ww (qe_ n a1 c11_ hc11) <|
yy 92 (vt) <|
ww (p := (Value.bool (!c11_)) = (Value.bool true)) (vBn (Bool.eq_false_iff.2 hc12)) ee) (by kernel_rfl))
       ·rw [if_neg hc7] at h
        by_cases hc8 : a1 = 6
        ·rw [if_pos hc8] at h
         by_cases hc9 : a3 < a2
         ·rw [if_pos hc9] at h
          obtain rfl := oI h; exact (runF2 hm (L := lT []) ⟨[2], [], 0, 0⟩ (zz 7 (xdF hc1) <|
zz 11 (xdF hc2) <|
zz 16 (xdF hc3) <|
zz 23 (xdF hc4) <|
zz 30 (xdF hc5) <|
zz 36 (xeF hc6) <|
zz 40 (xeF hc7) <|
zz 45 (xeT hc8) <|
zz 56 (xdT hc9) ee) (by kernel_rfl))
         ·rw [if_neg hc9] at h
          by_cases hc10 : a3 > a4
          ·rw [if_pos hc10] at h
           obtain rfl := oI h; exact (runF2 hm (L := lT []) ⟨[2], [], 0, 0⟩ (zz 7 (xdF hc1) <|
zz 11 (xdF hc2) <|
zz 16 (xdF hc3) <|
zz 23 (xdF hc4) <|
zz 30 (xdF hc5) <|
zz 36 (xeF hc6) <|
zz 40 (xeF hc7) <|
zz 45 (xeT hc8) <|
zz 56 (xdF hc9) <|
zz 62 (xdT hc10) ee) (by kernel_rfl))
          ·rw [if_neg hc10] at h
           by_cases hc11 : a1 = 4
           ·rw [if_pos hc11] at h
            by_cases hc12 : a2 = a4
            ·rw [if_pos hc12] at h
             obtain ⟨c13_, hc13, h⟩ := oB h
             by_cases hc14 : c13_ = true
             ·rw [if_pos hc14] at h
              by_cases hc15 : (a6.l.length : Int) = 0
              ·rw [if_pos hc15] at h
               obtain rfl := oI h; exact (runF2 hm (L := lT []) ⟨[2], [], 0, 0⟩ (zz 7 (xdF hc1) <|
zz 11 (xdF hc2) <|
zz 16 (xdF hc3) <|
zz 23 (xdF hc4) <|
zz 30 (xdF hc5) <|
zz 36 (xeF hc6) <|
zz 40 (xeF hc7) <|
zz 45 (xeT hc8) <|
zz 56 (xdF hc9) <|
zz 62 (xdF hc10) <|
zz 80 (xnF hc11) <|
zz 86 (xeT hc12) <|
yy 91 (.call (qo_ a1 c13_ [] [])) <|
ww (qe_ n a1 c13_ hc13) <|
yy 92 (vf) <|
ww (p := (Value.bool (!c13_)) = (Value.bool false)) (vBn hc14) <|
zz 97 (xeT hc15) ee) (by kernel_rfl))
              ·rw [if_neg hc15] at h
               obtain rfl := oI h; exact (runF2 hm (L := lT []) ⟨[2], [], 0, 0⟩ (zz 7 (xdF hc1) <|
zz 11 (xdF hc2) <|
zz 16 (xdF hc3) <|
zz 23 (xdF hc4) <|
zz 30 (xdF hc5) <|
zz 36 (xeF hc6) <|
zz 40 (xeF hc7) <|
zz 45 (xeT hc8) <|
zz 56 (xdF hc9) <|
zz 62 (xdF hc10) <|
zz 80 (xnF hc11) <|
zz 86 (xeT hc12) <|
yy 91 (.call (qo_ a1 c13_ [] [])) <|
ww (qe_ n a1 c13_ hc13) <|
yy 92 (vf) <|
ww (p := (Value.bool (!c13_)) = (Value.bool false)) (vBn hc14) <|
zz 97 (xeF hc15) ee) (by kernel_rfl))
             ·rw [if_neg hc14] at h
              obtain rfl := oI h; exact (runF2 hm (L := lT []) ⟨[2], [], 0, 0⟩ (zz 7 (xdF hc1) <|
zz 11 (xdF hc2) <|
zz 16 (xdF hc3) <|
zz 23 (xdF hc4) <|
zz 30 (xdF hc5) <|
zz 36 (xeF hc6) <|
zz 40 (xeF hc7) <|
zz 45 (xeT hc8) <|
zz 56 (xdF hc9) <|
zz 62 (xdF hc10) <|
zz 80 (xnF hc11) <|
zz 86 (xeT hc12) <|
yy 91 (.call (qo_ a1 c13_ [] [])) <|
ww (qe_ n a1 c13_ hc13) <|
yy 92 (vt) <|
ww (p := (Value.bool (!c13_)) = (Value.bool true)) (vBn (Bool.eq_false_iff.2 hc14)) ee) (by kernel_rfl))
            ·rw [if_neg hc12] at h
             obtain rfl := oI h; exact (runF2 hm (L := lT []) ⟨[2], [], 0, 0⟩ (zz 7 (xdF hc1) <|
zz 11 (xdF hc2) <|
zz 16 (xdF hc3) <|
zz 23 (xdF hc4) <|
zz 30 (xdF hc5) <|
zz 36 (xeF hc6) <|
zz 40 (xeF hc7) <|
zz 45 (xeT hc8) <|
zz 56 (xdF hc9) <|
zz 62 (xdF hc10) <|
zz 80 (xnF hc11) <|
zz 86 (xeF hc12) ee) (by kernel_rfl))
           ·rw [if_neg hc11] at h
            obtain ⟨c12_, hc12, h⟩ := oB h
            by_cases hc13 : c12_ = true
            ·rw [if_pos hc13] at h
             by_cases hc14 : (a6.l.length : Int) = 0
             ·rw [if_pos hc14] at h
              obtain rfl := oI h; exact (runF2 hm (L := lT []) ⟨[2], [], 0, 0⟩ (zz 7 (xdF hc1) <|
zz 11 (xdF hc2) <|
zz 16 (xdF hc3) <|
zz 23 (xdF hc4) <|
zz 30 (xdF hc5) <|
zz 36 (xeF hc6) <|
zz 40 (xeF hc7) <|
zz 45 (xeT hc8) <|
zz 56 (xdF hc9) <|
zz 62 (xdF hc10) <|
zz 80 (xnT hc11) <|
yy 91 (.call (qo_ a1 c12_ [] [])) <|
ww (qe_ n a1 c12_ hc12) <|
yy 92 (vf) <|
ww (p := (Value.bool (!c12_)) = (Value.bool false)) (vBn hc13) <|
zz 97 (xeT hc14) ee) (by kernel_rfl))
             ·rw [if_neg hc14] at h
              obtain rfl := oI h; exact (runF2 hm (L := lT []) ⟨[2], [], 0, 0⟩ (zz 7 (xdF hc1) <|
zz 11 (xdF hc2) <|
zz 16 (xdF hc3) <|
zz 23 (xdF hc4) <|
zz 30 (xdF hc5) <|
zz 36 (xeF hc6) <|
zz 40 (xeF hc7) <|
zz 45 (xeT hc8) <|
zz 56 (xdF hc9) <|
zz 62 (xdF hc10) <|
zz 80 (xnT hc11) <|
yy 91 (.call (qo_ a1 c12_ [] [])) <|
ww (qe_ n a1 c12_ hc12) <|
yy 92 (vf) <|
ww (p := (Value.bool (!c12_)) = (Value.bool false)) (vBn hc13) <|
zz 97 (xeF hc14) ee) (by kernel_rfl))
            ·rw [if_neg hc13] at h
             obtain rfl := oI h; exact (runF2 hm (L := lT []) ⟨[2], [], 0, 0⟩ (zz 7 (xdF hc1) <|
zz 11 (xdF hc2) <|
zz 16 (xdF hc3) <|
zz 23 (xdF hc4) <|
zz 30 (xdF hc5) <|
zz 36 (xeF hc6) <|
zz 40 (xeF hc7) <|
zz 45 (xeT hc8) <|
zz 56 (xdF hc9) <|
zz 62 (xdF hc10) <|
zz 80 (xnT hc11) <|
yy 91 (.call (qo_ a1 c12_ [] [])) <|
ww (qe_ n a1 c12_ hc12) <|
yy 92 (vt) <|
ww (p := (Value.bool (!c12_)) = (Value.bool true)) (vBn (Bool.eq_false_iff.2 hc13)) ee) (by kernel_rfl))
        ·rw [if_neg hc8] at h
         by_cases hc9 : a3 = a2
         ·rw [if_pos hc9] at h
          by_cases hc10 : a1 = 4
          ·rw [if_pos hc10] at h
           by_cases hc11 : a2 = a4
           ·rw [if_pos hc11] at h
            obtain ⟨c12_, hc12, h⟩ := oB h
            by_cases hc13 : c12_ = true
            ·rw [if_pos hc13] at h
             by_cases hc14 : (a6.l.length : Int) = 0
             ·rw [if_pos hc14] at h
              obtain rfl := oI h; exact (runF2 hm (L := lT []) ⟨[2], [], 0, 0⟩ (zz 7 (xdF hc1) <|
zz 11 (xdF hc2) <|
zz 16 (xdF hc3) <|
zz 23 (xdF hc4) <|
zz 30 (xdF hc5) <|
zz 36 (xeF hc6) <|
zz 40 (xeF hc7) <|
zz 45 (xeF hc8) <|
zz 73 (xnF hc9) <|
zz 80 (xnF hc10) <|
zz 86 (xeT hc11) <|
yy 91 (.call (qo_ a1 c12_ [] [])) <|
ww (qe_ n a1 c12_ hc12) <|
yy 92 (vf) <|
ww (p := (Value.bool (!c12_)) = (Value.bool false)) (vBn hc13) <|
zz 97 (xeT hc14) ee) (by kernel_rfl))
             ·rw [if_neg hc14] at h
              obtain rfl := oI h; exact (runF2 hm (L := lT []) ⟨[2], [], 0, 0⟩ (zz 7 (xdF hc1) <|
zz 11 (xdF hc2) <|
zz 16 (xdF hc3) <|
zz 23 (xdF hc4) <|
zz 30 (xdF hc5) <|
zz 36 (xeF hc6) <|
zz 40 (xeF hc7) <|
zz 45 (xeF hc8) <|
zz 73 (xnF hc9) <|
zz 80 (xnF hc10) <|
zz 86 (xeT hc11) <|
yy 91 (.call (qo_ a1 c12_ [] [])) <|
ww (qe_ n a1 c12_ hc12) <|
yy 92 (vf) <|
ww (p := (Value.bool (!c12_)) = (Value.bool false)) (vBn hc13) <|
zz 97 (xeF hc14) ee) (by kernel_rfl))
            ·rw [if_neg hc13] at h
             obtain rfl := oI h; exact (runF2 hm (L := lT []) ⟨[2], [], 0, 0⟩ (zz 7 (xdF hc1) <|
zz 11 (xdF hc2) <|
zz 16 (xdF hc3) <|
zz 23 (xdF hc4) <|
zz 30 (xdF hc5) <|
zz 36 (xeF hc6) <|
zz 40 (xeF hc7) <|
zz 45 (xeF hc8) <|
zz 73 (xnF hc9) <|
zz 80 (xnF hc10) <|
zz 86 (xeT hc11) <|
yy 91 (.call (qo_ a1 c12_ [] [])) <|
ww (qe_ n a1 c12_ hc12) <|
yy 92 (vt) <|
ww (p := (Value.bool (!c12_)) = (Value.bool true)) (vBn (Bool.eq_false_iff.2 hc13)) ee) (by kernel_rfl))
           ·rw [if_neg hc11] at h
            obtain rfl := oI h; exact (runF2 hm (L := lT []) ⟨[2], [], 0, 0⟩ (zz 7 (xdF hc1) <|
zz 11 (xdF hc2) <|
zz 16 (xdF hc3) <|
zz 23 (xdF hc4) <|
zz 30 (xdF hc5) <|
zz 36 (xeF hc6) <|
zz 40 (xeF hc7) <|
zz 45 (xeF hc8) <|
zz 73 (xnF hc9) <|
zz 80 (xnF hc10) <|
zz 86 (xeF hc11) ee) (by kernel_rfl))
          ·rw [if_neg hc10] at h
           obtain ⟨c11_, hc11, h⟩ := oB h
           by_cases hc12 : c11_ = true
           ·rw [if_pos hc12] at h
            by_cases hc13 : (a6.l.length : Int) = 0
            ·rw [if_pos hc13] at h
             obtain rfl := oI h; exact (runF2 hm (L := lT []) ⟨[2], [], 0, 0⟩ (zz 7 (xdF hc1) <|
zz 11 (xdF hc2) <|
zz 16 (xdF hc3) <|
zz 23 (xdF hc4) <|
zz 30 (xdF hc5) <|
zz 36 (xeF hc6) <|
zz 40 (xeF hc7) <|
zz 45 (xeF hc8) <|
zz 73 (xnF hc9) <|
zz 80 (xnT hc10) <|
yy 91 (.call (qo_ a1 c11_ [] [])) <|
ww (qe_ n a1 c11_ hc11) <|
yy 92 (vf) <|
ww (p := (Value.bool (!c11_)) = (Value.bool false)) (vBn hc12) <|
zz 97 (xeT hc13) ee) (by kernel_rfl))
            ·rw [if_neg hc13] at h
             obtain rfl := oI h; exact (runF2 hm (L := lT []) ⟨[2], [], 0, 0⟩ (zz 7 (xdF hc1) <|
zz 11 (xdF hc2) <|
zz 16 (xdF hc3) <|
zz 23 (xdF hc4) <|
zz 30 (xdF hc5) <|
zz 36 (xeF hc6) <|
zz 40 (xeF hc7) <|
zz 45 (xeF hc8) <|
zz 73 (xnF hc9) <|
zz 80 (xnT hc10) <|
yy 91 (.call (qo_ a1 c11_ [] [])) <|
ww (qe_ n a1 c11_ hc11) <|
yy 92 (vf) <|
ww (p := (Value.bool (!c11_)) = (Value.bool false)) (vBn hc12) <|
zz 97 (xeF hc13) ee) (by kernel_rfl))
           ·rw [if_neg hc12] at h
            obtain rfl := oI h; exact (runF2 hm (L := lT []) ⟨[2], [], 0, 0⟩ (zz 7 (xdF hc1) <|
zz 11 (xdF hc2) <|
zz 16 (xdF hc3) <|
zz 23 (xdF hc4) <|
zz 30 (xdF hc5) <|
zz 36 (xeF hc6) <|
zz 40 (xeF hc7) <|
zz 45 (xeF hc8) <|
zz 73 (xnF hc9) <|
zz 80 (xnT hc10) <|
yy 91 (.call (qo_ a1 c11_ [] [])) <|
ww (qe_ n a1 c11_ hc11) <|
yy 92 (vt) <|
ww (p := (Value.bool (!c11_)) = (Value.bool true)) (vBn (Bool.eq_false_iff.2 hc12)) ee) (by kernel_rfl))
         ·rw [if_neg hc9] at h
          obtain rfl := oI h; exact (runF2 hm (L := lT []) ⟨[2], [], 0, 0⟩ (zz 7 (xdF hc1) <|
zz 11 (xdF hc2) <|
zz 16 (xdF hc3) <|
zz 23 (xdF hc4) <|
zz 30 (xdF hc5) <|
zz 36 (xeF hc6) <|
zz 40 (xeF hc7) <|
zz 45 (xeF hc8) <|
zz 73 (xnT hc9) ee) (by kernel_rfl))

def qdi_ (a0 : Int) : List Value := [(sW 0 0 (Args.A).length Args.cA), (i6 a0)]
def qdj_ (a0 : Int) : AH := ⟨sB [], 0, 0⟩
def qct_ (a0 : Int) (r : Int) : Value := match r with
 | o0 => (i6 o0)
def qcu_ (a0 : Int) (r : Int) : AH := match r with
 | o0 => ⟨sB [], 0, 0⟩
abbrev G_Rendq1 (a0 : Int) (r : Int) : Prop := Gv P (.func 12) (qdi_ a0) (qdj_ a0) (qct_ a0 r) (qcu_ a0 r)
abbrev qnh_ (a0 : Int) (r : Int) (ins outs : BL) : CallA := ⟨0, ins, qct_ a0 r, qcu_ a0 r, outs⟩
def qfl_ (x0 : Int) (st : Int × Int × Int) : XSt := match st with
 | (x1, x2, x3) => (sT 68 [(0, (sW 0 0 (Args.A).length Args.cA)), (1, (i6 x0)), (5, (i6 x1)), (6, (i6 x2)), (7, (i6 x3))], [], ⟨sB [], 0, 0⟩)
def q6_ (x0 : Int) (r : (Unit) ⊕ (Int × Int)) : Ex × XSt := match r with
 | .inl _ => (.ret, (sT 68 [(4, (i6 (-1 : Int)))], [], ⟨sB [], 0, 0⟩))
 | .inr (z0, z1) => (.exit 0, (sT 68 [(0, (sW 0 0 (Args.A).length Args.cA)), (1, (i6 x0)), (5, (i6 z0)), (6, (i6 z1))], [], ⟨sB [], 0, 0⟩))
abbrev qec_ (rnd : Option Nat) (x0 : Int) (st : Int × Int × Int) (c : Ex × XSt) : Prop := CG P rnd (fnN P 12) 0 (qq_ P 12 [false, false, true, false, true, true]) (qfl_ x0 st) c
abbrev qkv_ (rd : Option Nat) (x0 : Int) (st : Int × Int × Int) (r : (Unit) ⊕ (Int × Int)) : Prop := CG P rd (fnN P 12) 0 (qq_ P 12 [false, true, false, true, true]) (qfl_ x0 st) (q6_ x0 r)
def qdk_ (rec_Rendq1 : (Int) → Option (Int)) (n : Nat) (x0 : Int) (st : Int × Int × Int) : Option ((Int × Int × Int) ⊕ ((Unit) ⊕ (Int × Int))) := match st with
 | (x1, x2, x3) =>
  if 0 ≤ x0 ∧ x0 < (Args.A.length : Int) then
   ((some ((Args.A).getD (x0).toNat (0, 0, 0, 0, 0, 0, nl0, 0)))).bind fun y2_ =>
   if x3 < (y2_.2.2.2.2.2.2.1.l.length : Int) then
    if 0 ≤ x3 ∧ x3 < (y2_.2.2.2.2.2.2.1.l.length : Int) then
     if (x3).toNat < (((y2_.2.2.2.2.2.2.1)).l).length then
      ((some ((((y2_.2.2.2.2.2.2.1)).l).getD (x3).toNat 0))).bind fun y6_ =>
      if y6_ = x1 then
       if x1 ≥ (Args.A.length : Int) then
        some (.inr (.inl ()))
       else
        if 0 ≤ x1 ∧ x1 < (Args.A.length : Int) then
         ((some ((Args.A).getD (x1).toNat (0, 0, 0, 0, 0, 0, nl0, 0)))).bind fun y10_ =>
         if (y10_.2.2.1) < x2 then
          some (.inr (.inl ()))
         else
          (rec_Rendq1 x1).bind fun y12_ =>
          if y12_ < 0 then
           some (.inr (.inl ()))
          else
           some (.inl (y12_, (y10_.2.2.2.2.1), (w64 (x3 + 1))))
        else none
      else
       some (.inr (.inl ()))
     else none
    else none
   else
    some (.inr (.inr (x1, x2)))
  else none
def qhf_ (rec_Rendq1 : (Int) → Option (Int)) (n : Nat) (x0 : Int) (st : Int × Int × Int) : Option ((Unit) ⊕ (Int × Int)) := iterM (qdk_ rec_Rendq1 n x0) n st
theorem q_Rendq1_1_0 (rec_Rendq1 : (Int) → Option (Int)) (hrec_Rendq1 : ∀ (a0 : Int) (r : Int), rec_Rendq1 a0 = some r → Gv P (.func 12) (qdi_ a0) (qdj_ a0) (qct_ a0 r) (qcu_ a0 r)) (n : Nat) {rnd : Option Nat} (x0 x1 x2 x3 : Int) (hy1 : 0 ≤ x0 ∧ x0 < (Args.A.length : Int)) (y2_ : R8) (hy2 : (some ((Args.A).getD (x0).toNat (0, 0, 0, 0, 0, 0, nl0, 0))) = some y2_) (hy3 : x3 < (y2_.2.2.2.2.2.2.1.l.length : Int)) (hy4 : 0 ≤ x3 ∧ x3 < (y2_.2.2.2.2.2.2.1.l.length : Int)) (hy5 : (x3).toNat < (((y2_.2.2.2.2.2.2.1)).l).length) (y6_ : Int) (hy6 : (some ((((y2_.2.2.2.2.2.2.1)).l).getD (x3).toNat 0)) = some y6_) (hy7 : y6_ = x1) (hy8 : x1 ≥ (Args.A.length : Int)) : qec_ rnd x0 (x1, x2, x3) (q6_ x0 (.inl ())) :=
 runC2 hm (L := lT []) ⟨[4], [], 0, 0⟩ (zz 5 (xk1 0 Args.cA hy1) <|
zz 6 (fk7 ((x0).toNat * 8)) <|
zz 7 (lk8 hy2 (qc_ hy1)) <|
zz 9 (xdT hy3) <|
zz 17 (xk1 0 Args.cA hy1) <|
zz 18 (fk7 ((x0).toNat * 8)) <|
zz 19 (lk8 hy2 (qc_ hy1)) <|
zz 21 (xk9 (Nat.add ((y2_.2.2.2.2.2.2.1)).num 64) ((y2_.2.2.2.2.2.2.1)).cap hy4) <|
zz 22 (nk10 hy6 hy5) <|
zz 24 (xnF hy7) <|
zz 29 (xdT hy8) <|
ee) (by kernel_rfl)
theorem q_Rendq1_1_1 (rec_Rendq1 : (Int) → Option (Int)) (hrec_Rendq1 : ∀ (a0 : Int) (r : Int), rec_Rendq1 a0 = some r → Gv P (.func 12) (qdi_ a0) (qdj_ a0) (qct_ a0 r) (qcu_ a0 r)) (n : Nat) {rnd : Option Nat} (x0 x1 x2 x3 : Int) (hy1 : 0 ≤ x0 ∧ x0 < (Args.A.length : Int)) (y2_ : R8) (hy2 : (some ((Args.A).getD (x0).toNat (0, 0, 0, 0, 0, 0, nl0, 0))) = some y2_) (hy3 : x3 < (y2_.2.2.2.2.2.2.1.l.length : Int)) (hy4 : 0 ≤ x3 ∧ x3 < (y2_.2.2.2.2.2.2.1.l.length : Int)) (hy5 : (x3).toNat < (((y2_.2.2.2.2.2.2.1)).l).length) (y6_ : Int) (hy6 : (some ((((y2_.2.2.2.2.2.2.1)).l).getD (x3).toNat 0)) = some y6_) (hy7 : y6_ = x1) (hy8 : ¬ (x1 ≥ (Args.A.length : Int))) (hy9 : 0 ≤ x1 ∧ x1 < (Args.A.length : Int)) (y10_ : R8) (hy10 : (some ((Args.A).getD (x1).toNat (0, 0, 0, 0, 0, 0, nl0, 0))) = some y10_) (hy11 : (y10_.2.2.1) < x2) : qec_ rnd x0 (x1, x2, x3) (q6_ x0 (.inl ())) :=
 runC2 hm (L := lT []) ⟨[4], [], 0, 0⟩ (zz 5 (xk1 0 Args.cA hy1) <|
zz 6 (fk7 ((x0).toNat * 8)) <|
zz 7 (lk8 hy2 (qc_ hy1)) <|
zz 9 (xdT hy3) <|
zz 17 (xk1 0 Args.cA hy1) <|
zz 18 (fk7 ((x0).toNat * 8)) <|
zz 19 (lk8 hy2 (qc_ hy1)) <|
zz 21 (xk9 (Nat.add ((y2_.2.2.2.2.2.2.1)).num 64) ((y2_.2.2.2.2.2.2.1)).cap hy4) <|
zz 22 (nk10 hy6 hy5) <|
zz 24 (xnF hy7) <|
zz 29 (xdF hy8) <|
zz 34 (xk1 0 Args.cA hy9) <|
zz 35 (fk5 ((x1).toNat * 8)) <|
zz 36 (lk6 hy10 (qc_ hy9)) <|
zz 38 (xdT hy11) <|
ee) (by kernel_rfl)
theorem q_Rendq1_1_2 (rec_Rendq1 : (Int) → Option (Int)) (hrec_Rendq1 : ∀ (a0 : Int) (r : Int), rec_Rendq1 a0 = some r → Gv P (.func 12) (qdi_ a0) (qdj_ a0) (qct_ a0 r) (qcu_ a0 r)) (n : Nat) {rnd : Option Nat} (x0 x1 x2 x3 : Int) (hy1 : 0 ≤ x0 ∧ x0 < (Args.A.length : Int)) (y2_ : R8) (hy2 : (some ((Args.A).getD (x0).toNat (0, 0, 0, 0, 0, 0, nl0, 0))) = some y2_) (hy3 : x3 < (y2_.2.2.2.2.2.2.1.l.length : Int)) (hy4 : 0 ≤ x3 ∧ x3 < (y2_.2.2.2.2.2.2.1.l.length : Int)) (hy5 : (x3).toNat < (((y2_.2.2.2.2.2.2.1)).l).length) (y6_ : Int) (hy6 : (some ((((y2_.2.2.2.2.2.2.1)).l).getD (x3).toNat 0)) = some y6_) (hy7 : y6_ = x1) (hy8 : ¬ (x1 ≥ (Args.A.length : Int))) (hy9 : 0 ≤ x1 ∧ x1 < (Args.A.length : Int)) (y10_ : R8) (hy10 : (some ((Args.A).getD (x1).toNat (0, 0, 0, 0, 0, 0, nl0, 0))) = some y10_) (hy11 : ¬ ((y10_.2.2.1) < x2)) (y12_ : Int) (hy12 : rec_Rendq1 x1 = some y12_) (hy13 : y12_ < 0) : qec_ rnd x0 (x1, x2, x3) (q6_ x0 (.inl ())) :=
 runC2 hm (L := lT []) ⟨[4], [], 0, 0⟩ (zz 5 (xk1 0 Args.cA hy1) <|
zz 6 (fk7 ((x0).toNat * 8)) <|
zz 7 (lk8 hy2 (qc_ hy1)) <|
zz 9 (xdT hy3) <|
zz 17 (xk1 0 Args.cA hy1) <|
zz 18 (fk7 ((x0).toNat * 8)) <|
zz 19 (lk8 hy2 (qc_ hy1)) <|
zz 21 (xk9 (Nat.add ((y2_.2.2.2.2.2.2.1)).num 64) ((y2_.2.2.2.2.2.2.1)).cap hy4) <|
zz 22 (nk10 hy6 hy5) <|
zz 24 (xnF hy7) <|
zz 29 (xdF hy8) <|
zz 34 (xk1 0 Args.cA hy9) <|
zz 35 (fk5 ((x1).toNat * 8)) <|
zz 36 (lk6 hy10 (qc_ hy9)) <|
zz 38 (xdF hy11) <|
zz 44 (xk1 0 Args.cA hy9) <|
zz 45 (fk11 ((x1).toNat * 8)) <|
zz 46 (lk12 hy10 (qc_ hy9)) <|
yy 51 (.call (qnh_ x1 y12_ [] [])) <|
ww (hrec_Rendq1 x1 y12_ hy12) <|
zz 55 (xdT hy13) <|
ee) (by kernel_rfl)
theorem q_Rendq1_1_3 (rec_Rendq1 : (Int) → Option (Int)) (hrec_Rendq1 : ∀ (a0 : Int) (r : Int), rec_Rendq1 a0 = some r → Gv P (.func 12) (qdi_ a0) (qdj_ a0) (qct_ a0 r) (qcu_ a0 r)) (n : Nat) {rnd : Option Nat} (x0 x1 x2 x3 : Int) (hy1 : 0 ≤ x0 ∧ x0 < (Args.A.length : Int)) (y2_ : R8) (hy2 : (some ((Args.A).getD (x0).toNat (0, 0, 0, 0, 0, 0, nl0, 0))) = some y2_) (hy3 : x3 < (y2_.2.2.2.2.2.2.1.l.length : Int)) (hy4 : 0 ≤ x3 ∧ x3 < (y2_.2.2.2.2.2.2.1.l.length : Int)) (hy5 : (x3).toNat < (((y2_.2.2.2.2.2.2.1)).l).length) (y6_ : Int) (hy6 : (some ((((y2_.2.2.2.2.2.2.1)).l).getD (x3).toNat 0)) = some y6_) (hy7 : y6_ = x1) (hy8 : ¬ (x1 ≥ (Args.A.length : Int))) (hy9 : 0 ≤ x1 ∧ x1 < (Args.A.length : Int)) (y10_ : R8) (hy10 : (some ((Args.A).getD (x1).toNat (0, 0, 0, 0, 0, 0, nl0, 0))) = some y10_) (hy11 : ¬ ((y10_.2.2.1) < x2)) (y12_ : Int) (hy12 : rec_Rendq1 x1 = some y12_) (hy13 : ¬ (y12_ < 0)) : qec_ rnd x0 (x1, x2, x3) (.normal, qfl_ x0 (y12_, (y10_.2.2.2.2.1), (w64 (x3 + 1)))) :=
 runC2 hm (L := lT []) ⟨[0, 1, 5, 6, 7], [], 0, 0⟩ (zz 5 (xk1 0 Args.cA hy1) <|
zz 6 (fk7 ((x0).toNat * 8)) <|
zz 7 (lk8 hy2 (qc_ hy1)) <|
zz 9 (xdT hy3) <|
zz 17 (xk1 0 Args.cA hy1) <|
zz 18 (fk7 ((x0).toNat * 8)) <|
zz 19 (lk8 hy2 (qc_ hy1)) <|
zz 21 (xk9 (Nat.add ((y2_.2.2.2.2.2.2.1)).num 64) ((y2_.2.2.2.2.2.2.1)).cap hy4) <|
zz 22 (nk10 hy6 hy5) <|
zz 24 (xnF hy7) <|
zz 29 (xdF hy8) <|
zz 34 (xk1 0 Args.cA hy9) <|
zz 35 (fk5 ((x1).toNat * 8)) <|
zz 36 (lk6 hy10 (qc_ hy9)) <|
zz 38 (xdF hy11) <|
zz 44 (xk1 0 Args.cA hy9) <|
zz 45 (fk11 ((x1).toNat * 8)) <|
zz 46 (lk12 hy10 (qc_ hy9)) <|
yy 51 (.call (qnh_ x1 y12_ [] [])) <|
ww (hrec_Rendq1 x1 y12_ hy12) <|
zz 55 (xdF hy13) <|
ee) (by kernel_rfl)
theorem q_Rendq1_1_4 (rec_Rendq1 : (Int) → Option (Int)) (hrec_Rendq1 : ∀ (a0 : Int) (r : Int), rec_Rendq1 a0 = some r → Gv P (.func 12) (qdi_ a0) (qdj_ a0) (qct_ a0 r) (qcu_ a0 r)) (n : Nat) {rnd : Option Nat} (x0 x1 x2 x3 : Int) (hy1 : 0 ≤ x0 ∧ x0 < (Args.A.length : Int)) (y2_ : R8) (hy2 : (some ((Args.A).getD (x0).toNat (0, 0, 0, 0, 0, 0, nl0, 0))) = some y2_) (hy3 : x3 < (y2_.2.2.2.2.2.2.1.l.length : Int)) (hy4 : 0 ≤ x3 ∧ x3 < (y2_.2.2.2.2.2.2.1.l.length : Int)) (hy5 : (x3).toNat < (((y2_.2.2.2.2.2.2.1)).l).length) (y6_ : Int) (hy6 : (some ((((y2_.2.2.2.2.2.2.1)).l).getD (x3).toNat 0)) = some y6_) (hy7 : ¬ (y6_ = x1)) : qec_ rnd x0 (x1, x2, x3) (q6_ x0 (.inl ())) :=
 runC2 hm (L := lT []) ⟨[4], [], 0, 0⟩ (zz 5 (xk1 0 Args.cA hy1) <|
zz 6 (fk7 ((x0).toNat * 8)) <|
zz 7 (lk8 hy2 (qc_ hy1)) <|
zz 9 (xdT hy3) <|
zz 17 (xk1 0 Args.cA hy1) <|
zz 18 (fk7 ((x0).toNat * 8)) <|
zz 19 (lk8 hy2 (qc_ hy1)) <|
zz 21 (xk9 (Nat.add ((y2_.2.2.2.2.2.2.1)).num 64) ((y2_.2.2.2.2.2.2.1)).cap hy4) <|
zz 22 (nk10 hy6 hy5) <|
zz 24 (xnT hy7) <|
ee) (by kernel_rfl)
theorem q_Rendq1_1_5 (rec_Rendq1 : (Int) → Option (Int)) (hrec_Rendq1 : ∀ (a0 : Int) (r : Int), rec_Rendq1 a0 = some r → Gv P (.func 12) (qdi_ a0) (qdj_ a0) (qct_ a0 r) (qcu_ a0 r)) (n : Nat) {rnd : Option Nat} (x0 x1 x2 x3 : Int) (hy1 : 0 ≤ x0 ∧ x0 < (Args.A.length : Int)) (y2_ : R8) (hy2 : (some ((Args.A).getD (x0).toNat (0, 0, 0, 0, 0, 0, nl0, 0))) = some y2_) (hy3 : ¬ (x3 < (y2_.2.2.2.2.2.2.1.l.length : Int))) : qec_ rnd x0 (x1, x2, x3) (q6_ x0 (.inr (x1, x2))) :=
 runC2 hm (L := lT []) ⟨[0, 1, 5, 6], [], 0, 0⟩ (zz 5 (xk1 0 Args.cA hy1) <|
zz 6 (fk7 ((x0).toNat * 8)) <|
zz 7 (lk8 hy2 (qc_ hy1)) <|
zz 9 (xdF hy3) <|
ee) (by kernel_rfl)
theorem qfm_ (rec_Rendq1 : (Int) → Option (Int)) (hrec_Rendq1 : ∀ (a0 : Int) (r : Int), rec_Rendq1 a0 = some r → Gv P (.func 12) (qdi_ a0) (qdj_ a0) (qct_ a0 r) (qcu_ a0 r)) (n : Nat) {rnd : Option Nat} (x0 : Int) (st : Int × Int × Int) (r : (Unit) ⊕ (Int × Int)) (h : qhf_ rec_Rendq1 n x0 st = some r) : CG P rnd (fnN P 12) 0 (qq_ P 12 [false, true, false, true, true]) (qfl_ x0 st) (q6_ x0 r) :=
 CG.iter (b := qq_ P 12 [false, false, true, false, true, true]) (by kernel_rfl) (body := qdk_ rec_Rendq1 n x0) (S := qfl_ x0) (X := q6_ x0)
  (fun s s' h => by
  obtain ⟨x1, x2, x3⟩ := s
  unfold qdk_ at h
  dsimp only at h
  by_cases hy1 : 0 ≤ x0 ∧ x0 < (Args.A.length : Int)
  ·rw [if_pos hy1] at h
   obtain ⟨y2_, hy2, h⟩ := oB h
   by_cases hy3 : x3 < (y2_.2.2.2.2.2.2.1.l.length : Int)
   ·rw [if_pos hy3] at h
    obtain ⟨hy4, h⟩ := gd h
    obtain ⟨hy5, h⟩ := gd h
    obtain ⟨y6_, hy6, h⟩ := oB h
    by_cases hy7 : y6_ = x1
    ·rw [if_pos hy7] at h
     by_cases hy8 : x1 ≥ (Args.A.length : Int)
     ·rw [if_pos hy8] at h
      cases h
     ·rw [if_neg hy8] at h
      obtain ⟨hy9, h⟩ := gd h
      obtain ⟨y10_, hy10, h⟩ := oB h
      by_cases hy11 : (y10_.2.2.1) < x2
      ·rw [if_pos hy11] at h
       cases h
      ·rw [if_neg hy11] at h
       obtain ⟨y12_, hy12, h⟩ := oB h
       by_cases hy13 : y12_ < 0
       ·rw [if_pos hy13] at h
        cases h
       ·rw [if_neg hy13] at h
        obtain rfl := Sum.inl.inj (oI h); exact q_Rendq1_1_3 rec_Rendq1 hrec_Rendq1 n x0 x1 x2 x3 hy1 y2_ hy2 hy3 hy4 hy5 y6_ hy6 hy7 hy8 hy9 y10_ hy10 hy11 y12_ hy12 hy13
    ·rw [if_neg hy7] at h
     cases h
   ·rw [if_neg hy3] at h
    cases h
  ·rw [if_neg hy1] at h; cases h)
  (fun s r h => by
  obtain ⟨x1, x2, x3⟩ := s
  unfold qdk_ at h
  dsimp only at h
  by_cases hy1 : 0 ≤ x0 ∧ x0 < (Args.A.length : Int)
  ·rw [if_pos hy1] at h
   obtain ⟨y2_, hy2, h⟩ := oB h
   by_cases hy3 : x3 < (y2_.2.2.2.2.2.2.1.l.length : Int)
   ·rw [if_pos hy3] at h
    obtain ⟨hy4, h⟩ := gd h
    obtain ⟨hy5, h⟩ := gd h
    obtain ⟨y6_, hy6, h⟩ := oB h
    by_cases hy7 : y6_ = x1
    ·rw [if_pos hy7] at h
     by_cases hy8 : x1 ≥ (Args.A.length : Int)
     ·rw [if_pos hy8] at h
      obtain rfl := Sum.inr.inj (oI h); exact q_Rendq1_1_0 rec_Rendq1 hrec_Rendq1 n x0 x1 x2 x3 hy1 y2_ hy2 hy3 hy4 hy5 y6_ hy6 hy7 hy8
     ·rw [if_neg hy8] at h
      obtain ⟨hy9, h⟩ := gd h
      obtain ⟨y10_, hy10, h⟩ := oB h
      by_cases hy11 : (y10_.2.2.1) < x2
      ·rw [if_pos hy11] at h
       obtain rfl := Sum.inr.inj (oI h); exact q_Rendq1_1_1 rec_Rendq1 hrec_Rendq1 n x0 x1 x2 x3 hy1 y2_ hy2 hy3 hy4 hy5 y6_ hy6 hy7 hy8 hy9 y10_ hy10 hy11
      ·rw [if_neg hy11] at h
       obtain ⟨y12_, hy12, h⟩ := oB h
       by_cases hy13 : y12_ < 0
       ·rw [if_pos hy13] at h
        obtain rfl := Sum.inr.inj (oI h); exact q_Rendq1_1_2 rec_Rendq1 hrec_Rendq1 n x0 x1 x2 x3 hy1 y2_ hy2 hy3 hy4 hy5 y6_ hy6 hy7 hy8 hy9 y10_ hy10 hy11 y12_ hy12 hy13
       ·rw [if_neg hy13] at h
        cases h
    ·rw [if_neg hy7] at h
     obtain rfl := Sum.inr.inj (oI h); exact q_Rendq1_1_4 rec_Rendq1 hrec_Rendq1 n x0 x1 x2 x3 hy1 y2_ hy2 hy3 hy4 hy5 y6_ hy6 hy7
   ·rw [if_neg hy3] at h
    obtain rfl := Sum.inr.inj (oI h); exact q_Rendq1_1_5 rec_Rendq1 hrec_Rendq1 n x0 x1 x2 x3 hy1 y2_ hy2 hy3
  ·rw [if_neg hy1] at h; cases h)
  (fun r => by intro hx; rcases r with _ | _ <;> cases hx) h
def qkw_ (rec_Rendq1 : (Int) → Option (Int)) (n : Nat) (a0 : Int) : Option (Int) :=
 if 0 ≤ a0 ∧ a0 < (Args.A.length : Int) then
  ((some ((Args.A).getD (a0).toNat (0, 0, 0, 0, 0, 0, nl0, 0)))).bind fun c2_ =>
  match qhf_ rec_Rendq1 n a0 ((w64 (a0 + 1)), (c2_.2.2.1), 0) with
  | none => none
  | some (.inl _) =>
   some (-1)
  | some (.inr (c3_0, c3_1)) =>
   if c3_1 > (c2_.2.2.2.2.1) then
    some (-1)
   else
    some c3_0
 else none
theorem s_Rendq1_ok (rec_Rendq1 : (Int) → Option (Int)) (hrec_Rendq1 : ∀ (a0 : Int) (r : Int), rec_Rendq1 a0 = some r → Gv P (.func 12) (qdi_ a0) (qdj_ a0) (qct_ a0 r) (qcu_ a0 r)) (n : Nat) (a0 : Int) (r : Int) (h : qkw_ rec_Rendq1 n a0 = some r) : Gv P (.func 12) (qdi_ a0) (qdj_ a0) (qct_ a0 r) (qcu_ a0 r) := by
 unfold qkw_ at h
 obtain ⟨hc1, h⟩ := gd h
 obtain ⟨c2_, hc2, h⟩ := oB h
 rcases hc3 : qhf_ rec_Rendq1 n a0 ((w64 (a0 + 1)), (c2_.2.2.1), 0) with _ | (⟨⟩ | ⟨c3_0, c3_1⟩)
 ·rw [hc3] at h; cases h
 ·rw [hc3] at h
  dsimp only at h
  obtain rfl := oI h; exact (runF2 hm (L := lT [(16, ⟨⟨[0, 1, 5, 6, 7], [], 0, 0⟩, (q6_ a0 (.inl ())).1, (q6_ a0 (.inl ())).2⟩)]) ⟨[4], [], 0, 0⟩ (zz 7 (xk1 0 Args.cA hc1) <|
zz 8 (fk5 ((a0).toNat * 8)) <|
zz 9 (lk6 hc2 (qc_ hc1)) <|
ww (p := qkv_ none a0 ((w64 (a0 + 1)), (c2_.2.2.1), 0) (.inl ())) (qfm_ rec_Rendq1 hrec_Rendq1 n a0 ((w64 (a0 + 1)), (c2_.2.2.1), 0) (.inl ()) hc3) ee) (by kernel_rfl))
 ·rw [hc3] at h
  dsimp only at h
  by_cases hc4 : c3_1 > (c2_.2.2.2.2.1)
  ·rw [if_pos hc4] at h
   obtain rfl := oI h; exact (runF2 hm (L := lT [(16, ⟨⟨[0, 1, 5, 6, 7], [], 0, 0⟩, (q6_ a0 (.inr (c3_0, c3_1))).1, (q6_ a0 (.inr (c3_0, c3_1))).2⟩)]) ⟨[4], [], 0, 0⟩ (zz 7 (xk1 0 Args.cA hc1) <|
zz 8 (fk5 ((a0).toNat * 8)) <|
zz 9 (lk6 hc2 (qc_ hc1)) <|
ww (p := qkv_ none a0 ((w64 (a0 + 1)), (c2_.2.2.1), 0) (.inr (c3_0, c3_1))) (qfm_ rec_Rendq1 hrec_Rendq1 n a0 ((w64 (a0 + 1)), (c2_.2.2.1), 0) (.inr (c3_0, c3_1)) hc3) <|
zz 22 (xk1 0 Args.cA hc1) <|
zz 23 (fk11 ((a0).toNat * 8)) <|
zz 24 (lk12 hc2 (qc_ hc1)) <|
zz 25 (xdT hc4) ee) (by kernel_rfl))
  ·rw [if_neg hc4] at h
   obtain rfl := oI h; exact (runF2 hm (L := lT [(16, ⟨⟨[0, 1, 5, 6, 7], [], 0, 0⟩, (q6_ a0 (.inr (c3_0, c3_1))).1, (q6_ a0 (.inr (c3_0, c3_1))).2⟩)]) ⟨[4], [], 0, 0⟩ (zz 7 (xk1 0 Args.cA hc1) <|
zz 8 (fk5 ((a0).toNat * 8)) <|
zz 9 (lk6 hc2 (qc_ hc1)) <|
ww (p := qkv_ none a0 ((w64 (a0 + 1)), (c2_.2.2.1), 0) (.inr (c3_0, c3_1))) (qfm_ rec_Rendq1 hrec_Rendq1 n a0 ((w64 (a0 + 1)), (c2_.2.2.1), 0) (.inr (c3_0, c3_1)) hc3) <|
zz 22 (xk1 0 Args.cA hc1) <|
zz 23 (fk11 ((a0).toNat * 8)) <|
zz 24 (lk12 hc2 (qc_ hc1)) <|
zz 25 (xdF hc4) ee) (by kernel_rfl))
def qdv_ : Nat → (Int) → Option (Int)
 | 0 => fun _ => none
 | n + 1 => fun a0 => qkw_ (qdv_ n) n a0
theorem qh6_ : ∀ (n : Nat) (a0 : Int) (r : Int) (h : qdv_ n a0 = some r), Gv P (.func 12) (qdi_ a0) (qdj_ a0) (qct_ a0 r) (qcu_ a0 r)
 | 0, _, _, h => nomatch h
 | n + 1, a0, r, h => s_Rendq1_ok (qdv_ n) (qh6_ n) n a0 r h

def A_RCheckq1 : List Value := [(sW 0 0 (Args.A).length Args.cA)]
def H_RCheckq1 : AH := ⟨sB [], 0, 0⟩
def qkx_ (r : Int) : Value := match r with
 | o0 => (i6 o0)
def qky_ (r : Int) : AH := match r with
 | o0 => ⟨sB [], 0, 0⟩
abbrev G_RCheckq1 (r : Int) : Prop := Gv P (.func 6) A_RCheckq1 H_RCheckq1 (qkx_  r) (qky_  r)
abbrev C_RCheckq1 (r : Int) (ins outs : BL) : CallA := ⟨0, ins, qkx_  r, qky_  r, outs⟩
def qch_ (st : Int) : XSt := match st with
 | x0 => (sT 41 [(0, (sW 0 0 (Args.A).length Args.cA)), (3, (i6 x0))], [], ⟨sB [], 0, 0⟩)
def qr_ (r : (Unit) ⊕ (Unit)) : Ex × XSt := match r with
 | .inl _ => (.ret, (sT 41 [(2, (i6 (2 : Int)))], [], ⟨sB [], 0, 0⟩))
 | .inr _ => (.exit 0, (sT 41 [(0, (sW 0 0 (Args.A).length Args.cA))], [], ⟨sB [], 0, 0⟩))
abbrev qdl_ (rnd : Option Nat) (st : Int) (c : Ex × XSt) : Prop := CG P rnd (fnN P 6) 0 (qq_ P 6 [false, false, true, false, true, true]) (qch_ st) c
abbrev qem_ (rd : Option Nat) (st : Int) (r : (Unit) ⊕ (Unit)) : Prop := CG P rd (fnN P 6) 0 (qq_ P 6 [false, true, false, true, true]) (qch_ st) (qr_ r)
def qbp_ (n : Nat) (st : Int) : Option ((Int) ⊕ ((Unit) ⊕ (Unit))) := match st with
 | x0 =>
  if x0 < (Args.A.length : Int) then
   if 0 ≤ x0 ∧ x0 < (Args.A.length : Int) then
    ((some ((Args.A).getD (x0).toNat (0, 0, 0, 0, 0, 0, nl0, 0)))).bind fun y3_ =>
    (qca_ n (y3_.1) (y3_.2.1) (y3_.2.2.1) (y3_.2.2.2.1) (y3_.2.2.2.2.1) (y3_.2.2.2.2.2.1) (y3_.2.2.2.2.2.2.1) (y3_.2.2.2.2.2.2.2)).bind fun y4_ =>
    if y4_ = true then
     if x0 > 0 then
      if (y3_.2.1) = 1 then
       some (.inr (.inl ()))
      else
       some (.inl (w64 (x0 + 1)))
     else
      some (.inl (w64 (x0 + 1)))
    else
     some (.inr (.inl ()))
   else none
  else
   some (.inr (.inr ()))
def qen_ (n : Nat) (st : Int) : Option ((Unit) ⊕ (Unit)) := iterM (qbp_ n) n st
theorem qni_ (n : Nat) {rnd : Option Nat} (x0 : Int) (hy1 : x0 < (Args.A.length : Int)) (hy2 : 0 ≤ x0 ∧ x0 < (Args.A.length : Int)) (y3_ : R8) (hy3 : (some ((Args.A).getD (x0).toNat (0, 0, 0, 0, 0, 0, nl0, 0))) = some y3_) (y4_ : Bool) (hy4 : qca_ n (y3_.1) (y3_.2.1) (y3_.2.2.1) (y3_.2.2.2.1) (y3_.2.2.2.2.1) (y3_.2.2.2.2.2.1) (y3_.2.2.2.2.2.2.1) (y3_.2.2.2.2.2.2.2) = some y4_) (hy5 : y4_ = true) (hy6 : x0 > 0) (hy7 : (y3_.2.1) = 1) : qdl_ rnd x0 (qr_ (.inl ())) :=
 runC2 hm (L := lT []) ⟨[2], [], 0, 0⟩ (zz 5 (xdT hy1) <|
zz 12 (xk1 0 Args.cA hy2) <|
zz 13 (lk2 hy3 (qc_ hy2)) <|
yy 14 (.call (qjd_ (y3_.1) (y3_.2.1) (y3_.2.2.1) (y3_.2.2.2.1) (y3_.2.2.2.2.1) (y3_.2.2.2.2.2.1) (y3_.2.2.2.2.2.2.1) (y3_.2.2.2.2.2.2.2) y4_ [] [])) <|
ww (qel_ n (y3_.1) (y3_.2.1) (y3_.2.2.1) (y3_.2.2.2.1) (y3_.2.2.2.2.1) (y3_.2.2.2.2.2.1) (y3_.2.2.2.2.2.2.1) (y3_.2.2.2.2.2.2.2) y4_ hy4) <|
yy 15 (vf) <|
ww (p := (Value.bool (!y4_)) = (Value.bool false)) (vBn hy5) <|
zz 18 (xdT hy6) <|
zz 22 (xk1 0 Args.cA hy2) <|
zz 23 (fk3 ((x0).toNat * 8)) <|
zz 24 (lk4 hy3 (qc_ hy2)) <|
zz 25 (xeT hy7) <|
ee) (by kernel_rfl)
theorem qnj_ (n : Nat) {rnd : Option Nat} (x0 : Int) (hy1 : x0 < (Args.A.length : Int)) (hy2 : 0 ≤ x0 ∧ x0 < (Args.A.length : Int)) (y3_ : R8) (hy3 : (some ((Args.A).getD (x0).toNat (0, 0, 0, 0, 0, 0, nl0, 0))) = some y3_) (y4_ : Bool) (hy4 : qca_ n (y3_.1) (y3_.2.1) (y3_.2.2.1) (y3_.2.2.2.1) (y3_.2.2.2.2.1) (y3_.2.2.2.2.2.1) (y3_.2.2.2.2.2.2.1) (y3_.2.2.2.2.2.2.2) = some y4_) (hy5 : y4_ = true) (hy6 : x0 > 0) (hy7 : ¬ ((y3_.2.1) = 1)) : qdl_ rnd x0 (.normal, qch_ (w64 (x0 + 1))) :=
 runC2 hm (L := lT []) ⟨[0, 3], [], 0, 0⟩ (zz 5 (xdT hy1) <|
zz 12 (xk1 0 Args.cA hy2) <|
zz 13 (lk2 hy3 (qc_ hy2)) <|
yy 14 (.call (qjd_ (y3_.1) (y3_.2.1) (y3_.2.2.1) (y3_.2.2.2.1) (y3_.2.2.2.2.1) (y3_.2.2.2.2.2.1) (y3_.2.2.2.2.2.2.1) (y3_.2.2.2.2.2.2.2) y4_ [] [])) <|
ww (qel_ n (y3_.1) (y3_.2.1) (y3_.2.2.1) (y3_.2.2.2.1) (y3_.2.2.2.2.1) (y3_.2.2.2.2.2.1) (y3_.2.2.2.2.2.2.1) (y3_.2.2.2.2.2.2.2) y4_ hy4) <|
yy 15 (vf) <|
ww (p := (Value.bool (!y4_)) = (Value.bool false)) (vBn hy5) <|
zz 18 (xdT hy6) <|
zz 22 (xk1 0 Args.cA hy2) <|
zz 23 (fk3 ((x0).toNat * 8)) <|
zz 24 (lk4 hy3 (qc_ hy2)) <|
zz 25 (xeF hy7) <|
ee) (by kernel_rfl)
theorem qnk_ (n : Nat) {rnd : Option Nat} (x0 : Int) (hy1 : x0 < (Args.A.length : Int)) (hy2 : 0 ≤ x0 ∧ x0 < (Args.A.length : Int)) (y3_ : R8) (hy3 : (some ((Args.A).getD (x0).toNat (0, 0, 0, 0, 0, 0, nl0, 0))) = some y3_) (y4_ : Bool) (hy4 : qca_ n (y3_.1) (y3_.2.1) (y3_.2.2.1) (y3_.2.2.2.1) (y3_.2.2.2.2.1) (y3_.2.2.2.2.2.1) (y3_.2.2.2.2.2.2.1) (y3_.2.2.2.2.2.2.2) = some y4_) (hy5 : y4_ = true) (hy6 : ¬ (x0 > 0)) : qdl_ rnd x0 (.normal, qch_ (w64 (x0 + 1))) :=
 runC2 hm (L := lT []) ⟨[0, 3], [], 0, 0⟩ (zz 5 (xdT hy1) <|
zz 12 (xk1 0 Args.cA hy2) <|
zz 13 (lk2 hy3 (qc_ hy2)) <|
yy 14 (.call (qjd_ (y3_.1) (y3_.2.1) (y3_.2.2.1) (y3_.2.2.2.1) (y3_.2.2.2.2.1) (y3_.2.2.2.2.2.1) (y3_.2.2.2.2.2.2.1) (y3_.2.2.2.2.2.2.2) y4_ [] [])) <|
ww (qel_ n (y3_.1) (y3_.2.1) (y3_.2.2.1) (y3_.2.2.2.1) (y3_.2.2.2.2.1) (y3_.2.2.2.2.2.1) (y3_.2.2.2.2.2.2.1) (y3_.2.2.2.2.2.2.2) y4_ hy4) <|
yy 15 (vf) <|
ww (p := (Value.bool (!y4_)) = (Value.bool false)) (vBn hy5) <|
zz 18 (xdF hy6) <|
ee) (by kernel_rfl)
theorem qnl_ (n : Nat) {rnd : Option Nat} (x0 : Int) (hy1 : x0 < (Args.A.length : Int)) (hy2 : 0 ≤ x0 ∧ x0 < (Args.A.length : Int)) (y3_ : R8) (hy3 : (some ((Args.A).getD (x0).toNat (0, 0, 0, 0, 0, 0, nl0, 0))) = some y3_) (y4_ : Bool) (hy4 : qca_ n (y3_.1) (y3_.2.1) (y3_.2.2.1) (y3_.2.2.2.1) (y3_.2.2.2.2.1) (y3_.2.2.2.2.2.1) (y3_.2.2.2.2.2.2.1) (y3_.2.2.2.2.2.2.2) = some y4_) (hy5 : ¬ (y4_ = true)) : qdl_ rnd x0 (qr_ (.inl ())) :=
 runC2 hm (L := lT []) ⟨[2], [], 0, 0⟩ (zz 5 (xdT hy1) <|
zz 12 (xk1 0 Args.cA hy2) <|
zz 13 (lk2 hy3 (qc_ hy2)) <|
yy 14 (.call (qjd_ (y3_.1) (y3_.2.1) (y3_.2.2.1) (y3_.2.2.2.1) (y3_.2.2.2.2.1) (y3_.2.2.2.2.2.1) (y3_.2.2.2.2.2.2.1) (y3_.2.2.2.2.2.2.2) y4_ [] [])) <|
ww (qel_ n (y3_.1) (y3_.2.1) (y3_.2.2.1) (y3_.2.2.2.1) (y3_.2.2.2.2.1) (y3_.2.2.2.2.2.1) (y3_.2.2.2.2.2.2.1) (y3_.2.2.2.2.2.2.2) y4_ hy4) <|
yy 15 (vt) <|
ww (p := (Value.bool (!y4_)) = (Value.bool true)) (vBn (Bool.eq_false_iff.2 hy5)) <|
ee) (by kernel_rfl)
theorem qnm_ (n : Nat) {rnd : Option Nat} (x0 : Int) (hy1 : ¬ (x0 < (Args.A.length : Int))) : qdl_ rnd x0 (qr_ (.inr ())) :=
 runC2 hm (L := lT []) ⟨[0], [], 0, 0⟩ (zz 5 (xdF hy1) <|
ee) (by kernel_rfl)
theorem qcm_ (n : Nat) {rnd : Option Nat} (st : Int) (r : (Unit) ⊕ (Unit)) (h : qen_ n st = some r) : CG P rnd (fnN P 6) 0 (qq_ P 6 [false, true, false, true, true]) (qch_ st) (qr_ r) :=
 CG.iter (b := qq_ P 6 [false, false, true, false, true, true]) (by kernel_rfl) (body := qbp_ n) (S := qch_) (X := qr_)
  (fun x0 s' h => by
  unfold qbp_ at h
  dsimp only at h
  by_cases hy1 : x0 < (Args.A.length : Int)
  ·rw [if_pos hy1] at h
   obtain ⟨hy2, h⟩ := gd h
   obtain ⟨y3_, hy3, h⟩ := oB h
   obtain ⟨y4_, hy4, h⟩ := oB h
   by_cases hy5 : y4_ = true
   ·rw [if_pos hy5] at h
    by_cases hy6 : x0 > 0
    ·rw [if_pos hy6] at h
     by_cases hy7 : (y3_.2.1) = 1
     ·rw [if_pos hy7] at h
      cases h
     ·rw [if_neg hy7] at h
      obtain rfl := Sum.inl.inj (oI h); exact qnj_ n x0 hy1 hy2 y3_ hy3 y4_ hy4 hy5 hy6 hy7
    ·rw [if_neg hy6] at h
     obtain rfl := Sum.inl.inj (oI h); exact qnk_ n x0 hy1 hy2 y3_ hy3 y4_ hy4 hy5 hy6
   ·rw [if_neg hy5] at h
    cases h
  ·rw [if_neg hy1] at h
   cases h)
  (fun x0 r h => by
  unfold qbp_ at h
  dsimp only at h
  by_cases hy1 : x0 < (Args.A.length : Int)
  ·rw [if_pos hy1] at h
   obtain ⟨hy2, h⟩ := gd h
   obtain ⟨y3_, hy3, h⟩ := oB h
   obtain ⟨y4_, hy4, h⟩ := oB h
   by_cases hy5 : y4_ = true
   ·rw [if_pos hy5] at h
    by_cases hy6 : x0 > 0
    ·rw [if_pos hy6] at h
     by_cases hy7 : (y3_.2.1) = 1
     ·rw [if_pos hy7] at h
      obtain rfl := Sum.inr.inj (oI h); exact qni_ n x0 hy1 hy2 y3_ hy3 y4_ hy4 hy5 hy6 hy7
     ·rw [if_neg hy7] at h
      cases h
    ·rw [if_neg hy6] at h
     cases h
   ·rw [if_neg hy5] at h
    obtain rfl := Sum.inr.inj (oI h); exact qnl_ n x0 hy1 hy2 y3_ hy3 y4_ hy4 hy5
  ·rw [if_neg hy1] at h
   obtain rfl := Sum.inr.inj (oI h); exact qnm_ n x0 hy1)
  (fun r => by intro hx; rcases r with _ | _ <;> cases hx) h
def qfn_ (n : Nat) : Option (Int) :=
 if (Args.A.length : Int) > 524288 then
  some 3
 else
  match qen_ n 0 with
  | none => none
  | some (.inl _) =>
   some 2
  | some (.inr _) =>
   if (Args.A.length : Int) = 0 then
    some 2
   else
    (qdv_ n 0).bind fun c4_ =>
    if c4_ = (Args.A.length : Int) then
     some 0
    else
     some 2
theorem qir_ (n : Nat) (r : Int) (h : qfn_ n = some r) : Gv P (.func 6) A_RCheckq1 H_RCheckq1 (qkx_  r) (qky_  r) := by
 unfold qfn_ at h
 by_cases hc1 : (Args.A.length : Int) > 524288
 ·rw [if_pos hc1] at h
  obtain rfl := oI h; exact (runF2 hm (L := lT []) ⟨[2], [], 0, 0⟩ (zz 6 (xdT hc1) ee) (by kernel_rfl))
 ·rw [if_neg hc1] at h
  rcases hc2 : qen_ n 0 with _ | (⟨⟩ | ⟨⟩)
  ·rw [hc2] at h; cases h
  ·rw [hc2] at h
   dsimp only at h
   obtain rfl := oI h; exact (runF2 hm (L := lT [(12, ⟨⟨[0, 3], [], 0, 0⟩, (qr_ (.inl ())).1, (qr_ (.inl ())).2⟩)]) ⟨[2], [], 0, 0⟩ (zz 6 (xdF hc1) <|
ww (p := qem_ none 0 (.inl ())) (qcm_ n 0 (.inl ()) hc2) ee) (by kernel_rfl))
  ·rw [hc2] at h
   dsimp only at h
   by_cases hc3 : (Args.A.length : Int) = 0
   ·rw [if_pos hc3] at h
    obtain rfl := oI h; exact (runF2 hm (L := lT [(12, ⟨⟨[0, 3], [], 0, 0⟩, (qr_ (.inr ())).1, (qr_ (.inr ())).2⟩)]) ⟨[2], [], 0, 0⟩ (zz 6 (xdF hc1) <|
ww (p := qem_ none 0 (.inr ())) (qcm_ n 0 (.inr ()) hc2) <|
zz 17 (xeT hc3) ee) (by kernel_rfl))
   ·rw [if_neg hc3] at h
    obtain ⟨c4_, hc4, h⟩ := oB h
    by_cases hc5 : c4_ = (Args.A.length : Int)
    ·rw [if_pos hc5] at h
     obtain rfl := oI h; exact (runF2 hm (L := lT [(12, ⟨⟨[0, 3], [], 0, 0⟩, (qr_ (.inr ())).1, (qr_ (.inr ())).2⟩)]) ⟨[2], [], 0, 0⟩ (zz 6 (xdF hc1) <|
ww (p := qem_ none 0 (.inr ())) (qcm_ n 0 (.inr ()) hc2) <|
zz 17 (xeF hc3) <|
yy 20 (.call (qnh_ 0 c4_ [] [])) <|
ww (qh6_ n 0 c4_ hc4) <|
zz 23 (xnF hc5) ee) (by kernel_rfl))
    ·rw [if_neg hc5] at h
     obtain rfl := oI h; exact (runF2 hm (L := lT [(12, ⟨⟨[0, 3], [], 0, 0⟩, (qr_ (.inr ())).1, (qr_ (.inr ())).2⟩)]) ⟨[2], [], 0, 0⟩ (zz 6 (xdF hc1) <|
ww (p := qem_ none 0 (.inr ())) (qcm_ n 0 (.inr ()) hc2) <|
zz 17 (xeF hc3) <|
yy 20 (.call (qnh_ 0 c4_ [] [])) <|
ww (qh6_ n 0 c4_ hc4) <|
zz 23 (xnT hc5) ee) (by kernel_rfl))


end Go.Proofs.YtmjibnlojmdcgaaGreatDoor.mlt19
