/-
  What functions do, told by pure functions. No condition.
-/
import Derived.Test.YtbligeacgkhljaaRcaLives
set_option linter.unusedSimpArgs false
set_option linter.unusedVariables false
set_option linter.unusedSectionVars false
set_option linter.unnecessarySimpa false
set_option maxRecDepth 100000
noncomputable section
namespace Go.Proofs.Ytbligeacgkhljaa.rca21
open Go Go.Proofs.Ytbligeacgkhljaa Ax
abbrev R8 [Nest] : Type := Int × Int × Int × Int × Int × Int × NL × Int
variable [Args]
abbrev W8 : Type := WL rw_iiiiiiLu
def kW (s : List Nat) (b : List (Nat × Nat × Bool)) (n l : Nat) : WkS := ⟨s, b, n, l, [], false, [], [], []⟩
def iD (n : Nat) : List (Nat × Nat × Bool) := (List.range n).map fun i => (i, i, false)
def cB (l : List Value) (t : TypeId) : Option ABlk := some (.cells (layT l) t)
def rw_b (x : Bool) : List Value := [Value.bool x]
theorem rwf_b : RowF rw_b 1 := ⟨fun _ => rfl, fun a v h => by
 simp only [rw_b, List.mem_cons, List.not_mem_nil, or_false] at h
 rcases h with rfl <;> rfl, fun _ => rfl⟩
def qfq_ (x : Int × Int × Int) : List Value := [Value.int .i64 (x.1), Value.int .i64 (x.2.1), Value.int .i64 (x.2.2)]
theorem qhg_ : RowF qfq_ 3 := ⟨fun _ => rfl, fun a v h => by
 simp only [qfq_, List.mem_cons, List.not_mem_nil, or_false] at h
 rcases h with rfl | rfl | rfl <;> rfl, fun _ => rfl⟩
theorem rwo_b : ∀ a, okVs (rw_b a) = true := fun _ => rfl
theorem qc7_ : ∀ a, okVs (rw_iiiiiiLu a) = true := fun _ => rfl
abbrev xp1 (b o n k : Nat) (i : Int) : Prop := IA P 22 (sW b o n k) i (pW b (Nat.add o (i.toNat * 8)))
theorem xk1 (b o k : Nat) {n : Nat} {i : Int} (h : 0 ≤ i ∧ i < (n : Int)) : OB (.pur (pW b (Nat.add o (i.toNat * 8)))) (xp1 b o n k i) := ⟨ixWO (e := 37) (by kernel_rfl) (by kernel_rfl) h⟩
abbrev lp2 (x : W8) (i : Nat) (r : R8) : Prop := Lg P 37 (pW x.num (Nat.add x.off (i * 8))) (Value.agg #[(i6 (r.1)), (i6 (r.2.1)), (i6 (r.2.2.1)), (i6 (r.2.2.2.1)), (i6 (r.2.2.2.2.1)), (i6 (r.2.2.2.2.2.1)), (nlV (r.2.2.2.2.2.2.1)), (Value.int .u64 (r.2.2.2.2.2.2.2))])
theorem lk2 {x : W8} {i : Nat} {r : Int × Int × Int × Int × Int × Int × NL × Int} (hr : some ((x.l).getD i (0, 0, 0, 0, 0, 0, nl0, 0)) = some r) (h : i < (x.l).length) : OB (.ld (Value.agg #[(i6 (r.1)), (i6 (r.2.1)), (i6 (r.2.2.1)), (i6 (r.2.2.2.1)), (i6 (r.2.2.2.2.1)), (i6 (r.2.2.2.2.2.1)), (nlV (r.2.2.2.2.2.2.1)), (Value.int .u64 (r.2.2.2.2.2.2.2))])) (lp2 x i r) := by cases hr; exact ⟨ldRA rwf_iiiiiiLu (0, 0, 0, 0, 0, 0, nl0, 0) (i := i) (q := 0) x (n := 8) (Nat.add x.off (i * 8)) rfl (by kernel_rfl) (by kernel_rfl) h (by decide) (by decide) rfl⟩
abbrev xp3 (b n k : Nat) (i : Int) : Prop := IA P 22 (sN b 0 n k) i (pN b (i.toNat * 8))
theorem xk3 (b k : Nat) {n : Nat} {i : Int} (h : 0 ≤ i ∧ i < (n : Int)) : OB (.pur (pN b (i.toNat * 8))) (xp3 b n k i) := ⟨ixS (e := 37) (by kernel_rfl) (by kernel_rfl) h.1 h.2⟩
abbrev op4 (L : List R8) (i : Nat) (r : R8) : Prop := (layT (rows rw_iiiiiiLu L)).get (Nat.add (i * 8) 6) = some (nlV (r.2.2.2.2.2.2.1))
theorem ok4 {L : List R8} {i : Nat} {r : Int × Int × Int × Int × Int × Int × NL × Int} (hr : some (L.getD i (0, 0, 0, 0, 0, 0, nl0, 0)) = some r) (h : i < L.length) : OB (.ld (nlV (r.2.2.2.2.2.2.1))) (op4 L i r) := by cases hr; exact ⟨qzp_ rwf_iiiiiiLu (0, 0, 0, 0, 0, 0, nl0, 0) (i := i) (j := 6) (Nat.add (i * 8) 6) rfl h (by decide) rfl⟩
theorem set_cons {α : Type} {x v : α} {l : List α} {n : Nat} : ∃ a t, (x :: l).set n v = a :: t := by cases n <;> exact ⟨_, _, rfl⟩
abbrev xp5 (b n k : Nat) (i : Int) : Prop := IA P 74 (sN b 0 n k) i (pN b (i.toNat * 3))
theorem xk5 (b k : Nat) {n : Nat} {i : Int} (h : 0 ≤ i ∧ i < (n : Int)) : OB (.pur (pN b (i.toNat * 3))) (xp5 b n k i) := ⟨ixS (e := 77) (by kernel_rfl) (by kernel_rfl) h.1 h.2⟩
abbrev op6 (L : List (Int × Int × Int)) (i : Nat) (r : Int × Int × Int) : Prop := (layT (rows qfq_ L)).get (Nat.add (i * 3) 0) = some (i6 (r.1))
theorem ok6 {L : List (Int × Int × Int)} {i : Nat} {r : Int × Int × Int} (hr : some (L.getD i (0, 0, 0)) = some r) (h : i < L.length) : OB (.ld (i6 (r.1))) (op6 L i r) := by cases hr; exact ⟨qzp_ qhg_ (0, 0, 0) (i := i) (j := 0) (Nat.add (i * 3) 0) rfl h (by decide) rfl⟩
abbrev op7 (L : List (Int × Int × Int)) (i : Nat) (r : Int × Int × Int) : Prop := (layT (rows qfq_ L)).get (Nat.add (i * 3) 1) = some (i6 (r.2.1))
theorem ok7 {L : List (Int × Int × Int)} {i : Nat} {r : Int × Int × Int} (hr : some (L.getD i (0, 0, 0)) = some r) (h : i < L.length) : OB (.ld (i6 (r.2.1))) (op7 L i r) := by cases hr; exact ⟨qzp_ qhg_ (0, 0, 0) (i := i) (j := 1) (Nat.add (i * 3) 1) rfl h (by decide) rfl⟩
abbrev xp8 (b o n k : Nat) (i : Int) : Prop := IA P 30 (sW b o n k) i (pW b (Nat.add o i.toNat))
theorem xk8 (b o k : Nat) {n : Nat} {i : Int} (h : 0 ≤ i ∧ i < (n : Int)) : OB (.pur (pW b (Nat.add o i.toNat))) (xp8 b o n k i) := ⟨ixWO1 (e := 3) (by kernel_rfl) (by kernel_rfl) h⟩
theorem nk9 {x : NL} {i : Nat} {v : Int} (hv : some (x.l.getD i 0) = some v) (h : i < x.l.length) : OB (.ld (i6 v)) (Lg P 3 (pW (Nat.add x.num 64) (Nat.add x.off i)) (i6 v)) := by cases hv; exact ⟨ldN x (by kernel_rfl) h⟩
abbrev op10 (L : List (Int × Int × Int)) (i : Nat) (r : Int × Int × Int) : Prop := (layT (rows qfq_ L)).get (Nat.add (i * 3) 2) = some (i6 (r.2.2))
theorem ok10 {L : List (Int × Int × Int)} {i : Nat} {r : Int × Int × Int} (hr : some (L.getD i (0, 0, 0)) = some r) (h : i < L.length) : OB (.ld (i6 (r.2.2))) (op10 L i r) := by cases hr; exact ⟨qzp_ qhg_ (0, 0, 0) (i := i) (j := 2) (Nat.add (i * 3) 2) rfl h (by decide) rfl⟩
theorem q0x_ {α : Type} (l : List α) (x : α) : ∃ a t, l ++ [x] = a :: t := by
 cases l with
 | nil => exact ⟨_, _, rfl⟩
 | cons a t => exact ⟨_, _, rfl⟩
abbrev fp11 (b o : Nat) : Prop := FA P 37 (pW b o) 6 (pW b (Nat.add o 6))
theorem fk11 (b o : Nat) : OB (.pur (pW b (Nat.add o 6))) (fp11 b o) := ⟨by unfold fp11 FA; kernel_rfl⟩
abbrev lp12 (x : W8) (i : Nat) (r : R8) : Prop := Lg P 30 (pW x.num (Nat.add (Nat.add x.off (i * 8)) 6)) (nlV (r.2.2.2.2.2.2.1))
theorem lk12 {x : W8} {i : Nat} {r : Int × Int × Int × Int × Int × Int × NL × Int} (hr : some ((x.l).getD i (0, 0, 0, 0, 0, 0, nl0, 0)) = some r) (h : i < (x.l).length) : OB (.ld (nlV (r.2.2.2.2.2.2.1))) (lp12 x i r) := by cases hr; exact ⟨ldRS rwf_iiiiiiLu (0, 0, 0, 0, 0, 0, nl0, 0) (i := i) (q := 6) x (Nat.add (Nat.add x.off (i * 8)) 6) rfl (by kernel_rfl) h (by decide) rfl⟩
abbrev xp13 (b n k : Nat) (i : Int) : Prop := IA P 41 (sN b 0 n k) i (pN b (i.toNat * 1))
theorem xk13 (b k : Nat) {n : Nat} {i : Int} (h : 0 ≤ i ∧ i < (n : Int)) : OB (.pur (pN b (i.toNat * 1))) (xp13 b n k i) := ⟨ixS (e := 4) (by kernel_rfl) (by kernel_rfl) h.1 h.2⟩
abbrev op14 (L : List (Bool)) (i : Nat) (r : Bool) : Prop := (layT (rows rw_b L)).get (i * 1) = some (bO r)
theorem ok14 {L : List (Bool)} {i : Nat} {r : Bool} (hr : some (L.getD i (false)) = some r) (h : i < L.length) : OB (.ld (bO r)) (op14 L i r) := by cases hr; exact ⟨qzp_ rwf_b (false) (i := i) (j := 0) (i * 1) rfl h (by decide) rfl⟩
abbrev fp15 (b o : Nat) : Prop := FA P 37 (pW b o) 1 (pW b (Nat.add o 1))
theorem fk15 (b o : Nat) : OB (.pur (pW b (Nat.add o 1))) (fp15 b o) := ⟨by unfold fp15 FA; kernel_rfl⟩
abbrev lp16 (x : W8) (i : Nat) (r : R8) : Prop := Lg P 3 (pW x.num (Nat.add (Nat.add x.off (i * 8)) 1)) (i6 (r.2.1))
theorem lk16 {x : W8} {i : Nat} {r : Int × Int × Int × Int × Int × Int × NL × Int} (hr : some ((x.l).getD i (0, 0, 0, 0, 0, 0, nl0, 0)) = some r) (h : i < (x.l).length) : OB (.ld (i6 (r.2.1))) (lp16 x i r) := by cases hr; exact ⟨ldRS rwf_iiiiiiLu (0, 0, 0, 0, 0, 0, nl0, 0) (i := i) (q := 1) x (Nat.add (Nat.add x.off (i * 8)) 1) rfl (by kernel_rfl) h (by decide) rfl⟩
abbrev xp17 (b n k : Nat) (i : Int) : Prop := IA P 30 (sN b 0 n k) i (pN b i.toNat)
theorem xk17 (b k : Nat) {n : Nat} {i : Int} (h : 0 ≤ i ∧ i < (n : Int)) : OB (.pur (pN b i.toNat)) (xp17 b n k i) := ⟨ixS1 (e := 3) (by kernel_rfl) (by kernel_rfl) h⟩
abbrev fp18 (b o : Nat) : Prop := FA P 37 (pW b o) 2 (pW b (Nat.add o 2))
theorem fk18 (b o : Nat) : OB (.pur (pW b (Nat.add o 2))) (fp18 b o) := ⟨by unfold fp18 FA; kernel_rfl⟩
abbrev lp19 (x : W8) (i : Nat) (r : R8) : Prop := Lg P 3 (pW x.num (Nat.add (Nat.add x.off (i * 8)) 2)) (i6 (r.2.2.1))
theorem lk19 {x : W8} {i : Nat} {r : Int × Int × Int × Int × Int × Int × NL × Int} (hr : some ((x.l).getD i (0, 0, 0, 0, 0, 0, nl0, 0)) = some r) (h : i < (x.l).length) : OB (.ld (i6 (r.2.2.1))) (lp19 x i r) := by cases hr; exact ⟨ldRS rwf_iiiiiiLu (0, 0, 0, 0, 0, 0, nl0, 0) (i := i) (q := 2) x (Nat.add (Nat.add x.off (i * 8)) 2) rfl (by kernel_rfl) h (by decide) rfl⟩
abbrev fp20 (b o : Nat) : Prop := FA P 37 (pW b o) 4 (pW b (Nat.add o 4))
theorem fk20 (b o : Nat) : OB (.pur (pW b (Nat.add o 4))) (fp20 b o) := ⟨by unfold fp20 FA; kernel_rfl⟩
abbrev lp21 (x : W8) (i : Nat) (r : R8) : Prop := Lg P 3 (pW x.num (Nat.add (Nat.add x.off (i * 8)) 4)) (i6 (r.2.2.2.2.1))
theorem lk21 {x : W8} {i : Nat} {r : Int × Int × Int × Int × Int × Int × NL × Int} (hr : some ((x.l).getD i (0, 0, 0, 0, 0, 0, nl0, 0)) = some r) (h : i < (x.l).length) : OB (.ld (i6 (r.2.2.2.2.1))) (lp21 x i r) := by cases hr; exact ⟨ldRS rwf_iiiiiiLu (0, 0, 0, 0, 0, 0, nl0, 0) (i := i) (q := 4) x (Nat.add (Nat.add x.off (i * 8)) 4) rfl (by kernel_rfl) h (by decide) rfl⟩
abbrev fp22 (b o : Nat) : Prop := FA P 37 (pW b o) 0 (pW b (Nat.add o 0))
theorem fk22 (b o : Nat) : OB (.pur (pW b (Nat.add o 0))) (fp22 b o) := ⟨by unfold fp22 FA; kernel_rfl⟩
abbrev lp23 (x : W8) (i : Nat) (r : R8) : Prop := Lg P 3 (pW x.num (Nat.add (Nat.add x.off (i * 8)) 0)) (i6 (r.1))
theorem lk23 {x : W8} {i : Nat} {r : Int × Int × Int × Int × Int × Int × NL × Int} (hr : some ((x.l).getD i (0, 0, 0, 0, 0, 0, nl0, 0)) = some r) (h : i < (x.l).length) : OB (.ld (i6 (r.1))) (lp23 x i r) := by cases hr; exact ⟨ldRS rwf_iiiiiiLu (0, 0, 0, 0, 0, 0, nl0, 0) (i := i) (q := 0) x (Nat.add (Nat.add x.off (i * 8)) 0) rfl (by kernel_rfl) h (by decide) rfl⟩
abbrev fp24 (b o : Nat) : Prop := FA P 37 (pW b o) 7 (pW b (Nat.add o 7))
theorem fk24 (b o : Nat) : OB (.pur (pW b (Nat.add o 7))) (fp24 b o) := ⟨by unfold fp24 FA; kernel_rfl⟩
abbrev lp25 (x : W8) (i : Nat) (r : R8) : Prop := Lg P 35 (pW x.num (Nat.add (Nat.add x.off (i * 8)) 7)) (Value.int .u64 (r.2.2.2.2.2.2.2))
theorem lk25 {x : W8} {i : Nat} {r : Int × Int × Int × Int × Int × Int × NL × Int} (hr : some ((x.l).getD i (0, 0, 0, 0, 0, 0, nl0, 0)) = some r) (h : i < (x.l).length) : OB (.ld (Value.int .u64 (r.2.2.2.2.2.2.2))) (lp25 x i r) := by cases hr; exact ⟨ldRS rwf_iiiiiiLu (0, 0, 0, 0, 0, 0, nl0, 0) (i := i) (q := 7) x (Nat.add (Nat.add x.off (i * 8)) 7) rfl (by kernel_rfl) h (by decide) rfl⟩
abbrev xp26 (b o n k : Nat) (i : Int) : Prop := IA P 41 (sW b o n k) i (pW b (Nat.add o (i.toNat * 1)))
theorem xk26 (b o k : Nat) {n : Nat} {i : Int} (h : 0 ≤ i ∧ i < (n : Int)) : OB (.pur (pW b (Nat.add o (i.toNat * 1)))) (xp26 b o n k i) := ⟨ixWO (e := 4) (by kernel_rfl) (by kernel_rfl) h⟩
abbrev lp27 (x : WL rw_b) (i : Nat) (r : Bool) : Prop := Lg P 4 (pW x.num (Nat.add x.off (i * 1))) (bO r)
theorem lk27 {x : WL rw_b} {i : Nat} {r : Bool} (hr : some ((x.l).getD i (false)) = some r) (h : i < (x.l).length) : OB (.ld (bO r)) (lp27 x i r) := by cases hr; exact ⟨ldRS rwf_b (false) (i := i) (q := 0) x (Nat.add x.off (i * 1)) rfl (by kernel_rfl) h (by decide) rfl⟩
abbrev fp28 (b o : Nat) : Prop := FA P 37 (pW b o) 5 (pW b (Nat.add o 5))
theorem fk28 (b o : Nat) : OB (.pur (pW b (Nat.add o 5))) (fp28 b o) := ⟨by unfold fp28 FA; kernel_rfl⟩
abbrev lp29 (x : W8) (i : Nat) (r : R8) : Prop := Lg P 3 (pW x.num (Nat.add (Nat.add x.off (i * 8)) 5)) (i6 (r.2.2.2.2.2.1))
theorem lk29 {x : W8} {i : Nat} {r : Int × Int × Int × Int × Int × Int × NL × Int} (hr : some ((x.l).getD i (0, 0, 0, 0, 0, 0, nl0, 0)) = some r) (h : i < (x.l).length) : OB (.ld (i6 (r.2.2.2.2.2.1))) (lp29 x i r) := by cases hr; exact ⟨ldRS rwf_iiiiiiLu (0, 0, 0, 0, 0, 0, nl0, 0) (i := i) (q := 5) x (Nat.add (Nat.add x.off (i * 8)) 5) rfl (by kernel_rfl) h (by decide) rfl⟩

def qmd_ (n : Nat) : Option Unit := some ()
theorem qp6_ (n : Nat) (r : Unit) (h : qmd_ n = some r) : Gv P (.func 4) [] Ax.h0 (.bool true) Ax.h0 := lives_gv

def qh3_ (a0 : W8) (a1 : Int) (r : Bool) : Value := match r with
 | o0 => (bO o0)
def qh4_ (a0 : W8) (a1 : Int) (r : Bool) : AH := match r with
 | o0 => ⟨sB [], 0, 0⟩
abbrev qof_ (a0 : W8) (a1 : Int) (r : Bool) : Prop := Gv P (.func 5) [(wlV a0), (i6 a1)] ⟨sB [], 0, 0⟩ (qh3_ a0 a1 r) (qh4_ a0 a1 r)
abbrev qog_ (a0 : W8) (a1 : Int) (r : Bool) (ins outs : BL) : CallA := ⟨0, ins, qh3_ a0 a1 r, qh4_ a0 a1 r, outs⟩
def qcx_ (x1_0 : W8) (x1_1 : Int) (st : Int × Int) : XSt := match st with
 | (x1_2, x1_3) => (sT 66 [(0, (wlV x1_0)), (1, (i6 x1_1)), (5, (i6 x1_2)), (6, (i6 x1_3))], [], ⟨sB [], 0, 0⟩)
def qx_ (x1_0 : W8) (x1_1 : Int) (r : (Unit) ⊕ (Int)) : Ex × XSt := match r with
 | .inl _ => (.ret, (sT 66 [(4, (bO false))], [], ⟨sB [], 0, 0⟩))
 | .inr z1_0 => (.exit 0, (sT 66 [(0, (wlV x1_0)), (1, (i6 x1_1)), (5, (i6 z1_0))], [], ⟨sB [], 0, 0⟩))
abbrev qm2_ (rnd : Option Nat) (x1_0 : W8) (x1_1 : Int) (st : Int × Int) (c : Ex × XSt) : Prop := CG P rnd (fnN P 5) 0 (qw_ P 5 [false, false, true, false, true, true]) (qcx_ x1_0 x1_1 st) c
abbrev qer_ (rd : Option Nat) (x1_0 : W8) (x1_1 : Int) (st : Int × Int) (r : (Unit) ⊕ (Int)) : Prop := CG P rd (fnN P 5) 0 (qw_ P 5 [false, true, false, true, true]) (qcx_ x1_0 x1_1 st) (qx_ x1_0 x1_1 r)
def qbe_ (n : Nat) (x1_0 : W8) (x1_1 : Int) (st : Int × Int) : Option ((Int × Int) ⊕ ((Unit) ⊕ (Int))) := match st with
 | (x1_2, x1_3) =>
  if x1_3 < (((x1_0).l.length : Nat) : Int) then
   if x1_3 ≤ x1_1 then
    if 0 ≤ x1_3 ∧ x1_3 < (((x1_0).l.length : Nat) : Int) then
     ((some (((x1_0).l).getD (x1_3).toNat (0, 0, 0, 0, 0, 0, nl0, 0)))).bind fun y1_4_ =>
     ((some (w64 (x1_2 + ((((y1_4_.2.2.2.2.2.2.1)).l.length : Nat) : Int))))).bind fun y1_5_ =>
     if (y1_4_.2.2.1) > (1048576 : Int) then
      some (.inr (.inl ()))
     else
      if (y1_4_.2.2.2.2.1) > (1048576 : Int) then
       some (.inr (.inl ()))
      else
       if (y1_4_.2.2.2.2.2.1) > (1048576 : Int) then
        some (.inr (.inl ()))
       else
        if (y1_4_.2.2.1) < (-1048576 : Int) then
         some (.inr (.inl ()))
        else
         if (y1_4_.2.2.2.2.1) < (-1048576 : Int) then
          some (.inr (.inl ()))
         else
          if (y1_4_.2.2.2.2.2.1) < (-1048576 : Int) then
           some (.inr (.inl ()))
          else
           some (.inl (y1_5_, (w64 (x1_3 + (1 : Int)))))
    else none
   else
    some (.inr (.inr x1_2))
  else
   some (.inr (.inr x1_2))
def qcy_ (n : Nat) (x1_0 : W8) (x1_1 : Int) (st : Int × Int) : Option ((Unit) ⊕ (Int)) := iterM (qbe_ n x1_0 x1_1) n st
theorem qg3_ (n : Nat) {rnd : Option Nat} (x1_0 : W8) (x1_1 : Int) (st : Int × Int) (o : (Int × Int) ⊕ ((Unit) ⊕ (Int))) (h : qbe_ n x1_0 x1_1 st = some o) : qm2_ rnd x1_0 x1_1 st (Sum.elim (fun s => (.normal, qcx_ x1_0 x1_1 s)) (fun r => qx_ x1_0 x1_1 r) o) := by
 obtain ⟨x1_2, x1_3⟩ := st
 unfold qbe_ at h
 dsimp only at h
 by_cases hy1_1 : x1_3 < (((x1_0).l.length : Nat) : Int)
 ·rw [if_pos hy1_1] at h
  have k0 := fun {A L l} (k : PL A L l) => zz 5 (xdT hy1_1) <|
   k
  by_cases hy1_2 : x1_3 ≤ x1_1
  ·rw [if_pos hy1_2] at h
   obtain ⟨hy1_3, h⟩ := gd h
   obtain ⟨y1_4_, hy1_4, h⟩ := oB h
   obtain ⟨y1_5_, hy1_5, h⟩ := oB h
   have k1 := fun {A L l} (k : PL A L l) => zz 9 (xdT hy1_2) <|
    zz 17 (xk1 (x1_0).num (x1_0).off (x1_0).cap hy1_3) <|
    zz 18 (lk2 hy1_4 (qba_ hy1_3)) <|
    zz 26 (xnm hy1_5) <|
    k
   by_cases hy1_6 : (y1_4_.2.2.1) > (1048576 : Int)
   ·rw [if_pos hy1_6] at h
    obtain rfl := oI h
    exact runC2 hm (kW [4] [] 0 0) (k0 <|
     k1 <|
     zz 31 (xdT hy1_6) <|
     ee) (by kernel_rfl)
   ·rw [if_neg hy1_6] at h
    have k5 := fun {A L l} (k : PL A L l) => zz 31 (xdF hy1_6) <|
     k
    by_cases hy1_7 : (y1_4_.2.2.2.2.1) > (1048576 : Int)
    ·rw [if_pos hy1_7] at h
     obtain rfl := oI h
     exact runC2 hm (kW [4] [] 0 0) (k0 <|
      k1 <|
      k5 <|
      zz 35 (xdT hy1_7) <|
      ee) (by kernel_rfl)
    ·rw [if_neg hy1_7] at h
     have k6 := fun {A L l} (k : PL A L l) => zz 35 (xdF hy1_7) <|
      k
     by_cases hy1_8 : (y1_4_.2.2.2.2.2.1) > (1048576 : Int)
     ·rw [if_pos hy1_8] at h
      obtain rfl := oI h
      exact runC2 hm (kW [4] [] 0 0) (k0 <|
       k1 <|
       k5 <|
       k6 <|
       zz 40 (xdT hy1_8) <|
       ee) (by kernel_rfl)
     ·rw [if_neg hy1_8] at h
      have k7 := fun {A L l} (k : PL A L l) => zz 40 (xdF hy1_8) <|
       k
      by_cases hy1_9 : (y1_4_.2.2.1) < (-1048576 : Int)
      ·rw [if_pos hy1_9] at h
       obtain rfl := oI h
       exact runC2 hm (kW [4] [] 0 0) (k0 <|
        k1 <|
        k5 <|
        k6 <|
        k7 <|
        zz 45 (xdT hy1_9) <|
        ee) (by kernel_rfl)
      ·rw [if_neg hy1_9] at h
       have k8 := fun {A L l} (k : PL A L l) => zz 45 (xdF hy1_9) <|
        k
       by_cases hy1_10 : (y1_4_.2.2.2.2.1) < (-1048576 : Int)
       ·rw [if_pos hy1_10] at h
        obtain rfl := oI h
        exact runC2 hm (kW [4] [] 0 0) (k0 <|
         k1 <|
         k5 <|
         k6 <|
         k7 <|
         k8 <|
         zz 50 (xdT hy1_10) <|
         ee) (by kernel_rfl)
       ·rw [if_neg hy1_10] at h
        have k9 := fun {A L l} (k : PL A L l) => zz 50 (xdF hy1_10) <|
         k
        by_cases hy1_11 : (y1_4_.2.2.2.2.2.1) < (-1048576 : Int)
        ·rw [if_pos hy1_11] at h
         obtain rfl := oI h
         exact runC2 hm (kW [4] [] 0 0) (k0 <|
          k1 <|
          k5 <|
          k6 <|
          k7 <|
          k8 <|
          k9 <|
          zz 55 (xdT hy1_11) <|
          ee) (by kernel_rfl)
        ·rw [if_neg hy1_11] at h
         obtain rfl := oI h
         exact runC2 hm (kW [0, 1, 5, 6] [] 0 0) (k0 <|
          k1 <|
          k5 <|
          k6 <|
          k7 <|
          k8 <|
          k9 <|
          zz 55 (xdF hy1_11) <|
          ee) (by kernel_rfl)
  ·rw [if_neg hy1_2] at h
   obtain rfl := oI h
   exact runC2 hm (kW [0, 1, 5] [] 0 0) (k0 <|
    zz 9 (xdF hy1_2) <|
    ee) (by kernel_rfl)
 ·rw [if_neg hy1_1] at h
  obtain rfl := oI h
  exact runC2 hm (kW [0, 1, 5] [] 0 0) (zz 5 (xdF hy1_1) <|
   ee) (by kernel_rfl)
theorem qf6_ (n : Nat) {rnd : Option Nat} (x1_0 : W8) (x1_1 : Int) (st : Int × Int) (r : (Unit) ⊕ (Int)) (h : qcy_ n x1_0 x1_1 st = some r) : qer_ rnd x1_0 x1_1 st r :=
 CG.iter (b := qw_ P 5 [false, false, true, false, true, true]) (by kernel_rfl) (body := qbe_ n x1_0 x1_1) (S := qcx_ x1_0 x1_1) (X := qx_ x1_0 x1_1)
  (fun s s' h => qg3_ n x1_0 x1_1 s (.inl s') h)
  (fun s r h => qg3_ n x1_0 x1_1 s (.inr r) h)
  (fun r => by intro hx; rcases r with _ | _ <;> cases hx) h
def qbx_ (n : Nat) (a0 : W8) (a1 : Int) : Option (Bool) :=
 match qcy_ n a0 a1 (0, 0) with
 | none => none
 | some (.inl _) =>
  some false
 | some (.inr c1_) =>
  if (((a0).l.length : Nat) : Int) ≤ a1 then
   if c1_ ≤ (w64 ((2 : Int) * a1)) then
    some true
   else
    some false
  else
   some false
theorem qme_ (n : Nat) (a0 : W8) (a1 : Int) (r : Bool) (h : qbx_ n a0 a1 = some r) : qof_ a0 a1 r := by
 unfold qbx_ at h
 rcases hc1 : qcy_ n a0 a1 (0, 0) with _ | (⟨⟩ | c1_)
 ·rw [hc1] at h; cases h
 ·rw [hc1] at h
  dsimp only at h
  obtain rfl := oI h
  exact runF2 hm (kW [4] [] 0 0) (ww (p := qer_ none a0 a1 (0, 0) (.inl ())) (qf6_ n a0 a1 (0, 0) (.inl ()) hc1) <|
   ll 8 ⟨(kW [0, 1, 5, 6] [] 0 0), (qx_ a0 a1 (.inl ())).1, (qx_ a0 a1 (.inl ())).2⟩ <|
   ee) (by kernel_rfl)
 ·rw [hc1] at h
  dsimp only at h
  have k0 := fun {A L l} (k : PL A L l) => ww (p := qer_ none a0 a1 (0, 0) (.inr c1_)) (qf6_ n a0 a1 (0, 0) (.inr c1_) hc1) <|
   ll 8 ⟨(kW [0, 1, 5, 6] [] 0 0), (qx_ a0 a1 (.inr c1_)).1, (qx_ a0 a1 (.inr c1_)).2⟩ <|
   k
  by_cases hc2 : (((a0).l.length : Nat) : Int) ≤ a1
  ·rw [if_pos hc2] at h
   have k2 := fun {A L l} (k : PL A L l) => zz 13 (xdT hc2) <|
    k
   by_cases hc3 : c1_ ≤ (w64 ((2 : Int) * a1))
   ·rw [if_pos hc3] at h
    obtain rfl := oI h
    exact runF2 hm (kW [4] [] 0 0) (k0 <|
     k2 <|
     zz 18 (xdT hc3) <|
     ee) (by kernel_rfl)
   ·rw [if_neg hc3] at h
    obtain rfl := oI h
    exact runF2 hm (kW [4] [] 0 0) (k0 <|
     k2 <|
     zz 18 (xdF hc3) <|
     ee) (by kernel_rfl)
  ·rw [if_neg hc2] at h
   obtain rfl := oI h
   exact runF2 hm (kW [4] [] 0 0) (k0 <|
    zz 13 (xdF hc2) <|
    ee) (by kernel_rfl)

def qh5_ (a0 : W8) (r : (List R8) ⊕ (Unit)) : Value := match r with
 | .inl o0 => (sN 0 0 (o0).length (Nat.add big 8))
 | .inr _ => (sN 0 0 0 0)
def qh6_ (a0 : W8) (r : (List R8) ⊕ (Unit)) : AH := match r with
 | .inl o0 => ⟨sB [(0, (cB (rows rw_iiiiiiLu o0) 37))], 1, 0⟩
 | .inr _ => ⟨sB [(0, (cB [] 37))], 1, 0⟩
abbrev qoh_ (a0 : W8) (r : (List R8) ⊕ (Unit)) : Prop := Gv P (.func 22) [(wlV a0)] ⟨sB [], 0, 0⟩ (qh5_ a0 r) (qh6_ a0 r)
abbrev qh7_ (a0 : W8) (r : (List R8) ⊕ (Unit)) (ins outs : BL) : CallA := ⟨0, ins, qh5_ a0 r, qh6_ a0 r, outs⟩
def qby_ (n : Nat) (a0 : W8) : Option ((List R8) ⊕ (Unit)) :=
 if 0 < (a0).l.length then
  if (0 + (a0).l.length) * 80 ≤ 140737488355328 then
   if 0 < 0 + (a0).l.length then
    some (.inl (([] : List R8) ++ (a0).l))
   else none
  else none
 else
  some (.inr ())
theorem qgo_ (n : Nat) (a0 : W8) (r : (List R8) ⊕ (Unit)) (h : qby_ n a0 = some r) : qoh_ a0 r := by
 unfold qby_ at h
 by_cases hc1 : 0 < (a0).l.length
 ·rw [if_pos hc1] at h
  obtain ⟨hc2, h⟩ := gd h
  obtain ⟨hc3, h⟩ := gd h
  obtain rfl := oI h
  exact runF2 hm (kW [2] [(0, 1, true)] 1 0) (ww (p := (a0).l.length = (a0).l.length) (rfl) <|
   ww (p := ((a0).l.length = 0 ∧ (rows rw_iiiiiiLu (a0).l) = []) ∨ ∃ y, Tabs.win (a0).num = some y ∧ rdL y.2.2 (Nat.mul (a0).l.length 8) (a0).off = some (rows rw_iiiiiiLu (a0).l)) (srcR rwf_iiiiiiLu a0) <|
   yy 5 (.app ⟨some ((a0).l.length, (rows rw_iiiiiiLu (a0).l)), ([] : List Value), (rows rw_iiiiiiLu (([] : List R8) ++ (a0).l)), ((([] : List R8) ++ (a0).l)).length, true⟩) <|
   ww (p := 0 < (a0).l.length) (hc1) <|
   ww (p := 0 < big) ((by decide)) <|
   ww (p := 0 < Nat.add 0 (a0).l.length) (hc3) <|
   ww (p := rdT (layT ([] : List Value)) (Nat.mul 0 8) 0 = some (([] : List Value))) (rfl) <|
   ww (p := fits (Nat.add 0 (a0).l.length) 80 = true) (qmb_ hc2 (by have := hc2; show (_ : Nat) + _ ≤ _; omega)) <|
   ww (p := ([] : List Value) ++ (rows rw_iiiiiiLu (a0).l) = (rows rw_iiiiiiLu (([] : List R8) ++ (a0).l))) (qs2_ rw_iiiiiiLu ([] : List R8) (a0).l) <|
   ww (p := Nat.add 0 (a0).l.length = ((([] : List R8) ++ (a0).l)).length) (by simp <;> (try simp only [List.length_cons] at *) <;> omega) <|
   ww (qb_ rwf_iiiiiiLu (([] : List R8) ++ (a0).l) 37) <|
   ee) (by kernel_rfl)
 ·rw [if_neg hc1] at h
  obtain rfl := oI h
  exact runF2 hm (kW [2] [(0, 0, false)] 1 0) (yy 5 (.app0) <|
   ww (p := 0 = (a0).l.length) ((by have := hc1; omega)) <|
   ww (p := ((a0).l.length = 0 ∧ ([] : List Value) = []) ∨ ∃ y, Tabs.win (a0).num = some y ∧ rdL y.2.2 (Nat.mul (a0).l.length 8) (a0).off = some ([] : List Value)) (.inl ⟨(by have := hc1; omega), rfl⟩) <|
   ww (p := ∀ H : AH, qyn_ H 8 37 80 (0, []) (sN 0 0 0 0) = some ((sN 0 0 0 0), H)) (fun _ => rfl) <|
   ee) (by kernel_rfl)

def qk9_ (a0 : NL) (r : NL) : Value := match r with
 | o0 => (nlV o0)
def qla_ (a0 : NL) (r : NL) : AH := match r with
 | o0 => ⟨sB [], 0, 0⟩
abbrev qrs_ (a0 : NL) (r : NL) : Prop := Gv P (.func 23) [(nlV a0)] ⟨sB [], 0, 0⟩ (qk9_ a0 r) (qla_ a0 r)
abbrev qrt_ (a0 : NL) (r : NL) (ins outs : BL) : CallA := ⟨0, ins, qk9_ a0 r, qla_ a0 r, outs⟩
def qcu_ (n : Nat) (a0 : NL) : Option (NL) :=
 if 0 < (a0).l.length then
  if (0 + (a0).l.length) * 8 ≤ 140737488355328 then
   if 0 < 0 + (a0).l.length then
    if hc4 : (([] : List Int) ++ (a0).l).length ≤ 140737488355328 then
     some (frzL (([] : List Int) ++ (a0).l) hc4)
    else none
   else none
  else none
 else
  if hc2 : [].length ≤ 140737488355328 then
   some (frzL [] hc2)
  else none
theorem qpd_ (n : Nat) (a0 : NL) (r : NL) (h : qcu_ n a0 = some r) : qrs_ a0 r := by
 unfold qcu_ at h
 by_cases hc1 : 0 < (a0).l.length
 ·rw [if_pos hc1] at h
  obtain ⟨hc2, h⟩ := gd h
  obtain ⟨hc3, h⟩ := gd h
  obtain ⟨hc4, h⟩ := gdD h
  obtain rfl := oI h
  exact runF2 hm ⟨[2], [], 0, 0, [(1, Nat.add (2 * cod (([] : List Int) ++ (a0).l) + 1) 64)], true, [], [], []⟩ (ww (p := (a0).l.length = (a0).l.length) (rfl) <|
   ww (p := ((a0).l.length = 0 ∧ (iv (a0).l) = []) ∨ ∃ y, Tabs.win (Nat.add (a0).num 64) = some y ∧ rdL y.2.2 (Nat.mul (a0).l.length 1) (a0).off = some (iv (a0).l)) (srcN a0) <|
   yy 5 (.app ⟨some ((a0).l.length, (iv (a0).l)), ([] : List Value), (iv (([] : List Int) ++ (a0).l)), ((([] : List Int) ++ (a0).l)).length, true⟩) <|
   ww (p := 0 < (a0).l.length) (hc1) <|
   ww (p := 0 < big) ((by decide)) <|
   ww (p := 0 < Nat.add 0 (a0).l.length) (hc3) <|
   ww (p := rdT (layT ([] : List Value)) (Nat.mul 0 1) 0 = some (([] : List Value))) (rfl) <|
   ww (p := fits (Nat.add 0 (a0).l.length) 8 = true) (qmb_ hc2 (by have := hc2; show (_ : Nat) + _ ≤ _; omega)) <|
   ww (p := ([] : List Value) ++ (iv (a0).l) = (iv (([] : List Int) ++ (a0).l))) (by simp [iv]) <|
   ww (p := Nat.add 0 (a0).l.length = ((([] : List Int) ++ (a0).l)).length) (by simp <;> (try simp only [List.length_cons] at *) <;> omega) <|
   ww (frz_ok qee_ qiv_ (([] : List Int) ++ (a0).l)) <|
   ee) (by kernel_rfl)
 ·rw [if_neg hc1] at h
  obtain ⟨hc2, h⟩ := gdD h
  obtain rfl := oI h
  exact runF2 hm ⟨[2], [], 0, 0, [(0, Nat.add (2 * cod [] + 1) 64)], true, [], [], []⟩ (yy 5 (.app0) <|
   ww (p := 0 = (a0).l.length) ((by have := hc1; omega)) <|
   ww (p := ((a0).l.length = 0 ∧ ([] : List Value) = []) ∨ ∃ y, Tabs.win (Nat.add (a0).num 64) = some y ∧ rdL y.2.2 (Nat.mul (a0).l.length 1) (a0).off = some ([] : List Value)) (.inl ⟨(by have := hc1; omega), rfl⟩) <|
   ww (p := ∀ H : AH, qyn_ H 1 3 8 (0, []) (sN 0 0 0 0) = some ((sN 0 0 0 0), H)) (fun _ => rfl) <|
   ww (frz_ok qee_ qiv_ []) <|
   ee) (by kernel_rfl)

def qje_ (a0 : W8) (r : W8) : Value := match r with
 | o0 => (wlV o0)
def qjf_ (a0 : W8) (r : W8) : AH := match r with
 | o0 => ⟨sB [], 0, 0⟩
abbrev qp7_ (a0 : W8) (r : W8) : Prop := Gv P (.func 7) [(wlV a0)] ⟨sB [], 0, 0⟩ (qje_ a0 r) (qjf_ a0 r)
abbrev qp8_ (a0 : W8) (r : W8) (ins outs : BL) : CallA := ⟨0, ins, qje_ a0 r, qjf_ a0 r, outs⟩
def qdg_ (x1_1 : Nat) (st : List R8 × Int) : XSt := match st with
 | (x1_0, x1_2) => (sT 24 [(3, (slEQ x1_0 0 x1_1 8)), (4, (i6 x1_2))], [], ⟨sB [(0, (cB (rows rw_iiiiiiLu x1_0) 37))], 1, 0⟩)
def qg_ (x1_1 : Nat) (r : List R8 × Nat) : Ex × XSt := match r with
 | (z1_0, z1_1) => (.exit 0, (sT 24 [(3, (slEQ z1_0 0 z1_1 8))], [], ⟨sB [(0, (cB (rows rw_iiiiiiLu z1_0) 37))], 1, 0⟩))
abbrev qoi_ (rnd : Option Nat) (x1_1 : Nat) (st : List R8 × Int) (c : Ex × XSt) : Prop := CG P rnd (fnN P 7) 0 (qw_ P 7 [false, false, true, false, true, true]) (qdg_ x1_1 st) c
abbrev qcg_ (rd : Option Nat) (x1_1 : Nat) (st : List R8 × Int) (r : List R8 × Nat) : Prop := CG P rd (fnN P 7) 0 (qw_ P 7 [false, true, false, true, true]) (qdg_ x1_1 st) (qg_ x1_1 r)
def qbb_ (n : Nat) (x1_1 : Nat) (st : List R8 × Int) : Option ((List R8 × Int) ⊕ (List R8 × Nat)) := match st with
 | (x1_0, x1_2) =>
  match x1_0 with
  | [] =>
   if x1_2 < (0 : Int) then
    none
   else
    some (.inr (([] : List R8), 0))
  | x1_0a :: x1_0t =>
   if x1_2 < ((x1_1 : Nat) : Int) then
    if 0 ≤ x1_2 ∧ x1_2 < ((x1_1 : Nat) : Int) then
     if (x1_2).toNat < ((x1_0a :: x1_0t)).length then
      ((some (((x1_0a :: x1_0t)).getD (x1_2).toNat (0, 0, 0, 0, 0, 0, nl0, 0)))).bind fun y1_4_ =>
      (qcu_ n (y1_4_.2.2.2.2.2.2.1)).bind fun y1_5_ =>
      some (.inl ((((x1_0a :: x1_0t)).set (x1_2).toNat ((y1_4_.1), (y1_4_.2.1), (y1_4_.2.2.1), (y1_4_.2.2.2.1), (y1_4_.2.2.2.2.1), (y1_4_.2.2.2.2.2.1), y1_5_, (y1_4_.2.2.2.2.2.2.2))), (w64 (x1_2 + (1 : Int)))))
     else none
    else none
   else
    some (.inr ((x1_0a :: x1_0t), x1_1))
def qdh_ (n : Nat) (x1_1 : Nat) (st : List R8 × Int) : Option (List R8 × Nat) := iterM (qbb_ n x1_1) n st
theorem qh8_ (n : Nat) {rnd : Option Nat} (x1_1 : Nat) (st : List R8 × Int) (o : (List R8 × Int) ⊕ (List R8 × Nat)) (h : qbb_ n x1_1 st = some o) : qoi_ rnd x1_1 st (Sum.elim (fun s => (.normal, qdg_ x1_1 s)) (fun r => qg_ x1_1 r) o) := by
 obtain ⟨x1_0, x1_2⟩ := st
 unfold qbb_ at h
 dsimp only at h
 cases x1_0 with
 | nil =>
  dsimp only at h
  by_cases hy1_1 : x1_2 < (0 : Int)
  ·rw [if_pos hy1_1] at h
   cases h
  ·rw [if_neg hy1_1] at h
   obtain rfl := oI h
   exact runC2 hm (kW [3] [(0, 0, false)] 1 0) (zz 5 (xdF hy1_1) <|
    ee) (by kernel_rfl)
 | cons x1_0a x1_0t =>
  dsimp only at h
  by_cases hy1_1 : x1_2 < ((x1_1 : Nat) : Int)
  ·rw [if_pos hy1_1] at h
   obtain ⟨hy1_2, h⟩ := gd h
   obtain ⟨hy1_3, h⟩ := gd h
   obtain ⟨y1_4_, hy1_4, h⟩ := oB h
   obtain ⟨y1_5_, hy1_5, h⟩ := oB h
   obtain rfl := oI h
   obtain ⟨za, zt, hz⟩ : ∃ a t, (((x1_0a :: x1_0t)).set (x1_2).toNat ((y1_4_.1), (y1_4_.2.1), (y1_4_.2.2.1), (y1_4_.2.2.2.1), (y1_4_.2.2.2.2.1), (y1_4_.2.2.2.2.2.1), y1_5_, (y1_4_.2.2.2.2.2.2.2))) = a :: t := set_cons
   rw [hz]
   exact runC2 hm (kW [3, 4] [(0, 0, true)] 1 0) (zz 5 (xdT hy1_1) <|
    zz 13 (xk3 0 U8 hy1_2) <|
    zz 15 (ok4 hy1_4 (hy1_3)) <|
    yy 16 (.call (qrt_ (y1_4_.2.2.2.2.2.2.1) y1_5_ [] [])) <|
    ww (qpd_ n (y1_4_.2.2.2.2.2.2.1) y1_5_ hy1_5) <|
    zz 17 (xk3 0 U8 hy1_2) <|
    yy 19 (.sto (layT (rows rw_iiiiiiLu (za :: zt)))) <|
    ww (p := ∃ old, rdT (layT (rows rw_iiiiiiLu (x1_0a :: x1_0t))) 1 (Nat.add ((x1_2).toNat * 8) 6) = some old) (Exists.elim (q0u_ rwf_iiiiiiLu (0, 0, 0, 0, 0, 0, nl0, 0) (hr := hy1_4) (i := (x1_2).toNat) (j := 6) (l := [(nlV y1_5_)]) ((y1_4_.1), (y1_4_.2.1), (y1_4_.2.2.1), (y1_4_.2.2.2.1), (y1_4_.2.2.2.2.1), (y1_4_.2.2.2.2.2.1), y1_5_, (y1_4_.2.2.2.2.2.2.2)) (Nat.add ((x1_2).toNat * 8) 6) rfl (hy1_3) (Nat.le_of_ble_eq_true rfl) rfl) fun o h => ⟨o, h.1⟩) <|
    ww (p := layL [(nlV y1_5_)] (Nat.add ((x1_2).toNat * 8) 6) (layT (rows rw_iiiiiiLu (x1_0a :: x1_0t))) = layT (rows rw_iiiiiiLu (za :: zt))) (by rw [← hz]; exact (Exists.elim (q0u_ rwf_iiiiiiLu (0, 0, 0, 0, 0, 0, nl0, 0) (hr := hy1_4) (i := (x1_2).toNat) (j := 6) (l := [(nlV y1_5_)]) ((y1_4_.1), (y1_4_.2.1), (y1_4_.2.2.1), (y1_4_.2.2.2.1), (y1_4_.2.2.2.2.1), (y1_4_.2.2.2.2.2.1), y1_5_, (y1_4_.2.2.2.2.2.2.2)) (Nat.add ((x1_2).toNat * 8) 6) rfl (hy1_3) (Nat.le_of_ble_eq_true rfl) rfl) fun o h => h.2)) <|
    ww (qb_ rwf_iiiiiiLu (za :: zt) 37) <|
    ee) (by kernel_rfl)
  ·rw [if_neg hy1_1] at h
   obtain rfl := oI h
   exact runC2 hm (kW [3] [(0, 0, true)] 1 0) (zz 5 (xdF hy1_1) <|
    ww (qb_ rwf_iiiiiiLu (x1_0a :: x1_0t) 37) <|
    ee) (by kernel_rfl)
theorem qcm_ (n : Nat) {rnd : Option Nat} (x1_1 : Nat) (st : List R8 × Int) (r : List R8 × Nat) (h : qdh_ n x1_1 st = some r) : qcg_ rnd x1_1 st r :=
 CG.iter (b := qw_ P 7 [false, false, true, false, true, true]) (by kernel_rfl) (body := qbb_ n x1_1) (S := qdg_ x1_1) (X := qg_ x1_1)
  (fun s s' h => qh8_ n x1_1 s (.inl s') h)
  (fun s r h => qh8_ n x1_1 s (.inr r) h)
  (fun r => by intro hx; cases hx) h
def qb9_ (n : Nat) (a0 : W8) : Option (W8) :=
 match qby_ n a0 with
 | none => none
 | some (.inl c1_) =>
  match c1_ with
  | [] =>
   none
  | c1_a :: c1_t =>
   (qdh_ n (((c1_a :: c1_t)).length) ((c1_a :: c1_t), 0)).bind fun t => match t with
   | (c2_0, c2_1) =>
    match c2_0 with
    | [] =>
     if hc3 : ([] : List R8).length ≤ 9223372036854775807 then
      some (frzR qc7_ ([] : List R8) hc3)
     else none
    | c2_0a :: c2_0t =>
     if c2_1 = (c2_0a :: c2_0t).length then
      if hc4 : (c2_0a :: c2_0t).length ≤ 9223372036854775807 then
       some (frzR qc7_ (c2_0a :: c2_0t) hc4)
      else none
     else none
 | some (.inr _) =>
  (qdh_ n 0 (([] : List R8), 0)).bind fun t => match t with
  | (c2_0, c2_1) =>
   match c2_0 with
   | [] =>
    if hc3 : ([] : List R8).length ≤ 9223372036854775807 then
     some (frzR qc7_ ([] : List R8) hc3)
    else none
   | c2_0a :: c2_0t =>
    if c2_1 = (c2_0a :: c2_0t).length then
     if hc4 : (c2_0a :: c2_0t).length ≤ 9223372036854775807 then
      some (frzR qc7_ (c2_0a :: c2_0t) hc4)
     else none
    else none
theorem qnw_ (n : Nat) (a0 : W8) (r : W8) (h : qb9_ n a0 = some r) : qp7_ a0 r := by
 unfold qb9_ at h
 rcases hc1 : qby_ n a0 with _ | (c1_ | ⟨⟩)
 ·rw [hc1] at h; cases h
 ·rw [hc1] at h
  dsimp only at h
  cases c1_ with
  | nil =>
   dsimp only at h
   cases h
  | cons c1_a c1_t =>
   dsimp only at h
   obtain ⟨⟨c2_0, c2_1⟩, hc2, h⟩ := oB h
   dsimp only at h
   have k0 := fun {A L l} (k : PL A L l) => yy 4 (.call (qh7_ a0 (.inl (c1_a :: c1_t)) [] [(0, 0, true)])) <|
    ww (qgo_ n a0 (.inl (c1_a :: c1_t)) hc1) <|
    ww (qb_ rwf_iiiiiiLu (c1_a :: c1_t) 37) <|
    k
   cases c2_0 with
   | nil =>
    dsimp only at h
    obtain ⟨hc3, h⟩ := gdD h
    obtain rfl := oI h
    exact runF2 hm ⟨[2], [], 0, 0, [(0, Nat.add (2 * codL (rows rw_iiiiiiLu ([] : List R8)) + 1) 64)], true, [], [], []⟩ (k0 <|
     ww (p := qcg_ none (((c1_a :: c1_t)).length) ((c1_a :: c1_t), 0) (([] : List R8), c2_1)) (qcm_ n (((c1_a :: c1_t)).length) ((c1_a :: c1_t), 0) (([] : List R8), c2_1) hc2) <|
     ww (qb_ rwf_iiiiiiLu (c1_a :: c1_t) 37) <|
     ll 10 ⟨(kW [3, 4] [(0, 0, true)] 1 0), (qg_ (((c1_a :: c1_t)).length) (([] : List R8), c2_1)).1, (qg_ (((c1_a :: c1_t)).length) (([] : List R8), c2_1)).2⟩ <|
     ww (qx3_ qee_ qiv_ qc7_ ([] : List R8)) <|
     ee) (by kernel_rfl)
   | cons c2_0a c2_0t =>
    dsimp only at h
    obtain ⟨hc3, h⟩ := gd h
    obtain ⟨hc4, h⟩ := gdD h
    obtain rfl := oI h
    subst hc3
    exact runF2 hm ⟨[2], [], 0, 0, [(0, Nat.add (2 * codL (rows rw_iiiiiiLu (c2_0a :: c2_0t)) + 1) 64)], true, [], [], []⟩ (k0 <|
     ww (p := qcg_ none (((c1_a :: c1_t)).length) ((c1_a :: c1_t), 0) ((c2_0a :: c2_0t), (((c2_0a :: c2_0t)).length))) (qcm_ n (((c1_a :: c1_t)).length) ((c1_a :: c1_t), 0) ((c2_0a :: c2_0t), (((c2_0a :: c2_0t)).length)) hc2) <|
     ww (qb_ rwf_iiiiiiLu (c1_a :: c1_t) 37) <|
     ll 10 ⟨(kW [3, 4] [(0, 0, true)] 1 0), (qg_ (((c1_a :: c1_t)).length) ((c2_0a :: c2_0t), (((c2_0a :: c2_0t)).length))).1, (qg_ (((c1_a :: c1_t)).length) ((c2_0a :: c2_0t), (((c2_0a :: c2_0t)).length))).2⟩ <|
     ww (qx3_ qee_ qiv_ qc7_ (c2_0a :: c2_0t)) <|
     ee) (by kernel_rfl)
 ·rw [hc1] at h
  dsimp only at h
  obtain ⟨⟨c2_0, c2_1⟩, hc2, h⟩ := oB h
  dsimp only at h
  have k0 := fun {A L l} (k : PL A L l) => yy 4 (.call (qh7_ a0 (.inr ()) [] [(0, 0, false)])) <|
   ww (qgo_ n a0 (.inr ()) hc1) <|
   k
  cases c2_0 with
  | nil =>
   dsimp only at h
   obtain ⟨hc3, h⟩ := gdD h
   obtain rfl := oI h
   exact runF2 hm ⟨[2], [], 0, 0, [(0, Nat.add (2 * codL (rows rw_iiiiiiLu ([] : List R8)) + 1) 64)], true, [], [], []⟩ (k0 <|
    ww (p := qcg_ none 0 (([] : List R8), 0) (([] : List R8), c2_1)) (qcm_ n 0 (([] : List R8), 0) (([] : List R8), c2_1) hc2) <|
    ll 10 ⟨(kW [3, 4] [(0, 0, false)] 1 0), (qg_ 0 (([] : List R8), c2_1)).1, (qg_ 0 (([] : List R8), c2_1)).2⟩ <|
    ww (qx3_ qee_ qiv_ qc7_ ([] : List R8)) <|
    ee) (by kernel_rfl)
  | cons c2_0a c2_0t =>
   dsimp only at h
   obtain ⟨hc3, h⟩ := gd h
   obtain ⟨hc4, h⟩ := gdD h
   obtain rfl := oI h
   subst hc3
   exact runF2 hm ⟨[2], [], 0, 0, [(0, Nat.add (2 * codL (rows rw_iiiiiiLu (c2_0a :: c2_0t)) + 1) 64)], true, [], [], []⟩ (k0 <|
    ww (p := qcg_ none 0 (([] : List R8), 0) ((c2_0a :: c2_0t), (((c2_0a :: c2_0t)).length))) (qcm_ n 0 (([] : List R8), 0) ((c2_0a :: c2_0t), (((c2_0a :: c2_0t)).length)) hc2) <|
    ll 10 ⟨(kW [3, 4] [(0, 0, false)] 1 0), (qg_ 0 ((c2_0a :: c2_0t), (((c2_0a :: c2_0t)).length))).1, (qg_ 0 ((c2_0a :: c2_0t), (((c2_0a :: c2_0t)).length))).2⟩ <|
    ww (qx3_ qee_ qiv_ qc7_ (c2_0a :: c2_0t)) <|
    ee) (by kernel_rfl)

def qsd_ (a0 : W8) (r : Bool) : Value := match r with
 | o0 => (bO o0)
def qse_ (a0 : W8) (r : Bool) : AH := match r with
 | o0 => ⟨sB [], 0, 0⟩
abbrev qyp_ (a0 : W8) (r : Bool) : Prop := Gv P (.func 52) [(wlV a0)] ⟨sB [], 0, 0⟩ (qsd_ a0 r) (qse_ a0 r)
abbrev qyq_ (a0 : W8) (r : Bool) (ins outs : BL) : CallA := ⟨0, ins, qsd_ a0 r, qse_ a0 r, outs⟩
def qhu_ (x1_0 : W8) (x1_3 : Int) (st : List (Int × Int × Int) × Nat × Int) : XSt := match st with
 | (x1_1, x1_2, x1_4) => (sT 99 [(0, (wlV x1_0)), (3, (slQ x1_1 0 x1_2 3)), (8, (wlV x1_0)), (9, (i6 x1_3)), (10, (i6 x1_4))], [], ⟨sB [(0, (nblkR qfq_ x1_1 77))], 1, 0⟩)
def qcb_ (x1_0 : W8) (x1_3 : Int) (r : (Unit) ⊕ (List (Int × Int × Int) × Nat)) : Ex × XSt := match r with
 | .inl _ => (.ret, (sT 99 [(2, (bO false))], [], ⟨sB [], 0, 0⟩))
 | .inr (z1_0, z1_1) => (.exit 0, (sT 99 [(3, (slQ z1_0 0 z1_1 3))], [], ⟨sB [(0, (nblkR qfq_ z1_0 77))], 1, 0⟩))
abbrev qv5_ (rnd : Option Nat) (x1_0 : W8) (x1_3 : Int) (st : List (Int × Int × Int) × Nat × Int) (c : Ex × XSt) : Prop := CG P rnd (fnN P 52) 0 (qw_ P 52 [false, false, true, false, true, true]) (qhu_ x1_0 x1_3 st) c
abbrev qhv_ (rd : Option Nat) (x1_0 : W8) (x1_3 : Int) (st : List (Int × Int × Int) × Nat × Int) (r : (Unit) ⊕ (List (Int × Int × Int) × Nat)) : Prop := CG P rd (fnN P 52) 0 (qw_ P 52 [false, true, false, true, true]) (qhu_ x1_0 x1_3 st) (qcb_ x1_0 x1_3 r)
def qd_ (n : Nat) (x1_0 : W8) (x1_3 : Int) (st : List (Int × Int × Int) × Nat × Int) : Option ((List (Int × Int × Int) × Nat × Int) ⊕ ((Unit) ⊕ (List (Int × Int × Int) × Nat))) := match st with
 | (x1_1, x1_2, x1_4) =>
  match x1_1 with
  | [] =>
   if x1_4 < x1_3 then
    if 0 ≤ x1_4 ∧ x1_4 < (((x1_0).l.length : Nat) : Int) then
     ((some (((x1_0).l).getD (x1_4).toNat (0, 0, 0, 0, 0, 0, nl0, 0)))).bind fun y1_3_ =>
     if x1_4 > (0 : Int) then
      some (.inr (.inl ()))
     else
      if ((((y1_3_.2.2.2.2.2.2.1)).l.length : Nat) : Int) > (0 : Int) then
       some (.inl ([(x1_4, (0 : Int), (y1_3_.2.2.1))], 1, (w64 (x1_4 + (1 : Int)))))
      else
       some (.inl (([] : List (Int × Int × Int)), 0, (w64 (x1_4 + (1 : Int)))))
    else none
   else
    some (.inr (.inr (([] : List (Int × Int × Int)), 0)))
  | x1_1a :: x1_1t =>
   if x1_4 < x1_3 then
    if 0 ≤ x1_4 ∧ x1_4 < (((x1_0).l.length : Nat) : Int) then
     ((some (((x1_0).l).getD (x1_4).toNat (0, 0, 0, 0, 0, 0, nl0, 0)))).bind fun y1_3_ =>
     if x1_4 > (0 : Int) then
      if ((x1_2 : Nat) : Int) = (0 : Int) then
       some (.inr (.inl ()))
      else
       ((some (w64 (((x1_2 : Nat) : Int) - (1 : Int))))).bind fun y1_6_ =>
       if 0 ≤ y1_6_ ∧ y1_6_ < ((x1_2 : Nat) : Int) then
        if (y1_6_).toNat < ((x1_1a :: x1_1t)).length then
         ((some (((x1_1a :: x1_1t)).getD (y1_6_).toNat (0, 0, 0)))).bind fun y1_9_ =>
         if 0 ≤ (y1_9_.1) ∧ (y1_9_.1) < (((x1_0).l.length : Nat) : Int) then
          ((some (((x1_0).l).getD ((y1_9_.1)).toNat (0, 0, 0, 0, 0, 0, nl0, 0)))).bind fun y1_11_ =>
          if 0 ≤ (y1_9_.2.1) ∧ (y1_9_.2.1) < ((((y1_11_.2.2.2.2.2.2.1)).l.length : Nat) : Int) then
           if ((y1_9_.2.1)).toNat < (((y1_11_.2.2.2.2.2.2.1)).l).length then
            ((some ((((y1_11_.2.2.2.2.2.2.1)).l).getD ((y1_9_.2.1)).toNat 0))).bind fun y1_14_ =>
            if y1_14_ = x1_4 then
             if (y1_3_.2.2.1) < (y1_9_.2.2) then
              some (.inr (.inl ()))
             else
              if (y1_3_.2.2.2.2.1) > (y1_11_.2.2.2.2.1) then
               some (.inr (.inl ()))
              else
               if (w64 ((y1_9_.2.1) + (1 : Int))) = ((((y1_11_.2.2.2.2.2.2.1)).l.length : Nat) : Int) then
                if 0 ≤ y1_6_ ∧ y1_6_ ≤ ((x1_2 : Nat) : Int) then
                 if ((((y1_3_.2.2.2.2.2.2.1)).l.length : Nat) : Int) > (0 : Int) then
                  if (y1_6_).toNat ≤ ((((x1_1a :: x1_1t)).set (y1_6_).toNat ((y1_9_.1), (w64 ((y1_9_.2.1) + (1 : Int))), (y1_3_.2.2.2.2.1)))).length then
                   if ((y1_6_).toNat + 1) * 24 ≤ 140737488355328 then
                    some (.inl (((List.take (y1_6_).toNat (((x1_1a :: x1_1t)).set (y1_6_).toNat ((y1_9_.1), (w64 ((y1_9_.2.1) + (1 : Int))), (y1_3_.2.2.2.2.1)))) ++ [(x1_4, (0 : Int), (y1_3_.2.2.1))]), ((((List.take (y1_6_).toNat (((x1_1a :: x1_1t)).set (y1_6_).toNat ((y1_9_.1), (w64 ((y1_9_.2.1) + (1 : Int))), (y1_3_.2.2.2.2.1)))) ++ [(x1_4, (0 : Int), (y1_3_.2.2.1))])).length), (w64 (x1_4 + (1 : Int)))))
                   else none
                  else none
                 else
                  some (.inl ((((x1_1a :: x1_1t)).set (y1_6_).toNat ((y1_9_.1), (w64 ((y1_9_.2.1) + (1 : Int))), (y1_3_.2.2.2.2.1))), ((y1_6_).toNat), (w64 (x1_4 + (1 : Int)))))
                else none
               else
                if ((((y1_3_.2.2.2.2.2.2.1)).l.length : Nat) : Int) > (0 : Int) then
                 if x1_2 ≤ ((((x1_1a :: x1_1t)).set (y1_6_).toNat ((y1_9_.1), (w64 ((y1_9_.2.1) + (1 : Int))), (y1_3_.2.2.2.2.1)))).length then
                  if (x1_2 + 1) * 24 ≤ 140737488355328 then
                   some (.inl (((List.take x1_2 (((x1_1a :: x1_1t)).set (y1_6_).toNat ((y1_9_.1), (w64 ((y1_9_.2.1) + (1 : Int))), (y1_3_.2.2.2.2.1)))) ++ [(x1_4, (0 : Int), (y1_3_.2.2.1))]), ((((List.take x1_2 (((x1_1a :: x1_1t)).set (y1_6_).toNat ((y1_9_.1), (w64 ((y1_9_.2.1) + (1 : Int))), (y1_3_.2.2.2.2.1)))) ++ [(x1_4, (0 : Int), (y1_3_.2.2.1))])).length), (w64 (x1_4 + (1 : Int)))))
                  else none
                 else none
                else
                 some (.inl ((((x1_1a :: x1_1t)).set (y1_6_).toNat ((y1_9_.1), (w64 ((y1_9_.2.1) + (1 : Int))), (y1_3_.2.2.2.2.1))), x1_2, (w64 (x1_4 + (1 : Int)))))
            else
             some (.inr (.inl ()))
           else none
          else none
         else none
        else none
       else none
     else
      if ((((y1_3_.2.2.2.2.2.2.1)).l.length : Nat) : Int) > (0 : Int) then
       if x1_2 ≤ ((x1_1a :: x1_1t)).length then
        if (x1_2 + 1) * 24 ≤ 140737488355328 then
         some (.inl (((List.take x1_2 (x1_1a :: x1_1t)) ++ [(x1_4, (0 : Int), (y1_3_.2.2.1))]), ((((List.take x1_2 (x1_1a :: x1_1t)) ++ [(x1_4, (0 : Int), (y1_3_.2.2.1))])).length), (w64 (x1_4 + (1 : Int)))))
        else none
       else none
      else
       some (.inl ((x1_1a :: x1_1t), x1_2, (w64 (x1_4 + (1 : Int)))))
    else none
   else
    some (.inr (.inr ((x1_1a :: x1_1t), x1_2)))
def qf7_ (n : Nat) (x1_0 : W8) (x1_3 : Int) (st : List (Int × Int × Int) × Nat × Int) : Option ((Unit) ⊕ (List (Int × Int × Int) × Nat)) := iterM (qd_ n x1_0 x1_3) n st
theorem qpu_ (n : Nat) {rnd : Option Nat} (x1_0 : W8) (x1_3 : Int) (st : List (Int × Int × Int) × Nat × Int) (o : (List (Int × Int × Int) × Nat × Int) ⊕ ((Unit) ⊕ (List (Int × Int × Int) × Nat))) (h : qd_ n x1_0 x1_3 st = some o) : qv5_ rnd x1_0 x1_3 st (Sum.elim (fun s => (.normal, qhu_ x1_0 x1_3 s)) (fun r => qcb_ x1_0 x1_3 r) o) := by
 obtain ⟨x1_1, x1_2, x1_4⟩ := st
 unfold qd_ at h
 dsimp only at h
 cases x1_1 with
 | nil =>
  dsimp only at h
  by_cases hy1_1 : x1_4 < x1_3
  ·rw [if_pos hy1_1] at h
   obtain ⟨hy1_2, h⟩ := gd h
   obtain ⟨y1_3_, hy1_3, h⟩ := oB h
   have k0 := fun {A L l} (k : PL A L l) => zz 1 (xdT hy1_1) <|
    zz 8 (xk1 (x1_0).num (x1_0).off (x1_0).cap hy1_2) <|
    zz 9 (lk2 hy1_3 (qba_ hy1_2)) <|
    k
   by_cases hy1_4 : x1_4 > (0 : Int)
   ·rw [if_pos hy1_4] at h
    obtain rfl := oI h
    exact runC2 hm (kW [2] [] 0 0) (k0 <|
     zz 16 (xdT hy1_4) <|
     ee) (by kernel_rfl)
   ·rw [if_neg hy1_4] at h
    have k3 := fun {A L l} (k : PL A L l) => zz 16 (xdF hy1_4) <|
     k
    by_cases hy1_5 : ((((y1_3_.2.2.2.2.2.2.1)).l.length : Nat) : Int) > (0 : Int)
    ·rw [if_pos hy1_5] at h
     obtain rfl := oI h
     exact runC2 hm (kW [0, 3, 8, 9, 10] [(0, 3, false)] 1 0) (k0 <|
      k3 <|
      zz 22 (xdT hy1_5) <|
      ee) (by kernel_rfl)
    ·rw [if_neg hy1_5] at h
     obtain rfl := oI h
     exact runC2 hm (kW [0, 3, 8, 9, 10] [] 1 0) (k0 <|
      k3 <|
      zz 22 (xdF hy1_5) <|
      ee) (by kernel_rfl)
  ·rw [if_neg hy1_1] at h
   obtain rfl := oI h
   exact runC2 hm (kW [3] [] 1 0) (zz 1 (xdF hy1_1) <|
    ee) (by kernel_rfl)
 | cons x1_1a x1_1t =>
  dsimp only at h
  by_cases hy1_1 : x1_4 < x1_3
  ·rw [if_pos hy1_1] at h
   obtain ⟨hy1_2, h⟩ := gd h
   obtain ⟨y1_3_, hy1_3, h⟩ := oB h
   have k0 := fun {A L l} (k : PL A L l) => zz 1 (xdT hy1_1) <|
    zz 8 (xk1 (x1_0).num (x1_0).off (x1_0).cap hy1_2) <|
    zz 9 (lk2 hy1_3 (qba_ hy1_2)) <|
    k
   by_cases hy1_4 : x1_4 > (0 : Int)
   ·rw [if_pos hy1_4] at h
    have k3 := fun {A L l} (k : PL A L l) => zz 16 (xdT hy1_4) <|
     k
    by_cases hy1_5 : ((x1_2 : Nat) : Int) = (0 : Int)
    ·rw [if_pos hy1_5] at h
     obtain rfl := oI h
     exact runC2 hm (kW [2] [] 0 0) (k0 <|
      k3 <|
      zz 22 (xeT hy1_5) <|
      ee) (by kernel_rfl)
    ·rw [if_neg hy1_5] at h
     obtain ⟨y1_6_, hy1_6, h⟩ := oB h
     obtain ⟨hy1_7, h⟩ := gd h
     obtain ⟨hy1_8, h⟩ := gd h
     obtain ⟨y1_9_, hy1_9, h⟩ := oB h
     obtain ⟨hy1_10, h⟩ := gd h
     obtain ⟨y1_11_, hy1_11, h⟩ := oB h
     obtain ⟨hy1_12, h⟩ := gd h
     obtain ⟨hy1_13, h⟩ := gd h
     obtain ⟨y1_14_, hy1_14, h⟩ := oB h
     have k4 := fun {A L l} (k : PL A L l) => zz 22 (xeF hy1_5) <|
      zz 28 (xnm hy1_6) <|
      zz 29 (xk5 0 U3 hy1_7) <|
      zz 36 (ok6 hy1_9 (hy1_8)) <|
      zz 37 (xk1 (x1_0).num (x1_0).off (x1_0).cap hy1_10) <|
      zz 38 (lk2 hy1_11 (qba_ hy1_10)) <|
      zz 48 (ok7 hy1_9 (hy1_8)) <|
      zz 49 (xk8 (Nat.add ((y1_11_.2.2.2.2.2.2.1)).num 64) ((y1_11_.2.2.2.2.2.2.1)).off ((y1_11_.2.2.2.2.2.2.1)).cap hy1_12) <|
      zz 50 (nk9 hy1_14 hy1_13) <|
      k
     by_cases hy1_15 : y1_14_ = x1_4
     ·rw [if_pos hy1_15] at h
      have k13 := fun {A L l} (k : PL A L l) => zz 52 (xnF hy1_15) <|
       zz 59 (ok10 hy1_9 (hy1_8)) <|
       k
      by_cases hy1_16 : (y1_3_.2.2.1) < (y1_9_.2.2)
      ·rw [if_pos hy1_16] at h
       obtain rfl := oI h
       exact runC2 hm (kW [2] [] 0 0) (k0 <|
        k3 <|
        k4 <|
        k13 <|
        zz 60 (xdT hy1_16) <|
        ee) (by kernel_rfl)
      ·rw [if_neg hy1_16] at h
       have k15 := fun {A L l} (k : PL A L l) => zz 60 (xdF hy1_16) <|
        k
       by_cases hy1_17 : (y1_3_.2.2.2.2.1) > (y1_11_.2.2.2.2.1)
       ·rw [if_pos hy1_17] at h
        obtain rfl := oI h
        exact runC2 hm (kW [2] [] 0 0) (k0 <|
         k3 <|
         k4 <|
         k13 <|
         k15 <|
         zz 67 (xdT hy1_17) <|
         ee) (by kernel_rfl)
       ·rw [if_neg hy1_17] at h
        have k16 := fun {A L l} (k : PL A L l) => zz 67 (xdF hy1_17) <|
         zz 76 (ok7 hy1_9 (hy1_8)) <|
         yy 82 (.sto (layT (rows qfq_ (((x1_1a :: x1_1t)).set (y1_6_).toNat ((y1_9_.1), (w64 ((y1_9_.2.1) + (1 : Int))), (y1_9_.2.2)))))) <|
         ww (p := ∃ old, rdT (layT (rows qfq_ (x1_1a :: x1_1t))) 1 (Nat.add ((y1_6_).toNat * 3) 1) = some old) (Exists.elim (q0u_ qhg_ (0, 0, 0) (hr := hy1_9) (i := (y1_6_).toNat) (j := 1) (l := [(i6 (w64 ((y1_9_.2.1) + (1 : Int))))]) ((y1_9_.1), (w64 ((y1_9_.2.1) + (1 : Int))), (y1_9_.2.2)) (Nat.add ((y1_6_).toNat * 3) 1) rfl (hy1_8) (Nat.le_of_ble_eq_true rfl) rfl) fun o h => ⟨o, h.1⟩) <|
         ww (p := layL [(i6 (w64 ((y1_9_.2.1) + (1 : Int))))] (Nat.add ((y1_6_).toNat * 3) 1) (layT (rows qfq_ (x1_1a :: x1_1t))) = layT (rows qfq_ (((x1_1a :: x1_1t)).set (y1_6_).toNat ((y1_9_.1), (w64 ((y1_9_.2.1) + (1 : Int))), (y1_9_.2.2))))) (Exists.elim (q0u_ qhg_ (0, 0, 0) (hr := hy1_9) (i := (y1_6_).toNat) (j := 1) (l := [(i6 (w64 ((y1_9_.2.1) + (1 : Int))))]) ((y1_9_.1), (w64 ((y1_9_.2.1) + (1 : Int))), (y1_9_.2.2)) (Nat.add ((y1_6_).toNat * 3) 1) rfl (hy1_8) (Nat.le_of_ble_eq_true rfl) rfl) fun o h => h.2) <|
         yy 85 (.sto (layT (rows qfq_ (((x1_1a :: x1_1t)).set (y1_6_).toNat ((y1_9_.1), (w64 ((y1_9_.2.1) + (1 : Int))), (y1_3_.2.2.2.2.1)))))) <|
         ww (p := ∃ old, rdT (layT (rows qfq_ (((x1_1a :: x1_1t)).set (y1_6_).toNat ((y1_9_.1), (w64 ((y1_9_.2.1) + (1 : Int))), (y1_9_.2.2))))) 1 (Nat.add ((y1_6_).toNat * 3) 2) = some old) (Exists.elim (rows_stS qhg_ (i := (y1_6_).toNat) (j := 2) (l := [(i6 (y1_3_.2.2.2.2.1))]) ((y1_9_.1), (w64 ((y1_9_.2.1) + (1 : Int))), (y1_9_.2.2)) ((y1_9_.1), (w64 ((y1_9_.2.1) + (1 : Int))), (y1_3_.2.2.2.2.1)) (Nat.add ((y1_6_).toNat * 3) 2) rfl (hy1_8) (Nat.le_of_ble_eq_true rfl) rfl) fun o h => ⟨o, h.1⟩) <|
         ww (p := layL [(i6 (y1_3_.2.2.2.2.1))] (Nat.add ((y1_6_).toNat * 3) 2) (layT (rows qfq_ (((x1_1a :: x1_1t)).set (y1_6_).toNat ((y1_9_.1), (w64 ((y1_9_.2.1) + (1 : Int))), (y1_9_.2.2))))) = layT (rows qfq_ (((x1_1a :: x1_1t)).set (y1_6_).toNat ((y1_9_.1), (w64 ((y1_9_.2.1) + (1 : Int))), (y1_3_.2.2.2.2.1))))) (Exists.elim (rows_stS qhg_ (i := (y1_6_).toNat) (j := 2) (l := [(i6 (y1_3_.2.2.2.2.1))]) ((y1_9_.1), (w64 ((y1_9_.2.1) + (1 : Int))), (y1_9_.2.2)) ((y1_9_.1), (w64 ((y1_9_.2.1) + (1 : Int))), (y1_3_.2.2.2.2.1)) (Nat.add ((y1_6_).toNat * 3) 2) rfl (hy1_8) (Nat.le_of_ble_eq_true rfl) rfl) fun o h => h.2) <|
         yy 90 (.ld (i6 (w64 ((y1_9_.2.1) + (1 : Int))))) <|
         ww (p := (layT (rows qfq_ (((x1_1a :: x1_1t)).set (y1_6_).toNat ((y1_9_.1), (w64 ((y1_9_.2.1) + (1 : Int))), (y1_3_.2.2.2.2.1))))).get (Nat.add ((y1_6_).toNat * 3) 1) = some (i6 (w64 ((y1_9_.2.1) + (1 : Int))))) (rows_ldS qhg_ (i := (y1_6_).toNat) (j := 1) ((y1_9_.1), (w64 ((y1_9_.2.1) + (1 : Int))), (y1_3_.2.2.2.2.1)) (Nat.add ((y1_6_).toNat * 3) 1) rfl (hy1_8) (by decide) rfl) <|
         k
        by_cases hy1_18 : (w64 ((y1_9_.2.1) + (1 : Int))) = ((((y1_11_.2.2.2.2.2.2.1)).l.length : Nat) : Int)
        ·rw [if_pos hy1_18] at h
         obtain ⟨hy1_19, h⟩ := gd h
         have k26 := fun {A L l} (k : PL A L l) => zz 94 (xeT hy1_18) <|
          zz 99 (xnm hy1_6) <|
          yy 100 (.pur (sN 0 0 (y1_6_).toNat (Nat.add big 3))) <|
          ww (p := qoa_ P 74 (sN 0 0 x1_2 (Nat.add big 3)) none (some (i6 y1_6_)) none Ax.h0 = some ((sN 0 0 (y1_6_).toNat (Nat.add big 3)), Ax.h0)) (slRowHi (e := 77) (es := 3) (by kernel_rfl) (by kernel_rfl) rfl rfl hy1_19) <|
          k
         by_cases hy1_20 : ((((y1_3_.2.2.2.2.2.2.1)).l.length : Nat) : Int) > (0 : Int)
         ·rw [if_pos hy1_20] at h
          obtain ⟨hy1_21, h⟩ := gd h
          obtain ⟨hy1_22, h⟩ := gd h
          obtain rfl := oI h
          obtain ⟨za, zt, hz⟩ : ∃ a t, ((List.take (y1_6_).toNat (((x1_1a :: x1_1t)).set (y1_6_).toNat ((y1_9_.1), (w64 ((y1_9_.2.1) + (1 : Int))), (y1_3_.2.2.2.2.1)))) ++ [(x1_4, (0 : Int), (y1_3_.2.2.1))]) = a :: t := q0x_ (List.take (y1_6_).toNat (((x1_1a :: x1_1t)).set (y1_6_).toNat ((y1_9_.1), (w64 ((y1_9_.2.1) + (1 : Int))), (y1_3_.2.2.2.2.1)))) (x1_4, (0 : Int), (y1_3_.2.2.1))
          rw [hz]
          try rw [hz] at k0
          try rw [hz] at k3
          try rw [hz] at k4
          try rw [hz] at k13
          try rw [hz] at k15
          try rw [hz] at k16
          try rw [hz] at k26
          exact runC2 hm (kW [0, 3, 8, 9, 10] [(0, 4, true)] 1 0) (k0 <|
           k3 <|
           k4 <|
           k13 <|
           k15 <|
           k16 <|
           k26 <|
           zz 106 (xdT hy1_20) <|
           yy 114 (.app ⟨none, rows qfq_ (List.take (y1_6_).toNat (((x1_1a :: x1_1t)).set (y1_6_).toNat ((y1_9_.1), (w64 ((y1_9_.2.1) + (1 : Int))), (y1_3_.2.2.2.2.1)))), (rows qfq_ (za :: zt)), ((za :: zt)).length, false⟩) <|
           ww (p := 0 < 1) ((by decide)) <|
           ww (p := rdT (layT (rows qfq_ (((x1_1a :: x1_1t)).set (y1_6_).toNat ((y1_9_.1), (w64 ((y1_9_.2.1) + (1 : Int))), (y1_3_.2.2.2.2.1))))) (Nat.mul (y1_6_).toNat 3) 0 = some (rows qfq_ (List.take (y1_6_).toNat (((x1_1a :: x1_1t)).set (y1_6_).toNat ((y1_9_.1), (w64 ((y1_9_.2.1) + (1 : Int))), (y1_3_.2.2.2.2.1)))))) (quu_ qhg_ _ _ hy1_21) <|
           ww (p := fits (Nat.add (y1_6_).toNat 1) 24 = true) (qmb_ hy1_22 (by have := hy1_22; show (_ : Nat) + _ ≤ _; omega)) <|
           ww (p := qbc_ [(i6 x1_4), (i6 (0 : Int)), (i6 (y1_3_.2.2.1))] = true) (rfl) <|
           ww (p := qbc_ (rows qfq_ (List.take (y1_6_).toNat (((x1_1a :: x1_1t)).set (y1_6_).toNat ((y1_9_.1), (w64 ((y1_9_.2.1) + (1 : Int))), (y1_3_.2.2.2.2.1))))) = true) (qmc_ qhg_ _) <|
           ww (p := rows qfq_ (List.take (y1_6_).toNat (((x1_1a :: x1_1t)).set (y1_6_).toNat ((y1_9_.1), (w64 ((y1_9_.2.1) + (1 : Int))), (y1_3_.2.2.2.2.1)))) ++ [(i6 x1_4), (i6 (0 : Int)), (i6 (y1_3_.2.2.1))] = (rows qfq_ (za :: zt))) (by rw [← hz]; exact (qs2_ qfq_ (List.take (y1_6_).toNat (((x1_1a :: x1_1t)).set (y1_6_).toNat ((y1_9_.1), (w64 ((y1_9_.2.1) + (1 : Int))), (y1_3_.2.2.2.2.1)))) [(x1_4, (0 : Int), (y1_3_.2.2.1))])) <|
           ww (p := Nat.add (y1_6_).toNat 1 = ((za :: zt)).length) (by rw [← hz]; exact (take_len hy1_21 rfl)) <|
           ww (qb_ qhg_ (za :: zt) 77) <|
           ee) (by kernel_rfl)
         ·rw [if_neg hy1_20] at h
          obtain rfl := oI h
          obtain ⟨za, zt, hz⟩ : ∃ a t, (((x1_1a :: x1_1t)).set (y1_6_).toNat ((y1_9_.1), (w64 ((y1_9_.2.1) + (1 : Int))), (y1_3_.2.2.2.2.1))) = a :: t := set_cons
          rw [hz]
          try rw [hz] at k0
          try rw [hz] at k3
          try rw [hz] at k4
          try rw [hz] at k13
          try rw [hz] at k15
          try rw [hz] at k16
          try rw [hz] at k26
          exact runC2 hm (kW [0, 3, 8, 9, 10] [(0, 0, true)] 1 0) (k0 <|
           k3 <|
           k4 <|
           k13 <|
           k15 <|
           k16 <|
           k26 <|
           zz 106 (xdF hy1_20) <|
           ww (qb_ qhg_ (za :: zt) 77) <|
           ee) (by kernel_rfl)
        ·rw [if_neg hy1_18] at h
         have k26 := fun {A L l} (k : PL A L l) => zz 94 (xeF hy1_18) <|
          k
         by_cases hy1_19 : ((((y1_3_.2.2.2.2.2.2.1)).l.length : Nat) : Int) > (0 : Int)
         ·rw [if_pos hy1_19] at h
          obtain ⟨hy1_20, h⟩ := gd h
          obtain ⟨hy1_21, h⟩ := gd h
          obtain rfl := oI h
          obtain ⟨za, zt, hz⟩ : ∃ a t, ((List.take x1_2 (((x1_1a :: x1_1t)).set (y1_6_).toNat ((y1_9_.1), (w64 ((y1_9_.2.1) + (1 : Int))), (y1_3_.2.2.2.2.1)))) ++ [(x1_4, (0 : Int), (y1_3_.2.2.1))]) = a :: t := q0x_ (List.take x1_2 (((x1_1a :: x1_1t)).set (y1_6_).toNat ((y1_9_.1), (w64 ((y1_9_.2.1) + (1 : Int))), (y1_3_.2.2.2.2.1)))) (x1_4, (0 : Int), (y1_3_.2.2.1))
          rw [hz]
          try rw [hz] at k0
          try rw [hz] at k3
          try rw [hz] at k4
          try rw [hz] at k13
          try rw [hz] at k15
          try rw [hz] at k16
          try rw [hz] at k26
          exact runC2 hm (kW [0, 3, 8, 9, 10] [(0, 4, true)] 1 0) (k0 <|
           k3 <|
           k4 <|
           k13 <|
           k15 <|
           k16 <|
           k26 <|
           zz 100 (xdT hy1_19) <|
           yy 108 (.app ⟨none, rows qfq_ (List.take x1_2 (((x1_1a :: x1_1t)).set (y1_6_).toNat ((y1_9_.1), (w64 ((y1_9_.2.1) + (1 : Int))), (y1_3_.2.2.2.2.1)))), (rows qfq_ (za :: zt)), ((za :: zt)).length, false⟩) <|
           ww (p := 0 < 1) ((by decide)) <|
           ww (p := rdT (layT (rows qfq_ (((x1_1a :: x1_1t)).set (y1_6_).toNat ((y1_9_.1), (w64 ((y1_9_.2.1) + (1 : Int))), (y1_3_.2.2.2.2.1))))) (Nat.mul x1_2 3) 0 = some (rows qfq_ (List.take x1_2 (((x1_1a :: x1_1t)).set (y1_6_).toNat ((y1_9_.1), (w64 ((y1_9_.2.1) + (1 : Int))), (y1_3_.2.2.2.2.1)))))) (quu_ qhg_ _ _ hy1_20) <|
           ww (p := fits (Nat.add x1_2 1) 24 = true) (qmb_ hy1_21 (by have := hy1_21; show (_ : Nat) + _ ≤ _; omega)) <|
           ww (p := qbc_ [(i6 x1_4), (i6 (0 : Int)), (i6 (y1_3_.2.2.1))] = true) (rfl) <|
           ww (p := qbc_ (rows qfq_ (List.take x1_2 (((x1_1a :: x1_1t)).set (y1_6_).toNat ((y1_9_.1), (w64 ((y1_9_.2.1) + (1 : Int))), (y1_3_.2.2.2.2.1))))) = true) (qmc_ qhg_ _) <|
           ww (p := rows qfq_ (List.take x1_2 (((x1_1a :: x1_1t)).set (y1_6_).toNat ((y1_9_.1), (w64 ((y1_9_.2.1) + (1 : Int))), (y1_3_.2.2.2.2.1)))) ++ [(i6 x1_4), (i6 (0 : Int)), (i6 (y1_3_.2.2.1))] = (rows qfq_ (za :: zt))) (by rw [← hz]; exact (qs2_ qfq_ (List.take x1_2 (((x1_1a :: x1_1t)).set (y1_6_).toNat ((y1_9_.1), (w64 ((y1_9_.2.1) + (1 : Int))), (y1_3_.2.2.2.2.1)))) [(x1_4, (0 : Int), (y1_3_.2.2.1))])) <|
           ww (p := Nat.add x1_2 1 = ((za :: zt)).length) (by rw [← hz]; exact (take_len hy1_20 rfl)) <|
           ww (qb_ qhg_ (za :: zt) 77) <|
           ee) (by kernel_rfl)
         ·rw [if_neg hy1_19] at h
          obtain rfl := oI h
          obtain ⟨za, zt, hz⟩ : ∃ a t, (((x1_1a :: x1_1t)).set (y1_6_).toNat ((y1_9_.1), (w64 ((y1_9_.2.1) + (1 : Int))), (y1_3_.2.2.2.2.1))) = a :: t := set_cons
          rw [hz]
          try rw [hz] at k0
          try rw [hz] at k3
          try rw [hz] at k4
          try rw [hz] at k13
          try rw [hz] at k15
          try rw [hz] at k16
          try rw [hz] at k26
          exact runC2 hm (kW [0, 3, 8, 9, 10] [(0, 0, true)] 1 0) (k0 <|
           k3 <|
           k4 <|
           k13 <|
           k15 <|
           k16 <|
           k26 <|
           zz 100 (xdF hy1_19) <|
           ww (qb_ qhg_ (za :: zt) 77) <|
           ee) (by kernel_rfl)
     ·rw [if_neg hy1_15] at h
      obtain rfl := oI h
      exact runC2 hm (kW [2] [] 0 0) (k0 <|
       k3 <|
       k4 <|
       zz 52 (xnT hy1_15) <|
       ee) (by kernel_rfl)
   ·rw [if_neg hy1_4] at h
    have k3 := fun {A L l} (k : PL A L l) => zz 16 (xdF hy1_4) <|
     k
    by_cases hy1_5 : ((((y1_3_.2.2.2.2.2.2.1)).l.length : Nat) : Int) > (0 : Int)
    ·rw [if_pos hy1_5] at h
     obtain ⟨hy1_6, h⟩ := gd h
     obtain ⟨hy1_7, h⟩ := gd h
     obtain rfl := oI h
     obtain ⟨za, zt, hz⟩ : ∃ a t, ((List.take x1_2 (x1_1a :: x1_1t)) ++ [(x1_4, (0 : Int), (y1_3_.2.2.1))]) = a :: t := q0x_ (List.take x1_2 (x1_1a :: x1_1t)) (x1_4, (0 : Int), (y1_3_.2.2.1))
     rw [hz]
     try rw [hz] at k0
     try rw [hz] at k3
     exact runC2 hm (kW [0, 3, 8, 9, 10] [(0, 3, true)] 1 0) (k0 <|
      k3 <|
      zz 22 (xdT hy1_5) <|
      yy 30 (.app ⟨none, rows qfq_ (List.take x1_2 (x1_1a :: x1_1t)), (rows qfq_ (za :: zt)), ((za :: zt)).length, false⟩) <|
      ww (p := 0 < 1) ((by decide)) <|
      ww (p := rdT (layT (rows qfq_ (x1_1a :: x1_1t))) (Nat.mul x1_2 3) 0 = some (rows qfq_ (List.take x1_2 (x1_1a :: x1_1t)))) (quu_ qhg_ _ _ hy1_6) <|
      ww (p := fits (Nat.add x1_2 1) 24 = true) (qmb_ hy1_7 (by have := hy1_7; show (_ : Nat) + _ ≤ _; omega)) <|
      ww (p := qbc_ [(i6 x1_4), (i6 (0 : Int)), (i6 (y1_3_.2.2.1))] = true) (rfl) <|
      ww (p := qbc_ (rows qfq_ (List.take x1_2 (x1_1a :: x1_1t))) = true) (qmc_ qhg_ _) <|
      ww (p := rows qfq_ (List.take x1_2 (x1_1a :: x1_1t)) ++ [(i6 x1_4), (i6 (0 : Int)), (i6 (y1_3_.2.2.1))] = (rows qfq_ (za :: zt))) (by rw [← hz]; exact (qs2_ qfq_ (List.take x1_2 (x1_1a :: x1_1t)) [(x1_4, (0 : Int), (y1_3_.2.2.1))])) <|
      ww (p := Nat.add x1_2 1 = ((za :: zt)).length) (by rw [← hz]; exact (take_len hy1_6 rfl)) <|
      ww (qb_ qhg_ (za :: zt) 77) <|
      ee) (by kernel_rfl)
    ·rw [if_neg hy1_5] at h
     obtain rfl := oI h
     exact runC2 hm (kW [0, 3, 8, 9, 10] [(0, 0, true)] 1 0) (k0 <|
      k3 <|
      zz 22 (xdF hy1_5) <|
      ww (qb_ qhg_ (x1_1a :: x1_1t) 77) <|
      ee) (by kernel_rfl)
  ·rw [if_neg hy1_1] at h
   obtain rfl := oI h
   exact runC2 hm (kW [3] [(0, 0, true)] 1 0) (zz 1 (xdF hy1_1) <|
    ww (qb_ qhg_ (x1_1a :: x1_1t) 77) <|
    ee) (by kernel_rfl)
theorem qhz_ (n : Nat) {rnd : Option Nat} (x1_0 : W8) (x1_3 : Int) (st : List (Int × Int × Int) × Nat × Int) (r : (Unit) ⊕ (List (Int × Int × Int) × Nat)) (h : qf7_ n x1_0 x1_3 st = some r) : qhv_ rnd x1_0 x1_3 st r :=
 CG.iter (b := qw_ P 52 [false, false, true, false, true, true]) (by kernel_rfl) (body := qd_ n x1_0 x1_3) (S := qhu_ x1_0 x1_3) (X := qcb_ x1_0 x1_3)
  (fun s s' h => qpu_ n x1_0 x1_3 s (.inl s') h)
  (fun s r h => qpu_ n x1_0 x1_3 s (.inr r) h)
  (fun r => by intro hx; rcases r with _ | _ <;> cases hx) h
def qfe_ (n : Nat) (a0 : W8) : Option (Bool) :=
 match qf7_ n a0 (((a0).l.length : Nat) : Int) (([] : List (Int × Int × Int)), 0, 0) with
 | none => none
 | some (.inl _) =>
  some false
 | some (.inr (c1_0, c1_1)) =>
  match c1_0 with
  | [] =>
   some true
  | c1_0a :: c1_0t =>
   if ((c1_1 : Nat) : Int) = (0 : Int) then
    some true
   else
    some false
theorem quv_ (n : Nat) (a0 : W8) (r : Bool) (h : qfe_ n a0 = some r) : qyp_ a0 r := by
 unfold qfe_ at h
 rcases hc1 : qf7_ n a0 (((a0).l.length : Nat) : Int) (([] : List (Int × Int × Int)), 0, 0) with _ | (⟨⟩ | ⟨c1_0, c1_1⟩)
 ·rw [hc1] at h; cases h
 ·rw [hc1] at h
  dsimp only at h
  obtain rfl := oI h
  exact runF2 hm (kW [2] [] 0 0) (ww (p := qhv_ none a0 (((a0).l.length : Nat) : Int) (([] : List (Int × Int × Int)), 0, 0) (.inl ())) (qhz_ n a0 (((a0).l.length : Nat) : Int) (([] : List (Int × Int × Int)), 0, 0) (.inl ()) hc1) <|
   ll 10 ⟨(kW [0, 3, 8, 9, 10] [] 1 0), (qcb_ a0 (((a0).l.length : Nat) : Int) (.inl ())).1, (qcb_ a0 (((a0).l.length : Nat) : Int) (.inl ())).2⟩ <|
   ee) (by kernel_rfl)
 ·rw [hc1] at h
  dsimp only at h
  cases c1_0 with
  | nil =>
   dsimp only at h
   obtain rfl := oI h
   exact runF2 hm (kW [2] [] 0 0) (ww (p := qhv_ none a0 (((a0).l.length : Nat) : Int) (([] : List (Int × Int × Int)), 0, 0) (.inr (([] : List (Int × Int × Int)), c1_1))) (qhz_ n a0 (((a0).l.length : Nat) : Int) (([] : List (Int × Int × Int)), 0, 0) (.inr (([] : List (Int × Int × Int)), c1_1)) hc1) <|
    ll 10 ⟨(kW [0, 3, 8, 9, 10] [] 1 0), (qcb_ a0 (((a0).l.length : Nat) : Int) (.inr (([] : List (Int × Int × Int)), c1_1))).1, (qcb_ a0 (((a0).l.length : Nat) : Int) (.inr (([] : List (Int × Int × Int)), c1_1))).2⟩ <|
    ee) (by kernel_rfl)
  | cons c1_0a c1_0t =>
   dsimp only at h
   have k0 := fun {A L l} (k : PL A L l) => ww (p := qhv_ none a0 (((a0).l.length : Nat) : Int) (([] : List (Int × Int × Int)), 0, 0) (.inr ((c1_0a :: c1_0t), c1_1))) (qhz_ n a0 (((a0).l.length : Nat) : Int) (([] : List (Int × Int × Int)), 0, 0) (.inr ((c1_0a :: c1_0t), c1_1)) hc1) <|
    ll 10 ⟨(kW [0, 3, 8, 9, 10] [] 1 0), (qcb_ a0 (((a0).l.length : Nat) : Int) (.inr ((c1_0a :: c1_0t), c1_1))).1, (qcb_ a0 (((a0).l.length : Nat) : Int) (.inr ((c1_0a :: c1_0t), c1_1))).2⟩ <|
    k
   by_cases hc2 : ((c1_1 : Nat) : Int) = (0 : Int)
   ·rw [if_pos hc2] at h
    obtain rfl := oI h
    exact runF2 hm (kW [2] [] 0 0) (k0 <|
     zz 14 (xeT hc2) <|
     ee) (by kernel_rfl)
   ·rw [if_neg hc2] at h
    obtain rfl := oI h
    exact runF2 hm (kW [2] [] 0 0) (k0 <|
     zz 14 (xeF hc2) <|
     ee) (by kernel_rfl)

def qvj_ (a0 : Int) (a1 : Int) (a2 : Int) (a3 : Int) (a4 : Int) (a5 : Int) (a6 : NL) (a7 : Int) (r : Bool) : Value := match r with
 | o0 => (bO o0)
def qvk_ (a0 : Int) (a1 : Int) (a2 : Int) (a3 : Int) (a4 : Int) (a5 : Int) (a6 : NL) (a7 : Int) (r : Bool) : AH := match r with
 | o0 => ⟨sB [], 0, 0⟩
abbrev G_treesoundq1 (a0 : Int) (a1 : Int) (a2 : Int) (a3 : Int) (a4 : Int) (a5 : Int) (a6 : NL) (a7 : Int) (r : Bool) : Prop := Gv P (.func 53) [(Value.agg #[(i6 a0), (i6 a1), (i6 a2), (i6 a3), (i6 a4), (i6 a5), (nlV a6), (Value.int .u64 a7)])] ⟨sB [], 0, 0⟩ (qvj_ a0 a1 a2 a3 a4 a5 a6 a7 r) (qvk_ a0 a1 a2 a3 a4 a5 a6 a7 r)
abbrev C_treesoundq1 (a0 : Int) (a1 : Int) (a2 : Int) (a3 : Int) (a4 : Int) (a5 : Int) (a6 : NL) (a7 : Int) (r : Bool) (ins outs : BL) : CallA := ⟨0, ins, qvj_ a0 a1 a2 a3 a4 a5 a6 a7 r, qvk_ a0 a1 a2 a3 a4 a5 a6 a7 r, outs⟩
def qd3_ (n : Nat) (a0 : Int) (a1 : Int) (a2 : Int) (a3 : Int) (a4 : Int) (a5 : Int) (a6 : NL) (a7 : Int) : Option (Bool) :=
 if a2 < (0 : Int) then
  some false
 else
  if a2 > a4 then
   some false
  else
   if a5 ≤ a2 then
    some false
   else
    if a1 = (1 : Int) then
     if a3 = a2 then
      some true
     else
      some false
    else
     if a1 = (2 : Int) then
      if a3 = a2 then
       some true
      else
       some false
     else
      if a1 = (4 : Int) then
       if a3 = a2 then
        if a4 = a2 then
         if (((a6).l.length : Nat) : Int) = (0 : Int) then
          some true
         else
          some false
        else
         some false
       else
        some false
      else
       if a1 = (3 : Int) then
        if a3 ≥ a2 then
         if a3 ≤ a4 then
          if (((a6).l.length : Nat) : Int) = (0 : Int) then
           some true
          else
           some false
         else
          some false
        else
         some false
       else
        if a1 = (5 : Int) then
         if a3 ≥ a2 then
          if a3 ≤ a4 then
           if (((a6).l.length : Nat) : Int) = (0 : Int) then
            some true
           else
            some false
          else
           some false
         else
          some false
        else
         if a1 = (6 : Int) then
          if a3 ≥ a2 then
           if a3 ≤ a4 then
            if (((a6).l.length : Nat) : Int) = (0 : Int) then
             some true
            else
             some false
           else
            some false
          else
           some false
         else
          some false
theorem qx4_ (n : Nat) (a0 : Int) (a1 : Int) (a2 : Int) (a3 : Int) (a4 : Int) (a5 : Int) (a6 : NL) (a7 : Int) (r : Bool) (h : qd3_ n a0 a1 a2 a3 a4 a5 a6 a7 = some r) : G_treesoundq1 a0 a1 a2 a3 a4 a5 a6 a7 r := by
 unfold qd3_ at h
 by_cases hc1 : a2 < (0 : Int)
 ·rw [if_pos hc1] at h
  obtain rfl := oI h
  exact runF2 hm (kW [2] [] 0 0) (zz 7 (xdT hc1) <|
   ee) (by kernel_rfl)
 ·rw [if_neg hc1] at h
  have k0 := fun {A L l} (k : PL A L l) => zz 7 (xdF hc1) <|
   k
  by_cases hc2 : a2 > a4
  ·rw [if_pos hc2] at h
   obtain rfl := oI h
   exact runF2 hm (kW [2] [] 0 0) (k0 <|
    zz 13 (xdT hc2) <|
    ee) (by kernel_rfl)
  ·rw [if_neg hc2] at h
   have k1 := fun {A L l} (k : PL A L l) => zz 13 (xdF hc2) <|
    k
   by_cases hc3 : a5 ≤ a2
   ·rw [if_pos hc3] at h
    obtain rfl := oI h
    exact runF2 hm (kW [2] [] 0 0) (k0 <|
     k1 <|
     zz 20 (xdT hc3) <|
     ee) (by kernel_rfl)
   ·rw [if_neg hc3] at h
    have k2 := fun {A L l} (k : PL A L l) => zz 20 (xdF hc3) <|
     k
    by_cases hc4 : a1 = (1 : Int)
    ·rw [if_pos hc4] at h
     have k3 := fun {A L l} (k : PL A L l) => zz 30 (xeT hc4) <|
      k
     by_cases hc5 : a3 = a2
     ·rw [if_pos hc5] at h
      obtain rfl := oI h
      exact runF2 hm (kW [2] [] 0 0) (k0 <|
       k1 <|
       k2 <|
       k3 <|
       zz 39 (xeT hc5) <|
       ee) (by kernel_rfl)
     ·rw [if_neg hc5] at h
      obtain rfl := oI h
      exact runF2 hm (kW [2] [] 0 0) (k0 <|
       k1 <|
       k2 <|
       k3 <|
       zz 39 (xeF hc5) <|
       ee) (by kernel_rfl)
    ·rw [if_neg hc4] at h
     have k3 := fun {A L l} (k : PL A L l) => zz 30 (xeF hc4) <|
      k
     by_cases hc5 : a1 = (2 : Int)
     ·rw [if_pos hc5] at h
      have k4 := fun {A L l} (k : PL A L l) => zz 33 (xeT hc5) <|
       k
      by_cases hc6 : a3 = a2
      ·rw [if_pos hc6] at h
       obtain rfl := oI h
       exact runF2 hm (kW [2] [] 0 0) (k0 <|
        k1 <|
        k2 <|
        k3 <|
        k4 <|
        zz 41 (xeT hc6) <|
        ee) (by kernel_rfl)
      ·rw [if_neg hc6] at h
       obtain rfl := oI h
       exact runF2 hm (kW [2] [] 0 0) (k0 <|
        k1 <|
        k2 <|
        k3 <|
        k4 <|
        zz 41 (xeF hc6) <|
        ee) (by kernel_rfl)
     ·rw [if_neg hc5] at h
      have k4 := fun {A L l} (k : PL A L l) => zz 33 (xeF hc5) <|
       k
      by_cases hc6 : a1 = (4 : Int)
      ·rw [if_pos hc6] at h
       have k5 := fun {A L l} (k : PL A L l) => zz 37 (xeT hc6) <|
        k
       by_cases hc7 : a3 = a2
       ·rw [if_pos hc7] at h
        have k6 := fun {A L l} (k : PL A L l) => zz 45 (xeT hc7) <|
         k
        by_cases hc8 : a4 = a2
        ·rw [if_pos hc8] at h
         have k7 := fun {A L l} (k : PL A L l) => zz 51 (xeT hc8) <|
          k
         by_cases hc9 : (((a6).l.length : Nat) : Int) = (0 : Int)
         ·rw [if_pos hc9] at h
          obtain rfl := oI h
          exact runF2 hm (kW [2] [] 0 0) (k0 <|
           k1 <|
           k2 <|
           k3 <|
           k4 <|
           k5 <|
           k6 <|
           k7 <|
           zz 57 (xeT hc9) <|
           ee) (by kernel_rfl)
         ·rw [if_neg hc9] at h
          obtain rfl := oI h
          exact runF2 hm (kW [2] [] 0 0) (k0 <|
           k1 <|
           k2 <|
           k3 <|
           k4 <|
           k5 <|
           k6 <|
           k7 <|
           zz 57 (xeF hc9) <|
           ee) (by kernel_rfl)
        ·rw [if_neg hc8] at h
         obtain rfl := oI h
         exact runF2 hm (kW [2] [] 0 0) (k0 <|
          k1 <|
          k2 <|
          k3 <|
          k4 <|
          k5 <|
          k6 <|
          zz 51 (xeF hc8) <|
          ee) (by kernel_rfl)
       ·rw [if_neg hc7] at h
        obtain rfl := oI h
        exact runF2 hm (kW [2] [] 0 0) (k0 <|
         k1 <|
         k2 <|
         k3 <|
         k4 <|
         k5 <|
         zz 45 (xeF hc7) <|
         ee) (by kernel_rfl)
      ·rw [if_neg hc6] at h
       have k5 := fun {A L l} (k : PL A L l) => zz 37 (xeF hc6) <|
        k
       by_cases hc7 : a1 = (3 : Int)
       ·rw [if_pos hc7] at h
        have k6 := fun {A L l} (k : PL A L l) => zz 42 (xeT hc7) <|
         k
        by_cases hc8 : a3 ≥ a2
        ·rw [if_pos hc8] at h
         have k7 := fun {A L l} (k : PL A L l) => zz 51 (xdT hc8) <|
          k
         by_cases hc9 : a3 ≤ a4
         ·rw [if_pos hc9] at h
          have k8 := fun {A L l} (k : PL A L l) => zz 57 (xdT hc9) <|
           k
          by_cases hc10 : (((a6).l.length : Nat) : Int) = (0 : Int)
          ·rw [if_pos hc10] at h
           obtain rfl := oI h
           exact runF2 hm (kW [2] [] 0 0) (k0 <|
            k1 <|
            k2 <|
            k3 <|
            k4 <|
            k5 <|
            k6 <|
            k7 <|
            k8 <|
            zz 63 (xeT hc10) <|
            ee) (by kernel_rfl)
          ·rw [if_neg hc10] at h
           obtain rfl := oI h
           exact runF2 hm (kW [2] [] 0 0) (k0 <|
            k1 <|
            k2 <|
            k3 <|
            k4 <|
            k5 <|
            k6 <|
            k7 <|
            k8 <|
            zz 63 (xeF hc10) <|
            ee) (by kernel_rfl)
         ·rw [if_neg hc9] at h
          obtain rfl := oI h
          exact runF2 hm (kW [2] [] 0 0) (k0 <|
           k1 <|
           k2 <|
           k3 <|
           k4 <|
           k5 <|
           k6 <|
           k7 <|
           zz 57 (xdF hc9) <|
           ee) (by kernel_rfl)
        ·rw [if_neg hc8] at h
         obtain rfl := oI h
         exact runF2 hm (kW [2] [] 0 0) (k0 <|
          k1 <|
          k2 <|
          k3 <|
          k4 <|
          k5 <|
          k6 <|
          zz 51 (xdF hc8) <|
          ee) (by kernel_rfl)
       ·rw [if_neg hc7] at h
        have k6 := fun {A L l} (k : PL A L l) => zz 42 (xeF hc7) <|
         k
        by_cases hc8 : a1 = (5 : Int)
        ·rw [if_pos hc8] at h
         have k7 := fun {A L l} (k : PL A L l) => zz 46 (xeT hc8) <|
          k
         by_cases hc9 : a3 ≥ a2
         ·rw [if_pos hc9] at h
          have k8 := fun {A L l} (k : PL A L l) => zz 55 (xdT hc9) <|
           k
          by_cases hc10 : a3 ≤ a4
          ·rw [if_pos hc10] at h
           have k9 := fun {A L l} (k : PL A L l) => zz 61 (xdT hc10) <|
            k
           by_cases hc11 : (((a6).l.length : Nat) : Int) = (0 : Int)
           ·rw [if_pos hc11] at h
            obtain rfl := oI h
            exact runF2 hm (kW [2] [] 0 0) (k0 <|
             k1 <|
             k2 <|
             k3 <|
             k4 <|
             k5 <|
             k6 <|
             k7 <|
             k8 <|
             k9 <|
             zz 67 (xeT hc11) <|
             ee) (by kernel_rfl)
           ·rw [if_neg hc11] at h
            obtain rfl := oI h
            exact runF2 hm (kW [2] [] 0 0) (k0 <|
             k1 <|
             k2 <|
             k3 <|
             k4 <|
             k5 <|
             k6 <|
             k7 <|
             k8 <|
             k9 <|
             zz 67 (xeF hc11) <|
             ee) (by kernel_rfl)
          ·rw [if_neg hc10] at h
           obtain rfl := oI h
           exact runF2 hm (kW [2] [] 0 0) (k0 <|
            k1 <|
            k2 <|
            k3 <|
            k4 <|
            k5 <|
            k6 <|
            k7 <|
            k8 <|
            zz 61 (xdF hc10) <|
            ee) (by kernel_rfl)
         ·rw [if_neg hc9] at h
          obtain rfl := oI h
          exact runF2 hm (kW [2] [] 0 0) (k0 <|
           k1 <|
           k2 <|
           k3 <|
           k4 <|
           k5 <|
           k6 <|
           k7 <|
           zz 55 (xdF hc9) <|
           ee) (by kernel_rfl)
        ·rw [if_neg hc8] at h
         have k7 := fun {A L l} (k : PL A L l) => zz 46 (xeF hc8) <|
          k
         by_cases hc9 : a1 = (6 : Int)
         ·rw [if_pos hc9] at h
          have k8 := fun {A L l} (k : PL A L l) => zz 49 (xeT hc9) <|
           k
          by_cases hc10 : a3 ≥ a2
          ·rw [if_pos hc10] at h
           have k9 := fun {A L l} (k : PL A L l) => zz 57 (xdT hc10) <|
            k
           by_cases hc11 : a3 ≤ a4
           ·rw [if_pos hc11] at h
            have k10 := fun {A L l} (k : PL A L l) => zz 63 (xdT hc11) <|
             k
            by_cases hc12 : (((a6).l.length : Nat) : Int) = (0 : Int)
            ·rw [if_pos hc12] at h
             obtain rfl := oI h
             exact runF2 hm (kW [2] [] 0 0) (k0 <|
              k1 <|
              k2 <|
              k3 <|
              k4 <|
              k5 <|
              k6 <|
              k7 <|
              k8 <|
              k9 <|
              k10 <|
              zz 69 (xeT hc12) <|
              ee) (by kernel_rfl)
            ·rw [if_neg hc12] at h
             obtain rfl := oI h
             exact runF2 hm (kW [2] [] 0 0) (k0 <|
              k1 <|
              k2 <|
              k3 <|
              k4 <|
              k5 <|
              k6 <|
              k7 <|
              k8 <|
              k9 <|
              k10 <|
              zz 69 (xeF hc12) <|
              ee) (by kernel_rfl)
           ·rw [if_neg hc11] at h
            obtain rfl := oI h
            exact runF2 hm (kW [2] [] 0 0) (k0 <|
             k1 <|
             k2 <|
             k3 <|
             k4 <|
             k5 <|
             k6 <|
             k7 <|
             k8 <|
             k9 <|
             zz 63 (xdF hc11) <|
             ee) (by kernel_rfl)
          ·rw [if_neg hc10] at h
           obtain rfl := oI h
           exact runF2 hm (kW [2] [] 0 0) (k0 <|
            k1 <|
            k2 <|
            k3 <|
            k4 <|
            k5 <|
            k6 <|
            k7 <|
            k8 <|
            zz 57 (xdF hc10) <|
            ee) (by kernel_rfl)
         ·rw [if_neg hc9] at h
          obtain rfl := oI h
          exact runF2 hm (kW [2] [] 0 0) (k0 <|
           k1 <|
           k2 <|
           k3 <|
           k4 <|
           k5 <|
           k6 <|
           k7 <|
           zz 49 (xeF hc9) <|
           ee) (by kernel_rfl)

def qvl_ (a0 : W8) (r : Int) : Value := match r with
 | o0 => (i6 o0)
def qvm_ (a0 : W8) (r : Int) : AH := match r with
 | o0 => ⟨sB [], 0, 0⟩
abbrev G_treeCheckq1 (a0 : W8) (r : Int) : Prop := Gv P (.func 32) [(wlV a0)] ⟨sB [], 0, 0⟩ (qvl_ a0 r) (qvm_ a0 r)
abbrev qnl_ (a0 : W8) (r : Int) (ins outs : BL) : CallA := ⟨0, ins, qvl_ a0 r, qvm_ a0 r, outs⟩
def qjx_ (x1_0 : W8) (x1_1 : Int) (st : Int) : XSt := match st with
 | x1_2 => (sT 36 [(16, (wlV x1_0)), (17, (i6 x1_1)), (18, (i6 x1_2))], [], ⟨sB [], 0, 0⟩)
def qff_ (x1_0 : W8) (x1_1 : Int) (r : (Unit) ⊕ (Unit)) : Ex × XSt := match r with
 | .inl _ => (.ret, (sT 36 [(2, (i6 (2 : Int)))], [], ⟨sB [], 0, 0⟩))
 | .inr _ => (.exit 0, (sT 36 [], [], ⟨sB [], 0, 0⟩))
abbrev qnx_ (rd : Option Nat) (x1_0 : W8) (x1_1 : Int) (st : Int) (r : (Unit) ⊕ (Unit)) : Prop := CG P rd (fnN P 32) 0 (qw_ P 32 [false, true, false, true, true, true]) (qjx_ x1_0 x1_1 st) (qff_ x1_0 x1_1 r)
def qb4_ (n : Nat) (x1_0 : W8) (x1_1 : Int) (st : Int) : Option ((Int) ⊕ ((Unit) ⊕ (Unit))) := match st with
 | x1_2 =>
  if x1_2 < x1_1 then
   if 0 ≤ x1_2 ∧ x1_2 < (((x1_0).l.length : Nat) : Int) then
    ((some (((x1_0).l).getD (x1_2).toNat (0, 0, 0, 0, 0, 0, nl0, 0)))).bind fun y1_3_ =>
    (qd3_ n (y1_3_.1) (y1_3_.2.1) (y1_3_.2.2.1) (y1_3_.2.2.2.1) (y1_3_.2.2.2.2.1) (y1_3_.2.2.2.2.2.1) (y1_3_.2.2.2.2.2.2.1) (y1_3_.2.2.2.2.2.2.2)).bind fun y1_4_ =>
    if y1_4_ = true then
     if (y1_3_.2.1) = (1 : Int) then
      if x1_2 > (0 : Int) then
       some (.inr (.inl ()))
      else
       some (.inl (w64 (x1_2 + (1 : Int))))
     else
      some (.inl (w64 (x1_2 + (1 : Int))))
    else
     some (.inr (.inl ()))
   else none
  else
   some (.inr (.inr ()))
def qhh_ (n : Nat) (x1_0 : W8) (x1_1 : Int) (st : Int) : Option ((Unit) ⊕ (Unit)) := iterM (qb4_ n x1_0 x1_1) n st
theorem qsf_ (n : Nat) {rnd : Option Nat} (x1_0 : W8) (x1_1 : Int) (x1_2 : Int) (o : (Int) ⊕ ((Unit) ⊕ (Unit))) (h : qb4_ n x1_0 x1_1 x1_2 = some o) : CG P rnd (fnN P 32) 0 (qw_ P 32 [false, false, true, false, true, true, true]) (qjx_ x1_0 x1_1 x1_2) (Sum.elim (fun s => (.normal, qjx_ x1_0 x1_1 s)) (fun r => qff_ x1_0 x1_1 r) o) := by
 unfold qb4_ at h
 dsimp only at h
 by_cases hy1_1 : x1_2 < x1_1
 ·rw [if_pos hy1_1] at h
  obtain ⟨hy1_2, h⟩ := gd h
  obtain ⟨y1_3_, hy1_3, h⟩ := oB h
  obtain ⟨y1_4_, hy1_4, h⟩ := oB h
  have k0 := fun {A L l} (k : PL A L l) => zz 1 (xdT hy1_1) <|
   zz 8 (xk1 (x1_0).num (x1_0).off (x1_0).cap hy1_2) <|
   zz 9 (lk2 hy1_3 (qba_ hy1_2)) <|
   yy 15 (.call (C_treesoundq1 (y1_3_.1) (y1_3_.2.1) (y1_3_.2.2.1) (y1_3_.2.2.2.1) (y1_3_.2.2.2.2.1) (y1_3_.2.2.2.2.2.1) (y1_3_.2.2.2.2.2.2.1) (y1_3_.2.2.2.2.2.2.2) y1_4_ [] [])) <|
   ww (qx4_ n (y1_3_.1) (y1_3_.2.1) (y1_3_.2.2.1) (y1_3_.2.2.2.1) (y1_3_.2.2.2.2.1) (y1_3_.2.2.2.2.2.1) (y1_3_.2.2.2.2.2.2.1) (y1_3_.2.2.2.2.2.2.2) y1_4_ hy1_4) <|
   k
  by_cases hy1_5 : y1_4_ = true
  ·rw [if_pos hy1_5] at h
   have k5 := fun {A L l} (k : PL A L l) => yy 16 (vf) <|
    ww (p := (Value.bool (!y1_4_)) = (Value.bool false)) (vBn hy1_5) <|
    k
   by_cases hy1_6 : (y1_3_.2.1) = (1 : Int)
   ·rw [if_pos hy1_6] at h
    have k7 := fun {A L l} (k : PL A L l) => zz 20 (xeT hy1_6) <|
     k
    by_cases hy1_7 : x1_2 > (0 : Int)
    ·rw [if_pos hy1_7] at h
     obtain rfl := oI h
     exact runC2 hm (kW [2] [] 0 0) (k0 <|
      k5 <|
      k7 <|
      zz 23 (xdT hy1_7) <|
      ee) (by kernel_rfl)
    ·rw [if_neg hy1_7] at h
     obtain rfl := oI h
     exact runC2 hm (kW [16, 17, 18] [] 0 0) (k0 <|
      k5 <|
      k7 <|
      zz 23 (xdF hy1_7) <|
      ee) (by kernel_rfl)
   ·rw [if_neg hy1_6] at h
    obtain rfl := oI h
    exact runC2 hm (kW [16, 17, 18] [] 0 0) (k0 <|
     k5 <|
     zz 20 (xeF hy1_6) <|
     ee) (by kernel_rfl)
  ·rw [if_neg hy1_5] at h
   obtain rfl := oI h
   exact runC2 hm (kW [2] [] 0 0) (k0 <|
    yy 16 (vt) <|
    ww (p := (Value.bool (!y1_4_)) = (Value.bool true)) (vBn (Bool.eq_false_iff.2 hy1_5)) <|
    ee) (by kernel_rfl)
 ·rw [if_neg hy1_1] at h
  obtain rfl := oI h
  exact runC2 hm (kW [] [] 0 0) (zz 1 (xdF hy1_1) <|
   ee) (by kernel_rfl)
theorem qoj_ (n : Nat) {rnd : Option Nat} (x1_0 : W8) (x1_1 : Int) (st : Int) (r : (Unit) ⊕ (Unit)) (h : qhh_ n x1_0 x1_1 st = some r) : qnx_ rnd x1_0 x1_1 st r :=
 CG.iter (b := qw_ P 32 [false, false, true, false, true, true, true]) (by kernel_rfl) (body := qb4_ n x1_0 x1_1) (S := qjx_ x1_0 x1_1) (X := qff_ x1_0 x1_1)
  (fun s s' h => qsf_ n x1_0 x1_1 s (.inl s') h)
  (fun s r h => qsf_ n x1_0 x1_1 s (.inr r) h)
  (fun r => by intro hx; rcases r with _ | _ <;> cases hx) h
def q6_ (n : Nat) (a0 : W8) : Option (Int) :=
 if (((a0).l.length : Nat) : Int) > (524288 : Int) then
  some 3
 else
  if (((a0).l.length : Nat) : Int) = (0 : Int) then
   some 2
  else
   (qfe_ n a0).bind fun c3_ =>
   if c3_ = true then
    match qhh_ n a0 (((a0).l.length : Nat) : Int) 0 with
    | none => none
    | some (.inl _) =>
     some 2
    | some (.inr _) =>
     some 0
   else
    some 2
theorem qiw_ (n : Nat) (a0 : W8) (r : Int) (h : q6_ n a0 = some r) : G_treeCheckq1 a0 r := by
 unfold q6_ at h
 by_cases hc1 : (((a0).l.length : Nat) : Int) > (524288 : Int)
 ·rw [if_pos hc1] at h
  obtain rfl := oI h
  exact runF2 hm (kW [2] [] 0 0) (zz 6 (xdT hc1) <|
   ee) (by kernel_rfl)
 ·rw [if_neg hc1] at h
  have k0 := fun {A L l} (k : PL A L l) => zz 6 (xdF hc1) <|
   k
  by_cases hc2 : (((a0).l.length : Nat) : Int) = (0 : Int)
  ·rw [if_pos hc2] at h
   obtain rfl := oI h
   exact runF2 hm (kW [2] [] 0 0) (k0 <|
    zz 12 (xeT hc2) <|
    ee) (by kernel_rfl)
  ·rw [if_neg hc2] at h
   obtain ⟨c3_, hc3, h⟩ := oB h
   have k1 := fun {A L l} (k : PL A L l) => zz 12 (xeF hc2) <|
    yy 15 (.call (qyq_ a0 c3_ [] [])) <|
    ww (quv_ n a0 c3_ hc3) <|
    k
   by_cases hc4 : c3_ = true
   ·rw [if_pos hc4] at h
    have k4 := fun {A L l} (k : PL A L l) => yy 16 (vf) <|
     ww (p := (Value.bool (!c3_)) = (Value.bool false)) (vBn hc4) <|
     k
    rcases hc5 : qhh_ n a0 (((a0).l.length : Nat) : Int) 0 with _ | (⟨⟩ | ⟨⟩)
    ·rw [hc5] at h; cases h
    ·rw [hc5] at h
     dsimp only at h
     obtain rfl := oI h
     exact runF2 hm (kW [2] [] 0 0) (k0 <|
      k1 <|
      k4 <|
      ww (p := qnx_ none a0 (((a0).l.length : Nat) : Int) 0 (.inl ())) (qoj_ n a0 (((a0).l.length : Nat) : Int) 0 (.inl ()) hc5) <|
      ll 25 ⟨(kW [16, 17, 18] [] 0 0), (qff_ a0 (((a0).l.length : Nat) : Int) (.inl ())).1, (qff_ a0 (((a0).l.length : Nat) : Int) (.inl ())).2⟩ <|
      ee) (by kernel_rfl)
    ·rw [hc5] at h
     dsimp only at h
     obtain rfl := oI h
     exact runF2 hm (kW [2] [] 0 0) (k0 <|
      k1 <|
      k4 <|
      ww (p := qnx_ none a0 (((a0).l.length : Nat) : Int) 0 (.inr ())) (qoj_ n a0 (((a0).l.length : Nat) : Int) 0 (.inr ()) hc5) <|
      ll 25 ⟨(kW [16, 17, 18] [] 0 0), (qff_ a0 (((a0).l.length : Nat) : Int) (.inr ())).1, (qff_ a0 (((a0).l.length : Nat) : Int) (.inr ())).2⟩ <|
      ee) (by kernel_rfl)
   ·rw [if_neg hc4] at h
    obtain rfl := oI h
    exact runF2 hm (kW [2] [] 0 0) (k0 <|
     k1 <|
     yy 16 (vt) <|
     ww (p := (Value.bool (!c3_)) = (Value.bool true)) (vBn (Bool.eq_false_iff.2 hc4)) <|
     ee) (by kernel_rfl)

def qt0_ (a0 : W8) (a1 : Int) (r : Unit) : Value := match r with
 | _ => (Value.func (.func 56) #[] #[(pN 0 0), (pN 1 0)])
def qt1_ (a0 : W8) (a1 : Int) (r : Unit) : AH := match r with
 | _ => ⟨sB [(0, (cB [(wlV a0)] 22)), (1, (cB [(i6 a1)] 3))], 2, 0⟩
abbrev q0y_ (a0 : W8) (a1 : Int) (r : Unit) : Prop := Gv P (.func 37) [(wlV a0), (i6 a1)] ⟨sB [], 0, 0⟩ (qt0_ a0 a1 r) (qt1_ a0 a1 r)
abbrev qt2_ (a0 : W8) (a1 : Int) (r : Unit) (ins outs : BL) : CallA := ⟨0, ins, qt0_ a0 a1 r, qt1_ a0 a1 r, outs⟩
def qg0_ (n : Nat) (a0 : W8) (a1 : Int) : Option (Unit) :=
 some ()
theorem qpv_ (n : Nat) (a0 : W8) (a1 : Int) (r : Unit) (h : qg0_ n a0 a1 = some r) : q0y_ a0 a1 r := by
 unfold qg0_ at h
 obtain rfl := oI h
 exact runF2 hm (kW [4] (iD 2) 2 0) (ee) (by kernel_rfl)

def qt3_ (a0 : Int) (a1 : Int) (a2 : Int) (a3 : Int) (a4 : Int) (a5 : Int) (a6 : NL) (a7 : Int) (r : Bool) : Value := match r with
 | o0 => (bO o0)
def qt4_ (a0 : Int) (a1 : Int) (a2 : Int) (a3 : Int) (a4 : Int) (a5 : Int) (a6 : NL) (a7 : Int) (r : Bool) : AH := match r with
 | o0 => ⟨sB [], 0, 0⟩
abbrev q0z_ (a0 : Int) (a1 : Int) (a2 : Int) (a3 : Int) (a4 : Int) (a5 : Int) (a6 : NL) (a7 : Int) (r : Bool) : Prop := Gv P (.func 38) [(Value.agg #[(i6 a0), (i6 a1), (i6 a2), (i6 a3), (i6 a4), (i6 a5), (nlV a6), (Value.int .u64 a7)])] ⟨sB [], 0, 0⟩ (qt3_ a0 a1 a2 a3 a4 a5 a6 a7 r) (qt4_ a0 a1 a2 a3 a4 a5 a6 a7 r)
abbrev q00_ (a0 : Int) (a1 : Int) (a2 : Int) (a3 : Int) (a4 : Int) (a5 : Int) (a6 : NL) (a7 : Int) (r : Bool) (ins outs : BL) : CallA := ⟨0, ins, qt3_ a0 a1 a2 a3 a4 a5 a6 a7 r, qt4_ a0 a1 a2 a3 a4 a5 a6 a7 r, outs⟩
def qlp_ (n : Nat) (a0 : Int) (a1 : Int) (a2 : Int) (a3 : Int) (a4 : Int) (a5 : Int) (a6 : NL) (a7 : Int) : Option (Bool) :=
 if a1 = (1 : Int) then
  some true
 else
  if a1 = (2 : Int) then
   some true
  else
   some false
theorem qv6_ (n : Nat) (a0 : Int) (a1 : Int) (a2 : Int) (a3 : Int) (a4 : Int) (a5 : Int) (a6 : NL) (a7 : Int) (r : Bool) (h : qlp_ n a0 a1 a2 a3 a4 a5 a6 a7 = some r) : q0z_ a0 a1 a2 a3 a4 a5 a6 a7 r := by
 unfold qlp_ at h
 by_cases hc1 : a1 = (1 : Int)
 ·rw [if_pos hc1] at h
  obtain rfl := oI h
  exact runF2 hm (kW [2] [] 0 0) (zz 6 (xeT hc1) <|
   ee) (by kernel_rfl)
 ·rw [if_neg hc1] at h
  have k0 := fun {A L l} (k : PL A L l) => zz 6 (xeF hc1) <|
   k
  by_cases hc2 : a1 = (2 : Int)
  ·rw [if_pos hc2] at h
   obtain rfl := oI h
   exact runF2 hm (kW [2] [] 0 0) (k0 <|
    zz 10 (xeT hc2) <|
    ee) (by kernel_rfl)
  ·rw [if_neg hc2] at h
   obtain rfl := oI h
   exact runF2 hm (kW [2] [] 0 0) (k0 <|
    zz 10 (xeF hc2) <|
    ee) (by kernel_rfl)

def qok_ (a0 : W8) (a1 : Int) (a2 : Int) (a3 : Int) (a4 : Bool) (a5 : W8) (a6 : Int) (a7 : Int) (r : (Unit) ⊕ (Unit)) : Value := match r with
 | .inl _ => (bO false)
 | .inr _ => (bO true)
def qol_ (a0 : W8) (a1 : Int) (a2 : Int) (a3 : Int) (a4 : Bool) (a5 : W8) (a6 : Int) (a7 : Int) (r : (Unit) ⊕ (Unit)) : AH := match r with
 | .inl _ => ⟨sB [(0, (some (rblk P 18 [false, true, false, true, true] .done (some .ret) [(3, (pN 2 0)), (4, (pN 3 0)), (5, (pN 4 0)), (6, (pN 5 0)), (7, (pN 6 0)), (14, (Value.func (.func 56) #[] #[(pN 7 0), (pN 8 0)]))] 1))), (1, (some (.marks true))), (2, (cB [(wlV a0)] 22)), (3, (cB [(i6 a1)] 3)), (4, (cB [(i6 a2)] 3)), (5, (cB [(i6 a7)] 3)), (6, (cB [(bO true)] 4)), (7, (cB [(wlV a5)] 22)), (8, (cB [(i6 a6)] 3))], 9, 0⟩
 | .inr _ => ⟨sB [(0, (some (rblk P 18 [false, true, false, true, true] .ready none [(3, (pN 2 0)), (4, (pN 3 0)), (5, (pN 4 0)), (6, (pN 5 0)), (7, (pN 6 0)), (14, (Value.func (.func 56) #[] #[(pN 7 0), (pN 8 0)]))] 1))), (1, (some (.marks true))), (2, (cB [(wlV a0)] 22)), (3, (cB [(i6 a1)] 3)), (4, (cB [(i6 a2)] 3)), (5, (cB [(i6 a3)] 3)), (6, (cB [(bO a4)] 4)), (7, (cB [(wlV a5)] 22)), (8, (cB [(i6 a6)] 3))], 9, 0⟩
abbrev quw_ (a0 : W8) (a1 : Int) (a2 : Int) (a3 : Int) (a4 : Bool) (a5 : W8) (a6 : Int) (a7 : Int) (r : (Unit) ⊕ (Unit)) : Prop := Gv P (.yield 0) [(i6 a7)] ⟨sB [(0, (some (rblk P 18 [false, true, false, true, true] .ready none [(3, (pN 2 0)), (4, (pN 3 0)), (5, (pN 4 0)), (6, (pN 5 0)), (7, (pN 6 0)), (14, (Value.func (.func 56) #[] #[(pN 7 0), (pN 8 0)]))] 1))), (1, (some (.marks true))), (2, (cB [(wlV a0)] 22)), (3, (cB [(i6 a1)] 3)), (4, (cB [(i6 a2)] 3)), (5, (cB [(i6 a3)] 3)), (6, (cB [(bO a4)] 4)), (7, (cB [(wlV a5)] 22)), (8, (cB [(i6 a6)] 3))], 9, 9⟩ (qok_ a0 a1 a2 a3 a4 a5 a6 a7 r) (qol_ a0 a1 a2 a3 a4 a5 a6 a7 r)
abbrev qom_ (a0 : W8) (a1 : Int) (a2 : Int) (a3 : Int) (a4 : Bool) (a5 : W8) (a6 : Int) (a7 : Int) (r : (Unit) ⊕ (Unit)) (ins outs : BL) : CallA := ⟨9, ins, qok_ a0 a1 a2 a3 a4 a5 a6 a7 r, qol_ a0 a1 a2 a3 a4 a5 a6 a7 r, outs⟩
def qd5_ (n : Nat) (a0 : W8) (a1 : Int) (a2 : Int) (a3 : Int) (a4 : Bool) (a5 : W8) (a6 : Int) (a7 : Int) : Option ((Unit) ⊕ (Unit)) :=
 if 0 ≤ a7 ∧ a7 < (((a0).l.length : Nat) : Int) then
  ((some (((a0).l).getD (a7).toNat (0, 0, 0, 0, 0, 0, nl0, 0)))).bind fun c2_ =>
  (qlp_ n (c2_.1) (c2_.2.1) (c2_.2.2.1) (c2_.2.2.2.1) (c2_.2.2.2.2.1) (c2_.2.2.2.2.2.1) (c2_.2.2.2.2.2.2.1) (c2_.2.2.2.2.2.2.2)).bind fun c3_ =>
  if c3_ = true then
   if (c2_.1) = a1 then
    if (c2_.2.2.1) = a2 then
     some (.inl ())
    else
     some (.inr ())
   else
    some (.inr ())
  else
   some (.inr ())
 else none
theorem qlb_ (n : Nat) (a0 : W8) (a1 : Int) (a2 : Int) (a3 : Int) (a4 : Bool) (a5 : W8) (a6 : Int) (a7 : Int) (r : (Unit) ⊕ (Unit)) (h : qd5_ n a0 a1 a2 a3 a4 a5 a6 a7 = some r) : quw_ a0 a1 a2 a3 a4 a5 a6 a7 r := by
 unfold qd5_ at h
 obtain ⟨hc1, h⟩ := gd h
 obtain ⟨c2_, hc2, h⟩ := oB h
 obtain ⟨c3_, hc3, h⟩ := oB h
 have k0 := fun {A L l} (k : PL A L l) => zz 4 (xk1 (a0).num (a0).off (a0).cap hc1) <|
  zz 5 (lk2 hc2 (qba_ hc1)) <|
  yy 10 (.call (q00_ (c2_.1) (c2_.2.1) (c2_.2.2.1) (c2_.2.2.2.1) (c2_.2.2.2.2.1) (c2_.2.2.2.2.2.1) (c2_.2.2.2.2.2.2.1) (c2_.2.2.2.2.2.2.2) c3_ [] [])) <|
  ww (qv6_ n (c2_.1) (c2_.2.1) (c2_.2.2.1) (c2_.2.2.2.1) (c2_.2.2.2.2.1) (c2_.2.2.2.2.2.1) (c2_.2.2.2.2.2.2.1) (c2_.2.2.2.2.2.2.2) c3_ hc3) <|
  k
 by_cases hc4 : c3_ = true
 ·rw [if_pos hc4] at h
  have k4 := fun {A L l} (k : PL A L l) => zz 11 (xbT hc4) <|
   k
  by_cases hc5 : (c2_.1) = a1
  ·rw [if_pos hc5] at h
   have k5 := fun {A L l} (k : PL A L l) => zz 15 (xeT hc5) <|
    k
   by_cases hc6 : (c2_.2.2.1) = a2
   ·rw [if_pos hc6] at h
    obtain rfl := oI h
    exact runY2 hm (kW [] (iD 9) 9 0) (ee) (k0 <|
     k4 <|
     k5 <|
     zz 21 (xeT hc6) <|
     ee) (by kernel_rfl)
   ·rw [if_neg hc6] at h
    obtain rfl := oI h
    exact runY2 hm (kW [] (iD 9) 9 0) (ee) (k0 <|
     k4 <|
     k5 <|
     zz 21 (xeF hc6) <|
     ee) (by kernel_rfl)
  ·rw [if_neg hc5] at h
   obtain rfl := oI h
   exact runY2 hm (kW [] (iD 9) 9 0) (ee) (k0 <|
    k4 <|
    zz 15 (xeF hc5) <|
    ee) (by kernel_rfl)
 ·rw [if_neg hc4] at h
  obtain rfl := oI h
  exact runY2 hm (kW [] (iD 9) 9 0) (ee) (k0 <|
   zz 11 (xbF hc4) <|
   ee) (by kernel_rfl)

def qj8_ (a0 : W8) (a1 : Int) (a2 : W8) (a3 : Int) (a4 : Int) (a5 : Int) (a6 : Bool) (a7 : W8) (a8 : Int) : List Value := [(wlV a0), (i6 a1), (Value.func (.yield 0) #[] #[])]
def qj9_ (a0 : W8) (a1 : Int) (a2 : W8) (a3 : Int) (a4 : Int) (a5 : Int) (a6 : Bool) (a7 : W8) (a8 : Int) : AH := ⟨sB [(0, (some (rblk P 18 [false, true, false, true, true] .ready none [(3, (pN 2 0)), (4, (pN 3 0)), (5, (pN 4 0)), (6, (pN 5 0)), (7, (pN 6 0)), (14, (Value.func (.func 56) #[] #[(pN 7 0), (pN 8 0)]))] 1))), (1, (some (.marks true))), (2, (cB [(wlV a2)] 22)), (3, (cB [(i6 a3)] 3)), (4, (cB [(i6 a4)] 3)), (5, (cB [(i6 a5)] 3)), (6, (cB [(bO a6)] 4)), (7, (cB [(wlV a7)] 22)), (8, (cB [(i6 a8)] 3))], 9, 9⟩
def qh9_ (a0 : W8) (a1 : Int) (a2 : W8) (a3 : Int) (a4 : Int) (a5 : Int) (a6 : Bool) (a7 : W8) (a8 : Int) (r : (Int) ⊕ (Unit)) : Value := match r with
 | .inl o0 => (bO false)
 | .inr _ => (bO true)
def qia_ (a0 : W8) (a1 : Int) (a2 : W8) (a3 : Int) (a4 : Int) (a5 : Int) (a6 : Bool) (a7 : W8) (a8 : Int) (r : (Int) ⊕ (Unit)) : AH := match r with
 | .inl o0 => ⟨sB [(0, (some (rblk P 18 [false, true, false, true, true] .done (some .ret) [(3, (pN 2 0)), (4, (pN 3 0)), (5, (pN 4 0)), (6, (pN 5 0)), (7, (pN 6 0)), (14, (Value.func (.func 56) #[] #[(pN 7 0), (pN 8 0)]))] 1))), (1, (some (.marks true))), (2, (cB [(wlV a2)] 22)), (3, (cB [(i6 a3)] 3)), (4, (cB [(i6 a4)] 3)), (5, (cB [(i6 o0)] 3)), (6, (cB [(bO true)] 4)), (7, (cB [(wlV a7)] 22)), (8, (cB [(i6 a8)] 3))], 9, 0⟩
 | .inr _ => ⟨sB [(0, (some (rblk P 18 [false, true, false, true, true] .ready none [(3, (pN 2 0)), (4, (pN 3 0)), (5, (pN 4 0)), (6, (pN 5 0)), (7, (pN 6 0)), (14, (Value.func (.func 56) #[] #[(pN 7 0), (pN 8 0)]))] 1))), (1, (some (.marks true))), (2, (cB [(wlV a2)] 22)), (3, (cB [(i6 a3)] 3)), (4, (cB [(i6 a4)] 3)), (5, (cB [(i6 a5)] 3)), (6, (cB [(bO a6)] 4)), (7, (cB [(wlV a7)] 22)), (8, (cB [(i6 a8)] 3))], 9, 0⟩
abbrev G_treevisitq1 (a0 : W8) (a1 : Int) (a2 : W8) (a3 : Int) (a4 : Int) (a5 : Int) (a6 : Bool) (a7 : W8) (a8 : Int) (r : (Int) ⊕ (Unit)) : Prop := Gv P (.func 57) (qj8_ a0 a1 a2 a3 a4 a5 a6 a7 a8) (qj9_ a0 a1 a2 a3 a4 a5 a6 a7 a8) (qh9_ a0 a1 a2 a3 a4 a5 a6 a7 a8 r) (qia_ a0 a1 a2 a3 a4 a5 a6 a7 a8 r)
abbrev qnm_ (a0 : W8) (a1 : Int) (a2 : W8) (a3 : Int) (a4 : Int) (a5 : Int) (a6 : Bool) (a7 : W8) (a8 : Int) (r : (Int) ⊕ (Unit)) (ins outs : BL) : CallA := ⟨9, ins, qh9_ a0 a1 a2 a3 a4 a5 a6 a7 a8 r, qia_ a0 a1 a2 a3 a4 a5 a6 a7 a8 r, outs⟩
def qjy_ (x1_0 : W8) (x1_1 : Int) (x1_2 : Int) (x1_3 : Int) (x1_4 : Bool) (x1_5 : W8) (x1_6 : Int) (x1_7 : W8) (x1_8 : NL) (x1_9 : Int) (st : Int) : XSt := match st with
 | x1_10 => (sT 29 [(0, (wlV x1_7)), (2, (Value.func (.yield 0) #[] #[])), (17, (nlV x1_8)), (18, (i6 x1_9)), (19, (i6 x1_10))], [], ⟨sB [(0, (some (rblk P 18 [false, true, false, true, true] .ready none [(3, (pN 2 0)), (4, (pN 3 0)), (5, (pN 4 0)), (6, (pN 5 0)), (7, (pN 6 0)), (14, (Value.func (.func 56) #[] #[(pN 7 0), (pN 8 0)]))] 1))), (1, (some (.marks true))), (2, (cB [(wlV x1_0)] 22)), (3, (cB [(i6 x1_1)] 3)), (4, (cB [(i6 x1_2)] 3)), (5, (cB [(i6 x1_3)] 3)), (6, (cB [(bO x1_4)] 4)), (7, (cB [(wlV x1_5)] 22)), (8, (cB [(i6 x1_6)] 3))], 9, 0⟩)
def qfg_ (x1_0 : W8) (x1_1 : Int) (x1_2 : Int) (x1_3 : Int) (x1_4 : Bool) (x1_5 : W8) (x1_6 : Int) (x1_7 : W8) (x1_8 : NL) (x1_9 : Int) (r : (Int) ⊕ (Unit)) : Ex × XSt := match r with
 | .inl z1_0 => (.ret, (sT 29 [(6, (bO false))], [], ⟨sB [(0, (some (rblk P 18 [false, true, false, true, true] .done (some .ret) [(3, (pN 2 0)), (4, (pN 3 0)), (5, (pN 4 0)), (6, (pN 5 0)), (7, (pN 6 0)), (14, (Value.func (.func 56) #[] #[(pN 7 0), (pN 8 0)]))] 1))), (1, (some (.marks true))), (2, (cB [(wlV x1_0)] 22)), (3, (cB [(i6 x1_1)] 3)), (4, (cB [(i6 x1_2)] 3)), (5, (cB [(i6 z1_0)] 3)), (6, (cB [(bO true)] 4)), (7, (cB [(wlV x1_5)] 22)), (8, (cB [(i6 x1_6)] 3))], 9, 0⟩))
 | .inr _ => (.exit 0, (sT 29 [], [], ⟨sB [(0, (some (rblk P 18 [false, true, false, true, true] .ready none [(3, (pN 2 0)), (4, (pN 3 0)), (5, (pN 4 0)), (6, (pN 5 0)), (7, (pN 6 0)), (14, (Value.func (.func 56) #[] #[(pN 7 0), (pN 8 0)]))] 1))), (1, (some (.marks true))), (2, (cB [(wlV x1_0)] 22)), (3, (cB [(i6 x1_1)] 3)), (4, (cB [(i6 x1_2)] 3)), (5, (cB [(i6 x1_3)] 3)), (6, (cB [(bO x1_4)] 4)), (7, (cB [(wlV x1_5)] 22)), (8, (cB [(i6 x1_6)] 3))], 9, 0⟩))
abbrev qny_ (rd : Option Nat) (x1_0 : W8) (x1_1 : Int) (x1_2 : Int) (x1_3 : Int) (x1_4 : Bool) (x1_5 : W8) (x1_6 : Int) (x1_7 : W8) (x1_8 : NL) (x1_9 : Int) (st : Int) (r : (Int) ⊕ (Unit)) : Prop := CG P rd (fnN P 57) 9 (qw_ P 57 [false, true, false, true, true]) (qjy_ x1_0 x1_1 x1_2 x1_3 x1_4 x1_5 x1_6 x1_7 x1_8 x1_9 st) (qfg_ x1_0 x1_1 x1_2 x1_3 x1_4 x1_5 x1_6 x1_7 x1_8 x1_9 r)
def qck_ (rec_treevisitq1 : (W8) → (Int) → (W8) → (Int) → (Int) → (Int) → (Bool) → (W8) → (Int) → Option ((Int) ⊕ (Unit))) (n : Nat) (x1_0 : W8) (x1_1 : Int) (x1_2 : Int) (x1_3 : Int) (x1_4 : Bool) (x1_5 : W8) (x1_6 : Int) (x1_7 : W8) (x1_8 : NL) (x1_9 : Int) (st : Int) : Option ((Int) ⊕ ((Int) ⊕ (Unit))) := match st with
 | x1_10 =>
  if x1_10 < x1_9 then
   if 0 ≤ x1_10 ∧ x1_10 < (((x1_8).l.length : Nat) : Int) then
    if (x1_10).toNat < ((x1_8).l).length then
     ((some (((x1_8).l).getD (x1_10).toNat 0))).bind fun y1_4_ =>
     match rec_treevisitq1 x1_7 y1_4_ x1_0 x1_1 x1_2 x1_3 x1_4 x1_5 x1_6 with
     | none => none
     | some (.inl y1_5_) =>
      some (.inr (.inl y1_5_))
     | some (.inr _) =>
      some (.inl (w64 (x1_10 + (1 : Int))))
    else none
   else none
  else
   some (.inr (.inr ()))
def qjz_ (rec_treevisitq1 : (W8) → (Int) → (W8) → (Int) → (Int) → (Int) → (Bool) → (W8) → (Int) → Option ((Int) ⊕ (Unit))) (n : Nat) (x1_0 : W8) (x1_1 : Int) (x1_2 : Int) (x1_3 : Int) (x1_4 : Bool) (x1_5 : W8) (x1_6 : Int) (x1_7 : W8) (x1_8 : NL) (x1_9 : Int) (st : Int) : Option ((Int) ⊕ (Unit)) := iterM (qck_ rec_treevisitq1 n x1_0 x1_1 x1_2 x1_3 x1_4 x1_5 x1_6 x1_7 x1_8 x1_9) n st
theorem qsg_ (rec_treevisitq1 : (W8) → (Int) → (W8) → (Int) → (Int) → (Int) → (Bool) → (W8) → (Int) → Option ((Int) ⊕ (Unit))) (hrec_treevisitq1 : ∀ (a0 : W8) (a1 : Int) (a2 : W8) (a3 : Int) (a4 : Int) (a5 : Int) (a6 : Bool) (a7 : W8) (a8 : Int) (r : (Int) ⊕ (Unit)), rec_treevisitq1 a0 a1 a2 a3 a4 a5 a6 a7 a8 = some r → Gv P (.func 57) (qj8_ a0 a1 a2 a3 a4 a5 a6 a7 a8) (qj9_ a0 a1 a2 a3 a4 a5 a6 a7 a8) (qh9_ a0 a1 a2 a3 a4 a5 a6 a7 a8 r) (qia_ a0 a1 a2 a3 a4 a5 a6 a7 a8 r)) (n : Nat) {rnd : Option Nat} (x1_0 : W8) (x1_1 : Int) (x1_2 : Int) (x1_3 : Int) (x1_4 : Bool) (x1_5 : W8) (x1_6 : Int) (x1_7 : W8) (x1_8 : NL) (x1_9 : Int) (x1_10 : Int) (o : (Int) ⊕ ((Int) ⊕ (Unit))) (h : qck_ rec_treevisitq1 n x1_0 x1_1 x1_2 x1_3 x1_4 x1_5 x1_6 x1_7 x1_8 x1_9 x1_10 = some o) : CG P rnd (fnN P 57) 9 (qw_ P 57 [false, false, true, false, true, true]) (qjy_ x1_0 x1_1 x1_2 x1_3 x1_4 x1_5 x1_6 x1_7 x1_8 x1_9 x1_10) (Sum.elim (fun s => (.normal, qjy_ x1_0 x1_1 x1_2 x1_3 x1_4 x1_5 x1_6 x1_7 x1_8 x1_9 s)) (fun r => qfg_ x1_0 x1_1 x1_2 x1_3 x1_4 x1_5 x1_6 x1_7 x1_8 x1_9 r) o) := by
 unfold qck_ at h
 dsimp only at h
 by_cases hy1_1 : x1_10 < x1_9
 ·rw [if_pos hy1_1] at h
  obtain ⟨hy1_2, h⟩ := gd h
  obtain ⟨hy1_3, h⟩ := gd h
  obtain ⟨y1_4_, hy1_4, h⟩ := oB h
  have k0 := fun {A L l} (k : PL A L l) => zz 1 (xdT hy1_1) <|
   zz 7 (xk8 (Nat.add (x1_8).num 64) (x1_8).off (x1_8).cap hy1_2) <|
   zz 8 (nk9 hy1_4 hy1_3) <|
   k
  rcases hy1_5 : rec_treevisitq1 x1_7 y1_4_ x1_0 x1_1 x1_2 x1_3 x1_4 x1_5 x1_6 with _ | (y1_5_ | ⟨⟩)
  ·rw [hy1_5] at h; cases h
  ·rw [hy1_5] at h
   dsimp only at h
   obtain rfl := oI h
   exact runC2 hm (kW [6] (iD 9) 9 0) (k0 <|
    yy 14 (.call (qnm_ x1_7 y1_4_ x1_0 x1_1 x1_2 x1_3 x1_4 x1_5 x1_6 (.inl y1_5_) (iD 9) (iD 9))) <|
    ww (hrec_treevisitq1 x1_7 y1_4_ x1_0 x1_1 x1_2 x1_3 x1_4 x1_5 x1_6 (.inl y1_5_) hy1_5) <|
    ee) (by kernel_rfl)
  ·rw [hy1_5] at h
   dsimp only at h
   obtain rfl := oI h
   exact runC2 hm (kW [0, 2, 17, 18, 19] (iD 9) 9 0) (k0 <|
    yy 14 (.call (qnm_ x1_7 y1_4_ x1_0 x1_1 x1_2 x1_3 x1_4 x1_5 x1_6 (.inr ()) (iD 9) (iD 9))) <|
    ww (hrec_treevisitq1 x1_7 y1_4_ x1_0 x1_1 x1_2 x1_3 x1_4 x1_5 x1_6 (.inr ()) hy1_5) <|
    ee) (by kernel_rfl)
 ·rw [if_neg hy1_1] at h
  obtain rfl := oI h
  exact runC2 hm (kW [] (iD 9) 9 0) (zz 1 (xdF hy1_1) <|
   ee) (by kernel_rfl)
theorem qon_ (rec_treevisitq1 : (W8) → (Int) → (W8) → (Int) → (Int) → (Int) → (Bool) → (W8) → (Int) → Option ((Int) ⊕ (Unit))) (hrec_treevisitq1 : ∀ (a0 : W8) (a1 : Int) (a2 : W8) (a3 : Int) (a4 : Int) (a5 : Int) (a6 : Bool) (a7 : W8) (a8 : Int) (r : (Int) ⊕ (Unit)), rec_treevisitq1 a0 a1 a2 a3 a4 a5 a6 a7 a8 = some r → Gv P (.func 57) (qj8_ a0 a1 a2 a3 a4 a5 a6 a7 a8) (qj9_ a0 a1 a2 a3 a4 a5 a6 a7 a8) (qh9_ a0 a1 a2 a3 a4 a5 a6 a7 a8 r) (qia_ a0 a1 a2 a3 a4 a5 a6 a7 a8 r)) (n : Nat) {rnd : Option Nat} (x1_0 : W8) (x1_1 : Int) (x1_2 : Int) (x1_3 : Int) (x1_4 : Bool) (x1_5 : W8) (x1_6 : Int) (x1_7 : W8) (x1_8 : NL) (x1_9 : Int) (st : Int) (r : (Int) ⊕ (Unit)) (h : qjz_ rec_treevisitq1 n x1_0 x1_1 x1_2 x1_3 x1_4 x1_5 x1_6 x1_7 x1_8 x1_9 st = some r) : qny_ rnd x1_0 x1_1 x1_2 x1_3 x1_4 x1_5 x1_6 x1_7 x1_8 x1_9 st r :=
 CG.iter (b := qw_ P 57 [false, false, true, false, true, true]) (by kernel_rfl) (body := qck_ rec_treevisitq1 n x1_0 x1_1 x1_2 x1_3 x1_4 x1_5 x1_6 x1_7 x1_8 x1_9) (S := qjy_ x1_0 x1_1 x1_2 x1_3 x1_4 x1_5 x1_6 x1_7 x1_8 x1_9) (X := qfg_ x1_0 x1_1 x1_2 x1_3 x1_4 x1_5 x1_6 x1_7 x1_8 x1_9)
  (fun s s' h => qsg_ rec_treevisitq1 hrec_treevisitq1 n x1_0 x1_1 x1_2 x1_3 x1_4 x1_5 x1_6 x1_7 x1_8 x1_9 s (.inl s') h)
  (fun s r h => qsg_ rec_treevisitq1 hrec_treevisitq1 n x1_0 x1_1 x1_2 x1_3 x1_4 x1_5 x1_6 x1_7 x1_8 x1_9 s (.inr r) h)
  (fun r => by intro hx; rcases r with _ | _ <;> cases hx) h
def qka_ (rec_treevisitq1 : (W8) → (Int) → (W8) → (Int) → (Int) → (Int) → (Bool) → (W8) → (Int) → Option ((Int) ⊕ (Unit))) (n : Nat) (a0 : W8) (a1 : Int) (a2 : W8) (a3 : Int) (a4 : Int) (a5 : Int) (a6 : Bool) (a7 : W8) (a8 : Int) : Option ((Int) ⊕ (Unit)) :=
 match qd5_ n a2 a3 a4 a5 a6 a7 a8 a1 with
 | none => none
 | some (.inl _) =>
  some (.inl a1)
 | some (.inr _) =>
  if 0 ≤ a1 ∧ a1 < (((a0).l.length : Nat) : Int) then
   ((some (((a0).l).getD (a1).toNat (0, 0, 0, 0, 0, 0, nl0, 0)))).bind fun c3_ =>
   match qjz_ rec_treevisitq1 n a2 a3 a4 a5 a6 a7 a8 a0 (c3_.2.2.2.2.2.2.1) ((((c3_.2.2.2.2.2.2.1)).l.length : Nat) : Int) 0 with
   | none => none
   | some (.inl c4_) =>
    some (.inl c4_)
   | some (.inr _) =>
    some (.inr ())
  else none
theorem qx5_ (rec_treevisitq1 : (W8) → (Int) → (W8) → (Int) → (Int) → (Int) → (Bool) → (W8) → (Int) → Option ((Int) ⊕ (Unit))) (hrec_treevisitq1 : ∀ (a0 : W8) (a1 : Int) (a2 : W8) (a3 : Int) (a4 : Int) (a5 : Int) (a6 : Bool) (a7 : W8) (a8 : Int) (r : (Int) ⊕ (Unit)), rec_treevisitq1 a0 a1 a2 a3 a4 a5 a6 a7 a8 = some r → Gv P (.func 57) (qj8_ a0 a1 a2 a3 a4 a5 a6 a7 a8) (qj9_ a0 a1 a2 a3 a4 a5 a6 a7 a8) (qh9_ a0 a1 a2 a3 a4 a5 a6 a7 a8 r) (qia_ a0 a1 a2 a3 a4 a5 a6 a7 a8 r)) (n : Nat) (a0 : W8) (a1 : Int) (a2 : W8) (a3 : Int) (a4 : Int) (a5 : Int) (a6 : Bool) (a7 : W8) (a8 : Int) (r : (Int) ⊕ (Unit)) (h : qka_ rec_treevisitq1 n a0 a1 a2 a3 a4 a5 a6 a7 a8 = some r) : G_treevisitq1 a0 a1 a2 a3 a4 a5 a6 a7 a8 r := by
 unfold qka_ at h
 rcases hc1 : qd5_ n a2 a3 a4 a5 a6 a7 a8 a1 with _ | (⟨⟩ | ⟨⟩)
 ·rw [hc1] at h; cases h
 ·rw [hc1] at h
  dsimp only at h
  obtain rfl := oI h
  exact runF2 hm (kW [6] (iD 9) 9 0) (yy 6 (.call (qom_ a2 a3 a4 a5 a6 a7 a8 a1 (.inl ()) (iD 9) (iD 9))) <|
   ww (qlb_ n a2 a3 a4 a5 a6 a7 a8 a1 (.inl ()) hc1) <|
   ee) (by kernel_rfl)
 ·rw [hc1] at h
  dsimp only at h
  obtain ⟨hc2, h⟩ := gd h
  obtain ⟨c3_, hc3, h⟩ := oB h
  have k0 := fun {A L l} (k : PL A L l) => yy 6 (.call (qom_ a2 a3 a4 a5 a6 a7 a8 a1 (.inr ()) (iD 9) (iD 9))) <|
   ww (qlb_ n a2 a3 a4 a5 a6 a7 a8 a1 (.inr ()) hc1) <|
   zz 13 (xk1 (a0).num (a0).off (a0).cap hc2) <|
   zz 14 (fk11 (a0).num (Nat.add (a0).off ((a1).toNat * 8))) <|
   zz 15 (lk12 hc3 (qba_ hc2)) <|
   k
  rcases hc4 : qjz_ rec_treevisitq1 n a2 a3 a4 a5 a6 a7 a8 a0 (c3_.2.2.2.2.2.2.1) ((((c3_.2.2.2.2.2.2.1)).l.length : Nat) : Int) 0 with _ | (c4_ | ⟨⟩)
  ·rw [hc4] at h; cases h
  ·rw [hc4] at h
   dsimp only at h
   obtain rfl := oI h
   exact runF2 hm (kW [6] (iD 9) 9 0) (k0 <|
    ww (p := qny_ none a2 a3 a4 a5 a6 a7 a8 a0 (c3_.2.2.2.2.2.2.1) ((((c3_.2.2.2.2.2.2.1)).l.length : Nat) : Int) 0 (.inl c4_)) (qon_ rec_treevisitq1 hrec_treevisitq1 n a2 a3 a4 a5 a6 a7 a8 a0 (c3_.2.2.2.2.2.2.1) ((((c3_.2.2.2.2.2.2.1)).l.length : Nat) : Int) 0 (.inl c4_) hc4) <|
    ll 19 ⟨(kW [0, 2, 17, 18, 19] (iD 9) 9 0), (qfg_ a2 a3 a4 a5 a6 a7 a8 a0 (c3_.2.2.2.2.2.2.1) ((((c3_.2.2.2.2.2.2.1)).l.length : Nat) : Int) (.inl c4_)).1, (qfg_ a2 a3 a4 a5 a6 a7 a8 a0 (c3_.2.2.2.2.2.2.1) ((((c3_.2.2.2.2.2.2.1)).l.length : Nat) : Int) (.inl c4_)).2⟩ <|
    ee) (by kernel_rfl)
  ·rw [hc4] at h
   dsimp only at h
   obtain rfl := oI h
   exact runF2 hm (kW [6] (iD 9) 9 0) (k0 <|
    ww (p := qny_ none a2 a3 a4 a5 a6 a7 a8 a0 (c3_.2.2.2.2.2.2.1) ((((c3_.2.2.2.2.2.2.1)).l.length : Nat) : Int) 0 (.inr ())) (qon_ rec_treevisitq1 hrec_treevisitq1 n a2 a3 a4 a5 a6 a7 a8 a0 (c3_.2.2.2.2.2.2.1) ((((c3_.2.2.2.2.2.2.1)).l.length : Nat) : Int) 0 (.inr ()) hc4) <|
    ll 19 ⟨(kW [0, 2, 17, 18, 19] (iD 9) 9 0), (qfg_ a2 a3 a4 a5 a6 a7 a8 a0 (c3_.2.2.2.2.2.2.1) ((((c3_.2.2.2.2.2.2.1)).l.length : Nat) : Int) (.inr ())).1, (qfg_ a2 a3 a4 a5 a6 a7 a8 a0 (c3_.2.2.2.2.2.2.1) ((((c3_.2.2.2.2.2.2.1)).l.length : Nat) : Int) (.inr ())).2⟩ <|
    ee) (by kernel_rfl)
def qcv_ : Nat → (W8) → (Int) → (W8) → (Int) → (Int) → (Int) → (Bool) → (W8) → (Int) → Option ((Int) ⊕ (Unit))
 | 0 => fun _ _ _ _ _ _ _ _ _ => none
 | n + 1 => fun a0 a1 a2 a3 a4 a5 a6 a7 a8 => qka_ (qcv_ n) n a0 a1 a2 a3 a4 a5 a6 a7 a8
theorem qmf_ : ∀ (n : Nat) (a0 : W8) (a1 : Int) (a2 : W8) (a3 : Int) (a4 : Int) (a5 : Int) (a6 : Bool) (a7 : W8) (a8 : Int) (r : (Int) ⊕ (Unit)) (h : qcv_ n a0 a1 a2 a3 a4 a5 a6 a7 a8 = some r), Gv P (.func 57) (qj8_ a0 a1 a2 a3 a4 a5 a6 a7 a8) (qj9_ a0 a1 a2 a3 a4 a5 a6 a7 a8) (qh9_ a0 a1 a2 a3 a4 a5 a6 a7 a8 r) (qia_ a0 a1 a2 a3 a4 a5 a6 a7 a8 r)
 | 0, _, _, _, _, _, _, _, _, _, _, h => nomatch h
 | n + 1, a0, a1, a2, a3, a4, a5, a6, a7, a8, r, h => qx5_ (qcv_ n) (qmf_ n) n a0 a1 a2 a3 a4 a5 a6 a7 a8 r h


end Go.Proofs.Ytbligeacgkhljaa.rca21
