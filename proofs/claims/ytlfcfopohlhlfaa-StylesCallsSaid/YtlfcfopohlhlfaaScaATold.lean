/-
  What functions do, told by pure functions. No condition.
-/
import Derived.Test.YtlfcfopohlhlfaaScaLives
set_option linter.unusedSimpArgs false
set_option linter.unusedVariables false
set_option linter.unusedSectionVars false
set_option linter.unnecessarySimpa false
set_option maxRecDepth 100000
noncomputable section
namespace Go.Proofs.Ytlfcfopohlhlfaa.sca26
open Go Go.Proofs.Ytlfcfopohlhlfaa Ax
abbrev R8 [Nest] : Type := Int × Int × Int × Int × Int × Int × NL × Int
variable [Args]
abbrev W8 : Type := WL rw_iiiiiiLu
def kW (s : List Nat) (b : List (Nat × Nat × Bool)) (n l : Nat) : WkS := ⟨s, b, n, l, [], false, [], [], []⟩
def iD (n : Nat) : List (Nat × Nat × Bool) := (List.range n).map fun i => (i, i, false)
def cB (l : List Value) (t : TypeId) : Option ABlk := some (.cells (layT l) t)
def qe8_ (x : Int × Int × Int) : List Value := [Value.int .i64 (x.1), Value.int .i64 (x.2.1), Value.int .i64 (x.2.2)]
theorem qg4_ : RowF qe8_ 3 := ⟨fun _ => rfl, fun a v h => by
 simp only [qe8_, List.mem_cons, List.not_mem_nil, or_false] at h
 rcases h with rfl | rfl | rfl <;> rfl, fun _ => rfl⟩
abbrev xp1 (b o n k : Nat) (i : Int) : Prop := IA P 22 (sW b o n k) i (pW b (Nat.add o (i.toNat * 4)))
theorem xk1 (b o k : Nat) {n : Nat} {i : Int} (h : 0 ≤ i ∧ i < (n : Int)) : OB (.pur (pW b (Nat.add o (i.toNat * 4)))) (xp1 b o n k i) := ⟨ixWO (e := 33) (by kernel_rfl) (by kernel_rfl) h⟩
abbrev fp2 (b o : Nat) : Prop := FA P 33 (pW b o) 1 (pW b (Nat.add o 1))
theorem fk2 (b o : Nat) : OB (.pur (pW b (Nat.add o 1))) (fp2 b o) := ⟨by unfold fp2 FA; kernel_rfl⟩
abbrev lp3 (x : WL rw_iLii) (i : Nat) (r : Int × NL × Int × Int) : Prop := Lg P 26 (pW x.num (Nat.add (Nat.add x.off (i * 4)) 1)) (nlV (r.2.1))
theorem lk3 {x : WL rw_iLii} {i : Nat} {r : Int × NL × Int × Int} (hr : some ((x.l).getD i (0, nl0, 0, 0)) = some r) (h : i < (x.l).length) : OB (.ld (nlV (r.2.1))) (lp3 x i r) := by cases hr; exact ⟨ldRS rwf_iLii (0, nl0, 0, 0) (i := i) (q := 1) x (Nat.add (Nat.add x.off (i * 4)) 1) rfl (by kernel_rfl) h (by decide) rfl⟩
abbrev xp4 (b o n k : Nat) (i : Int) : Prop := IA P 27 (sW b o n k) i (pW b (Nat.add o (i.toNat * 8)))
theorem xk4 (b o k : Nat) {n : Nat} {i : Int} (h : 0 ≤ i ∧ i < (n : Int)) : OB (.pur (pW b (Nat.add o (i.toNat * 8)))) (xp4 b o n k i) := ⟨ixWO (e := 59) (by kernel_rfl) (by kernel_rfl) h⟩
abbrev lp5 (x : W8) (i : Nat) (r : R8) : Prop := Lg P 59 (pW x.num (Nat.add x.off (i * 8))) (Value.agg #[(i6 (r.1)), (i6 (r.2.1)), (i6 (r.2.2.1)), (i6 (r.2.2.2.1)), (i6 (r.2.2.2.2.1)), (i6 (r.2.2.2.2.2.1)), (nlV (r.2.2.2.2.2.2.1)), (Value.int .u64 (r.2.2.2.2.2.2.2))])
theorem lk5 {x : W8} {i : Nat} {r : Int × Int × Int × Int × Int × Int × NL × Int} (hr : some ((x.l).getD i (0, 0, 0, 0, 0, 0, nl0, 0)) = some r) (h : i < (x.l).length) : OB (.ld (Value.agg #[(i6 (r.1)), (i6 (r.2.1)), (i6 (r.2.2.1)), (i6 (r.2.2.2.1)), (i6 (r.2.2.2.2.1)), (i6 (r.2.2.2.2.2.1)), (nlV (r.2.2.2.2.2.2.1)), (Value.int .u64 (r.2.2.2.2.2.2.2))])) (lp5 x i r) := by cases hr; exact ⟨ldRA rwf_iiiiiiLu (0, 0, 0, 0, 0, 0, nl0, 0) (i := i) (q := 0) x (n := 8) (Nat.add x.off (i * 8)) rfl (by kernel_rfl) (by kernel_rfl) h (by decide) (by decide) rfl⟩
abbrev xp6 (b o n k : Nat) (i : Int) : Prop := IA P 23 (sW b o n k) i (pW b (Nat.add o (i.toNat * 2)))
theorem xk6 (b o k : Nat) {n : Nat} {i : Int} (h : 0 ≤ i ∧ i < (n : Int)) : OB (.pur (pW b (Nat.add o (i.toNat * 2)))) (xp6 b o n k i) := ⟨ixWO (e := 43) (by kernel_rfl) (by kernel_rfl) h⟩
abbrev fp7 (b o : Nat) : Prop := FA P 43 (pW b o) 1 (pW b (Nat.add o 1))
theorem fk7 (b o : Nat) : OB (.pur (pW b (Nat.add o 1))) (fp7 b o) := ⟨by unfold fp7 FA; kernel_rfl⟩
abbrev lp8 (x : WL rw_iL) (i : Nat) (r : Int × NL) : Prop := Lg P 26 (pW x.num (Nat.add (Nat.add x.off (i * 2)) 1)) (nlV (r.2))
theorem lk8 {x : WL rw_iL} {i : Nat} {r : Int × NL} (hr : some ((x.l).getD i (0, nl0)) = some r) (h : i < (x.l).length) : OB (.ld (nlV (r.2))) (lp8 x i r) := by cases hr; exact ⟨ldRS rwf_iL (0, nl0) (i := i) (q := 1) x (Nat.add (Nat.add x.off (i * 2)) 1) rfl (by kernel_rfl) h (by decide) rfl⟩
abbrev lp9 (x : WL rw_iLii) (i : Nat) (r : Int × NL × Int × Int) : Prop := Lg P 33 (pW x.num (Nat.add x.off (i * 4))) (Value.agg #[(i6 (r.1)), (nlV (r.2.1)), (i6 (r.2.2.1)), (i6 (r.2.2.2))])
theorem lk9 {x : WL rw_iLii} {i : Nat} {r : Int × NL × Int × Int} (hr : some ((x.l).getD i (0, nl0, 0, 0)) = some r) (h : i < (x.l).length) : OB (.ld (Value.agg #[(i6 (r.1)), (nlV (r.2.1)), (i6 (r.2.2.1)), (i6 (r.2.2.2))])) (lp9 x i r) := by cases hr; exact ⟨ldRA rwf_iLii (0, nl0, 0, 0) (i := i) (q := 0) x (n := 4) (Nat.add x.off (i * 4)) rfl (by kernel_rfl) (by kernel_rfl) h (by decide) (by decide) rfl⟩
abbrev xp10 (b o n k : Nat) (i : Int) : Prop := IA P 26 (sW b o n k) i (pW b (Nat.add o i.toNat))
theorem xk10 (b o k : Nat) {n : Nat} {i : Int} (h : 0 ≤ i ∧ i < (n : Int)) : OB (.pur (pW b (Nat.add o i.toNat))) (xp10 b o n k i) := ⟨ixWO1 (e := 3) (by kernel_rfl) (by kernel_rfl) h⟩
theorem nk11 {x : NL} {i : Nat} {v : Int} (hv : some (x.l.getD i 0) = some v) (h : i < x.l.length) : OB (.ld (i6 v)) (Lg P 3 (pW (Nat.add x.num 64) (Nat.add x.off i)) (i6 v)) := by cases hv; exact ⟨ldN x (by kernel_rfl) h⟩
abbrev lp12 (x : WL rw_iL) (i : Nat) (r : Int × NL) : Prop := Lg P 43 (pW x.num (Nat.add x.off (i * 2))) (Value.agg #[(i6 (r.1)), (nlV (r.2))])
theorem lk12 {x : WL rw_iL} {i : Nat} {r : Int × NL} (hr : some ((x.l).getD i (0, nl0)) = some r) (h : i < (x.l).length) : OB (.ld (Value.agg #[(i6 (r.1)), (nlV (r.2))])) (lp12 x i r) := by cases hr; exact ⟨ldRA rwf_iL (0, nl0) (i := i) (q := 0) x (n := 2) (Nat.add x.off (i * 2)) rfl (by kernel_rfl) (by kernel_rfl) h (by decide) (by decide) rfl⟩
abbrev fp13 (b o : Nat) : Prop := FA P 33 (pW b o) 3 (pW b (Nat.add o 3))
theorem fk13 (b o : Nat) : OB (.pur (pW b (Nat.add o 3))) (fp13 b o) := ⟨by unfold fp13 FA; kernel_rfl⟩
abbrev lp14 (x : WL rw_iLii) (i : Nat) (r : Int × NL × Int × Int) : Prop := Lg P 3 (pW x.num (Nat.add (Nat.add x.off (i * 4)) 3)) (i6 (r.2.2.2))
theorem lk14 {x : WL rw_iLii} {i : Nat} {r : Int × NL × Int × Int} (hr : some ((x.l).getD i (0, nl0, 0, 0)) = some r) (h : i < (x.l).length) : OB (.ld (i6 (r.2.2.2))) (lp14 x i r) := by cases hr; exact ⟨ldRS rwf_iLii (0, nl0, 0, 0) (i := i) (q := 3) x (Nat.add (Nat.add x.off (i * 4)) 3) rfl (by kernel_rfl) h (by decide) rfl⟩
abbrev fp15 (b o : Nat) : Prop := FA P 33 (pW b o) 2 (pW b (Nat.add o 2))
theorem fk15 (b o : Nat) : OB (.pur (pW b (Nat.add o 2))) (fp15 b o) := ⟨by unfold fp15 FA; kernel_rfl⟩
abbrev lp16 (x : WL rw_iLii) (i : Nat) (r : Int × NL × Int × Int) : Prop := Lg P 3 (pW x.num (Nat.add (Nat.add x.off (i * 4)) 2)) (i6 (r.2.2.1))
theorem lk16 {x : WL rw_iLii} {i : Nat} {r : Int × NL × Int × Int} (hr : some ((x.l).getD i (0, nl0, 0, 0)) = some r) (h : i < (x.l).length) : OB (.ld (i6 (r.2.2.1))) (lp16 x i r) := by cases hr; exact ⟨ldRS rwf_iLii (0, nl0, 0, 0) (i := i) (q := 2) x (Nat.add (Nat.add x.off (i * 4)) 2) rfl (by kernel_rfl) h (by decide) rfl⟩
abbrev xp17 (b n k : Nat) (i : Int) : Prop := IA P 73 (sN b 0 n k) i (pN b (i.toNat * 3))
theorem xk17 (b k : Nat) {n : Nat} {i : Int} (h : 0 ≤ i ∧ i < (n : Int)) : OB (.pur (pN b (i.toNat * 3))) (xp17 b n k i) := ⟨ixS (e := 76) (by kernel_rfl) (by kernel_rfl) h.1 h.2⟩
abbrev op18 (L : List (Int × Int × Int)) (i : Nat) (r : Int × Int × Int) : Prop := (layT (rows qe8_ L)).get (Nat.add (i * 3) 0) = some (i6 (r.1))
theorem ok18 {L : List (Int × Int × Int)} {i : Nat} {r : Int × Int × Int} (hr : some (L.getD i (0, 0, 0)) = some r) (h : i < L.length) : OB (.ld (i6 (r.1))) (op18 L i r) := by cases hr; exact ⟨rows_ld qg4_ (0, 0, 0) (i := i) (j := 0) (Nat.add (i * 3) 0) rfl h (by decide) rfl⟩
abbrev op19 (L : List (Int × Int × Int)) (i : Nat) (r : Int × Int × Int) : Prop := (layT (rows qe8_ L)).get (Nat.add (i * 3) 1) = some (i6 (r.2.1))
theorem ok19 {L : List (Int × Int × Int)} {i : Nat} {r : Int × Int × Int} (hr : some (L.getD i (0, 0, 0)) = some r) (h : i < L.length) : OB (.ld (i6 (r.2.1))) (op19 L i r) := by cases hr; exact ⟨rows_ld qg4_ (0, 0, 0) (i := i) (j := 1) (Nat.add (i * 3) 1) rfl h (by decide) rfl⟩
abbrev op20 (L : List (Int × Int × Int)) (i : Nat) (r : Int × Int × Int) : Prop := (layT (rows qe8_ L)).get (Nat.add (i * 3) 2) = some (i6 (r.2.2))
theorem ok20 {L : List (Int × Int × Int)} {i : Nat} {r : Int × Int × Int} (hr : some (L.getD i (0, 0, 0)) = some r) (h : i < L.length) : OB (.ld (i6 (r.2.2))) (op20 L i r) := by cases hr; exact ⟨rows_ld qg4_ (0, 0, 0) (i := i) (j := 2) (Nat.add (i * 3) 2) rfl h (by decide) rfl⟩
theorem qwb_ {α : Type} (l : List α) (x : α) : ∃ a t, l ++ [x] = a :: t := by
 cases l with
 | nil => exact ⟨_, _, rfl⟩
 | cons a t => exact ⟨_, _, rfl⟩
theorem set_cons {α : Type} {x v : α} {l : List α} {n : Nat} : ∃ a t, (x :: l).set n v = a :: t := by cases n <;> exact ⟨_, _, rfl⟩
abbrev fp21 (b o : Nat) : Prop := FA P 59 (pW b o) 0 (pW b (Nat.add o 0))
theorem fk21 (b o : Nat) : OB (.pur (pW b (Nat.add o 0))) (fp21 b o) := ⟨by unfold fp21 FA; kernel_rfl⟩
abbrev lp22 (x : W8) (i : Nat) (r : R8) : Prop := Lg P 3 (pW x.num (Nat.add (Nat.add x.off (i * 8)) 0)) (i6 (r.1))
theorem lk22 {x : W8} {i : Nat} {r : Int × Int × Int × Int × Int × Int × NL × Int} (hr : some ((x.l).getD i (0, 0, 0, 0, 0, 0, nl0, 0)) = some r) (h : i < (x.l).length) : OB (.ld (i6 (r.1))) (lp22 x i r) := by cases hr; exact ⟨ldRS rwf_iiiiiiLu (0, 0, 0, 0, 0, 0, nl0, 0) (i := i) (q := 0) x (Nat.add (Nat.add x.off (i * 8)) 0) rfl (by kernel_rfl) h (by decide) rfl⟩
abbrev fp23 (b o : Nat) : Prop := FA P 59 (pW b o) 6 (pW b (Nat.add o 6))
theorem fk23 (b o : Nat) : OB (.pur (pW b (Nat.add o 6))) (fp23 b o) := ⟨by unfold fp23 FA; kernel_rfl⟩
abbrev lp24 (x : W8) (i : Nat) (r : R8) : Prop := Lg P 26 (pW x.num (Nat.add (Nat.add x.off (i * 8)) 6)) (nlV (r.2.2.2.2.2.2.1))
theorem lk24 {x : W8} {i : Nat} {r : Int × Int × Int × Int × Int × Int × NL × Int} (hr : some ((x.l).getD i (0, 0, 0, 0, 0, 0, nl0, 0)) = some r) (h : i < (x.l).length) : OB (.ld (nlV (r.2.2.2.2.2.2.1))) (lp24 x i r) := by cases hr; exact ⟨ldRS rwf_iiiiiiLu (0, 0, 0, 0, 0, 0, nl0, 0) (i := i) (q := 6) x (Nat.add (Nat.add x.off (i * 8)) 6) rfl (by kernel_rfl) h (by decide) rfl⟩
abbrev fp25 (b o : Nat) : Prop := FA P 59 (pW b o) 1 (pW b (Nat.add o 1))
theorem fk25 (b o : Nat) : OB (.pur (pW b (Nat.add o 1))) (fp25 b o) := ⟨by unfold fp25 FA; kernel_rfl⟩
abbrev lp26 (x : W8) (i : Nat) (r : R8) : Prop := Lg P 3 (pW x.num (Nat.add (Nat.add x.off (i * 8)) 1)) (i6 (r.2.1))
theorem lk26 {x : W8} {i : Nat} {r : Int × Int × Int × Int × Int × Int × NL × Int} (hr : some ((x.l).getD i (0, 0, 0, 0, 0, 0, nl0, 0)) = some r) (h : i < (x.l).length) : OB (.ld (i6 (r.2.1))) (lp26 x i r) := by cases hr; exact ⟨ldRS rwf_iiiiiiLu (0, 0, 0, 0, 0, 0, nl0, 0) (i := i) (q := 1) x (Nat.add (Nat.add x.off (i * 8)) 1) rfl (by kernel_rfl) h (by decide) rfl⟩
abbrev fp27 (b o : Nat) : Prop := FA P 59 (pW b o) 2 (pW b (Nat.add o 2))
theorem fk27 (b o : Nat) : OB (.pur (pW b (Nat.add o 2))) (fp27 b o) := ⟨by unfold fp27 FA; kernel_rfl⟩
abbrev lp28 (x : W8) (i : Nat) (r : R8) : Prop := Lg P 3 (pW x.num (Nat.add (Nat.add x.off (i * 8)) 2)) (i6 (r.2.2.1))
theorem lk28 {x : W8} {i : Nat} {r : Int × Int × Int × Int × Int × Int × NL × Int} (hr : some ((x.l).getD i (0, 0, 0, 0, 0, 0, nl0, 0)) = some r) (h : i < (x.l).length) : OB (.ld (i6 (r.2.2.1))) (lp28 x i r) := by cases hr; exact ⟨ldRS rwf_iiiiiiLu (0, 0, 0, 0, 0, 0, nl0, 0) (i := i) (q := 2) x (Nat.add (Nat.add x.off (i * 8)) 2) rfl (by kernel_rfl) h (by decide) rfl⟩
abbrev fp29 (b o : Nat) : Prop := FA P 59 (pW b o) 4 (pW b (Nat.add o 4))
theorem fk29 (b o : Nat) : OB (.pur (pW b (Nat.add o 4))) (fp29 b o) := ⟨by unfold fp29 FA; kernel_rfl⟩
abbrev lp30 (x : W8) (i : Nat) (r : R8) : Prop := Lg P 3 (pW x.num (Nat.add (Nat.add x.off (i * 8)) 4)) (i6 (r.2.2.2.2.1))
theorem lk30 {x : W8} {i : Nat} {r : Int × Int × Int × Int × Int × Int × NL × Int} (hr : some ((x.l).getD i (0, 0, 0, 0, 0, 0, nl0, 0)) = some r) (h : i < (x.l).length) : OB (.ld (i6 (r.2.2.2.2.1))) (lp30 x i r) := by cases hr; exact ⟨ldRS rwf_iiiiiiLu (0, 0, 0, 0, 0, 0, nl0, 0) (i := i) (q := 4) x (Nat.add (Nat.add x.off (i * 8)) 4) rfl (by kernel_rfl) h (by decide) rfl⟩
abbrev xp31 (b n k : Nat) (i : Int) : Prop := IA P 26 (sN b 0 n k) i (pN b i.toNat)
theorem xk31 (b k : Nat) {n : Nat} {i : Int} (h : 0 ≤ i ∧ i < (n : Int)) : OB (.pur (pN b i.toNat)) (xp31 b n k i) := ⟨ixS1 (e := 3) (by kernel_rfl) (by kernel_rfl) h⟩

def qhh_ (n : Nat) : Option Unit := some ()
theorem qnx_ (n : Nat) (r : Unit) (h : qhh_ n = some r) : Gv P (.func 4) [] Ax.h0 (.bool true) Ax.h0 := lives_gv

def qg5_ (a0 : WL rw_iLii) (r : Bool) : Value := match r with
 | o0 => (bO o0)
def qg6_ (a0 : WL rw_iLii) (r : Bool) : AH := match r with
 | o0 => ⟨sB [], 0, 0⟩
abbrev ql7_ (a0 : WL rw_iLii) (r : Bool) : Prop := Gv P (.func 16) [(wlV a0)] ⟨sB [], 0, 0⟩ (qg5_ a0 r) (qg6_ a0 r)
abbrev ql8_ (a0 : WL rw_iLii) (r : Bool) (ins outs : BL) : CallA := ⟨0, ins, qg5_ a0 r, qg6_ a0 r, outs⟩
def qcs_ (x0 : WL rw_iLii) (st : Int) : XSt := match st with
 | x1 => (sT 20 [(0, (wlV x0)), (3, (i6 x1))], [], ⟨sB [], 0, 0⟩)
def qu_ (x0 : WL rw_iLii) (r : (Unit) ⊕ (Unit)) : Ex × XSt := match r with
 | .inl _ => (.ret, (sT 20 [(2, (bO false))], [], ⟨sB [], 0, 0⟩))
 | .inr _ => (.exit 0, (sT 20 [(0, (wlV x0))], [], ⟨sB [], 0, 0⟩))
abbrev qkw_ (rd : Option Nat) (x0 : WL rw_iLii) (st : Int) (r : (Unit) ⊕ (Unit)) : Prop := CG P rd (fnN P 16) 0 (qx_ P 16 [false, true, false, true]) (qcs_ x0 st) (qu_ x0 r)
def qn_ (n : Nat) (x0 : WL rw_iLii) (st : Int) : Option ((Int) ⊕ ((Unit) ⊕ (Unit))) := match st with
 | x1 =>
  if x1 < (((x0).l.length : Nat) : Int) then
   if 0 ≤ x1 ∧ x1 < (((x0).l.length : Nat) : Int) then
    ((some (((x0).l).getD (x1).toNat (0, nl0, 0, 0)))).bind fun y3_ =>
    if ((((y3_.2.1)).l.length : Nat) : Int) > 20 then
     some (.inr (.inl ()))
    else
     some (.inl (w64 (x1 + 1)))
   else none
  else
   some (.inr (.inr ()))
def qct_ (n : Nat) (x0 : WL rw_iLii) (st : Int) : Option ((Unit) ⊕ (Unit)) := iterM (qn_ n x0) n st
theorem qf2_ (n : Nat) {rnd : Option Nat} (x0 : WL rw_iLii) (x1 : Int) (o : (Int) ⊕ ((Unit) ⊕ (Unit))) (h : qn_ n x0 x1 = some o) : CG P rnd (fnN P 16) 0 (qx_ P 16 [false, false, true, false, true]) (qcs_ x0 x1) (Sum.elim (fun s => (.normal, qcs_ x0 s)) (fun r => qu_ x0 r) o) := by
 unfold qn_ at h
 dsimp only at h
 by_cases hy1 : x1 < (((x0).l.length : Nat) : Int)
 ·rw [if_pos hy1] at h
  obtain ⟨hy2, h⟩ := gd h
  obtain ⟨y3_, hy3, h⟩ := oB h
  have k0 := fun {A L l} (k : PL A L l) => zz 5 (xdT hy1) <|
   zz 12 (xk1 (x0).num (x0).off (x0).cap hy2) <|
   zz 13 (fk2 (x0).num (Nat.add (x0).off ((x1).toNat * 4))) <|
   zz 14 (lk3 hy3 (qbp_ hy2)) <|
   k
  by_cases hy4 : ((((y3_.2.1)).l.length : Nat) : Int) > 20
  ·rw [if_pos hy4] at h
   obtain rfl := oI h
   exact runC2 hm (kW [2] [] 0 0) (k0 <|
    zz 16 (xdT hy4) <|
    ee) (by kernel_rfl)
  ·rw [if_neg hy4] at h
   obtain rfl := oI h
   exact runC2 hm (kW [0, 3] [] 0 0) (k0 <|
    zz 16 (xdF hy4) <|
    ee) (by kernel_rfl)
 ·rw [if_neg hy1] at h
  obtain rfl := oI h
  exact runC2 hm (kW [0] [] 0 0) (zz 5 (xdF hy1) <|
   ee) (by kernel_rfl)
theorem qfa_ (n : Nat) {rnd : Option Nat} (x0 : WL rw_iLii) (st : Int) (r : (Unit) ⊕ (Unit)) (h : qct_ n x0 st = some r) : qkw_ rnd x0 st r :=
 CG.iter (b := qx_ P 16 [false, false, true, false, true]) (by kernel_rfl) (body := qn_ n x0) (S := qcs_ x0) (X := qu_ x0)
  (fun s s' h => qf2_ n x0 s (.inl s') h)
  (fun s r h => qf2_ n x0 s (.inr r) h)
  (fun r => by intro hx; rcases r with _ | _ <;> cases hx) h
def qcf_ (n : Nat) (a0 : WL rw_iLii) : Option (Bool) :=
 match qct_ n a0 0 with
 | none => none
 | some (.inl _) =>
  some false
 | some (.inr _) =>
  if (((a0).l.length : Nat) : Int) ≤ 70 then
   some true
  else
   some false
theorem qka_ (n : Nat) (a0 : WL rw_iLii) (r : Bool) (h : qcf_ n a0 = some r) : ql7_ a0 r := by
 unfold qcf_ at h
 rcases hc1 : qct_ n a0 0 with _ | (⟨⟩ | ⟨⟩)
 ·rw [hc1] at h; cases h
 ·rw [hc1] at h
  dsimp only at h
  obtain rfl := oI h
  exact runF2 hm (kW [2] [] 0 0) (ww (qfa_ n (rnd := none) a0 0 (.inl ()) hc1) <|
   ll 6 ⟨(kW [0, 3] [] 0 0), (qu_ a0 (.inl ())).1, (qu_ a0 (.inl ())).2⟩ <|
   ee) (by kernel_rfl)
 ·rw [hc1] at h
  dsimp only at h
  have k0 := fun {A L l} (k : PL A L l) => ww (qfa_ n (rnd := none) a0 0 (.inr ()) hc1) <|
   ll 6 ⟨(kW [0, 3] [] 0 0), (qu_ a0 (.inr ())).1, (qu_ a0 (.inr ())).2⟩ <|
   k
  by_cases hc2 : (((a0).l.length : Nat) : Int) ≤ 70
  ·rw [if_pos hc2] at h
   obtain rfl := oI h
   exact runF2 hm (kW [2] [] 0 0) (k0 <|
    zz 10 (xdT hc2) <|
    ee) (by kernel_rfl)
  ·rw [if_neg hc2] at h
   obtain rfl := oI h
   exact runF2 hm (kW [2] [] 0 0) (k0 <|
    zz 10 (xdF hc2) <|
    ee) (by kernel_rfl)

def qhl_ (a0 : W8) (a1 : Int) (r : Bool) : Value := match r with
 | o0 => (bO o0)
def qhm_ (a0 : W8) (a1 : Int) (r : Bool) : AH := match r with
 | o0 => ⟨sB [], 0, 0⟩
abbrev qmo_ (a0 : W8) (a1 : Int) (r : Bool) : Prop := Gv P (.func 17) [(wlV a0), (i6 a1)] ⟨sB [], 0, 0⟩ (qhl_ a0 a1 r) (qhm_ a0 a1 r)
abbrev qmp_ (a0 : W8) (a1 : Int) (r : Bool) (ins outs : BL) : CallA := ⟨0, ins, qhl_ a0 a1 r, qhm_ a0 a1 r, outs⟩
def qc1_ (x0 : W8) (x1 : Int) (st : Int × Int) : XSt := match st with
 | (x2, x3) => (sT 66 [(0, (wlV x0)), (1, (i6 x1)), (5, (i6 x2)), (6, (i6 x3))], [], ⟨sB [], 0, 0⟩)
def q0_ (x0 : W8) (x1 : Int) (r : (Unit) ⊕ (Int)) : Ex × XSt := match r with
 | .inl _ => (.ret, (sT 66 [(4, (bO false))], [], ⟨sB [], 0, 0⟩))
 | .inr z0 => (.exit 0, (sT 66 [(0, (wlV x0)), (1, (i6 x1)), (5, (i6 z0))], [], ⟨sB [], 0, 0⟩))
abbrev qlm_ (rnd : Option Nat) (x0 : W8) (x1 : Int) (st : Int × Int) (c : Ex × XSt) : Prop := CG P rnd (fnN P 17) 0 (qx_ P 17 [false, false, true, false, true, true]) (qc1_ x0 x1 st) c
abbrev qln_ (rd : Option Nat) (x0 : W8) (x1 : Int) (st : Int × Int) (r : (Unit) ⊕ (Int)) : Prop := CG P rd (fnN P 17) 0 (qx_ P 17 [false, true, false, true, true]) (qc1_ x0 x1 st) (q0_ x0 x1 r)
def qbg_ (n : Nat) (x0 : W8) (x1 : Int) (st : Int × Int) : Option ((Int × Int) ⊕ ((Unit) ⊕ (Int))) := match st with
 | (x2, x3) =>
  if x3 < (((x0).l.length : Nat) : Int) then
   if x3 ≤ x1 then
    if 0 ≤ x3 ∧ x3 < (((x0).l.length : Nat) : Int) then
     ((some (((x0).l).getD (x3).toNat (0, 0, 0, 0, 0, 0, nl0, 0)))).bind fun y4_ =>
     ((some (w64 (x2 + ((((y4_.2.2.2.2.2.2.1)).l.length : Nat) : Int))))).bind fun y5_ =>
     if (y4_.2.2.1) > 1048576 then
      some (.inr (.inl ()))
     else
      if (y4_.2.2.2.2.1) > 1048576 then
       some (.inr (.inl ()))
      else
       if (y4_.2.2.2.2.2.1) > 1048576 then
        some (.inr (.inl ()))
       else
        if (y4_.2.2.1) < (-1048576 : Int) then
         some (.inr (.inl ()))
        else
         if (y4_.2.2.2.2.1) < (-1048576 : Int) then
          some (.inr (.inl ()))
         else
          if (y4_.2.2.2.2.2.1) < (-1048576 : Int) then
           some (.inr (.inl ()))
          else
           some (.inl (y5_, (w64 (x3 + 1))))
    else none
   else
    some (.inr (.inr x2))
  else
   some (.inr (.inr x2))
def qc2_ (n : Nat) (x0 : W8) (x1 : Int) (st : Int × Int) : Option ((Unit) ⊕ (Int)) := iterM (qbg_ n x0 x1) n st
theorem qgn_ (n : Nat) {rnd : Option Nat} (x0 : W8) (x1 : Int) (st : Int × Int) (o : (Int × Int) ⊕ ((Unit) ⊕ (Int))) (h : qbg_ n x0 x1 st = some o) : qlm_ rnd x0 x1 st (Sum.elim (fun s => (.normal, qc1_ x0 x1 s)) (fun r => q0_ x0 x1 r) o) := by
 obtain ⟨x2, x3⟩ := st
 unfold qbg_ at h
 dsimp only at h
 by_cases hy1 : x3 < (((x0).l.length : Nat) : Int)
 ·rw [if_pos hy1] at h
  have k0 := fun {A L l} (k : PL A L l) => zz 5 (xdT hy1) <|
   k
  by_cases hy2 : x3 ≤ x1
  ·rw [if_pos hy2] at h
   obtain ⟨hy3, h⟩ := gd h
   obtain ⟨y4_, hy4, h⟩ := oB h
   obtain ⟨y5_, hy5, h⟩ := oB h
   have k1 := fun {A L l} (k : PL A L l) => zz 9 (xdT hy2) <|
    zz 17 (xk4 (x0).num (x0).off (x0).cap hy3) <|
    zz 18 (lk5 hy4 (qbp_ hy3)) <|
    zz 26 (xnm hy5) <|
    k
   by_cases hy6 : (y4_.2.2.1) > 1048576
   ·rw [if_pos hy6] at h
    obtain rfl := oI h
    exact runC2 hm (kW [4] [] 0 0) (k0 <|
     k1 <|
     zz 31 (xdT hy6) <|
     ee) (by kernel_rfl)
   ·rw [if_neg hy6] at h
    have k5 := fun {A L l} (k : PL A L l) => zz 31 (xdF hy6) <|
     k
    by_cases hy7 : (y4_.2.2.2.2.1) > 1048576
    ·rw [if_pos hy7] at h
     obtain rfl := oI h
     exact runC2 hm (kW [4] [] 0 0) (k0 <|
      k1 <|
      k5 <|
      zz 35 (xdT hy7) <|
      ee) (by kernel_rfl)
    ·rw [if_neg hy7] at h
     have k6 := fun {A L l} (k : PL A L l) => zz 35 (xdF hy7) <|
      k
     by_cases hy8 : (y4_.2.2.2.2.2.1) > 1048576
     ·rw [if_pos hy8] at h
      obtain rfl := oI h
      exact runC2 hm (kW [4] [] 0 0) (k0 <|
       k1 <|
       k5 <|
       k6 <|
       zz 40 (xdT hy8) <|
       ee) (by kernel_rfl)
     ·rw [if_neg hy8] at h
      have k7 := fun {A L l} (k : PL A L l) => zz 40 (xdF hy8) <|
       k
      by_cases hy9 : (y4_.2.2.1) < (-1048576 : Int)
      ·rw [if_pos hy9] at h
       obtain rfl := oI h
       exact runC2 hm (kW [4] [] 0 0) (k0 <|
        k1 <|
        k5 <|
        k6 <|
        k7 <|
        zz 45 (xdT hy9) <|
        ee) (by kernel_rfl)
      ·rw [if_neg hy9] at h
       have k8 := fun {A L l} (k : PL A L l) => zz 45 (xdF hy9) <|
        k
       by_cases hy10 : (y4_.2.2.2.2.1) < (-1048576 : Int)
       ·rw [if_pos hy10] at h
        obtain rfl := oI h
        exact runC2 hm (kW [4] [] 0 0) (k0 <|
         k1 <|
         k5 <|
         k6 <|
         k7 <|
         k8 <|
         zz 50 (xdT hy10) <|
         ee) (by kernel_rfl)
       ·rw [if_neg hy10] at h
        have k9 := fun {A L l} (k : PL A L l) => zz 50 (xdF hy10) <|
         k
        by_cases hy11 : (y4_.2.2.2.2.2.1) < (-1048576 : Int)
        ·rw [if_pos hy11] at h
         obtain rfl := oI h
         exact runC2 hm (kW [4] [] 0 0) (k0 <|
          k1 <|
          k5 <|
          k6 <|
          k7 <|
          k8 <|
          k9 <|
          zz 55 (xdT hy11) <|
          ee) (by kernel_rfl)
        ·rw [if_neg hy11] at h
         obtain rfl := oI h
         exact runC2 hm (kW [0, 1, 5, 6] [] 0 0) (k0 <|
          k1 <|
          k5 <|
          k6 <|
          k7 <|
          k8 <|
          k9 <|
          zz 55 (xdF hy11) <|
          ee) (by kernel_rfl)
  ·rw [if_neg hy2] at h
   obtain rfl := oI h
   exact runC2 hm (kW [0, 1, 5] [] 0 0) (k0 <|
    zz 9 (xdF hy2) <|
    ee) (by kernel_rfl)
 ·rw [if_neg hy1] at h
  obtain rfl := oI h
  exact runC2 hm (kW [0, 1, 5] [] 0 0) (zz 5 (xdF hy1) <|
   ee) (by kernel_rfl)
theorem qfi_ (n : Nat) {rnd : Option Nat} (x0 : W8) (x1 : Int) (st : Int × Int) (r : (Unit) ⊕ (Int)) (h : qc2_ n x0 x1 st = some r) : qln_ rnd x0 x1 st r :=
 CG.iter (b := qx_ P 17 [false, false, true, false, true, true]) (by kernel_rfl) (body := qbg_ n x0 x1) (S := qc1_ x0 x1) (X := q0_ x0 x1)
  (fun s s' h => qgn_ n x0 x1 s (.inl s') h)
  (fun s r h => qgn_ n x0 x1 s (.inr r) h)
  (fun r => by intro hx; rcases r with _ | _ <;> cases hx) h
def qb0_ (n : Nat) (a0 : W8) (a1 : Int) : Option (Bool) :=
 match qc2_ n a0 a1 (0, 0) with
 | none => none
 | some (.inl _) =>
  some false
 | some (.inr c1_) =>
  if (((a0).l.length : Nat) : Int) ≤ a1 then
   if c1_ ≤ (w64 ((2 : Int) * a1)) then
    some true
   else
    some false
  else
   some false
theorem qkx_ (n : Nat) (a0 : W8) (a1 : Int) (r : Bool) (h : qb0_ n a0 a1 = some r) : qmo_ a0 a1 r := by
 unfold qb0_ at h
 rcases hc1 : qc2_ n a0 a1 (0, 0) with _ | (⟨⟩ | c1_)
 ·rw [hc1] at h; cases h
 ·rw [hc1] at h
  dsimp only at h
  obtain rfl := oI h
  exact runF2 hm (kW [4] [] 0 0) (ww (qfi_ n (rnd := none) a0 a1 (0, 0) (.inl ()) hc1) <|
   ll 8 ⟨(kW [0, 1, 5, 6] [] 0 0), (q0_ a0 a1 (.inl ())).1, (q0_ a0 a1 (.inl ())).2⟩ <|
   ee) (by kernel_rfl)
 ·rw [hc1] at h
  dsimp only at h
  have k0 := fun {A L l} (k : PL A L l) => ww (qfi_ n (rnd := none) a0 a1 (0, 0) (.inr c1_) hc1) <|
   ll 8 ⟨(kW [0, 1, 5, 6] [] 0 0), (q0_ a0 a1 (.inr c1_)).1, (q0_ a0 a1 (.inr c1_)).2⟩ <|
   k
  by_cases hc2 : (((a0).l.length : Nat) : Int) ≤ a1
  ·rw [if_pos hc2] at h
   have k2 := fun {A L l} (k : PL A L l) => zz 13 (xdT hc2) <|
    k
   by_cases hc3 : c1_ ≤ (w64 ((2 : Int) * a1))
   ·rw [if_pos hc3] at h
    obtain rfl := oI h
    exact runF2 hm (kW [4] [] 0 0) (k0 <|
     k2 <|
     zz 18 (xdT hc3) <|
     ee) (by kernel_rfl)
   ·rw [if_neg hc3] at h
    obtain rfl := oI h
    exact runF2 hm (kW [4] [] 0 0) (k0 <|
     k2 <|
     zz 18 (xdF hc3) <|
     ee) (by kernel_rfl)
  ·rw [if_neg hc2] at h
   obtain rfl := oI h
   exact runF2 hm (kW [4] [] 0 0) (k0 <|
    zz 13 (xdF hc2) <|
    ee) (by kernel_rfl)

def qol_ (a0 : WL rw_iLii) (a1 : NL) (a2 : W8) : List Value := [(wlV a0), (nlV a1), (wlV a2)]
def qi8_ (a0 : WL rw_iLii) (a1 : NL) (a2 : W8) (r : Bool) : Value := match r with
 | o0 => (bO o0)
def qi9_ (a0 : WL rw_iLii) (a1 : NL) (a2 : W8) (r : Bool) : AH := match r with
 | o0 => ⟨sB [], 0, 0⟩
abbrev qom_ (a0 : WL rw_iLii) (a1 : NL) (a2 : W8) (r : Bool) : Prop := Gv P (.func 5) (qol_ a0 a1 a2) ⟨sB [], 0, 0⟩ (qi8_ a0 a1 a2 r) (qi9_ a0 a1 a2 r)
abbrev qon_ (a0 : WL rw_iLii) (a1 : NL) (a2 : W8) (r : Bool) (ins outs : BL) : CallA := ⟨0, ins, qi8_ a0 a1 a2 r, qi9_ a0 a1 a2 r, outs⟩
def qeq_ (n : Nat) (a0 : WL rw_iLii) (a1 : NL) (a2 : W8) : Option (Bool) :=
 (qcf_ n a0).bind fun c1_ =>
 if c1_ = true then
  if (((a1).l.length : Nat) : Int) ≤ 40 then
   (qb0_ n a2 100).bind fun c4_ =>
   some c4_
  else
   some false
 else
  some false
theorem qmq_ (n : Nat) (a0 : WL rw_iLii) (a1 : NL) (a2 : W8) (r : Bool) (h : qeq_ n a0 a1 a2 = some r) : qom_ a0 a1 a2 r := by
 unfold qeq_ at h
 obtain ⟨c1_, hc1, h⟩ := oB h
 have k0 := fun {A L l} (k : PL A L l) => yy 4 (.call (ql8_ a0 c1_ [] [])) <|
  ww (qka_ n a0 c1_ hc1) <|
  k
 by_cases hc2 : c1_ = true
 ·rw [if_pos hc2] at h
  have k2 := fun {A L l} (k : PL A L l) => zz 5 (xbT hc2) <|
   k
  by_cases hc3 : (((a1).l.length : Nat) : Int) ≤ 40
  ·rw [if_pos hc3] at h
   obtain ⟨c4_, hc4, h⟩ := oB h
   obtain rfl := oI h
   exact runF2 hm (kW [6] [] 0 0) (k0 <|
    k2 <|
    zz 8 (xdT hc3) <|
    yy 12 (.call (qmp_ a2 100 c4_ [] [])) <|
    ww (qkx_ n a2 100 c4_ hc4) <|
    ee) (by kernel_rfl)
  ·rw [if_neg hc3] at h
   obtain rfl := oI h
   exact runF2 hm (kW [6] [] 0 0) (k0 <|
    k2 <|
    zz 8 (xdF hc3) <|
    ee) (by kernel_rfl)
 ·rw [if_neg hc2] at h
  obtain rfl := oI h
  exact runF2 hm (kW [6] [] 0 0) (k0 <|
   zz 5 (xbF hc2) <|
   ee) (by kernel_rfl)

def qgo_ (a0 : Int) (a1 : Int) (a2 : Int) (a3 : WL rw_iL) (r : Bool) : Value := match r with
 | o0 => (bO o0)
def qgp_ (a0 : Int) (a1 : Int) (a2 : Int) (a3 : WL rw_iL) (r : Bool) : AH := match r with
 | o0 => ⟨sB [], 0, 0⟩
abbrev qlo_ (a0 : Int) (a1 : Int) (a2 : Int) (a3 : WL rw_iL) (r : Bool) : Prop := Gv P (.func 6) [(Value.agg #[(i6 a0), (i6 a1), (i6 a2), (wlV a3)])] ⟨sB [], 0, 0⟩ (qgo_ a0 a1 a2 a3 r) (qgp_ a0 a1 a2 a3 r)
abbrev qlp_ (a0 : Int) (a1 : Int) (a2 : Int) (a3 : WL rw_iL) (r : Bool) (ins outs : BL) : CallA := ⟨0, ins, qgo_ a0 a1 a2 a3 r, qgp_ a0 a1 a2 a3 r, outs⟩
def qcm_ (x0 : Int) (x1 : Int) (x2 : Int) (x3 : WL rw_iL) (st : Int) : XSt := match st with
 | x4 => (sT 86 [(1, (pN 0 0)), (3, (i6 x4))], [], ⟨sB [(0, (cB [(i6 x0), (i6 x1), (i6 x2), (wlV x3)] 25))], 1, 0⟩)
def qr_ (x0 : Int) (x1 : Int) (x2 : Int) (x3 : WL rw_iL) (r : (Unit) ⊕ (Unit)) : Ex × XSt := match r with
 | .inl _ => (.ret, (sT 86 [(2, (bO false))], [], ⟨sB [], 0, 0⟩))
 | .inr _ => (.exit 0, (sT 86 [(1, (pN 0 0))], [], ⟨sB [(0, (cB [(i6 x0), (i6 x1), (i6 x2), (wlV x3)] 25))], 1, 0⟩))
abbrev qkb_ (rd : Option Nat) (x0 : Int) (x1 : Int) (x2 : Int) (x3 : WL rw_iL) (st : Int) (r : (Unit) ⊕ (Unit)) : Prop := CG P rd (fnN P 6) 0 (qx_ P 6 [false, true, false, true, true]) (qcm_ x0 x1 x2 x3 st) (qr_ x0 x1 x2 x3 r)
def qk_ (n : Nat) (x0 : Int) (x1 : Int) (x2 : Int) (x3 : WL rw_iL) (st : Int) : Option ((Int) ⊕ ((Unit) ⊕ (Unit))) := match st with
 | x4 =>
  if x4 < (((x3).l.length : Nat) : Int) then
   if 0 ≤ x4 ∧ x4 < (((x3).l.length : Nat) : Int) then
    ((some (((x3).l).getD (x4).toNat (0, nl0)))).bind fun y3_ =>
    if ((((y3_.2)).l.length : Nat) : Int) > 5 then
     if ((((y3_.2)).l.length : Nat) : Int) ≤ 8 then
      some (.inr (.inl ()))
     else
      if ((((y3_.2)).l.length : Nat) : Int) > 100 then
       some (.inr (.inl ()))
      else
       some (.inl (w64 (x4 + 1)))
    else
     if ((((y3_.2)).l.length : Nat) : Int) > 100 then
      some (.inr (.inl ()))
     else
      some (.inl (w64 (x4 + 1)))
   else none
  else
   some (.inr (.inr ()))
def qcn_ (n : Nat) (x0 : Int) (x1 : Int) (x2 : Int) (x3 : WL rw_iL) (st : Int) : Option ((Unit) ⊕ (Unit)) := iterM (qk_ n x0 x1 x2 x3) n st
theorem qft_ (n : Nat) {rnd : Option Nat} (x0 : Int) (x1 : Int) (x2 : Int) (x3 : WL rw_iL) (x4 : Int) (o : (Int) ⊕ ((Unit) ⊕ (Unit))) (h : qk_ n x0 x1 x2 x3 x4 = some o) : CG P rnd (fnN P 6) 0 (qx_ P 6 [false, false, true, false, true, true]) (qcm_ x0 x1 x2 x3 x4) (Sum.elim (fun s => (.normal, qcm_ x0 x1 x2 x3 s)) (fun r => qr_ x0 x1 x2 x3 r) o) := by
 unfold qk_ at h
 dsimp only at h
 by_cases hy1 : x4 < (((x3).l.length : Nat) : Int)
 ·rw [if_pos hy1] at h
  obtain ⟨hy2, h⟩ := gd h
  obtain ⟨y3_, hy3, h⟩ := oB h
  have k0 := fun {A L l} (k : PL A L l) => zz 6 (xdT hy1) <|
   zz 14 (xk6 (x3).num (x3).off (x3).cap hy2) <|
   zz 15 (fk7 (x3).num (Nat.add (x3).off ((x4).toNat * 2))) <|
   zz 16 (lk8 hy3 (qbp_ hy2)) <|
   k
  by_cases hy4 : ((((y3_.2)).l.length : Nat) : Int) > 5
  ·rw [if_pos hy4] at h
   have k4 := fun {A L l} (k : PL A L l) => zz 18 (xdT hy4) <|
    zz 23 (xk6 (x3).num (x3).off (x3).cap hy2) <|
    zz 24 (fk7 (x3).num (Nat.add (x3).off ((x4).toNat * 2))) <|
    zz 25 (lk8 hy3 (qbp_ hy2)) <|
    k
   by_cases hy5 : ((((y3_.2)).l.length : Nat) : Int) ≤ 8
   ·rw [if_pos hy5] at h
    obtain rfl := oI h
    exact runC2 hm (kW [2] [] 0 0) (k0 <|
     k4 <|
     zz 27 (xdT hy5) <|
     ee) (by kernel_rfl)
   ·rw [if_neg hy5] at h
    have k8 := fun {A L l} (k : PL A L l) => zz 27 (xdF hy5) <|
     zz 33 (xk6 (x3).num (x3).off (x3).cap hy2) <|
     zz 34 (fk7 (x3).num (Nat.add (x3).off ((x4).toNat * 2))) <|
     zz 35 (lk8 hy3 (qbp_ hy2)) <|
     k
    by_cases hy6 : ((((y3_.2)).l.length : Nat) : Int) > 100
    ·rw [if_pos hy6] at h
     obtain rfl := oI h
     exact runC2 hm (kW [2] [] 0 0) (k0 <|
      k4 <|
      k8 <|
      zz 37 (xdT hy6) <|
      ee) (by kernel_rfl)
    ·rw [if_neg hy6] at h
     obtain rfl := oI h
     exact runC2 hm (kW [1, 3] [(0, 0, false)] 1 0) (k0 <|
      k4 <|
      k8 <|
      zz 37 (xdF hy6) <|
      ee) (by kernel_rfl)
  ·rw [if_neg hy4] at h
   have k4 := fun {A L l} (k : PL A L l) => zz 18 (xdF hy4) <|
    zz 33 (xk6 (x3).num (x3).off (x3).cap hy2) <|
    zz 34 (fk7 (x3).num (Nat.add (x3).off ((x4).toNat * 2))) <|
    zz 35 (lk8 hy3 (qbp_ hy2)) <|
    k
   by_cases hy5 : ((((y3_.2)).l.length : Nat) : Int) > 100
   ·rw [if_pos hy5] at h
    obtain rfl := oI h
    exact runC2 hm (kW [2] [] 0 0) (k0 <|
     k4 <|
     zz 37 (xdT hy5) <|
     ee) (by kernel_rfl)
   ·rw [if_neg hy5] at h
    obtain rfl := oI h
    exact runC2 hm (kW [1, 3] [(0, 0, false)] 1 0) (k0 <|
     k4 <|
     zz 37 (xdF hy5) <|
     ee) (by kernel_rfl)
 ·rw [if_neg hy1] at h
  obtain rfl := oI h
  exact runC2 hm (kW [1] [(0, 0, false)] 1 0) (zz 6 (xdF hy1) <|
   ee) (by kernel_rfl)
theorem qe2_ (n : Nat) {rnd : Option Nat} (x0 : Int) (x1 : Int) (x2 : Int) (x3 : WL rw_iL) (st : Int) (r : (Unit) ⊕ (Unit)) (h : qcn_ n x0 x1 x2 x3 st = some r) : qkb_ rnd x0 x1 x2 x3 st r :=
 CG.iter (b := qx_ P 6 [false, false, true, false, true, true]) (by kernel_rfl) (body := qk_ n x0 x1 x2 x3) (S := qcm_ x0 x1 x2 x3) (X := qr_ x0 x1 x2 x3)
  (fun s s' h => qft_ n x0 x1 x2 x3 s (.inl s') h)
  (fun s r h => qft_ n x0 x1 x2 x3 s (.inr r) h)
  (fun r => by intro hx; rcases r with _ | _ <;> cases hx) h
def qcc_ (n : Nat) (a0 : Int) (a1 : Int) (a2 : Int) (a3 : WL rw_iL) : Option (Bool) :=
 if (((a3).l.length : Nat) : Int) > 100 then
  some false
 else
  match qcn_ n a0 a1 a2 a3 0 with
  | none => none
  | some (.inl _) =>
   some false
  | some (.inr _) =>
   if a0 > 8 then
    some true
   else
    if a1 > 16 then
     some true
    else
     if a2 > 3 then
      some true
     else
      if (((a3).l.length : Nat) : Int) > 64 then
       some true
      else
       if a0 ≤ 4 then
        if a1 ≤ 6 then
         if (((a3).l.length : Nat) : Int) ≤ 14 then
          if a2 ≤ 2 then
           some true
          else
           if a0 ≤ 3 then
            some true
           else
            some false
         else
          some false
        else
         some false
       else
        some false
theorem qjq_ (n : Nat) (a0 : Int) (a1 : Int) (a2 : Int) (a3 : WL rw_iL) (r : Bool) (h : qcc_ n a0 a1 a2 a3 = some r) : qlo_ a0 a1 a2 a3 r := by
 unfold qcc_ at h
 by_cases hc1 : (((a3).l.length : Nat) : Int) > 100
 ·rw [if_pos hc1] at h
  obtain rfl := oI h
  exact runF2 hm (kW [2] [] 0 0) (zz 8 (xdT hc1) <|
   ee) (by kernel_rfl)
 ·rw [if_neg hc1] at h
  have k0 := fun {A L l} (k : PL A L l) => zz 8 (xdF hc1) <|
   k
  rcases hc2 : qcn_ n a0 a1 a2 a3 0 with _ | (⟨⟩ | ⟨⟩)
  ·rw [hc2] at h; cases h
  ·rw [hc2] at h
   dsimp only at h
   obtain rfl := oI h
   exact runF2 hm (kW [2] [] 0 0) (k0 <|
    ww (qe2_ n (rnd := none) a0 a1 a2 a3 0 (.inl ()) hc2) <|
    ll 14 ⟨(kW [1, 3] [(0, 0, false)] 1 0), (qr_ a0 a1 a2 a3 (.inl ())).1, (qr_ a0 a1 a2 a3 (.inl ())).2⟩ <|
    ee) (by kernel_rfl)
  ·rw [hc2] at h
   dsimp only at h
   have k1 := fun {A L l} (k : PL A L l) => ww (qe2_ n (rnd := none) a0 a1 a2 a3 0 (.inr ()) hc2) <|
    ll 14 ⟨(kW [1, 3] [(0, 0, false)] 1 0), (qr_ a0 a1 a2 a3 (.inr ())).1, (qr_ a0 a1 a2 a3 (.inr ())).2⟩ <|
    k
   by_cases hc3 : a0 > 8
   ·rw [if_pos hc3] at h
    obtain rfl := oI h
    exact runF2 hm (kW [2] [] 0 0) (k0 <|
     k1 <|
     zz 19 (xdT hc3) <|
     ee) (by kernel_rfl)
   ·rw [if_neg hc3] at h
    have k3 := fun {A L l} (k : PL A L l) => zz 19 (xdF hc3) <|
     k
    by_cases hc4 : a1 > 16
    ·rw [if_pos hc4] at h
     obtain rfl := oI h
     exact runF2 hm (kW [2] [] 0 0) (k0 <|
      k1 <|
      k3 <|
      zz 23 (xdT hc4) <|
      ee) (by kernel_rfl)
    ·rw [if_neg hc4] at h
     have k4 := fun {A L l} (k : PL A L l) => zz 23 (xdF hc4) <|
      k
     by_cases hc5 : a2 > 3
     ·rw [if_pos hc5] at h
      obtain rfl := oI h
      exact runF2 hm (kW [2] [] 0 0) (k0 <|
       k1 <|
       k3 <|
       k4 <|
       zz 28 (xdT hc5) <|
       ee) (by kernel_rfl)
     ·rw [if_neg hc5] at h
      have k5 := fun {A L l} (k : PL A L l) => zz 28 (xdF hc5) <|
       k
      by_cases hc6 : (((a3).l.length : Nat) : Int) > 64
      ·rw [if_pos hc6] at h
       obtain rfl := oI h
       exact runF2 hm (kW [2] [] 0 0) (k0 <|
        k1 <|
        k3 <|
        k4 <|
        k5 <|
        zz 34 (xdT hc6) <|
        ee) (by kernel_rfl)
      ·rw [if_neg hc6] at h
       have k6 := fun {A L l} (k : PL A L l) => zz 34 (xdF hc6) <|
        k
       by_cases hc7 : a0 ≤ 4
       ·rw [if_pos hc7] at h
        have k7 := fun {A L l} (k : PL A L l) => zz 40 (xdT hc7) <|
         k
        by_cases hc8 : a1 ≤ 6
        ·rw [if_pos hc8] at h
         have k8 := fun {A L l} (k : PL A L l) => zz 44 (xdT hc8) <|
          k
         by_cases hc9 : (((a3).l.length : Nat) : Int) ≤ 14
         ·rw [if_pos hc9] at h
          have k9 := fun {A L l} (k : PL A L l) => zz 50 (xdT hc9) <|
           k
          by_cases hc10 : a2 ≤ 2
          ·rw [if_pos hc10] at h
           obtain rfl := oI h
           exact runF2 hm (kW [2] [] 0 0) (k0 <|
            k1 <|
            k3 <|
            k4 <|
            k5 <|
            k6 <|
            k7 <|
            k8 <|
            k9 <|
            zz 55 (xdT hc10) <|
            ee) (by kernel_rfl)
          ·rw [if_neg hc10] at h
           have k10 := fun {A L l} (k : PL A L l) => zz 55 (xdF hc10) <|
            k
           by_cases hc11 : a0 ≤ 3
           ·rw [if_pos hc11] at h
            obtain rfl := oI h
            exact runF2 hm (kW [2] [] 0 0) (k0 <|
             k1 <|
             k3 <|
             k4 <|
             k5 <|
             k6 <|
             k7 <|
             k8 <|
             k9 <|
             k10 <|
             zz 59 (xdT hc11) <|
             ee) (by kernel_rfl)
           ·rw [if_neg hc11] at h
            obtain rfl := oI h
            exact runF2 hm (kW [2] [] 0 0) (k0 <|
             k1 <|
             k3 <|
             k4 <|
             k5 <|
             k6 <|
             k7 <|
             k8 <|
             k9 <|
             k10 <|
             zz 59 (xdF hc11) <|
             ee) (by kernel_rfl)
         ·rw [if_neg hc9] at h
          obtain rfl := oI h
          exact runF2 hm (kW [2] [] 0 0) (k0 <|
           k1 <|
           k3 <|
           k4 <|
           k5 <|
           k6 <|
           k7 <|
           k8 <|
           zz 50 (xdF hc9) <|
           ee) (by kernel_rfl)
        ·rw [if_neg hc8] at h
         obtain rfl := oI h
         exact runF2 hm (kW [2] [] 0 0) (k0 <|
          k1 <|
          k3 <|
          k4 <|
          k5 <|
          k6 <|
          k7 <|
          zz 44 (xdF hc8) <|
          ee) (by kernel_rfl)
       ·rw [if_neg hc7] at h
        obtain rfl := oI h
        exact runF2 hm (kW [2] [] 0 0) (k0 <|
         k1 <|
         k3 <|
         k4 <|
         k5 <|
         k6 <|
         zz 40 (xdF hc7) <|
         ee) (by kernel_rfl)

def qjx_ (a0 : NL) (a1 : NL) (r : Bool) : Value := match r with
 | o0 => (bO o0)
def qjy_ (a0 : NL) (a1 : NL) (r : Bool) : AH := match r with
 | o0 => ⟨sB [], 0, 0⟩
abbrev qpa_ (a0 : NL) (a1 : NL) (r : Bool) : Prop := Gv P (.func 30) [(nlV a0), (nlV a1)] ⟨sB [], 0, 0⟩ (qjx_ a0 a1 r) (qjy_ a0 a1 r)
abbrev qpb_ (a0 : NL) (a1 : NL) (r : Bool) (ins outs : BL) : CallA := ⟨0, ins, qjx_ a0 a1 r, qjy_ a0 a1 r, outs⟩
def qei_ (x0 : NL) (x1 : NL) (x2 : Int) (st : Int) : XSt := match st with
 | x3 => (sT 26 [(0, (nlV x0)), (1, (nlV x1)), (12, (i6 x2)), (13, (i6 x3))], [], ⟨sB [], 0, 0⟩)
def qbw_ (x0 : NL) (x1 : NL) (x2 : Int) (r : (Unit) ⊕ (Unit)) : Ex × XSt := match r with
 | .inl _ => (.ret, (sT 26 [(4, (bO false))], [], ⟨sB [], 0, 0⟩))
 | .inr _ => (.exit 0, (sT 26 [], [], ⟨sB [], 0, 0⟩))
abbrev qny_ (rd : Option Nat) (x0 : NL) (x1 : NL) (x2 : Int) (st : Int) (r : (Unit) ⊕ (Unit)) : Prop := CG P rd (fnN P 30) 0 (qx_ P 30 [false, true, false, true, true]) (qei_ x0 x1 x2 st) (qbw_ x0 x1 x2 r)
def qbx_ (n : Nat) (x0 : NL) (x1 : NL) (x2 : Int) (st : Int) : Option ((Int) ⊕ ((Unit) ⊕ (Unit))) := match st with
 | x3 =>
  if x3 < x2 then
   if 0 ≤ x3 ∧ x3 < (((x0).l.length : Nat) : Int) then
    if (x3).toNat < ((x0).l).length then
     ((some (((x0).l).getD (x3).toNat 0))).bind fun y4_ =>
     if 0 ≤ x3 ∧ x3 < (((x1).l.length : Nat) : Int) then
      if (x3).toNat < ((x1).l).length then
       ((some (((x1).l).getD (x3).toNat 0))).bind fun y7_ =>
       if y4_ = y7_ then
        some (.inl (w64 (x3 + 1)))
       else
        some (.inr (.inl ()))
      else none
     else none
    else none
   else none
  else
   some (.inr (.inr ()))
def qej_ (n : Nat) (x0 : NL) (x1 : NL) (x2 : Int) (st : Int) : Option ((Unit) ⊕ (Unit)) := iterM (qbx_ n x0 x1 x2) n st
theorem qin_ (n : Nat) {rnd : Option Nat} (x0 : NL) (x1 : NL) (x2 : Int) (x3 : Int) (o : (Int) ⊕ ((Unit) ⊕ (Unit))) (h : qbx_ n x0 x1 x2 x3 = some o) : CG P rnd (fnN P 30) 0 (qx_ P 30 [false, false, true, false, true, true]) (qei_ x0 x1 x2 x3) (Sum.elim (fun s => (.normal, qei_ x0 x1 x2 s)) (fun r => qbw_ x0 x1 x2 r) o) := by
 unfold qbx_ at h
 dsimp only at h
 by_cases hy1 : x3 < x2
 ·rw [if_pos hy1] at h
  obtain ⟨hy2, h⟩ := gd h
  obtain ⟨hy3, h⟩ := gd h
  obtain ⟨y4_, hy4, h⟩ := oB h
  obtain ⟨hy5, h⟩ := gd h
  obtain ⟨hy6, h⟩ := gd h
  obtain ⟨y7_, hy7, h⟩ := oB h
  have k0 := fun {A L l} (k : PL A L l) => zz 1 (xdT hy1) <|
   zz 12 (xk10 (Nat.add (x0).num 64) (x0).off (x0).cap hy2) <|
   zz 13 (nk11 hy4 hy3) <|
   zz 16 (xk10 (Nat.add (x1).num 64) (x1).off (x1).cap hy5) <|
   zz 17 (nk11 hy7 hy6) <|
   k
  by_cases hy8 : y4_ = y7_
  ·rw [if_pos hy8] at h
   obtain rfl := oI h
   exact runC2 hm (kW [0, 1, 12, 13] [] 0 0) (k0 <|
    zz 18 (xnF hy8) <|
    ee) (by kernel_rfl)
  ·rw [if_neg hy8] at h
   obtain rfl := oI h
   exact runC2 hm (kW [4] [] 0 0) (k0 <|
    zz 18 (xnT hy8) <|
    ee) (by kernel_rfl)
 ·rw [if_neg hy1] at h
  obtain rfl := oI h
  exact runC2 hm (kW [] [] 0 0) (zz 1 (xdF hy1) <|
   ee) (by kernel_rfl)
theorem qg7_ (n : Nat) {rnd : Option Nat} (x0 : NL) (x1 : NL) (x2 : Int) (st : Int) (r : (Unit) ⊕ (Unit)) (h : qej_ n x0 x1 x2 st = some r) : qny_ rnd x0 x1 x2 st r :=
 CG.iter (b := qx_ P 30 [false, false, true, false, true, true]) (by kernel_rfl) (body := qbx_ n x0 x1 x2) (S := qei_ x0 x1 x2) (X := qbw_ x0 x1 x2)
  (fun s s' h => qin_ n x0 x1 x2 s (.inl s') h)
  (fun s r h => qin_ n x0 x1 x2 s (.inr r) h)
  (fun r => by intro hx; rcases r with _ | _ <;> cases hx) h
def qdq_ (n : Nat) (a0 : NL) (a1 : NL) : Option (Bool) :=
 if (((a0).l.length : Nat) : Int) = (((a1).l.length : Nat) : Int) then
  match qej_ n a0 a1 (((a0).l.length : Nat) : Int) 0 with
  | none => none
  | some (.inl _) =>
   some false
  | some (.inr _) =>
   some true
 else
  some false
theorem qm9_ (n : Nat) (a0 : NL) (a1 : NL) (r : Bool) (h : qdq_ n a0 a1 = some r) : qpa_ a0 a1 r := by
 unfold qdq_ at h
 by_cases hc1 : (((a0).l.length : Nat) : Int) = (((a1).l.length : Nat) : Int)
 ·rw [if_pos hc1] at h
  have k0 := fun {A L l} (k : PL A L l) => zz 8 (xnF hc1) <|
   k
  rcases hc2 : qej_ n a0 a1 (((a0).l.length : Nat) : Int) 0 with _ | (⟨⟩ | ⟨⟩)
  ·rw [hc2] at h; cases h
  ·rw [hc2] at h
   dsimp only at h
   obtain rfl := oI h
   exact runF2 hm (kW [4] [] 0 0) (k0 <|
    ww (qg7_ n (rnd := none) a0 a1 (((a0).l.length : Nat) : Int) 0 (.inl ()) hc2) <|
    ll 16 ⟨(kW [0, 1, 12, 13] [] 0 0), (qbw_ a0 a1 (((a0).l.length : Nat) : Int) (.inl ())).1, (qbw_ a0 a1 (((a0).l.length : Nat) : Int) (.inl ())).2⟩ <|
    ee) (by kernel_rfl)
  ·rw [hc2] at h
   dsimp only at h
   obtain rfl := oI h
   exact runF2 hm (kW [4] [] 0 0) (k0 <|
    ww (qg7_ n (rnd := none) a0 a1 (((a0).l.length : Nat) : Int) 0 (.inr ()) hc2) <|
    ll 16 ⟨(kW [0, 1, 12, 13] [] 0 0), (qbw_ a0 a1 (((a0).l.length : Nat) : Int) (.inr ())).1, (qbw_ a0 a1 (((a0).l.length : Nat) : Int) (.inr ())).2⟩ <|
    ee) (by kernel_rfl)
 ·rw [if_neg hc1] at h
  obtain rfl := oI h
  exact runF2 hm (kW [4] [] 0 0) (zz 8 (xnT hc1) <|
   ee) (by kernel_rfl)

def qjz_ (a0 : NL) (a1 : NL) (r : Bool) : Value := match r with
 | o0 => (bO o0)
def qj0_ (a0 : NL) (a1 : NL) (r : Bool) : AH := match r with
 | o0 => ⟨sB [], 0, 0⟩
abbrev qpc_ (a0 : NL) (a1 : NL) (r : Bool) : Prop := Gv P (.func 18) [(nlV a0), (nlV a1)] ⟨sB [], 0, 0⟩ (qjz_ a0 a1 r) (qj0_ a0 a1 r)
abbrev qpd_ (a0 : NL) (a1 : NL) (r : Bool) (ins outs : BL) : CallA := ⟨0, ins, qjz_ a0 a1 r, qj0_ a0 a1 r, outs⟩
def qdr_ (n : Nat) (a0 : NL) (a1 : NL) : Option (Bool) :=
 if (((a1).l.length : Nat) : Int) ≤ (((a0).l.length : Nat) : Int) then
  ((some (w64 ((((a0).l.length : Nat) : Int) - (((a1).l.length : Nat) : Int))))).bind fun c2_ =>
  if 0 ≤ c2_ then
   if hc4 : (c2_).toNat ≤ (a0).l.length ∧ (a0).l.length ≤ (a0).l.length then
    (qdq_ n (nlSub a0 (c2_).toNat (a0).l.length hc4) a1).bind fun c5_ =>
    some c5_
   else none
  else none
 else
  some false
theorem qna_ (n : Nat) (a0 : NL) (a1 : NL) (r : Bool) (h : qdr_ n a0 a1 = some r) : qpc_ a0 a1 r := by
 unfold qdr_ at h
 by_cases hc1 : (((a1).l.length : Nat) : Int) ≤ (((a0).l.length : Nat) : Int)
 ·rw [if_pos hc1] at h
  obtain ⟨c2_, hc2, h⟩ := oB h
  obtain ⟨hc3, h⟩ := gd h
  obtain ⟨hc4, h⟩ := gdD h
  replace h := oB h
  obtain ⟨c5_, hc5, h⟩ := h
  obtain rfl := oI h
  exact runF2 hm (kW [4] [] 0 0) (zz 7 (xdT hc1) <|
   zz 14 (xnm hc2) <|
   yy 15 (.pur (nlV (nlSub a0 (c2_).toNat (a0).l.length hc4))) <|
   ww (p := qks_ P 26 (nlV a0) (some (i6 c2_)) none none Ax.h0 = some ((nlV (nlSub a0 (c2_).toNat (a0).l.length hc4)), Ax.h0)) (slNL (e := 3) a0 (by kernel_rfl) (by kernel_rfl) (bnd_int hc3) rfl hc4) <|
   yy 17 (.call (qpb_ (nlSub a0 (c2_).toNat (a0).l.length hc4) a1 c5_ [] [])) <|
   ww (qm9_ n (nlSub a0 (c2_).toNat (a0).l.length hc4) a1 c5_ hc5) <|
   ee) (by kernel_rfl)
 ·rw [if_neg hc1] at h
  obtain rfl := oI h
  exact runF2 hm (kW [4] [] 0 0) (zz 7 (xdF hc1) <|
   ee) (by kernel_rfl)

def qnt_ (a0 : Int) (a1 : NL) (a2 : Int) (a3 : Int) (a4 : Int) (a5 : NL) (r : Bool) : Value := match r with
 | o0 => (bO o0)
def qnu_ (a0 : Int) (a1 : NL) (a2 : Int) (a3 : Int) (a4 : Int) (a5 : NL) (r : Bool) : AH := match r with
 | o0 => ⟨sB [], 0, 0⟩
abbrev qse_ (a0 : Int) (a1 : NL) (a2 : Int) (a3 : Int) (a4 : Int) (a5 : NL) (r : Bool) : Prop := Gv P (.func 7) [(Value.agg #[(i6 a0), (nlV a1), (i6 a2), (i6 a3)]), (i6 a4), (nlV a5)] ⟨sB [], 0, 0⟩ (qnt_ a0 a1 a2 a3 a4 a5 r) (qnu_ a0 a1 a2 a3 a4 a5 r)
abbrev qjr_ (a0 : Int) (a1 : NL) (a2 : Int) (a3 : Int) (a4 : Int) (a5 : NL) (r : Bool) (ins outs : BL) : CallA := ⟨0, ins, qnt_ a0 a1 a2 a3 a4 a5 r, qnu_ a0 a1 a2 a3 a4 a5 r, outs⟩
def qdo_ (n : Nat) (a0 : Int) (a1 : NL) (a2 : Int) (a3 : Int) (a4 : Int) (a5 : NL) : Option (Bool) :=
 if a0 = a4 then
  (qdr_ n a5 a1).bind fun c2_ =>
  some c2_
 else
  some false
theorem qhi_ (n : Nat) (a0 : Int) (a1 : NL) (a2 : Int) (a3 : Int) (a4 : Int) (a5 : NL) (r : Bool) (h : qdo_ n a0 a1 a2 a3 a4 a5 = some r) : qse_ a0 a1 a2 a3 a4 a5 r := by
 unfold qdo_ at h
 by_cases hc1 : a0 = a4
 ·rw [if_pos hc1] at h
  obtain ⟨c2_, hc2, h⟩ := oB h
  obtain rfl := oI h
  exact runF2 hm (kW [6] [] 0 0) (zz 7 (xeT hc1) <|
   yy 12 (.call (qpd_ a5 a1 c2_ [] [])) <|
   ww (qna_ n a5 a1 c2_ hc2) <|
   ee) (by kernel_rfl)
 ·rw [if_neg hc1] at h
  obtain rfl := oI h
  exact runF2 hm (kW [6] [] 0 0) (zz 7 (xeF hc1) <|
   ee) (by kernel_rfl)

def qhz_ (a0 : Int) (a1 : NL) (a2 : Int) (a3 : Int) (a4 : Int) (a5 : NL) (r : Bool) : Value := match r with
 | o0 => (bO o0)
def qh0_ (a0 : Int) (a1 : NL) (a2 : Int) (a3 : Int) (a4 : Int) (a5 : NL) (r : Bool) : AH := match r with
 | o0 => ⟨sB [], 0, 0⟩
abbrev qnb_ (a0 : Int) (a1 : NL) (a2 : Int) (a3 : Int) (a4 : Int) (a5 : NL) (r : Bool) : Prop := Gv P (.func 8) [(Value.agg #[(i6 a0), (nlV a1), (i6 a2), (i6 a3)]), (i6 a4), (nlV a5)] ⟨sB [], 0, 0⟩ (qhz_ a0 a1 a2 a3 a4 a5 r) (qh0_ a0 a1 a2 a3 a4 a5 r)
abbrev qh1_ (a0 : Int) (a1 : NL) (a2 : Int) (a3 : Int) (a4 : Int) (a5 : NL) (r : Bool) (ins outs : BL) : CallA := ⟨0, ins, qhz_ a0 a1 a2 a3 a4 a5 r, qh0_ a0 a1 a2 a3 a4 a5 r, outs⟩
def qda_ (x0 : NL) (x1 : Int) (x2 : NL) (x3 : Int) (x4 : Int) (st : Int) : XSt := match st with
 | x5 => (sT 44 [(2, (nlV x0)), (3, (pN 0 0)), (7, (i6 x5))], [], ⟨sB [(0, (cB [(i6 x1), (nlV x2), (i6 x3), (i6 x4)] 33))], 1, 0⟩)
def qbc_ (x0 : NL) (x1 : Int) (x2 : NL) (x3 : Int) (x4 : Int) (r : (Unit) ⊕ (Unit)) : Ex × XSt := match r with
 | .inl _ => (.ret, (sT 44 [(6, (bO false))], [], ⟨sB [], 0, 0⟩))
 | .inr _ => (.exit 0, (sT 44 [], [], ⟨sB [], 0, 0⟩))
abbrev ql9_ (rd : Option Nat) (x0 : NL) (x1 : Int) (x2 : NL) (x3 : Int) (x4 : Int) (st : Int) (r : (Unit) ⊕ (Unit)) : Prop := CG P rd (fnN P 8) 0 (qx_ P 8 [false, true, false, true, true]) (qda_ x0 x1 x2 x3 x4 st) (qbc_ x0 x1 x2 x3 x4 r)
def qt_ (n : Nat) (x0 : NL) (x1 : Int) (x2 : NL) (x3 : Int) (x4 : Int) (st : Int) : Option ((Int) ⊕ ((Unit) ⊕ (Unit))) := match st with
 | x5 =>
  if x5 ≤ (((x2).l.length : Nat) : Int) then
   ((some (w64 ((((x2).l.length : Nat) : Int) - x5)))).bind fun y2_ =>
   if 0 ≤ y2_ ∧ y2_ < (((x2).l.length : Nat) : Int) then
    if (y2_).toNat < ((x2).l).length then
     ((some (((x2).l).getD (y2_).toNat 0))).bind fun y5_ =>
     ((some (w64 ((((x0).l.length : Nat) : Int) - x5)))).bind fun y6_ =>
     if 0 ≤ y6_ ∧ y6_ < (((x0).l.length : Nat) : Int) then
      if (y6_).toNat < ((x0).l).length then
       ((some (((x0).l).getD (y6_).toNat 0))).bind fun y9_ =>
       if y5_ = y9_ then
        some (.inl (w64 (x5 + 1)))
       else
        some (.inr (.inl ()))
      else none
     else none
    else none
   else none
  else
   some (.inr (.inr ()))
def qdb_ (n : Nat) (x0 : NL) (x1 : Int) (x2 : NL) (x3 : Int) (x4 : Int) (st : Int) : Option ((Unit) ⊕ (Unit)) := iterM (qt_ n x0 x1 x2 x3 x4) n st
theorem qg8_ (n : Nat) {rnd : Option Nat} (x0 : NL) (x1 : Int) (x2 : NL) (x3 : Int) (x4 : Int) (x5 : Int) (o : (Int) ⊕ ((Unit) ⊕ (Unit))) (h : qt_ n x0 x1 x2 x3 x4 x5 = some o) : CG P rnd (fnN P 8) 0 (qx_ P 8 [false, false, true, false, true, true]) (qda_ x0 x1 x2 x3 x4 x5) (Sum.elim (fun s => (.normal, qda_ x0 x1 x2 x3 x4 s)) (fun r => qbc_ x0 x1 x2 x3 x4 r) o) := by
 unfold qt_ at h
 dsimp only at h
 by_cases hy1 : x5 ≤ (((x2).l.length : Nat) : Int)
 ·rw [if_pos hy1] at h
  obtain ⟨y2_, hy2, h⟩ := oB h
  obtain ⟨hy3, h⟩ := gd h
  obtain ⟨hy4, h⟩ := gd h
  obtain ⟨y5_, hy5, h⟩ := oB h
  obtain ⟨y6_, hy6, h⟩ := oB h
  obtain ⟨hy7, h⟩ := gd h
  obtain ⟨hy8, h⟩ := gd h
  obtain ⟨y9_, hy9, h⟩ := oB h
  have k0 := fun {A L l} (k : PL A L l) => zz 6 (xdT hy1) <|
   zz 17 (xnm hy2) <|
   zz 18 (xk10 (Nat.add (x2).num 64) (x2).off (x2).cap hy3) <|
   zz 19 (nk11 hy5 hy4) <|
   zz 24 (xnm hy6) <|
   zz 25 (xk10 (Nat.add (x0).num 64) (x0).off (x0).cap hy7) <|
   zz 26 (nk11 hy9 hy8) <|
   k
  by_cases hy10 : y5_ = y9_
  ·rw [if_pos hy10] at h
   obtain rfl := oI h
   exact runC2 hm (kW [2, 3, 7] [(0, 0, false)] 1 0) (k0 <|
    zz 27 (xnF hy10) <|
    ee) (by kernel_rfl)
  ·rw [if_neg hy10] at h
   obtain rfl := oI h
   exact runC2 hm (kW [6] [] 0 0) (k0 <|
    zz 27 (xnT hy10) <|
    ee) (by kernel_rfl)
 ·rw [if_neg hy1] at h
  obtain rfl := oI h
  exact runC2 hm (kW [] [] 0 0) (zz 6 (xdF hy1) <|
   ee) (by kernel_rfl)
theorem qfu_ (n : Nat) {rnd : Option Nat} (x0 : NL) (x1 : Int) (x2 : NL) (x3 : Int) (x4 : Int) (st : Int) (r : (Unit) ⊕ (Unit)) (h : qdb_ n x0 x1 x2 x3 x4 st = some r) : ql9_ rnd x0 x1 x2 x3 x4 st r :=
 CG.iter (b := qx_ P 8 [false, false, true, false, true, true]) (by kernel_rfl) (body := qt_ n x0 x1 x2 x3 x4) (S := qda_ x0 x1 x2 x3 x4) (X := qbc_ x0 x1 x2 x3 x4)
  (fun s s' h => qg8_ n x0 x1 x2 x3 x4 s (.inl s') h)
  (fun s r h => qg8_ n x0 x1 x2 x3 x4 s (.inr r) h)
  (fun r => by intro hx; rcases r with _ | _ <;> cases hx) h
def qcb_ (n : Nat) (a0 : Int) (a1 : NL) (a2 : Int) (a3 : Int) (a4 : Int) (a5 : NL) : Option (Bool) :=
 if a0 = a4 then
  if (((a1).l.length : Nat) : Int) > (((a5).l.length : Nat) : Int) then
   some false
  else
   match qdb_ n a5 a0 a1 a2 a3 1 with
   | none => none
   | some (.inl _) =>
    some false
   | some (.inr _) =>
    some true
 else
  some false
theorem qgq_ (n : Nat) (a0 : Int) (a1 : NL) (a2 : Int) (a3 : Int) (a4 : Int) (a5 : NL) (r : Bool) (h : qcb_ n a0 a1 a2 a3 a4 a5 = some r) : qnb_ a0 a1 a2 a3 a4 a5 r := by
 unfold qcb_ at h
 by_cases hc1 : a0 = a4
 ·rw [if_pos hc1] at h
  have k0 := fun {A L l} (k : PL A L l) => zz 8 (xnF hc1) <|
   k
  by_cases hc2 : (((a1).l.length : Nat) : Int) > (((a5).l.length : Nat) : Int)
  ·rw [if_pos hc2] at h
   obtain rfl := oI h
   exact runF2 hm (kW [6] [] 0 0) (k0 <|
    zz 15 (xdT hc2) <|
    ee) (by kernel_rfl)
  ·rw [if_neg hc2] at h
   have k1 := fun {A L l} (k : PL A L l) => zz 15 (xdF hc2) <|
    k
   rcases hc3 : qdb_ n a5 a0 a1 a2 a3 1 with _ | (⟨⟩ | ⟨⟩)
   ·rw [hc3] at h; cases h
   ·rw [hc3] at h
    dsimp only at h
    obtain rfl := oI h
    exact runF2 hm (kW [6] [] 0 0) (k0 <|
     k1 <|
     ww (qfu_ n (rnd := none) a5 a0 a1 a2 a3 1 (.inl ()) hc3) <|
     ll 22 ⟨(kW [2, 3, 7] [(0, 0, false)] 1 0), (qbc_ a5 a0 a1 a2 a3 (.inl ())).1, (qbc_ a5 a0 a1 a2 a3 (.inl ())).2⟩ <|
     ee) (by kernel_rfl)
   ·rw [hc3] at h
    dsimp only at h
    obtain rfl := oI h
    exact runF2 hm (kW [6] [] 0 0) (k0 <|
     k1 <|
     ww (qfu_ n (rnd := none) a5 a0 a1 a2 a3 1 (.inr ()) hc3) <|
     ll 22 ⟨(kW [2, 3, 7] [(0, 0, false)] 1 0), (qbc_ a5 a0 a1 a2 a3 (.inr ())).1, (qbc_ a5 a0 a1 a2 a3 (.inr ())).2⟩ <|
     ee) (by kernel_rfl)
 ·rw [if_neg hc1] at h
  obtain rfl := oI h
  exact runF2 hm (kW [6] [] 0 0) (zz 8 (xnT hc1) <|
   ee) (by kernel_rfl)

def qqw_ (a0 : Int) (a1 : Int) (a2 : Int) (a3 : Int) (a4 : WL rw_iL) (r : Bool) : Value := match r with
 | o0 => (bO o0)
def qqx_ (a0 : Int) (a1 : Int) (a2 : Int) (a3 : Int) (a4 : WL rw_iL) (r : Bool) : AH := match r with
 | o0 => ⟨sB [], 1, 1⟩
abbrev qwc_ (a0 : Int) (a1 : Int) (a2 : Int) (a3 : Int) (a4 : WL rw_iL) (r : Bool) : Prop := Gv P (.func 31) [(i6 a0), (pN 0 0)] ⟨sB [(0, (cB [(i6 a1), (i6 a2), (i6 a3), (wlV a4)] 25))], 1, 1⟩ (qqw_ a0 a1 a2 a3 a4 r) (qqx_ a0 a1 a2 a3 a4 r)
abbrev qwd_ (a0 : Int) (a1 : Int) (a2 : Int) (a3 : Int) (a4 : WL rw_iL) (r : Bool) (ins outs : BL) : CallA := ⟨1, ins, qqw_ a0 a1 a2 a3 a4 r, qqx_ a0 a1 a2 a3 a4 r, outs⟩
def qh2_ (n : Nat) (a0 : Int) (a1 : Int) (a2 : Int) (a3 : Int) (a4 : WL rw_iL) : Option (Bool) :=
 if a0 < 0 then
  some true
 else
  if a0 ≥ (w64 (a1 + a2)) then
   some true
  else
   some false
theorem qsf_ (n : Nat) (a0 : Int) (a1 : Int) (a2 : Int) (a3 : Int) (a4 : WL rw_iL) (r : Bool) (h : qh2_ n a0 a1 a2 a3 a4 = some r) : qwc_ a0 a1 a2 a3 a4 r := by
 unfold qh2_ at h
 by_cases hc1 : a0 < 0
 ·rw [if_pos hc1] at h
  obtain rfl := oI h
  exact runF2 hm (kW [3] [] 1 1) (zz 4 (xdT hc1) <|
   ee) (by kernel_rfl)
 ·rw [if_neg hc1] at h
  have k0 := fun {A L l} (k : PL A L l) => zz 4 (xdF hc1) <|
   k
  by_cases hc2 : a0 ≥ (w64 (a1 + a2))
  ·rw [if_pos hc2] at h
   obtain rfl := oI h
   exact runF2 hm (kW [3] [] 1 1) (k0 <|
    zz 12 (xdT hc2) <|
    ee) (by kernel_rfl)
  ·rw [if_neg hc2] at h
   obtain rfl := oI h
   exact runF2 hm (kW [3] [] 1 1) (k0 <|
    zz 12 (xdF hc2) <|
    ee) (by kernel_rfl)

def qhn_ (a0 : NL) (a1 : Int) (a2 : Int) (a3 : Int) (a4 : WL rw_iL) (r : Int) : Value := match r with
 | o0 => (i6 o0)
def qho_ (a0 : NL) (a1 : Int) (a2 : Int) (a3 : Int) (a4 : WL rw_iL) (r : Int) : AH := match r with
 | o0 => ⟨sB [], 1, 1⟩
abbrev qmr_ (a0 : NL) (a1 : Int) (a2 : Int) (a3 : Int) (a4 : WL rw_iL) (r : Int) : Prop := Gv P (.func 42) [(nlV a0), (Value.func (.func 31) #[] #[(pN 0 0)])] ⟨sB [(0, (cB [(i6 a1), (i6 a2), (i6 a3), (wlV a4)] 25))], 1, 1⟩ (qhn_ a0 a1 a2 a3 a4 r) (qho_ a0 a1 a2 a3 a4 r)
abbrev qms_ (a0 : NL) (a1 : Int) (a2 : Int) (a3 : Int) (a4 : WL rw_iL) (r : Int) (ins outs : BL) : CallA := ⟨1, ins, qhn_ a0 a1 a2 a3 a4 r, qho_ a0 a1 a2 a3 a4 r, outs⟩
def qc3_ (x0 : Int) (x1 : Int) (x2 : Int) (x3 : WL rw_iL) (x4 : NL) (x5 : Int) (st : Int) : XSt := match st with
 | x6 => (sT 19 [(0, (nlV x4)), (1, (Value.func (.func 31) #[] #[(pN 0 0)])), (7, (i6 x5)), (8, (i6 x6))], [], ⟨sB [(0, (cB [(i6 x0), (i6 x1), (i6 x2), (wlV x3)] 25))], 1, 1⟩)
def q1_ (x0 : Int) (x1 : Int) (x2 : Int) (x3 : WL rw_iL) (x4 : NL) (x5 : Int) (r : (Int) ⊕ (Unit)) : Ex × XSt := match r with
 | .inl z0 => (.ret, (sT 19 [(4, (i6 z0))], [], ⟨sB [(0, (cB [(i6 x0), (i6 x1), (i6 x2), (wlV x3)] 25))], 1, 1⟩))
 | .inr _ => (.exit 0, (sT 19 [], [], ⟨sB [(0, (cB [(i6 x0), (i6 x1), (i6 x2), (wlV x3)] 25))], 1, 1⟩))
abbrev qlq_ (rd : Option Nat) (x0 : Int) (x1 : Int) (x2 : Int) (x3 : WL rw_iL) (x4 : NL) (x5 : Int) (st : Int) (r : (Int) ⊕ (Unit)) : Prop := CG P rd (fnN P 42) 1 (qx_ P 42 [false, true, false, true]) (qc3_ x0 x1 x2 x3 x4 x5 st) (q1_ x0 x1 x2 x3 x4 x5 r)
def qp_ (n : Nat) (x0 : Int) (x1 : Int) (x2 : Int) (x3 : WL rw_iL) (x4 : NL) (x5 : Int) (st : Int) : Option ((Int) ⊕ ((Int) ⊕ (Unit))) := match st with
 | x6 =>
  if x6 < x5 then
   if 0 ≤ x6 ∧ x6 < (((x4).l.length : Nat) : Int) then
    if (x6).toNat < ((x4).l).length then
     ((some (((x4).l).getD (x6).toNat 0))).bind fun y4_ =>
     (qh2_ n y4_ x0 x1 x2 x3).bind fun y5_ =>
     if y5_ = true then
      some (.inr (.inl x6))
     else
      some (.inl (w64 (x6 + 1)))
    else none
   else none
  else
   some (.inr (.inr ()))
def qcd_ (n : Nat) (x0 : Int) (x1 : Int) (x2 : Int) (x3 : WL rw_iL) (x4 : NL) (x5 : Int) (st : Int) : Option ((Int) ⊕ (Unit)) := iterM (qp_ n x0 x1 x2 x3 x4 x5) n st
theorem qgr_ (n : Nat) {rnd : Option Nat} (x0 : Int) (x1 : Int) (x2 : Int) (x3 : WL rw_iL) (x4 : NL) (x5 : Int) (x6 : Int) (o : (Int) ⊕ ((Int) ⊕ (Unit))) (h : qp_ n x0 x1 x2 x3 x4 x5 x6 = some o) : CG P rnd (fnN P 42) 1 (qx_ P 42 [false, false, true, false, true]) (qc3_ x0 x1 x2 x3 x4 x5 x6) (Sum.elim (fun s => (.normal, qc3_ x0 x1 x2 x3 x4 x5 s)) (fun r => q1_ x0 x1 x2 x3 x4 x5 r) o) := by
 unfold qp_ at h
 dsimp only at h
 by_cases hy1 : x6 < x5
 ·rw [if_pos hy1] at h
  obtain ⟨hy2, h⟩ := gd h
  obtain ⟨hy3, h⟩ := gd h
  obtain ⟨y4_, hy4, h⟩ := oB h
  obtain ⟨y5_, hy5, h⟩ := oB h
  have k0 := fun {A L l} (k : PL A L l) => zz 1 (xdT hy1) <|
   zz 13 (xk10 (Nat.add (x4).num 64) (x4).off (x4).cap hy2) <|
   zz 14 (nk11 hy4 hy3) <|
   yy 15 (.call (qwd_ y4_ x0 x1 x2 x3 y5_ [(0, 0, false)] [])) <|
   ww (qsf_ n y4_ x0 x1 x2 x3 y5_ hy5) <|
   k
  by_cases hy6 : y5_ = true
  ·rw [if_pos hy6] at h
   obtain rfl := oI h
   exact runC2 hm (kW [4] [(0, 0, false)] 1 1) (k0 <|
    zz 16 (xbT hy6) <|
    ee) (by kernel_rfl)
  ·rw [if_neg hy6] at h
   obtain rfl := oI h
   exact runC2 hm (kW [0, 1, 7, 8] [(0, 0, false)] 1 1) (k0 <|
    zz 16 (xbF hy6) <|
    ee) (by kernel_rfl)
 ·rw [if_neg hy1] at h
  obtain rfl := oI h
  exact runC2 hm (kW [] [(0, 0, false)] 1 1) (zz 1 (xdF hy1) <|
   ee) (by kernel_rfl)
theorem qfj_ (n : Nat) {rnd : Option Nat} (x0 : Int) (x1 : Int) (x2 : Int) (x3 : WL rw_iL) (x4 : NL) (x5 : Int) (st : Int) (r : (Int) ⊕ (Unit)) (h : qcd_ n x0 x1 x2 x3 x4 x5 st = some r) : qlq_ rnd x0 x1 x2 x3 x4 x5 st r :=
 CG.iter (b := qx_ P 42 [false, false, true, false, true]) (by kernel_rfl) (body := qp_ n x0 x1 x2 x3 x4 x5) (S := qc3_ x0 x1 x2 x3 x4 x5) (X := q1_ x0 x1 x2 x3 x4 x5)
  (fun s s' h => qgr_ n x0 x1 x2 x3 x4 x5 s (.inl s') h)
  (fun s r h => qgr_ n x0 x1 x2 x3 x4 x5 s (.inr r) h)
  (fun r => by intro hx; rcases r with _ | _ <;> cases hx) h
def qdk_ (n : Nat) (a0 : NL) (a1 : Int) (a2 : Int) (a3 : Int) (a4 : WL rw_iL) : Option (Int) :=
 match qcd_ n a1 a2 a3 a4 a0 (((a0).l.length : Nat) : Int) 0 with
 | none => none
 | some (.inl c1_) =>
  some c1_
 | some (.inr _) =>
  some (-1)
theorem qky_ (n : Nat) (a0 : NL) (a1 : Int) (a2 : Int) (a3 : Int) (a4 : WL rw_iL) (r : Int) (h : qdk_ n a0 a1 a2 a3 a4 = some r) : qmr_ a0 a1 a2 a3 a4 r := by
 unfold qdk_ at h
 rcases hc1 : qcd_ n a1 a2 a3 a4 a0 (((a0).l.length : Nat) : Int) 0 with _ | (c1_ | ⟨⟩)
 ·rw [hc1] at h; cases h
 ·rw [hc1] at h
  dsimp only at h
  obtain rfl := oI h
  exact runF2 hm (kW [4] [] 1 1) (ww (qfj_ n (rnd := none) a1 a2 a3 a4 a0 (((a0).l.length : Nat) : Int) 0 (.inl c1_) hc1) <|
   ll 8 ⟨(kW [0, 1, 7, 8] [(0, 0, false)] 1 1), (q1_ a1 a2 a3 a4 a0 (((a0).l.length : Nat) : Int) (.inl c1_)).1, (q1_ a1 a2 a3 a4 a0 (((a0).l.length : Nat) : Int) (.inl c1_)).2⟩ <|
   ee) (by kernel_rfl)
 ·rw [hc1] at h
  dsimp only at h
  obtain rfl := oI h
  exact runF2 hm (kW [4] [] 1 1) (ww (qfj_ n (rnd := none) a1 a2 a3 a4 a0 (((a0).l.length : Nat) : Int) 0 (.inr ()) hc1) <|
   ll 8 ⟨(kW [0, 1, 7, 8] [(0, 0, false)] 1 1), (q1_ a1 a2 a3 a4 a0 (((a0).l.length : Nat) : Int) (.inr ())).1, (q1_ a1 a2 a3 a4 a0 (((a0).l.length : Nat) : Int) (.inr ())).2⟩ <|
   ee) (by kernel_rfl)

def qf3_ (a0 : NL) (a1 : Int) (a2 : Int) (a3 : Int) (a4 : WL rw_iL) (r : Bool) : Value := match r with
 | o0 => (bO o0)
def qf4_ (a0 : NL) (a1 : Int) (a2 : Int) (a3 : Int) (a4 : WL rw_iL) (r : Bool) : AH := match r with
 | o0 => ⟨sB [], 1, 1⟩
abbrev qkz_ (a0 : NL) (a1 : Int) (a2 : Int) (a3 : Int) (a4 : WL rw_iL) (r : Bool) : Prop := Gv P (.func 32) [(nlV a0), (Value.func (.func 31) #[] #[(pN 0 0)])] ⟨sB [(0, (cB [(i6 a1), (i6 a2), (i6 a3), (wlV a4)] 25))], 1, 1⟩ (qf3_ a0 a1 a2 a3 a4 r) (qf4_ a0 a1 a2 a3 a4 r)
abbrev qk0_ (a0 : NL) (a1 : Int) (a2 : Int) (a3 : Int) (a4 : WL rw_iL) (r : Bool) (ins outs : BL) : CallA := ⟨1, ins, qf3_ a0 a1 a2 a3 a4 r, qf4_ a0 a1 a2 a3 a4 r, outs⟩
def qb2_ (n : Nat) (a0 : NL) (a1 : Int) (a2 : Int) (a3 : Int) (a4 : WL rw_iL) : Option (Bool) :=
 (qdk_ n a0 a1 a2 a3 a4).bind fun c1_ =>
 if c1_ ≥ 0 then
  some true
 else
  some false
theorem qja_ (n : Nat) (a0 : NL) (a1 : Int) (a2 : Int) (a3 : Int) (a4 : WL rw_iL) (r : Bool) (h : qb2_ n a0 a1 a2 a3 a4 = some r) : qkz_ a0 a1 a2 a3 a4 r := by
 unfold qb2_ at h
 obtain ⟨c1_, hc1, h⟩ := oB h
 have k0 := fun {A L l} (k : PL A L l) => yy 5 (.call (qms_ a0 a1 a2 a3 a4 c1_ [(0, 0, false)] [])) <|
  ww (qky_ n a0 a1 a2 a3 a4 c1_ hc1) <|
  k
 by_cases hc2 : c1_ ≥ 0
 ·rw [if_pos hc2] at h
  obtain rfl := oI h
  exact runF2 hm (kW [4] [] 1 1) (k0 <|
   zz 6 (xdT hc2) <|
   ee) (by kernel_rfl)
 ·rw [if_neg hc2] at h
  obtain rfl := oI h
  exact runF2 hm (kW [4] [] 1 1) (k0 <|
   zz 6 (xdF hc2) <|
   ee) (by kernel_rfl)

def qr4_ (a0 : Int) (a1 : Int) (a2 : Int) (a3 : WL rw_iL) (r : Int) : Value := match r with
 | o0 => (i6 o0)
def qr5_ (a0 : Int) (a1 : Int) (a2 : Int) (a3 : WL rw_iL) (r : Int) : AH := match r with
 | o0 => ⟨sB [], 0, 0⟩
abbrev G_gramCheckq1 (a0 : Int) (a1 : Int) (a2 : Int) (a3 : WL rw_iL) (r : Int) : Prop := Gv P (.func 19) [(Value.agg #[(i6 a0), (i6 a1), (i6 a2), (wlV a3)])] ⟨sB [], 0, 0⟩ (qr4_ a0 a1 a2 a3 r) (qr5_ a0 a1 a2 a3 r)
abbrev C_gramCheckq1 (a0 : Int) (a1 : Int) (a2 : Int) (a3 : WL rw_iL) (r : Int) (ins outs : BL) : CallA := ⟨0, ins, qr4_ a0 a1 a2 a3 r, qr5_ a0 a1 a2 a3 r, outs⟩
def qix_ (x0 : Int) (x1 : Int) (x2 : Int) (x3 : WL rw_iL) (x4 : Int) (st : Int) : XSt := match st with
 | x5 => (sT 83 [(1, (pN 0 0)), (59, (wlV x3)), (60, (i6 x4)), (61, (i6 x5))], [], ⟨sB [(0, (cB [(i6 x0), (i6 x1), (i6 x2), (wlV x3)] 25))], 1, 0⟩)
def qeu_ (x0 : Int) (x1 : Int) (x2 : Int) (x3 : WL rw_iL) (x4 : Int) (r : (Unit) ⊕ (Unit)) : Ex × XSt := match r with
 | .inl _ => (.ret, (sT 83 [(2, (i6 (2 : Int)))], [], ⟨sB [], 0, 0⟩))
 | .inr _ => (.exit 2, (sT 83 [], [], ⟨sB [], 0, 0⟩))
abbrev qum_ (rd : Option Nat) (x0 : Int) (x1 : Int) (x2 : Int) (x3 : WL rw_iL) (x4 : Int) (st : Int) (r : (Unit) ⊕ (Unit)) : Prop := CG P rd (fnN P 19) 0 (qx_ P 19 [false, true, false, true, true, true, true]) (qix_ x0 x1 x2 x3 x4 st) (qeu_ x0 x1 x2 x3 x4 r)
def qd7_ (n : Nat) (x0 : Int) (x1 : Int) (x2 : Int) (x3 : WL rw_iL) (x4 : Int) (st : Int) : Option ((Int) ⊕ ((Unit) ⊕ (Unit))) := match st with
 | x5 =>
  if x5 < x4 then
   if 0 ≤ x5 ∧ x5 < (((x3).l.length : Nat) : Int) then
    ((some (((x3).l).getD (x5).toNat (0, nl0)))).bind fun y3_ =>
    if (y3_.1) < 0 then
     some (.inr (.inl ()))
    else
     if (y3_.1) ≥ x1 then
      some (.inr (.inl ()))
     else
      (qb2_ n (y3_.2) x0 x1 x2 x3).bind fun y6_ =>
      if y6_ = true then
       some (.inr (.inl ()))
      else
       some (.inl (w64 (x5 + 1)))
   else none
  else
   some (.inr (.inr ()))
def qiy_ (n : Nat) (x0 : Int) (x1 : Int) (x2 : Int) (x3 : WL rw_iL) (x4 : Int) (st : Int) : Option ((Unit) ⊕ (Unit)) := iterM (qd7_ n x0 x1 x2 x3 x4) n st
theorem qpr_ (n : Nat) {rnd : Option Nat} (x0 : Int) (x1 : Int) (x2 : Int) (x3 : WL rw_iL) (x4 : Int) (x5 : Int) (o : (Int) ⊕ ((Unit) ⊕ (Unit))) (h : qd7_ n x0 x1 x2 x3 x4 x5 = some o) : CG P rnd (fnN P 19) 0 (qx_ P 19 [false, false, true, false, true, true, true, true]) (qix_ x0 x1 x2 x3 x4 x5) (Sum.elim (fun s => (.normal, qix_ x0 x1 x2 x3 x4 s)) (fun r => qeu_ x0 x1 x2 x3 x4 r) o) := by
 unfold qd7_ at h
 dsimp only at h
 by_cases hy1 : x5 < x4
 ·rw [if_pos hy1] at h
  obtain ⟨hy2, h⟩ := gd h
  obtain ⟨y3_, hy3, h⟩ := oB h
  have k0 := fun {A L l} (k : PL A L l) => zz 1 (xdT hy1) <|
   zz 7 (xk6 (x3).num (x3).off (x3).cap hy2) <|
   zz 8 (lk12 hy3 (qbp_ hy2)) <|
   k
  by_cases hy4 : (y3_.1) < 0
  ·rw [if_pos hy4] at h
   obtain rfl := oI h
   exact runC2 hm (kW [2] [] 0 0) (k0 <|
    zz 17 (xdT hy4) <|
    ee) (by kernel_rfl)
  ·rw [if_neg hy4] at h
   have k3 := fun {A L l} (k : PL A L l) => zz 17 (xdF hy4) <|
    k
   by_cases hy5 : (y3_.1) ≥ x1
   ·rw [if_pos hy5] at h
    obtain rfl := oI h
    exact runC2 hm (kW [2] [] 0 0) (k0 <|
     k3 <|
     zz 23 (xdT hy5) <|
     ee) (by kernel_rfl)
   ·rw [if_neg hy5] at h
    obtain ⟨y6_, hy6, h⟩ := oB h
    have k4 := fun {A L l} (k : PL A L l) => zz 23 (xdF hy5) <|
     yy 29 (.call (qk0_ (y3_.2) x0 x1 x2 x3 y6_ [(0, 0, false)] [])) <|
     ww (qja_ n (y3_.2) x0 x1 x2 x3 y6_ hy6) <|
     k
    by_cases hy7 : y6_ = true
    ·rw [if_pos hy7] at h
     obtain rfl := oI h
     exact runC2 hm (kW [2] [] 0 0) (k0 <|
      k3 <|
      k4 <|
      zz 31 (xbT hy7) <|
      ee) (by kernel_rfl)
    ·rw [if_neg hy7] at h
     obtain rfl := oI h
     exact runC2 hm (kW [1, 59, 60, 61] [(0, 0, false)] 1 0) (k0 <|
      k3 <|
      k4 <|
      zz 31 (xbF hy7) <|
      ee) (by kernel_rfl)
 ·rw [if_neg hy1] at h
  obtain rfl := oI h
  exact runC2 hm (kW [] [] 0 0) (zz 1 (xdF hy1) <|
   ee) (by kernel_rfl)
theorem qmt_ (n : Nat) {rnd : Option Nat} (x0 : Int) (x1 : Int) (x2 : Int) (x3 : WL rw_iL) (x4 : Int) (st : Int) (r : (Unit) ⊕ (Unit)) (h : qiy_ n x0 x1 x2 x3 x4 st = some r) : qum_ rnd x0 x1 x2 x3 x4 st r :=
 CG.iter (b := qx_ P 19 [false, false, true, false, true, true, true, true]) (by kernel_rfl) (body := qd7_ n x0 x1 x2 x3 x4) (S := qix_ x0 x1 x2 x3 x4) (X := qeu_ x0 x1 x2 x3 x4)
  (fun s s' h => qpr_ n x0 x1 x2 x3 x4 s (.inl s') h)
  (fun s r h => qpr_ n x0 x1 x2 x3 x4 s (.inr r) h)
  (fun r => by intro hx; rcases r with _ | _ <;> cases hx) h
def qiz_ (x0 : Int) (x1 : Int) (x2 : Int) (x3 : WL rw_iL) (x4 : Int) (st : Int) : XSt := match st with
 | x5 => (sT 83 [(1, (pN 0 0)), (28, (wlV x3)), (29, (i6 x4)), (30, (i6 x5))], [], ⟨sB [(0, (cB [(i6 x0), (i6 x1), (i6 x2), (wlV x3)] 25))], 1, 0⟩)
def qev_ (x0 : Int) (x1 : Int) (x2 : Int) (x3 : WL rw_iL) (x4 : Int) (r : (Unit) ⊕ (Unit)) : Ex × XSt := match r with
 | .inl _ => (.ret, (sT 83 [(2, (i6 (3 : Int)))], [], ⟨sB [], 0, 0⟩))
 | .inr _ => (.exit 0, (sT 83 [(1, (pN 0 0))], [], ⟨sB [(0, (cB [(i6 x0), (i6 x1), (i6 x2), (wlV x3)] 25))], 1, 0⟩))
abbrev qun_ (rd : Option Nat) (x0 : Int) (x1 : Int) (x2 : Int) (x3 : WL rw_iL) (x4 : Int) (st : Int) (r : (Unit) ⊕ (Unit)) : Prop := CG P rd (fnN P 19) 0 (qx_ P 19 [false, true, false, true, true]) (qiz_ x0 x1 x2 x3 x4 st) (qev_ x0 x1 x2 x3 x4 r)
def qd8_ (n : Nat) (x0 : Int) (x1 : Int) (x2 : Int) (x3 : WL rw_iL) (x4 : Int) (st : Int) : Option ((Int) ⊕ ((Unit) ⊕ (Unit))) := match st with
 | x5 =>
  if x5 < x4 then
   if 0 ≤ x5 ∧ x5 < (((x3).l.length : Nat) : Int) then
    ((some (((x3).l).getD (x5).toNat (0, nl0)))).bind fun y3_ =>
    if ((((y3_.2)).l.length : Nat) : Int) > 8 then
     some (.inr (.inl ()))
    else
     some (.inl (w64 (x5 + 1)))
   else none
  else
   some (.inr (.inr ()))
def qi0_ (n : Nat) (x0 : Int) (x1 : Int) (x2 : Int) (x3 : WL rw_iL) (x4 : Int) (st : Int) : Option ((Unit) ⊕ (Unit)) := iterM (qd8_ n x0 x1 x2 x3 x4) n st
theorem qps_ (n : Nat) {rnd : Option Nat} (x0 : Int) (x1 : Int) (x2 : Int) (x3 : WL rw_iL) (x4 : Int) (x5 : Int) (o : (Int) ⊕ ((Unit) ⊕ (Unit))) (h : qd8_ n x0 x1 x2 x3 x4 x5 = some o) : CG P rnd (fnN P 19) 0 (qx_ P 19 [false, false, true, false, true, true]) (qiz_ x0 x1 x2 x3 x4 x5) (Sum.elim (fun s => (.normal, qiz_ x0 x1 x2 x3 x4 s)) (fun r => qev_ x0 x1 x2 x3 x4 r) o) := by
 unfold qd8_ at h
 dsimp only at h
 by_cases hy1 : x5 < x4
 ·rw [if_pos hy1] at h
  obtain ⟨hy2, h⟩ := gd h
  obtain ⟨y3_, hy3, h⟩ := oB h
  have k0 := fun {A L l} (k : PL A L l) => zz 1 (xdT hy1) <|
   zz 7 (xk6 (x3).num (x3).off (x3).cap hy2) <|
   zz 8 (lk12 hy3 (qbp_ hy2)) <|
   k
  by_cases hy4 : ((((y3_.2)).l.length : Nat) : Int) > 8
  ·rw [if_pos hy4] at h
   obtain rfl := oI h
   exact runC2 hm (kW [2] [] 0 0) (k0 <|
    zz 15 (xdT hy4) <|
    ee) (by kernel_rfl)
  ·rw [if_neg hy4] at h
   obtain rfl := oI h
   exact runC2 hm (kW [1, 28, 29, 30] [(0, 0, false)] 1 0) (k0 <|
    zz 15 (xdF hy4) <|
    ee) (by kernel_rfl)
 ·rw [if_neg hy1] at h
  obtain rfl := oI h
  exact runC2 hm (kW [1] [(0, 0, false)] 1 0) (zz 1 (xdF hy1) <|
   ee) (by kernel_rfl)
theorem qmu_ (n : Nat) {rnd : Option Nat} (x0 : Int) (x1 : Int) (x2 : Int) (x3 : WL rw_iL) (x4 : Int) (st : Int) (r : (Unit) ⊕ (Unit)) (h : qi0_ n x0 x1 x2 x3 x4 st = some r) : qun_ rnd x0 x1 x2 x3 x4 st r :=
 CG.iter (b := qx_ P 19 [false, false, true, false, true, true]) (by kernel_rfl) (body := qd8_ n x0 x1 x2 x3 x4) (S := qiz_ x0 x1 x2 x3 x4) (X := qev_ x0 x1 x2 x3 x4)
  (fun s s' h => qps_ n x0 x1 x2 x3 x4 s (.inl s') h)
  (fun s r h => qps_ n x0 x1 x2 x3 x4 s (.inr r) h)
  (fun r => by intro hx; rcases r with _ | _ <;> cases hx) h
def qhp_ (n : Nat) (a0 : Int) (a1 : Int) (a2 : Int) (a3 : WL rw_iL) : Option (Int) :=
 if a0 > 8 then
  some 3
 else
  if a1 > 16 then
   some 3
  else
   if a2 > 3 then
    some 3
   else
    if (((a3).l.length : Nat) : Int) > 64 then
     some 3
    else
     match qi0_ n a0 a1 a2 a3 (((a3).l.length : Nat) : Int) 0 with
     | none => none
     | some (.inl _) =>
      some 3
     | some (.inr _) =>
      if a0 < 1 then
       some 2
      else
       if a1 < 1 then
        some 2
       else
        if a2 < 1 then
         some 2
        else
         if (((a3).l.length : Nat) : Int) < 1 then
          some 2
         else
          match qiy_ n a0 a1 a2 a3 (((a3).l.length : Nat) : Int) 0 with
          | none => none
          | some (.inl _) =>
           some 2
          | some (.inr _) =>
           some 0
theorem qt0_ (n : Nat) (a0 : Int) (a1 : Int) (a2 : Int) (a3 : WL rw_iL) (r : Int) (h : qhp_ n a0 a1 a2 a3 = some r) : G_gramCheckq1 a0 a1 a2 a3 r := by
 unfold qhp_ at h
 by_cases hc1 : a0 > 8
 ·rw [if_pos hc1] at h
  obtain rfl := oI h
  exact runF2 hm (kW [2] [] 0 0) (zz 7 (xdT hc1) <|
   ee) (by kernel_rfl)
 ·rw [if_neg hc1] at h
  have k0 := fun {A L l} (k : PL A L l) => zz 7 (xdF hc1) <|
   k
  by_cases hc2 : a1 > 16
  ·rw [if_pos hc2] at h
   obtain rfl := oI h
   exact runF2 hm (kW [2] [] 0 0) (k0 <|
    zz 11 (xdT hc2) <|
    ee) (by kernel_rfl)
  ·rw [if_neg hc2] at h
   have k1 := fun {A L l} (k : PL A L l) => zz 11 (xdF hc2) <|
    k
   by_cases hc3 : a2 > 3
   ·rw [if_pos hc3] at h
    obtain rfl := oI h
    exact runF2 hm (kW [2] [] 0 0) (k0 <|
     k1 <|
     zz 16 (xdT hc3) <|
     ee) (by kernel_rfl)
   ·rw [if_neg hc3] at h
    have k2 := fun {A L l} (k : PL A L l) => zz 16 (xdF hc3) <|
     k
    by_cases hc4 : (((a3).l.length : Nat) : Int) > 64
    ·rw [if_pos hc4] at h
     obtain rfl := oI h
     exact runF2 hm (kW [2] [] 0 0) (k0 <|
      k1 <|
      k2 <|
      zz 22 (xdT hc4) <|
      ee) (by kernel_rfl)
    ·rw [if_neg hc4] at h
     have k3 := fun {A L l} (k : PL A L l) => zz 22 (xdF hc4) <|
      k
     rcases hc5 : qi0_ n a0 a1 a2 a3 (((a3).l.length : Nat) : Int) 0 with _ | (⟨⟩ | ⟨⟩)
     ·rw [hc5] at h; cases h
     ·rw [hc5] at h
      dsimp only at h
      obtain rfl := oI h
      exact runF2 hm (kW [2] [] 0 0) (k0 <|
       k1 <|
       k2 <|
       k3 <|
       ww (qmu_ n (rnd := none) a0 a1 a2 a3 (((a3).l.length : Nat) : Int) 0 (.inl ()) hc5) <|
       ll 32 ⟨(kW [1, 28, 29, 30] [(0, 0, false)] 1 0), (qev_ a0 a1 a2 a3 (((a3).l.length : Nat) : Int) (.inl ())).1, (qev_ a0 a1 a2 a3 (((a3).l.length : Nat) : Int) (.inl ())).2⟩ <|
       ee) (by kernel_rfl)
     ·rw [hc5] at h
      dsimp only at h
      have k4 := fun {A L l} (k : PL A L l) => ww (qmu_ n (rnd := none) a0 a1 a2 a3 (((a3).l.length : Nat) : Int) 0 (.inr ()) hc5) <|
       ll 32 ⟨(kW [1, 28, 29, 30] [(0, 0, false)] 1 0), (qev_ a0 a1 a2 a3 (((a3).l.length : Nat) : Int) (.inr ())).1, (qev_ a0 a1 a2 a3 (((a3).l.length : Nat) : Int) (.inr ())).2⟩ <|
       k
      by_cases hc6 : a0 < 1
      ·rw [if_pos hc6] at h
       obtain rfl := oI h
       exact runF2 hm (kW [2] [] 0 0) (k0 <|
        k1 <|
        k2 <|
        k3 <|
        k4 <|
        zz 37 (xdT hc6) <|
        ee) (by kernel_rfl)
      ·rw [if_neg hc6] at h
       have k6 := fun {A L l} (k : PL A L l) => zz 37 (xdF hc6) <|
        k
       by_cases hc7 : a1 < 1
       ·rw [if_pos hc7] at h
        obtain rfl := oI h
        exact runF2 hm (kW [2] [] 0 0) (k0 <|
         k1 <|
         k2 <|
         k3 <|
         k4 <|
         k6 <|
         zz 41 (xdT hc7) <|
         ee) (by kernel_rfl)
       ·rw [if_neg hc7] at h
        have k7 := fun {A L l} (k : PL A L l) => zz 41 (xdF hc7) <|
         k
        by_cases hc8 : a2 < 1
        ·rw [if_pos hc8] at h
         obtain rfl := oI h
         exact runF2 hm (kW [2] [] 0 0) (k0 <|
          k1 <|
          k2 <|
          k3 <|
          k4 <|
          k6 <|
          k7 <|
          zz 46 (xdT hc8) <|
          ee) (by kernel_rfl)
        ·rw [if_neg hc8] at h
         have k8 := fun {A L l} (k : PL A L l) => zz 46 (xdF hc8) <|
          k
         by_cases hc9 : (((a3).l.length : Nat) : Int) < 1
         ·rw [if_pos hc9] at h
          obtain rfl := oI h
          exact runF2 hm (kW [2] [] 0 0) (k0 <|
           k1 <|
           k2 <|
           k3 <|
           k4 <|
           k6 <|
           k7 <|
           k8 <|
           zz 52 (xdT hc9) <|
           ee) (by kernel_rfl)
         ·rw [if_neg hc9] at h
          have k9 := fun {A L l} (k : PL A L l) => zz 52 (xdF hc9) <|
           k
          rcases hc10 : qiy_ n a0 a1 a2 a3 (((a3).l.length : Nat) : Int) 0 with _ | (⟨⟩ | ⟨⟩)
          ·rw [hc10] at h; cases h
          ·rw [hc10] at h
           dsimp only at h
           obtain rfl := oI h
           exact runF2 hm (kW [2] [] 0 0) (k0 <|
            k1 <|
            k2 <|
            k3 <|
            k4 <|
            k6 <|
            k7 <|
            k8 <|
            k9 <|
            ww (qmt_ n (rnd := none) a0 a1 a2 a3 (((a3).l.length : Nat) : Int) 0 (.inl ()) hc10) <|
            ll 62 ⟨(kW [1, 59, 60, 61] [(0, 0, false)] 1 0), (qeu_ a0 a1 a2 a3 (((a3).l.length : Nat) : Int) (.inl ())).1, (qeu_ a0 a1 a2 a3 (((a3).l.length : Nat) : Int) (.inl ())).2⟩ <|
            ee) (by kernel_rfl)
          ·rw [hc10] at h
           dsimp only at h
           obtain rfl := oI h
           exact runF2 hm (kW [2] [] 0 0) (k0 <|
            k1 <|
            k2 <|
            k3 <|
            k4 <|
            k6 <|
            k7 <|
            k8 <|
            k9 <|
            ww (qmt_ n (rnd := none) a0 a1 a2 a3 (((a3).l.length : Nat) : Int) 0 (.inr ()) hc10) <|
            ll 62 ⟨(kW [1, 59, 60, 61] [(0, 0, false)] 1 0), (qeu_ a0 a1 a2 a3 (((a3).l.length : Nat) : Int) (.inr ())).1, (qeu_ a0 a1 a2 a3 (((a3).l.length : Nat) : Int) (.inr ())).2⟩ <|
            ee) (by kernel_rfl)

def qoo_ (a0 : Int) (a1 : Int) (a2 : Int) (a3 : Int) (a4 : WL rw_iL) (r : Bool) : Value := match r with
 | o0 => (bO o0)
def qop_ (a0 : Int) (a1 : Int) (a2 : Int) (a3 : Int) (a4 : WL rw_iL) (r : Bool) : AH := match r with
 | o0 => ⟨sB [], 1, 1⟩
abbrev qt1_ (a0 : Int) (a1 : Int) (a2 : Int) (a3 : Int) (a4 : WL rw_iL) (r : Bool) : Prop := Gv P (.func 34) [(i6 a0), (pN 0 0)] ⟨sB [(0, (cB [(i6 a1), (i6 a2), (i6 a3), (wlV a4)] 25))], 1, 1⟩ (qoo_ a0 a1 a2 a3 a4 r) (qop_ a0 a1 a2 a3 a4 r)
abbrev qt2_ (a0 : Int) (a1 : Int) (a2 : Int) (a3 : Int) (a4 : WL rw_iL) (r : Bool) (ins outs : BL) : CallA := ⟨1, ins, qoo_ a0 a1 a2 a3 a4 r, qop_ a0 a1 a2 a3 a4 r, outs⟩
def qf5_ (n : Nat) (a0 : Int) (a1 : Int) (a2 : Int) (a3 : Int) (a4 : WL rw_iL) : Option (Bool) :=
 if a0 = (-3 : Int) then
  some false
 else
  if a0 < a1 then
   some true
  else
   if a0 ≥ (w64 (a1 + a2)) then
    some true
   else
    some false
theorem qqy_ (n : Nat) (a0 : Int) (a1 : Int) (a2 : Int) (a3 : Int) (a4 : WL rw_iL) (r : Bool) (h : qf5_ n a0 a1 a2 a3 a4 = some r) : qt1_ a0 a1 a2 a3 a4 r := by
 unfold qf5_ at h
 by_cases hc1 : a0 = (-3 : Int)
 ·rw [if_pos hc1] at h
  obtain rfl := oI h
  exact runF2 hm (kW [3] [] 1 1) (zz 4 (xnF hc1) <|
   ee) (by kernel_rfl)
 ·rw [if_neg hc1] at h
  have k0 := fun {A L l} (k : PL A L l) => zz 4 (xnT hc1) <|
   k
  by_cases hc2 : a0 < a1
  ·rw [if_pos hc2] at h
   obtain rfl := oI h
   exact runF2 hm (kW [3] [] 1 1) (k0 <|
    zz 9 (xdT hc2) <|
    ee) (by kernel_rfl)
  ·rw [if_neg hc2] at h
   have k1 := fun {A L l} (k : PL A L l) => zz 9 (xdF hc2) <|
    k
   by_cases hc3 : a0 ≥ (w64 (a1 + a2))
   ·rw [if_pos hc3] at h
    obtain rfl := oI h
    exact runF2 hm (kW [3] [] 1 1) (k0 <|
     k1 <|
     zz 17 (xdT hc3) <|
     ee) (by kernel_rfl)
   ·rw [if_neg hc3] at h
    obtain rfl := oI h
    exact runF2 hm (kW [3] [] 1 1) (k0 <|
     k1 <|
     zz 17 (xdF hc3) <|
     ee) (by kernel_rfl)

def qhq_ (a0 : NL) (a1 : Int) (a2 : Int) (a3 : Int) (a4 : WL rw_iL) (r : Int) : Value := match r with
 | o0 => (i6 o0)
def qhr_ (a0 : NL) (a1 : Int) (a2 : Int) (a3 : Int) (a4 : WL rw_iL) (r : Int) : AH := match r with
 | o0 => ⟨sB [], 1, 1⟩
abbrev qmv_ (a0 : NL) (a1 : Int) (a2 : Int) (a3 : Int) (a4 : WL rw_iL) (r : Int) : Prop := Gv P (.func 42) [(nlV a0), (Value.func (.func 34) #[] #[(pN 0 0)])] ⟨sB [(0, (cB [(i6 a1), (i6 a2), (i6 a3), (wlV a4)] 25))], 1, 1⟩ (qhq_ a0 a1 a2 a3 a4 r) (qhr_ a0 a1 a2 a3 a4 r)
abbrev qmw_ (a0 : NL) (a1 : Int) (a2 : Int) (a3 : Int) (a4 : WL rw_iL) (r : Int) (ins outs : BL) : CallA := ⟨1, ins, qhq_ a0 a1 a2 a3 a4 r, qhr_ a0 a1 a2 a3 a4 r, outs⟩
def qc4_ (x0 : Int) (x1 : Int) (x2 : Int) (x3 : WL rw_iL) (x4 : NL) (x5 : Int) (st : Int) : XSt := match st with
 | x6 => (sT 19 [(0, (nlV x4)), (1, (Value.func (.func 34) #[] #[(pN 0 0)])), (7, (i6 x5)), (8, (i6 x6))], [], ⟨sB [(0, (cB [(i6 x0), (i6 x1), (i6 x2), (wlV x3)] 25))], 1, 1⟩)
def q2_ (x0 : Int) (x1 : Int) (x2 : Int) (x3 : WL rw_iL) (x4 : NL) (x5 : Int) (r : (Int) ⊕ (Unit)) : Ex × XSt := match r with
 | .inl z0 => (.ret, (sT 19 [(4, (i6 z0))], [], ⟨sB [(0, (cB [(i6 x0), (i6 x1), (i6 x2), (wlV x3)] 25))], 1, 1⟩))
 | .inr _ => (.exit 0, (sT 19 [], [], ⟨sB [(0, (cB [(i6 x0), (i6 x1), (i6 x2), (wlV x3)] 25))], 1, 1⟩))
abbrev qlr_ (rd : Option Nat) (x0 : Int) (x1 : Int) (x2 : Int) (x3 : WL rw_iL) (x4 : NL) (x5 : Int) (st : Int) (r : (Int) ⊕ (Unit)) : Prop := CG P rd (fnN P 42) 1 (qx_ P 42 [false, true, false, true]) (qc4_ x0 x1 x2 x3 x4 x5 st) (q2_ x0 x1 x2 x3 x4 x5 r)
def qq_ (n : Nat) (x0 : Int) (x1 : Int) (x2 : Int) (x3 : WL rw_iL) (x4 : NL) (x5 : Int) (st : Int) : Option ((Int) ⊕ ((Int) ⊕ (Unit))) := match st with
 | x6 =>
  if x6 < x5 then
   if 0 ≤ x6 ∧ x6 < (((x4).l.length : Nat) : Int) then
    if (x6).toNat < ((x4).l).length then
     ((some (((x4).l).getD (x6).toNat 0))).bind fun y4_ =>
     (qf5_ n y4_ x0 x1 x2 x3).bind fun y5_ =>
     if y5_ = true then
      some (.inr (.inl x6))
     else
      some (.inl (w64 (x6 + 1)))
    else none
   else none
  else
   some (.inr (.inr ()))
def qce_ (n : Nat) (x0 : Int) (x1 : Int) (x2 : Int) (x3 : WL rw_iL) (x4 : NL) (x5 : Int) (st : Int) : Option ((Int) ⊕ (Unit)) := iterM (qq_ n x0 x1 x2 x3 x4 x5) n st
theorem qgs_ (n : Nat) {rnd : Option Nat} (x0 : Int) (x1 : Int) (x2 : Int) (x3 : WL rw_iL) (x4 : NL) (x5 : Int) (x6 : Int) (o : (Int) ⊕ ((Int) ⊕ (Unit))) (h : qq_ n x0 x1 x2 x3 x4 x5 x6 = some o) : CG P rnd (fnN P 42) 1 (qx_ P 42 [false, false, true, false, true]) (qc4_ x0 x1 x2 x3 x4 x5 x6) (Sum.elim (fun s => (.normal, qc4_ x0 x1 x2 x3 x4 x5 s)) (fun r => q2_ x0 x1 x2 x3 x4 x5 r) o) := by
 unfold qq_ at h
 dsimp only at h
 by_cases hy1 : x6 < x5
 ·rw [if_pos hy1] at h
  obtain ⟨hy2, h⟩ := gd h
  obtain ⟨hy3, h⟩ := gd h
  obtain ⟨y4_, hy4, h⟩ := oB h
  obtain ⟨y5_, hy5, h⟩ := oB h
  have k0 := fun {A L l} (k : PL A L l) => zz 1 (xdT hy1) <|
   zz 13 (xk10 (Nat.add (x4).num 64) (x4).off (x4).cap hy2) <|
   zz 14 (nk11 hy4 hy3) <|
   yy 15 (.call (qt2_ y4_ x0 x1 x2 x3 y5_ [(0, 0, false)] [])) <|
   ww (qqy_ n y4_ x0 x1 x2 x3 y5_ hy5) <|
   k
  by_cases hy6 : y5_ = true
  ·rw [if_pos hy6] at h
   obtain rfl := oI h
   exact runC2 hm (kW [4] [(0, 0, false)] 1 1) (k0 <|
    zz 16 (xbT hy6) <|
    ee) (by kernel_rfl)
  ·rw [if_neg hy6] at h
   obtain rfl := oI h
   exact runC2 hm (kW [0, 1, 7, 8] [(0, 0, false)] 1 1) (k0 <|
    zz 16 (xbF hy6) <|
    ee) (by kernel_rfl)
 ·rw [if_neg hy1] at h
  obtain rfl := oI h
  exact runC2 hm (kW [] [(0, 0, false)] 1 1) (zz 1 (xdF hy1) <|
   ee) (by kernel_rfl)
theorem qfk_ (n : Nat) {rnd : Option Nat} (x0 : Int) (x1 : Int) (x2 : Int) (x3 : WL rw_iL) (x4 : NL) (x5 : Int) (st : Int) (r : (Int) ⊕ (Unit)) (h : qce_ n x0 x1 x2 x3 x4 x5 st = some r) : qlr_ rnd x0 x1 x2 x3 x4 x5 st r :=
 CG.iter (b := qx_ P 42 [false, false, true, false, true]) (by kernel_rfl) (body := qq_ n x0 x1 x2 x3 x4 x5) (S := qc4_ x0 x1 x2 x3 x4 x5) (X := q2_ x0 x1 x2 x3 x4 x5)
  (fun s s' h => qgs_ n x0 x1 x2 x3 x4 x5 s (.inl s') h)
  (fun s r h => qgs_ n x0 x1 x2 x3 x4 x5 s (.inr r) h)
  (fun r => by intro hx; rcases r with _ | _ <;> cases hx) h
def qdl_ (n : Nat) (a0 : NL) (a1 : Int) (a2 : Int) (a3 : Int) (a4 : WL rw_iL) : Option (Int) :=
 match qce_ n a1 a2 a3 a4 a0 (((a0).l.length : Nat) : Int) 0 with
 | none => none
 | some (.inl c1_) =>
  some c1_
 | some (.inr _) =>
  some (-1)
theorem qk1_ (n : Nat) (a0 : NL) (a1 : Int) (a2 : Int) (a3 : Int) (a4 : WL rw_iL) (r : Int) (h : qdl_ n a0 a1 a2 a3 a4 = some r) : qmv_ a0 a1 a2 a3 a4 r := by
 unfold qdl_ at h
 rcases hc1 : qce_ n a1 a2 a3 a4 a0 (((a0).l.length : Nat) : Int) 0 with _ | (c1_ | ⟨⟩)
 ·rw [hc1] at h; cases h
 ·rw [hc1] at h
  dsimp only at h
  obtain rfl := oI h
  exact runF2 hm (kW [4] [] 1 1) (ww (qfk_ n (rnd := none) a1 a2 a3 a4 a0 (((a0).l.length : Nat) : Int) 0 (.inl c1_) hc1) <|
   ll 8 ⟨(kW [0, 1, 7, 8] [(0, 0, false)] 1 1), (q2_ a1 a2 a3 a4 a0 (((a0).l.length : Nat) : Int) (.inl c1_)).1, (q2_ a1 a2 a3 a4 a0 (((a0).l.length : Nat) : Int) (.inl c1_)).2⟩ <|
   ee) (by kernel_rfl)
 ·rw [hc1] at h
  dsimp only at h
  obtain rfl := oI h
  exact runF2 hm (kW [4] [] 1 1) (ww (qfk_ n (rnd := none) a1 a2 a3 a4 a0 (((a0).l.length : Nat) : Int) 0 (.inr ()) hc1) <|
   ll 8 ⟨(kW [0, 1, 7, 8] [(0, 0, false)] 1 1), (q2_ a1 a2 a3 a4 a0 (((a0).l.length : Nat) : Int) (.inr ())).1, (q2_ a1 a2 a3 a4 a0 (((a0).l.length : Nat) : Int) (.inr ())).2⟩ <|
   ee) (by kernel_rfl)

def qf6_ (a0 : NL) (a1 : Int) (a2 : Int) (a3 : Int) (a4 : WL rw_iL) (r : Bool) : Value := match r with
 | o0 => (bO o0)
def qf7_ (a0 : NL) (a1 : Int) (a2 : Int) (a3 : Int) (a4 : WL rw_iL) (r : Bool) : AH := match r with
 | o0 => ⟨sB [], 1, 1⟩
abbrev qk2_ (a0 : NL) (a1 : Int) (a2 : Int) (a3 : Int) (a4 : WL rw_iL) (r : Bool) : Prop := Gv P (.func 32) [(nlV a0), (Value.func (.func 34) #[] #[(pN 0 0)])] ⟨sB [(0, (cB [(i6 a1), (i6 a2), (i6 a3), (wlV a4)] 25))], 1, 1⟩ (qf6_ a0 a1 a2 a3 a4 r) (qf7_ a0 a1 a2 a3 a4 r)
abbrev qk3_ (a0 : NL) (a1 : Int) (a2 : Int) (a3 : Int) (a4 : WL rw_iL) (r : Bool) (ins outs : BL) : CallA := ⟨1, ins, qf6_ a0 a1 a2 a3 a4 r, qf7_ a0 a1 a2 a3 a4 r, outs⟩
def qb3_ (n : Nat) (a0 : NL) (a1 : Int) (a2 : Int) (a3 : Int) (a4 : WL rw_iL) : Option (Bool) :=
 (qdl_ n a0 a1 a2 a3 a4).bind fun c1_ =>
 if c1_ ≥ 0 then
  some true
 else
  some false
theorem qjb_ (n : Nat) (a0 : NL) (a1 : Int) (a2 : Int) (a3 : Int) (a4 : WL rw_iL) (r : Bool) (h : qb3_ n a0 a1 a2 a3 a4 = some r) : qk2_ a0 a1 a2 a3 a4 r := by
 unfold qb3_ at h
 obtain ⟨c1_, hc1, h⟩ := oB h
 have k0 := fun {A L l} (k : PL A L l) => yy 5 (.call (qmw_ a0 a1 a2 a3 a4 c1_ [(0, 0, false)] [])) <|
  ww (qk1_ n a0 a1 a2 a3 a4 c1_ hc1) <|
  k
 by_cases hc2 : c1_ ≥ 0
 ·rw [if_pos hc2] at h
  obtain rfl := oI h
  exact runF2 hm (kW [4] [] 1 1) (k0 <|
   zz 6 (xdT hc2) <|
   ee) (by kernel_rfl)
 ·rw [if_neg hc2] at h
  obtain rfl := oI h
  exact runF2 hm (kW [4] [] 1 1) (k0 <|
   zz 6 (xdF hc2) <|
   ee) (by kernel_rfl)

def qpt_ (a0 : Int) (a1 : NL) (a2 : Int) (a3 : Int) (a4 : Int) (a5 : Int) (a6 : Int) (a7 : WL rw_iL) (r : Bool) : Value := match r with
 | o0 => (bO o0)
def qpu_ (a0 : Int) (a1 : NL) (a2 : Int) (a3 : Int) (a4 : Int) (a5 : Int) (a6 : Int) (a7 : WL rw_iL) (r : Bool) : AH := match r with
 | o0 => ⟨sB [], 0, 0⟩
abbrev quo_ (a0 : Int) (a1 : NL) (a2 : Int) (a3 : Int) (a4 : Int) (a5 : Int) (a6 : Int) (a7 : WL rw_iL) (r : Bool) : Prop := Gv P (.func 22) [(Value.agg #[(i6 a0), (nlV a1), (i6 a2), (i6 a3)]), (Value.agg #[(i6 a4), (i6 a5), (i6 a6), (wlV a7)])] ⟨sB [], 0, 0⟩ (qpt_ a0 a1 a2 a3 a4 a5 a6 a7 r) (qpu_ a0 a1 a2 a3 a4 a5 a6 a7 r)
abbrev qup_ (a0 : Int) (a1 : NL) (a2 : Int) (a3 : Int) (a4 : Int) (a5 : Int) (a6 : Int) (a7 : WL rw_iL) (r : Bool) (ins outs : BL) : CallA := ⟨0, ins, qpt_ a0 a1 a2 a3 a4 a5 a6 a7 r, qpu_ a0 a1 a2 a3 a4 a5 a6 a7 r, outs⟩
def qi1_ (n : Nat) (a0 : Int) (a1 : NL) (a2 : Int) (a3 : Int) (a4 : Int) (a5 : Int) (a6 : Int) (a7 : WL rw_iL) : Option (Bool) :=
 if a2 < 1 then
  some false
 else
  if a3 < (-1000 : Int) then
   some false
  else
   if a3 > 1000 then
    some false
   else
    if a0 < (-1 : Int) then
     some false
    else
     if a0 ≥ a4 then
      some false
     else
      if (((a1).l.length : Nat) : Int) > 8 then
       some false
      else
       (qb3_ n a1 a4 a5 a6 a7).bind fun c7_ =>
       if c7_ = true then
        some false
       else
        some true
theorem qrn_ (n : Nat) (a0 : Int) (a1 : NL) (a2 : Int) (a3 : Int) (a4 : Int) (a5 : Int) (a6 : Int) (a7 : WL rw_iL) (r : Bool) (h : qi1_ n a0 a1 a2 a3 a4 a5 a6 a7 = some r) : quo_ a0 a1 a2 a3 a4 a5 a6 a7 r := by
 unfold qi1_ at h
 by_cases hc1 : a2 < 1
 ·rw [if_pos hc1] at h
  obtain rfl := oI h
  exact runF2 hm (kW [4] [] 0 0) (zz 8 (xdT hc1) <|
   ee) (by kernel_rfl)
 ·rw [if_neg hc1] at h
  have k0 := fun {A L l} (k : PL A L l) => zz 8 (xdF hc1) <|
   k
  by_cases hc2 : a3 < (-1000 : Int)
  ·rw [if_pos hc2] at h
   obtain rfl := oI h
   exact runF2 hm (kW [4] [] 0 0) (k0 <|
    zz 12 (xdT hc2) <|
    ee) (by kernel_rfl)
  ·rw [if_neg hc2] at h
   have k1 := fun {A L l} (k : PL A L l) => zz 12 (xdF hc2) <|
    k
   by_cases hc3 : a3 > 1000
   ·rw [if_pos hc3] at h
    obtain rfl := oI h
    exact runF2 hm (kW [4] [] 0 0) (k0 <|
     k1 <|
     zz 17 (xdT hc3) <|
     ee) (by kernel_rfl)
   ·rw [if_neg hc3] at h
    have k2 := fun {A L l} (k : PL A L l) => zz 17 (xdF hc3) <|
     k
    by_cases hc4 : a0 < (-1 : Int)
    ·rw [if_pos hc4] at h
     obtain rfl := oI h
     exact runF2 hm (kW [4] [] 0 0) (k0 <|
      k1 <|
      k2 <|
      zz 22 (xdT hc4) <|
      ee) (by kernel_rfl)
    ·rw [if_neg hc4] at h
     have k3 := fun {A L l} (k : PL A L l) => zz 22 (xdF hc4) <|
      k
     by_cases hc5 : a0 ≥ a4
     ·rw [if_pos hc5] at h
      obtain rfl := oI h
      exact runF2 hm (kW [4] [] 0 0) (k0 <|
       k1 <|
       k2 <|
       k3 <|
       zz 29 (xdT hc5) <|
       ee) (by kernel_rfl)
     ·rw [if_neg hc5] at h
      have k4 := fun {A L l} (k : PL A L l) => zz 29 (xdF hc5) <|
       k
      by_cases hc6 : (((a1).l.length : Nat) : Int) > 8
      ·rw [if_pos hc6] at h
       obtain rfl := oI h
       exact runF2 hm (kW [4] [] 0 0) (k0 <|
        k1 <|
        k2 <|
        k3 <|
        k4 <|
        zz 35 (xdT hc6) <|
        ee) (by kernel_rfl)
      ·rw [if_neg hc6] at h
       obtain ⟨c7_, hc7, h⟩ := oB h
       have k5 := fun {A L l} (k : PL A L l) => zz 35 (xdF hc6) <|
        yy 45 (.call (qk3_ a1 a4 a5 a6 a7 c7_ [(0, 1, false)] [])) <|
        ww (qjb_ n a1 a4 a5 a6 a7 c7_ hc7) <|
        k
       by_cases hc8 : c7_ = true
       ·rw [if_pos hc8] at h
        obtain rfl := oI h
        exact runF2 hm (kW [4] [] 0 0) (k0 <|
         k1 <|
         k2 <|
         k3 <|
         k4 <|
         k5 <|
         yy 46 (vf) <|
         ww (p := (Value.bool (!c7_)) = (Value.bool false)) (vBn hc8) <|
         ee) (by kernel_rfl)
       ·rw [if_neg hc8] at h
        obtain rfl := oI h
        exact runF2 hm (kW [4] [] 0 0) (k0 <|
         k1 <|
         k2 <|
         k3 <|
         k4 <|
         k5 <|
         yy 46 (vt) <|
         ww (p := (Value.bool (!c7_)) = (Value.bool true)) (vBn (Bool.eq_false_iff.2 hc8)) <|
         ee) (by kernel_rfl)

def qoq_ (a0 : Int) (a1 : NL) (a2 : Int) (a3 : Int) (a4 : Int) (a5 : Int) (a6 : Int) (a7 : WL rw_iL) (r : Bool) : Value := match r with
 | o0 => (bO o0)
def qor_ (a0 : Int) (a1 : NL) (a2 : Int) (a3 : Int) (a4 : Int) (a5 : Int) (a6 : Int) (a7 : WL rw_iL) (r : Bool) : AH := match r with
 | o0 => ⟨sB [], 1, 1⟩
abbrev qt3_ (a0 : Int) (a1 : NL) (a2 : Int) (a3 : Int) (a4 : Int) (a5 : Int) (a6 : Int) (a7 : WL rw_iL) (r : Bool) : Prop := Gv P (.func 21) [(Value.agg #[(i6 a0), (nlV a1), (i6 a2), (i6 a3)]), (pN 0 0)] ⟨sB [(0, (cB [(i6 a4), (i6 a5), (i6 a6), (wlV a7)] 25))], 1, 1⟩ (qoq_ a0 a1 a2 a3 a4 a5 a6 a7 r) (qor_ a0 a1 a2 a3 a4 a5 a6 a7 r)
abbrev qt4_ (a0 : Int) (a1 : NL) (a2 : Int) (a3 : Int) (a4 : Int) (a5 : Int) (a6 : Int) (a7 : WL rw_iL) (r : Bool) (ins outs : BL) : CallA := ⟨1, ins, qoq_ a0 a1 a2 a3 a4 a5 a6 a7 r, qor_ a0 a1 a2 a3 a4 a5 a6 a7 r, outs⟩
def qf8_ (n : Nat) (a0 : Int) (a1 : NL) (a2 : Int) (a3 : Int) (a4 : Int) (a5 : Int) (a6 : Int) (a7 : WL rw_iL) : Option (Bool) :=
 (qi1_ n a0 a1 a2 a3 a4 a5 a6 a7).bind fun c1_ =>
 if c1_ = true then
  some false
 else
  some true
theorem qqz_ (n : Nat) (a0 : Int) (a1 : NL) (a2 : Int) (a3 : Int) (a4 : Int) (a5 : Int) (a6 : Int) (a7 : WL rw_iL) (r : Bool) (h : qf8_ n a0 a1 a2 a3 a4 a5 a6 a7 = some r) : qt3_ a0 a1 a2 a3 a4 a5 a6 a7 r := by
 unfold qf8_ at h
 obtain ⟨c1_, hc1, h⟩ := oB h
 have k0 := fun {A L l} (k : PL A L l) => yy 6 (.call (qup_ a0 a1 a2 a3 a4 a5 a6 a7 c1_ [] [])) <|
  ww (qrn_ n a0 a1 a2 a3 a4 a5 a6 a7 c1_ hc1) <|
  k
 by_cases hc2 : c1_ = true
 ·rw [if_pos hc2] at h
  obtain rfl := oI h
  exact runF2 hm (kW [3] [] 1 1) (k0 <|
   yy 7 (vf) <|
   ww (p := (Value.bool (!c1_)) = (Value.bool false)) (vBn hc2) <|
   ee) (by kernel_rfl)
 ·rw [if_neg hc2] at h
  obtain rfl := oI h
  exact runF2 hm (kW [3] [] 1 1) (k0 <|
   yy 7 (vt) <|
   ww (p := (Value.bool (!c1_)) = (Value.bool true)) (vBn (Bool.eq_false_iff.2 hc2)) <|
   ee) (by kernel_rfl)

def qgt_ (a0 : WL rw_iLii) (a1 : Int) (a2 : Int) (a3 : Int) (a4 : WL rw_iL) (r : Int) : Value := match r with
 | o0 => (i6 o0)
def qgu_ (a0 : WL rw_iLii) (a1 : Int) (a2 : Int) (a3 : Int) (a4 : WL rw_iL) (r : Int) : AH := match r with
 | o0 => ⟨sB [], 1, 1⟩
abbrev qls_ (a0 : WL rw_iLii) (a1 : Int) (a2 : Int) (a3 : Int) (a4 : WL rw_iL) (r : Int) : Prop := Gv P (.func 33) [(wlV a0), (Value.func (.func 21) #[] #[(pN 0 0)])] ⟨sB [(0, (cB [(i6 a1), (i6 a2), (i6 a3), (wlV a4)] 25))], 1, 1⟩ (qgt_ a0 a1 a2 a3 a4 r) (qgu_ a0 a1 a2 a3 a4 r)
abbrev qlt_ (a0 : WL rw_iLii) (a1 : Int) (a2 : Int) (a3 : Int) (a4 : WL rw_iL) (r : Int) (ins outs : BL) : CallA := ⟨1, ins, qgt_ a0 a1 a2 a3 a4 r, qgu_ a0 a1 a2 a3 a4 r, outs⟩
def qco_ (x0 : Int) (x1 : Int) (x2 : Int) (x3 : WL rw_iL) (x4 : WL rw_iLii) (x5 : Int) (st : Int) : XSt := match st with
 | x6 => (sT 19 [(0, (wlV x4)), (1, (Value.func (.func 21) #[] #[(pN 0 0)])), (7, (i6 x5)), (8, (i6 x6))], [], ⟨sB [(0, (cB [(i6 x0), (i6 x1), (i6 x2), (wlV x3)] 25))], 1, 1⟩)
def qs_ (x0 : Int) (x1 : Int) (x2 : Int) (x3 : WL rw_iL) (x4 : WL rw_iLii) (x5 : Int) (r : (Int) ⊕ (Unit)) : Ex × XSt := match r with
 | .inl z0 => (.ret, (sT 19 [(4, (i6 z0))], [], ⟨sB [(0, (cB [(i6 x0), (i6 x1), (i6 x2), (wlV x3)] 25))], 1, 1⟩))
 | .inr _ => (.exit 0, (sT 19 [], [], ⟨sB [(0, (cB [(i6 x0), (i6 x1), (i6 x2), (wlV x3)] 25))], 1, 1⟩))
abbrev qkc_ (rd : Option Nat) (x0 : Int) (x1 : Int) (x2 : Int) (x3 : WL rw_iL) (x4 : WL rw_iLii) (x5 : Int) (st : Int) (r : (Int) ⊕ (Unit)) : Prop := CG P rd (fnN P 33) 1 (qx_ P 33 [false, true, false, true]) (qco_ x0 x1 x2 x3 x4 x5 st) (qs_ x0 x1 x2 x3 x4 x5 r)
def ql_ (n : Nat) (x0 : Int) (x1 : Int) (x2 : Int) (x3 : WL rw_iL) (x4 : WL rw_iLii) (x5 : Int) (st : Int) : Option ((Int) ⊕ ((Int) ⊕ (Unit))) := match st with
 | x6 =>
  if x6 < x5 then
   if 0 ≤ x6 ∧ x6 < (((x4).l.length : Nat) : Int) then
    ((some (((x4).l).getD (x6).toNat (0, nl0, 0, 0)))).bind fun y3_ =>
    (qf8_ n (y3_.1) (y3_.2.1) (y3_.2.2.1) (y3_.2.2.2) x0 x1 x2 x3).bind fun y4_ =>
    if y4_ = true then
     some (.inr (.inl x6))
    else
     some (.inl (w64 (x6 + 1)))
   else none
  else
   some (.inr (.inr ()))
def qbz_ (n : Nat) (x0 : Int) (x1 : Int) (x2 : Int) (x3 : WL rw_iL) (x4 : WL rw_iLii) (x5 : Int) (st : Int) : Option ((Int) ⊕ (Unit)) := iterM (ql_ n x0 x1 x2 x3 x4 x5) n st
theorem qfv_ (n : Nat) {rnd : Option Nat} (x0 : Int) (x1 : Int) (x2 : Int) (x3 : WL rw_iL) (x4 : WL rw_iLii) (x5 : Int) (x6 : Int) (o : (Int) ⊕ ((Int) ⊕ (Unit))) (h : ql_ n x0 x1 x2 x3 x4 x5 x6 = some o) : CG P rnd (fnN P 33) 1 (qx_ P 33 [false, false, true, false, true]) (qco_ x0 x1 x2 x3 x4 x5 x6) (Sum.elim (fun s => (.normal, qco_ x0 x1 x2 x3 x4 x5 s)) (fun r => qs_ x0 x1 x2 x3 x4 x5 r) o) := by
 unfold ql_ at h
 dsimp only at h
 by_cases hy1 : x6 < x5
 ·rw [if_pos hy1] at h
  obtain ⟨hy2, h⟩ := gd h
  obtain ⟨y3_, hy3, h⟩ := oB h
  obtain ⟨y4_, hy4, h⟩ := oB h
  have k0 := fun {A L l} (k : PL A L l) => zz 1 (xdT hy1) <|
   zz 13 (xk1 (x4).num (x4).off (x4).cap hy2) <|
   zz 14 (lk9 hy3 (qbp_ hy2)) <|
   yy 15 (.call (qt4_ (y3_.1) (y3_.2.1) (y3_.2.2.1) (y3_.2.2.2) x0 x1 x2 x3 y4_ [(0, 0, false)] [])) <|
   ww (qqz_ n (y3_.1) (y3_.2.1) (y3_.2.2.1) (y3_.2.2.2) x0 x1 x2 x3 y4_ hy4) <|
   k
  by_cases hy5 : y4_ = true
  ·rw [if_pos hy5] at h
   obtain rfl := oI h
   exact runC2 hm (kW [4] [(0, 0, false)] 1 1) (k0 <|
    zz 16 (xbT hy5) <|
    ee) (by kernel_rfl)
  ·rw [if_neg hy5] at h
   obtain rfl := oI h
   exact runC2 hm (kW [0, 1, 7, 8] [(0, 0, false)] 1 1) (k0 <|
    zz 16 (xbF hy5) <|
    ee) (by kernel_rfl)
 ·rw [if_neg hy1] at h
  obtain rfl := oI h
  exact runC2 hm (kW [] [(0, 0, false)] 1 1) (zz 1 (xdF hy1) <|
   ee) (by kernel_rfl)
theorem qe3_ (n : Nat) {rnd : Option Nat} (x0 : Int) (x1 : Int) (x2 : Int) (x3 : WL rw_iL) (x4 : WL rw_iLii) (x5 : Int) (st : Int) (r : (Int) ⊕ (Unit)) (h : qbz_ n x0 x1 x2 x3 x4 x5 st = some r) : qkc_ rnd x0 x1 x2 x3 x4 x5 st r :=
 CG.iter (b := qx_ P 33 [false, false, true, false, true]) (by kernel_rfl) (body := ql_ n x0 x1 x2 x3 x4 x5) (S := qco_ x0 x1 x2 x3 x4 x5) (X := qs_ x0 x1 x2 x3 x4 x5)
  (fun s s' h => qfv_ n x0 x1 x2 x3 x4 x5 s (.inl s') h)
  (fun s r h => qfv_ n x0 x1 x2 x3 x4 x5 s (.inr r) h)
  (fun r => by intro hx; rcases r with _ | _ <;> cases hx) h
def qc5_ (n : Nat) (a0 : WL rw_iLii) (a1 : Int) (a2 : Int) (a3 : Int) (a4 : WL rw_iL) : Option (Int) :=
 match qbz_ n a1 a2 a3 a4 a0 (((a0).l.length : Nat) : Int) 0 with
 | none => none
 | some (.inl c1_) =>
  some c1_
 | some (.inr _) =>
  some (-1)
theorem qjs_ (n : Nat) (a0 : WL rw_iLii) (a1 : Int) (a2 : Int) (a3 : Int) (a4 : WL rw_iL) (r : Int) (h : qc5_ n a0 a1 a2 a3 a4 = some r) : qls_ a0 a1 a2 a3 a4 r := by
 unfold qc5_ at h
 rcases hc1 : qbz_ n a1 a2 a3 a4 a0 (((a0).l.length : Nat) : Int) 0 with _ | (c1_ | ⟨⟩)
 ·rw [hc1] at h; cases h
 ·rw [hc1] at h
  dsimp only at h
  obtain rfl := oI h
  exact runF2 hm (kW [4] [] 1 1) (ww (qe3_ n (rnd := none) a1 a2 a3 a4 a0 (((a0).l.length : Nat) : Int) 0 (.inl c1_) hc1) <|
   ll 8 ⟨(kW [0, 1, 7, 8] [(0, 0, false)] 1 1), (qs_ a1 a2 a3 a4 a0 (((a0).l.length : Nat) : Int) (.inl c1_)).1, (qs_ a1 a2 a3 a4 a0 (((a0).l.length : Nat) : Int) (.inl c1_)).2⟩ <|
   ee) (by kernel_rfl)
 ·rw [hc1] at h
  dsimp only at h
  obtain rfl := oI h
  exact runF2 hm (kW [4] [] 1 1) (ww (qe3_ n (rnd := none) a1 a2 a3 a4 a0 (((a0).l.length : Nat) : Int) 0 (.inr ()) hc1) <|
   ll 8 ⟨(kW [0, 1, 7, 8] [(0, 0, false)] 1 1), (qs_ a1 a2 a3 a4 a0 (((a0).l.length : Nat) : Int) (.inr ())).1, (qs_ a1 a2 a3 a4 a0 (((a0).l.length : Nat) : Int) (.inr ())).2⟩ <|
   ee) (by kernel_rfl)

def qfl_ (a0 : WL rw_iLii) (a1 : Int) (a2 : Int) (a3 : Int) (a4 : WL rw_iL) (r : Bool) : Value := match r with
 | o0 => (bO o0)
def qfm_ (a0 : WL rw_iLii) (a1 : Int) (a2 : Int) (a3 : Int) (a4 : WL rw_iL) (r : Bool) : AH := match r with
 | o0 => ⟨sB [], 1, 1⟩
abbrev qjt_ (a0 : WL rw_iLii) (a1 : Int) (a2 : Int) (a3 : Int) (a4 : WL rw_iL) (r : Bool) : Prop := Gv P (.func 20) [(wlV a0), (Value.func (.func 21) #[] #[(pN 0 0)])] ⟨sB [(0, (cB [(i6 a1), (i6 a2), (i6 a3), (wlV a4)] 25))], 1, 1⟩ (qfl_ a0 a1 a2 a3 a4 r) (qfm_ a0 a1 a2 a3 a4 r)
abbrev qju_ (a0 : WL rw_iLii) (a1 : Int) (a2 : Int) (a3 : Int) (a4 : WL rw_iL) (r : Bool) (ins outs : BL) : CallA := ⟨1, ins, qfl_ a0 a1 a2 a3 a4 r, qfm_ a0 a1 a2 a3 a4 r, outs⟩
def qbq_ (n : Nat) (a0 : WL rw_iLii) (a1 : Int) (a2 : Int) (a3 : Int) (a4 : WL rw_iL) : Option (Bool) :=
 (qc5_ n a0 a1 a2 a3 a4).bind fun c1_ =>
 if c1_ ≥ 0 then
  some true
 else
  some false
theorem qik_ (n : Nat) (a0 : WL rw_iLii) (a1 : Int) (a2 : Int) (a3 : Int) (a4 : WL rw_iL) (r : Bool) (h : qbq_ n a0 a1 a2 a3 a4 = some r) : qjt_ a0 a1 a2 a3 a4 r := by
 unfold qbq_ at h
 obtain ⟨c1_, hc1, h⟩ := oB h
 have k0 := fun {A L l} (k : PL A L l) => yy 5 (.call (qlt_ a0 a1 a2 a3 a4 c1_ [(0, 0, false)] [])) <|
  ww (qjs_ n a0 a1 a2 a3 a4 c1_ hc1) <|
  k
 by_cases hc2 : c1_ ≥ 0
 ·rw [if_pos hc2] at h
  obtain rfl := oI h
  exact runF2 hm (kW [4] [] 1 1) (k0 <|
   zz 6 (xdT hc2) <|
   ee) (by kernel_rfl)
 ·rw [if_neg hc2] at h
  obtain rfl := oI h
  exact runF2 hm (kW [4] [] 1 1) (k0 <|
   zz 6 (xdF hc2) <|
   ee) (by kernel_rfl)

def qpv_ (a0 : WL rw_iLii) (a1 : Int) (a2 : Int) (a3 : Int) (a4 : WL rw_iL) (r : Int) : Value := match r with
 | o0 => (i6 o0)
def qpw_ (a0 : WL rw_iLii) (a1 : Int) (a2 : Int) (a3 : Int) (a4 : WL rw_iL) (r : Int) : AH := match r with
 | o0 => ⟨sB [], 0, 0⟩
abbrev quq_ (a0 : WL rw_iLii) (a1 : Int) (a2 : Int) (a3 : Int) (a4 : WL rw_iL) (r : Int) : Prop := Gv P (.func 9) [(wlV a0), (Value.agg #[(i6 a1), (i6 a2), (i6 a3), (wlV a4)])] ⟨sB [], 0, 0⟩ (qpv_ a0 a1 a2 a3 a4 r) (qpw_ a0 a1 a2 a3 a4 r)
abbrev qur_ (a0 : WL rw_iLii) (a1 : Int) (a2 : Int) (a3 : Int) (a4 : WL rw_iL) (r : Int) (ins outs : BL) : CallA := ⟨0, ins, qpv_ a0 a1 a2 a3 a4 r, qpw_ a0 a1 a2 a3 a4 r, outs⟩
def qg9_ (n : Nat) (a0 : WL rw_iLii) (a1 : Int) (a2 : Int) (a3 : Int) (a4 : WL rw_iL) : Option (Int) :=
 (qhp_ n a1 a2 a3 a4).bind fun c1_ =>
 if c1_ = 0 then
  if (((a0).l.length : Nat) : Int) > 64 then
   some 3
  else
   (qbq_ n a0 a1 a2 a3 a4).bind fun c4_ =>
   if c4_ = true then
    some 2
   else
    some 0
 else
  some c1_
theorem qro_ (n : Nat) (a0 : WL rw_iLii) (a1 : Int) (a2 : Int) (a3 : Int) (a4 : WL rw_iL) (r : Int) (h : qg9_ n a0 a1 a2 a3 a4 = some r) : quq_ a0 a1 a2 a3 a4 r := by
 unfold qg9_ at h
 obtain ⟨c1_, hc1, h⟩ := oB h
 have k0 := fun {A L l} (k : PL A L l) => yy 6 (.call (C_gramCheckq1 a1 a2 a3 a4 c1_ [] [])) <|
  ww (qt0_ n a1 a2 a3 a4 c1_ hc1) <|
  k
 by_cases hc2 : c1_ = 0
 ·rw [if_pos hc2] at h
  have k2 := fun {A L l} (k : PL A L l) => zz 10 (xnF hc2) <|
   k
  by_cases hc3 : (((a0).l.length : Nat) : Int) > 64
  ·rw [if_pos hc3] at h
   obtain rfl := oI h
   exact runF2 hm (kW [4] [] 0 0) (k0 <|
    k2 <|
    zz 16 (xdT hc3) <|
    ee) (by kernel_rfl)
  ·rw [if_neg hc3] at h
   obtain ⟨c4_, hc4, h⟩ := oB h
   have k3 := fun {A L l} (k : PL A L l) => zz 16 (xdF hc3) <|
    yy 22 (.call (qju_ a0 a1 a2 a3 a4 c4_ [(0, 0, false)] [])) <|
    ww (qik_ n a0 a1 a2 a3 a4 c4_ hc4) <|
    k
   by_cases hc5 : c4_ = true
   ·rw [if_pos hc5] at h
    obtain rfl := oI h
    exact runF2 hm (kW [4] [] 0 0) (k0 <|
     k2 <|
     k3 <|
     zz 23 (xbT hc5) <|
     ee) (by kernel_rfl)
   ·rw [if_neg hc5] at h
    obtain rfl := oI h
    exact runF2 hm (kW [4] [] 0 0) (k0 <|
     k2 <|
     k3 <|
     zz 23 (xbF hc5) <|
     ee) (by kernel_rfl)
 ·rw [if_neg hc2] at h
  obtain rfl := oI h
  exact runF2 hm (kW [4] [] 0 0) (k0 <|
   zz 10 (xnT hc2) <|
   ee) (by kernel_rfl)

def qjc_ (a0 : Int) (a1 : Int) (a2 : Int) (a3 : WL rw_iL) (r : Int) : Value := match r with
 | o0 => (i6 o0)
def qjd_ (a0 : Int) (a1 : Int) (a2 : Int) (a3 : WL rw_iL) (r : Int) : AH := match r with
 | o0 => ⟨sB [], 0, 0⟩
abbrev qos_ (a0 : Int) (a1 : Int) (a2 : Int) (a3 : WL rw_iL) (r : Int) : Prop := Gv P (.func 23) [(Value.agg #[(i6 a0), (i6 a1), (i6 a2), (wlV a3)])] ⟨sB [], 0, 0⟩ (qjc_ a0 a1 a2 a3 r) (qjd_ a0 a1 a2 a3 r)
abbrev qot_ (a0 : Int) (a1 : Int) (a2 : Int) (a3 : WL rw_iL) (r : Int) (ins outs : BL) : CallA := ⟨0, ins, qjc_ a0 a1 a2 a3 r, qjd_ a0 a1 a2 a3 r, outs⟩
def qds_ (x0 : Int) (x1 : Int) (x2 : Int) (x3 : WL rw_iL) (x4 : Int) (x5 : Int) (x6 : NL) (st : Int) : XSt := match st with
 | x7 => (sT 108 [(1, (pN 0 0)), (4, (i6 x4)), (5, (pN 1 0)), (6, (i6 x7))], [], ⟨sB [(0, (cB [(i6 x0), (i6 x1), (i6 x2), (wlV x3)] 25)), (1, (cB [(i6 x5), (nlV x6)] 43))], 2, 0⟩)
def qbh_ (x0 : Int) (x1 : Int) (x2 : Int) (x3 : WL rw_iL) (x4 : Int) (x5 : Int) (x6 : NL) (r : (Unit) ⊕ (Unit)) : Ex × XSt := match r with
 | .inl _ => (.ret, (sT 108 [(2, (i6 (2 : Int)))], [], ⟨sB [], 0, 0⟩))
 | .inr _ => (.exit 4, (sT 108 [(1, (pN 0 0)), (4, (i6 x4))], [], ⟨sB [(0, (cB [(i6 x0), (i6 x1), (i6 x2), (wlV x3)] 25))], 1, 0⟩))
abbrev qnc_ (rd : Option Nat) (x0 : Int) (x1 : Int) (x2 : Int) (x3 : WL rw_iL) (x4 : Int) (x5 : Int) (x6 : NL) (st : Int) (r : (Unit) ⊕ (Unit)) : Prop := CG P rd (fnN P 23) 0 (qx_ P 23 [false, true, true, true, false, false, true, false, false, true, false, true, true, true, true]) (qds_ x0 x1 x2 x3 x4 x5 x6 st) (qbh_ x0 x1 x2 x3 x4 x5 x6 r)
def q6_ (n : Nat) (x0 : Int) (x1 : Int) (x2 : Int) (x3 : WL rw_iL) (x4 : Int) (x5 : Int) (x6 : NL) (st : Int) : Option ((Int) ⊕ ((Unit) ⊕ (Unit))) := match st with
 | x7 =>
  if x7 < (((x6).l.length : Nat) : Int) then
   if 0 ≤ x7 ∧ x7 < (((x6).l.length : Nat) : Int) then
    if (x7).toNat < ((x6).l).length then
     ((some (((x6).l).getD (x7).toNat 0))).bind fun y4_ =>
     if y4_ < 0 then
      some (.inr (.inl ()))
     else
      if y4_ ≥ (w64 (x0 + x1)) then
       some (.inr (.inl ()))
      else
       some (.inl (w64 (x7 + 1)))
    else none
   else none
  else
   some (.inr (.inr ()))
def qdt_ (n : Nat) (x0 : Int) (x1 : Int) (x2 : Int) (x3 : WL rw_iL) (x4 : Int) (x5 : Int) (x6 : NL) (st : Int) : Option ((Unit) ⊕ (Unit)) := iterM (q6_ n x0 x1 x2 x3 x4 x5 x6) n st
theorem qh3_ (n : Nat) {rnd : Option Nat} (x0 : Int) (x1 : Int) (x2 : Int) (x3 : WL rw_iL) (x4 : Int) (x5 : Int) (x6 : NL) (x7 : Int) (o : (Int) ⊕ ((Unit) ⊕ (Unit))) (h : q6_ n x0 x1 x2 x3 x4 x5 x6 x7 = some o) : CG P rnd (fnN P 23) 0 (qx_ P 23 [false, false, true, true, true, false, false, true, false, false, true, false, true, true, true, true]) (qds_ x0 x1 x2 x3 x4 x5 x6 x7) (Sum.elim (fun s => (.normal, qds_ x0 x1 x2 x3 x4 x5 x6 s)) (fun r => qbh_ x0 x1 x2 x3 x4 x5 x6 r) o) := by
 unfold q6_ at h
 dsimp only at h
 by_cases hy1 : x7 < (((x6).l.length : Nat) : Int)
 ·rw [if_pos hy1] at h
  obtain ⟨hy2, h⟩ := gd h
  obtain ⟨hy3, h⟩ := gd h
  obtain ⟨y4_, hy4, h⟩ := oB h
  have k0 := fun {A L l} (k : PL A L l) => zz 6 (xdT hy1) <|
   zz 14 (xk10 (Nat.add (x6).num 64) (x6).off (x6).cap hy2) <|
   zz 15 (nk11 hy4 hy3) <|
   k
  by_cases hy5 : y4_ < 0
  ·rw [if_pos hy5] at h
   obtain rfl := oI h
   exact runC2 hm (kW [2] [] 0 0) (k0 <|
    zz 16 (xdT hy5) <|
    ee) (by kernel_rfl)
  ·rw [if_neg hy5] at h
   have k3 := fun {A L l} (k : PL A L l) => zz 16 (xdF hy5) <|
    zz 21 (xk10 (Nat.add (x6).num 64) (x6).off (x6).cap hy2) <|
    zz 22 (nk11 hy4 hy3) <|
    k
   by_cases hy6 : y4_ ≥ (w64 (x0 + x1))
   ·rw [if_pos hy6] at h
    obtain rfl := oI h
    exact runC2 hm (kW [2] [] 0 0) (k0 <|
     k3 <|
     zz 28 (xdT hy6) <|
     ee) (by kernel_rfl)
   ·rw [if_neg hy6] at h
    obtain rfl := oI h
    exact runC2 hm (kW [1, 4, 5, 6] (iD 2) 2 0) (k0 <|
     k3 <|
     zz 28 (xdF hy6) <|
     ee) (by kernel_rfl)
 ·rw [if_neg hy1] at h
  obtain rfl := oI h
  exact runC2 hm (kW [1, 4] [(0, 0, false)] 1 0) (zz 6 (xdF hy1) <|
   ee) (by kernel_rfl)
theorem qgv_ (n : Nat) {rnd : Option Nat} (x0 : Int) (x1 : Int) (x2 : Int) (x3 : WL rw_iL) (x4 : Int) (x5 : Int) (x6 : NL) (st : Int) (r : (Unit) ⊕ (Unit)) (h : qdt_ n x0 x1 x2 x3 x4 x5 x6 st = some r) : qnc_ rnd x0 x1 x2 x3 x4 x5 x6 st r :=
 CG.iter (b := qx_ P 23 [false, false, true, true, true, false, false, true, false, false, true, false, true, true, true, true]) (by kernel_rfl) (body := q6_ n x0 x1 x2 x3 x4 x5 x6) (S := qds_ x0 x1 x2 x3 x4 x5 x6) (X := qbh_ x0 x1 x2 x3 x4 x5 x6)
  (fun s s' h => qh3_ n x0 x1 x2 x3 x4 x5 x6 s (.inl s') h)
  (fun s r h => qh3_ n x0 x1 x2 x3 x4 x5 x6 s (.inr r) h)
  (fun r => by intro hx; rcases r with _ | _ <;> cases hx) h
def qdu_ (x0 : Int) (x1 : Int) (x2 : Int) (x3 : WL rw_iL) (st : Int) : XSt := match st with
 | x4 => (sT 108 [(1, (pN 0 0)), (4, (i6 x4))], [], ⟨sB [(0, (cB [(i6 x0), (i6 x1), (i6 x2), (wlV x3)] 25))], 1, 0⟩)
def qbi_ (x0 : Int) (x1 : Int) (x2 : Int) (x3 : WL rw_iL) (r : (Unit) ⊕ (Unit)) : Ex × XSt := match r with
 | .inl _ => (.ret, (sT 108 [(2, (i6 (2 : Int)))], [], ⟨sB [], 0, 0⟩))
 | .inr _ => (.exit 2, (sT 108 [], [], ⟨sB [], 0, 0⟩))
abbrev qnd_ (rd : Option Nat) (x0 : Int) (x1 : Int) (x2 : Int) (x3 : WL rw_iL) (st : Int) (r : (Unit) ⊕ (Unit)) : Prop := CG P rd (fnN P 23) 0 (qx_ P 23 [false, true, false, true, true, true, true]) (qdu_ x0 x1 x2 x3 st) (qbi_ x0 x1 x2 x3 r)
def q7_ (n : Nat) (x0 : Int) (x1 : Int) (x2 : Int) (x3 : WL rw_iL) (st : Int) : Option ((Int) ⊕ ((Unit) ⊕ (Unit))) := match st with
 | x4 =>
  if x4 < (((x3).l.length : Nat) : Int) then
   if 0 ≤ x4 ∧ x4 < (((x3).l.length : Nat) : Int) then
    ((some (((x3).l).getD (x4).toNat (0, nl0)))).bind fun y3_ =>
    if (y3_.1) < 0 then
     some (.inr (.inl ()))
    else
     if (y3_.1) ≥ x1 then
      some (.inr (.inl ()))
     else
      match qdt_ n x0 x1 x2 x3 x4 (y3_.1) (y3_.2) 0 with
      | none => none
      | some (.inl _) =>
       some (.inr (.inl ()))
      | some (.inr _) =>
       some (.inl (w64 (x4 + 1)))
   else none
  else
   some (.inr (.inr ()))
def qdv_ (n : Nat) (x0 : Int) (x1 : Int) (x2 : Int) (x3 : WL rw_iL) (st : Int) : Option ((Unit) ⊕ (Unit)) := iterM (q7_ n x0 x1 x2 x3) n st
theorem qh4_ (n : Nat) {rnd : Option Nat} (x0 : Int) (x1 : Int) (x2 : Int) (x3 : WL rw_iL) (x4 : Int) (o : (Int) ⊕ ((Unit) ⊕ (Unit))) (h : q7_ n x0 x1 x2 x3 x4 = some o) : CG P rnd (fnN P 23) 0 (qx_ P 23 [false, false, true, false, true, true, true, true]) (qdu_ x0 x1 x2 x3 x4) (Sum.elim (fun s => (.normal, qdu_ x0 x1 x2 x3 s)) (fun r => qbi_ x0 x1 x2 x3 r) o) := by
 unfold q7_ at h
 dsimp only at h
 by_cases hy1 : x4 < (((x3).l.length : Nat) : Int)
 ·rw [if_pos hy1] at h
  obtain ⟨hy2, h⟩ := gd h
  obtain ⟨y3_, hy3, h⟩ := oB h
  have k0 := fun {A L l} (k : PL A L l) => zz 6 (xdT hy1) <|
   zz 14 (xk6 (x3).num (x3).off (x3).cap hy2) <|
   zz 15 (lk12 hy3 (qbp_ hy2)) <|
   k
  by_cases hy4 : (y3_.1) < 0
  ·rw [if_pos hy4] at h
   obtain rfl := oI h
   exact runC2 hm (kW [2] [] 0 0) (k0 <|
    zz 22 (xdT hy4) <|
    ee) (by kernel_rfl)
  ·rw [if_neg hy4] at h
   have k3 := fun {A L l} (k : PL A L l) => zz 22 (xdF hy4) <|
    k
   by_cases hy5 : (y3_.1) ≥ x1
   ·rw [if_pos hy5] at h
    obtain rfl := oI h
    exact runC2 hm (kW [2] [] 0 0) (k0 <|
     k3 <|
     zz 28 (xdT hy5) <|
     ee) (by kernel_rfl)
   ·rw [if_neg hy5] at h
    have k4 := fun {A L l} (k : PL A L l) => zz 28 (xdF hy5) <|
     k
    rcases hy6 : qdt_ n x0 x1 x2 x3 x4 (y3_.1) (y3_.2) 0 with _ | (⟨⟩ | ⟨⟩)
    ·rw [hy6] at h; cases h
    ·rw [hy6] at h
     dsimp only at h
     obtain rfl := oI h
     exact runC2 hm (kW [2] [] 0 0) (k0 <|
      k3 <|
      k4 <|
      ww (qgv_ n (rnd := rnd) x0 x1 x2 x3 x4 (y3_.1) (y3_.2) 0 (.inl ()) hy6) <|
      ll 34 ⟨(kW [1, 4, 5, 6] (iD 2) 2 0), (qbh_ x0 x1 x2 x3 x4 (y3_.1) (y3_.2) (.inl ())).1, (qbh_ x0 x1 x2 x3 x4 (y3_.1) (y3_.2) (.inl ())).2⟩ <|
      ee) (by kernel_rfl)
    ·rw [hy6] at h
     dsimp only at h
     obtain rfl := oI h
     exact runC2 hm (kW [1, 4] [(0, 0, false)] 1 0) (k0 <|
      k3 <|
      k4 <|
      ww (qgv_ n (rnd := rnd) x0 x1 x2 x3 x4 (y3_.1) (y3_.2) 0 (.inr ()) hy6) <|
      ll 34 ⟨(kW [1, 4, 5, 6] (iD 2) 2 0), (qbh_ x0 x1 x2 x3 x4 (y3_.1) (y3_.2) (.inr ())).1, (qbh_ x0 x1 x2 x3 x4 (y3_.1) (y3_.2) (.inr ())).2⟩ <|
      ee) (by kernel_rfl)
 ·rw [if_neg hy1] at h
  obtain rfl := oI h
  exact runC2 hm (kW [] [] 0 0) (zz 6 (xdF hy1) <|
   ee) (by kernel_rfl)
theorem qgw_ (n : Nat) {rnd : Option Nat} (x0 : Int) (x1 : Int) (x2 : Int) (x3 : WL rw_iL) (st : Int) (r : (Unit) ⊕ (Unit)) (h : qdv_ n x0 x1 x2 x3 st = some r) : qnd_ rnd x0 x1 x2 x3 st r :=
 CG.iter (b := qx_ P 23 [false, false, true, false, true, true, true, true]) (by kernel_rfl) (body := q7_ n x0 x1 x2 x3) (S := qdu_ x0 x1 x2 x3) (X := qbi_ x0 x1 x2 x3)
  (fun s s' h => qh4_ n x0 x1 x2 x3 s (.inl s') h)
  (fun s r h => qh4_ n x0 x1 x2 x3 s (.inr r) h)
  (fun r => by intro hx; rcases r with _ | _ <;> cases hx) h
def qdw_ (x0 : Int) (x1 : Int) (x2 : Int) (x3 : WL rw_iL) (st : Int) : XSt := match st with
 | x4 => (sT 108 [(1, (pN 0 0)), (3, (i6 x4))], [], ⟨sB [(0, (cB [(i6 x0), (i6 x1), (i6 x2), (wlV x3)] 25))], 1, 0⟩)
def qbj_ (x0 : Int) (x1 : Int) (x2 : Int) (x3 : WL rw_iL) (r : (Unit) ⊕ (Unit)) : Ex × XSt := match r with
 | .inl _ => (.ret, (sT 108 [(2, (i6 (3 : Int)))], [], ⟨sB [], 0, 0⟩))
 | .inr _ => (.exit 0, (sT 108 [(1, (pN 0 0))], [], ⟨sB [(0, (cB [(i6 x0), (i6 x1), (i6 x2), (wlV x3)] 25))], 1, 0⟩))
abbrev qne_ (rd : Option Nat) (x0 : Int) (x1 : Int) (x2 : Int) (x3 : WL rw_iL) (st : Int) (r : (Unit) ⊕ (Unit)) : Prop := CG P rd (fnN P 23) 0 (qx_ P 23 [false, true, false, true, true]) (qdw_ x0 x1 x2 x3 st) (qbj_ x0 x1 x2 x3 r)
def q8_ (n : Nat) (x0 : Int) (x1 : Int) (x2 : Int) (x3 : WL rw_iL) (st : Int) : Option ((Int) ⊕ ((Unit) ⊕ (Unit))) := match st with
 | x4 =>
  if x4 < (((x3).l.length : Nat) : Int) then
   if 0 ≤ x4 ∧ x4 < (((x3).l.length : Nat) : Int) then
    ((some (((x3).l).getD (x4).toNat (0, nl0)))).bind fun y3_ =>
    if ((((y3_.2)).l.length : Nat) : Int) > 8 then
     some (.inr (.inl ()))
    else
     some (.inl (w64 (x4 + 1)))
   else none
  else
   some (.inr (.inr ()))
def qdx_ (n : Nat) (x0 : Int) (x1 : Int) (x2 : Int) (x3 : WL rw_iL) (st : Int) : Option ((Unit) ⊕ (Unit)) := iterM (q8_ n x0 x1 x2 x3) n st
theorem qh5_ (n : Nat) {rnd : Option Nat} (x0 : Int) (x1 : Int) (x2 : Int) (x3 : WL rw_iL) (x4 : Int) (o : (Int) ⊕ ((Unit) ⊕ (Unit))) (h : q8_ n x0 x1 x2 x3 x4 = some o) : CG P rnd (fnN P 23) 0 (qx_ P 23 [false, false, true, false, true, true]) (qdw_ x0 x1 x2 x3 x4) (Sum.elim (fun s => (.normal, qdw_ x0 x1 x2 x3 s)) (fun r => qbj_ x0 x1 x2 x3 r) o) := by
 unfold q8_ at h
 dsimp only at h
 by_cases hy1 : x4 < (((x3).l.length : Nat) : Int)
 ·rw [if_pos hy1] at h
  obtain ⟨hy2, h⟩ := gd h
  obtain ⟨y3_, hy3, h⟩ := oB h
  have k0 := fun {A L l} (k : PL A L l) => zz 6 (xdT hy1) <|
   zz 14 (xk6 (x3).num (x3).off (x3).cap hy2) <|
   zz 15 (fk7 (x3).num (Nat.add (x3).off ((x4).toNat * 2))) <|
   zz 16 (lk8 hy3 (qbp_ hy2)) <|
   k
  by_cases hy4 : ((((y3_.2)).l.length : Nat) : Int) > 8
  ·rw [if_pos hy4] at h
   obtain rfl := oI h
   exact runC2 hm (kW [2] [] 0 0) (k0 <|
    zz 18 (xdT hy4) <|
    ee) (by kernel_rfl)
  ·rw [if_neg hy4] at h
   obtain rfl := oI h
   exact runC2 hm (kW [1, 3] [(0, 0, false)] 1 0) (k0 <|
    zz 18 (xdF hy4) <|
    ee) (by kernel_rfl)
 ·rw [if_neg hy1] at h
  obtain rfl := oI h
  exact runC2 hm (kW [1] [(0, 0, false)] 1 0) (zz 6 (xdF hy1) <|
   ee) (by kernel_rfl)
theorem qgx_ (n : Nat) {rnd : Option Nat} (x0 : Int) (x1 : Int) (x2 : Int) (x3 : WL rw_iL) (st : Int) (r : (Unit) ⊕ (Unit)) (h : qdx_ n x0 x1 x2 x3 st = some r) : qne_ rnd x0 x1 x2 x3 st r :=
 CG.iter (b := qx_ P 23 [false, false, true, false, true, true]) (by kernel_rfl) (body := q8_ n x0 x1 x2 x3) (S := qdw_ x0 x1 x2 x3) (X := qbj_ x0 x1 x2 x3)
  (fun s s' h => qh5_ n x0 x1 x2 x3 s (.inl s') h)
  (fun s r h => qh5_ n x0 x1 x2 x3 s (.inr r) h)
  (fun r => by intro hx; rcases r with _ | _ <;> cases hx) h
def qbf_ (n : Nat) (a0 : Int) (a1 : Int) (a2 : Int) (a3 : WL rw_iL) : Option (Int) :=
 if a0 > 8 then
  some 3
 else
  if a1 > 16 then
   some 3
  else
   if a2 > 3 then
    some 3
   else
    if (((a3).l.length : Nat) : Int) > 64 then
     some 3
    else
     match qdx_ n a0 a1 a2 a3 0 with
     | none => none
     | some (.inl _) =>
      some 3
     | some (.inr _) =>
      if a0 < 1 then
       some 2
      else
       if a1 < 1 then
        some 2
       else
        if a2 < 1 then
         some 2
        else
         if (((a3).l.length : Nat) : Int) < 1 then
          some 2
         else
          match qdv_ n a0 a1 a2 a3 0 with
          | none => none
          | some (.inl _) =>
           some 2
          | some (.inr _) =>
           some 0
theorem qmx_ (n : Nat) (a0 : Int) (a1 : Int) (a2 : Int) (a3 : WL rw_iL) (r : Int) (h : qbf_ n a0 a1 a2 a3 = some r) : qos_ a0 a1 a2 a3 r := by
 unfold qbf_ at h
 by_cases hc1 : a0 > 8
 ·rw [if_pos hc1] at h
  obtain rfl := oI h
  exact runF2 hm (kW [2] [] 0 0) (zz 7 (xdT hc1) <|
   ee) (by kernel_rfl)
 ·rw [if_neg hc1] at h
  have k0 := fun {A L l} (k : PL A L l) => zz 7 (xdF hc1) <|
   k
  by_cases hc2 : a1 > 16
  ·rw [if_pos hc2] at h
   obtain rfl := oI h
   exact runF2 hm (kW [2] [] 0 0) (k0 <|
    zz 11 (xdT hc2) <|
    ee) (by kernel_rfl)
  ·rw [if_neg hc2] at h
   have k1 := fun {A L l} (k : PL A L l) => zz 11 (xdF hc2) <|
    k
   by_cases hc3 : a2 > 3
   ·rw [if_pos hc3] at h
    obtain rfl := oI h
    exact runF2 hm (kW [2] [] 0 0) (k0 <|
     k1 <|
     zz 16 (xdT hc3) <|
     ee) (by kernel_rfl)
   ·rw [if_neg hc3] at h
    have k2 := fun {A L l} (k : PL A L l) => zz 16 (xdF hc3) <|
     k
    by_cases hc4 : (((a3).l.length : Nat) : Int) > 64
    ·rw [if_pos hc4] at h
     obtain rfl := oI h
     exact runF2 hm (kW [2] [] 0 0) (k0 <|
      k1 <|
      k2 <|
      zz 22 (xdT hc4) <|
      ee) (by kernel_rfl)
    ·rw [if_neg hc4] at h
     have k3 := fun {A L l} (k : PL A L l) => zz 22 (xdF hc4) <|
      k
     rcases hc5 : qdx_ n a0 a1 a2 a3 0 with _ | (⟨⟩ | ⟨⟩)
     ·rw [hc5] at h; cases h
     ·rw [hc5] at h
      dsimp only at h
      obtain rfl := oI h
      exact runF2 hm (kW [2] [] 0 0) (k0 <|
       k1 <|
       k2 <|
       k3 <|
       ww (qgx_ n (rnd := none) a0 a1 a2 a3 0 (.inl ()) hc5) <|
       ll 29 ⟨(kW [1, 3] [(0, 0, false)] 1 0), (qbj_ a0 a1 a2 a3 (.inl ())).1, (qbj_ a0 a1 a2 a3 (.inl ())).2⟩ <|
       ee) (by kernel_rfl)
     ·rw [hc5] at h
      dsimp only at h
      have k4 := fun {A L l} (k : PL A L l) => ww (qgx_ n (rnd := none) a0 a1 a2 a3 0 (.inr ()) hc5) <|
       ll 29 ⟨(kW [1, 3] [(0, 0, false)] 1 0), (qbj_ a0 a1 a2 a3 (.inr ())).1, (qbj_ a0 a1 a2 a3 (.inr ())).2⟩ <|
       k
      by_cases hc6 : a0 < 1
      ·rw [if_pos hc6] at h
       obtain rfl := oI h
       exact runF2 hm (kW [2] [] 0 0) (k0 <|
        k1 <|
        k2 <|
        k3 <|
        k4 <|
        zz 34 (xdT hc6) <|
        ee) (by kernel_rfl)
      ·rw [if_neg hc6] at h
       have k6 := fun {A L l} (k : PL A L l) => zz 34 (xdF hc6) <|
        k
       by_cases hc7 : a1 < 1
       ·rw [if_pos hc7] at h
        obtain rfl := oI h
        exact runF2 hm (kW [2] [] 0 0) (k0 <|
         k1 <|
         k2 <|
         k3 <|
         k4 <|
         k6 <|
         zz 38 (xdT hc7) <|
         ee) (by kernel_rfl)
       ·rw [if_neg hc7] at h
        have k7 := fun {A L l} (k : PL A L l) => zz 38 (xdF hc7) <|
         k
        by_cases hc8 : a2 < 1
        ·rw [if_pos hc8] at h
         obtain rfl := oI h
         exact runF2 hm (kW [2] [] 0 0) (k0 <|
          k1 <|
          k2 <|
          k3 <|
          k4 <|
          k6 <|
          k7 <|
          zz 43 (xdT hc8) <|
          ee) (by kernel_rfl)
        ·rw [if_neg hc8] at h
         have k8 := fun {A L l} (k : PL A L l) => zz 43 (xdF hc8) <|
          k
         by_cases hc9 : (((a3).l.length : Nat) : Int) < 1
         ·rw [if_pos hc9] at h
          obtain rfl := oI h
          exact runF2 hm (kW [2] [] 0 0) (k0 <|
           k1 <|
           k2 <|
           k3 <|
           k4 <|
           k6 <|
           k7 <|
           k8 <|
           zz 49 (xdT hc9) <|
           ee) (by kernel_rfl)
         ·rw [if_neg hc9] at h
          have k9 := fun {A L l} (k : PL A L l) => zz 49 (xdF hc9) <|
           k
          rcases hc10 : qdv_ n a0 a1 a2 a3 0 with _ | (⟨⟩ | ⟨⟩)
          ·rw [hc10] at h; cases h
          ·rw [hc10] at h
           dsimp only at h
           obtain rfl := oI h
           exact runF2 hm (kW [2] [] 0 0) (k0 <|
            k1 <|
            k2 <|
            k3 <|
            k4 <|
            k6 <|
            k7 <|
            k8 <|
            k9 <|
            ww (qgw_ n (rnd := none) a0 a1 a2 a3 0 (.inl ()) hc10) <|
            ll 56 ⟨(kW [1, 4] [(0, 0, false)] 1 0), (qbi_ a0 a1 a2 a3 (.inl ())).1, (qbi_ a0 a1 a2 a3 (.inl ())).2⟩ <|
            ee) (by kernel_rfl)
          ·rw [hc10] at h
           dsimp only at h
           obtain rfl := oI h
           exact runF2 hm (kW [2] [] 0 0) (k0 <|
            k1 <|
            k2 <|
            k3 <|
            k4 <|
            k6 <|
            k7 <|
            k8 <|
            k9 <|
            ww (qgw_ n (rnd := none) a0 a1 a2 a3 0 (.inr ()) hc10) <|
            ll 56 ⟨(kW [1, 4] [(0, 0, false)] 1 0), (qbi_ a0 a1 a2 a3 (.inr ())).1, (qbi_ a0 a1 a2 a3 (.inr ())).2⟩ <|
            ee) (by kernel_rfl)

def qje_ (a0 : WL rw_iLii) (a1 : Int) (a2 : Int) (a3 : Int) (a4 : WL rw_iL) (r : Int) : Value := match r with
 | o0 => (i6 o0)
def qjf_ (a0 : WL rw_iLii) (a1 : Int) (a2 : Int) (a3 : Int) (a4 : WL rw_iL) (r : Int) : AH := match r with
 | o0 => ⟨sB [], 0, 0⟩
abbrev qou_ (a0 : WL rw_iLii) (a1 : Int) (a2 : Int) (a3 : Int) (a4 : WL rw_iL) (r : Int) : Prop := Gv P (.func 10) [(wlV a0), (Value.agg #[(i6 a1), (i6 a2), (i6 a3), (wlV a4)])] ⟨sB [], 0, 0⟩ (qje_ a0 a1 a2 a3 a4 r) (qjf_ a0 a1 a2 a3 a4 r)
abbrev qov_ (a0 : WL rw_iLii) (a1 : Int) (a2 : Int) (a3 : Int) (a4 : WL rw_iL) (r : Int) (ins outs : BL) : CallA := ⟨0, ins, qje_ a0 a1 a2 a3 a4 r, qjf_ a0 a1 a2 a3 a4 r, outs⟩
def qdy_ (x0 : WL rw_iLii) (x1 : Int) (x2 : Int) (x3 : Int) (x4 : WL rw_iL) (x5 : Int) (x6 : Int) (x7 : NL) (x8 : Int) (x9 : Int) (st : Int) : XSt := match st with
 | x10 => (sT 94 [(0, (wlV x0)), (3, (pN 0 0)), (6, (i6 x5)), (7, (pN 1 0)), (8, (i6 x10))], [], ⟨sB [(0, (cB [(i6 x1), (i6 x2), (i6 x3), (wlV x4)] 25)), (1, (cB [(i6 x6), (nlV x7), (i6 x8), (i6 x9)] 33))], 2, 0⟩)
def qbk_ (x0 : WL rw_iLii) (x1 : Int) (x2 : Int) (x3 : Int) (x4 : WL rw_iL) (x5 : Int) (x6 : Int) (x7 : NL) (x8 : Int) (x9 : Int) (r : (Unit) ⊕ (Unit)) : Ex × XSt := match r with
 | .inl _ => (.ret, (sT 94 [(4, (i6 (2 : Int)))], [], ⟨sB [], 0, 0⟩))
 | .inr _ => (.exit 2, (sT 94 [(0, (wlV x0)), (3, (pN 0 0)), (6, (i6 x5))], [], ⟨sB [(0, (cB [(i6 x1), (i6 x2), (i6 x3), (wlV x4)] 25))], 1, 0⟩))
abbrev qnf_ (rd : Option Nat) (x0 : WL rw_iLii) (x1 : Int) (x2 : Int) (x3 : Int) (x4 : WL rw_iL) (x5 : Int) (x6 : Int) (x7 : NL) (x8 : Int) (x9 : Int) (st : Int) (r : (Unit) ⊕ (Unit)) : Prop := CG P rd (fnN P 10) 0 (qx_ P 10 [false, true, true, true, false, false, true, false, false, true, false, true, true, true, true]) (qdy_ x0 x1 x2 x3 x4 x5 x6 x7 x8 x9 st) (qbk_ x0 x1 x2 x3 x4 x5 x6 x7 x8 x9 r)
def q9_ (n : Nat) (x0 : WL rw_iLii) (x1 : Int) (x2 : Int) (x3 : Int) (x4 : WL rw_iL) (x5 : Int) (x6 : Int) (x7 : NL) (x8 : Int) (x9 : Int) (st : Int) : Option ((Int) ⊕ ((Unit) ⊕ (Unit))) := match st with
 | x10 =>
  if x10 < (((x7).l.length : Nat) : Int) then
   if 0 ≤ x10 ∧ x10 < (((x7).l.length : Nat) : Int) then
    if (x10).toNat < ((x7).l).length then
     ((some (((x7).l).getD (x10).toNat 0))).bind fun y4_ =>
     if y4_ = (-3 : Int) then
      some (.inl (w64 (x10 + 1)))
     else
      if y4_ < x1 then
       some (.inr (.inl ()))
      else
       if y4_ ≥ (w64 (x1 + x2)) then
        some (.inr (.inl ()))
       else
        some (.inl (w64 (x10 + 1)))
    else none
   else none
  else
   some (.inr (.inr ()))
def qdz_ (n : Nat) (x0 : WL rw_iLii) (x1 : Int) (x2 : Int) (x3 : Int) (x4 : WL rw_iL) (x5 : Int) (x6 : Int) (x7 : NL) (x8 : Int) (x9 : Int) (st : Int) : Option ((Unit) ⊕ (Unit)) := iterM (q9_ n x0 x1 x2 x3 x4 x5 x6 x7 x8 x9) n st
theorem qh6_ (n : Nat) {rnd : Option Nat} (x0 : WL rw_iLii) (x1 : Int) (x2 : Int) (x3 : Int) (x4 : WL rw_iL) (x5 : Int) (x6 : Int) (x7 : NL) (x8 : Int) (x9 : Int) (x10 : Int) (o : (Int) ⊕ ((Unit) ⊕ (Unit))) (h : q9_ n x0 x1 x2 x3 x4 x5 x6 x7 x8 x9 x10 = some o) : CG P rnd (fnN P 10) 0 (qx_ P 10 [false, false, true, true, true, false, false, true, false, false, true, false, true, true, true, true]) (qdy_ x0 x1 x2 x3 x4 x5 x6 x7 x8 x9 x10) (Sum.elim (fun s => (.normal, qdy_ x0 x1 x2 x3 x4 x5 x6 x7 x8 x9 s)) (fun r => qbk_ x0 x1 x2 x3 x4 x5 x6 x7 x8 x9 r) o) := by
 unfold q9_ at h
 dsimp only at h
 by_cases hy1 : x10 < (((x7).l.length : Nat) : Int)
 ·rw [if_pos hy1] at h
  obtain ⟨hy2, h⟩ := gd h
  obtain ⟨hy3, h⟩ := gd h
  obtain ⟨y4_, hy4, h⟩ := oB h
  have k0 := fun {A L l} (k : PL A L l) => zz 6 (xdT hy1) <|
   zz 14 (xk10 (Nat.add (x7).num 64) (x7).off (x7).cap hy2) <|
   zz 15 (nk11 hy4 hy3) <|
   k
  by_cases hy5 : y4_ = (-3 : Int)
  ·rw [if_pos hy5] at h
   obtain rfl := oI h
   exact runC2 hm (kW [0, 3, 6, 7, 8] (iD 2) 2 0) (k0 <|
    zz 16 (xnF hy5) <|
    ee) (by kernel_rfl)
  ·rw [if_neg hy5] at h
   have k3 := fun {A L l} (k : PL A L l) => zz 16 (xnT hy5) <|
    zz 21 (xk10 (Nat.add (x7).num 64) (x7).off (x7).cap hy2) <|
    zz 22 (nk11 hy4 hy3) <|
    k
   by_cases hy6 : y4_ < x1
   ·rw [if_pos hy6] at h
    obtain rfl := oI h
    exact runC2 hm (kW [4] [] 0 0) (k0 <|
     k3 <|
     zz 25 (xdT hy6) <|
     ee) (by kernel_rfl)
   ·rw [if_neg hy6] at h
    have k6 := fun {A L l} (k : PL A L l) => zz 25 (xdF hy6) <|
     zz 30 (xk10 (Nat.add (x7).num 64) (x7).off (x7).cap hy2) <|
     zz 31 (nk11 hy4 hy3) <|
     k
    by_cases hy7 : y4_ ≥ (w64 (x1 + x2))
    ·rw [if_pos hy7] at h
     obtain rfl := oI h
     exact runC2 hm (kW [4] [] 0 0) (k0 <|
      k3 <|
      k6 <|
      zz 37 (xdT hy7) <|
      ee) (by kernel_rfl)
    ·rw [if_neg hy7] at h
     obtain rfl := oI h
     exact runC2 hm (kW [0, 3, 6, 7, 8] (iD 2) 2 0) (k0 <|
      k3 <|
      k6 <|
      zz 37 (xdF hy7) <|
      ee) (by kernel_rfl)
 ·rw [if_neg hy1] at h
  obtain rfl := oI h
  exact runC2 hm (kW [0, 3, 6] [(0, 0, false)] 1 0) (zz 6 (xdF hy1) <|
   ee) (by kernel_rfl)
theorem qgy_ (n : Nat) {rnd : Option Nat} (x0 : WL rw_iLii) (x1 : Int) (x2 : Int) (x3 : Int) (x4 : WL rw_iL) (x5 : Int) (x6 : Int) (x7 : NL) (x8 : Int) (x9 : Int) (st : Int) (r : (Unit) ⊕ (Unit)) (h : qdz_ n x0 x1 x2 x3 x4 x5 x6 x7 x8 x9 st = some r) : qnf_ rnd x0 x1 x2 x3 x4 x5 x6 x7 x8 x9 st r :=
 CG.iter (b := qx_ P 10 [false, false, true, true, true, false, false, true, false, false, true, false, true, true, true, true]) (by kernel_rfl) (body := q9_ n x0 x1 x2 x3 x4 x5 x6 x7 x8 x9) (S := qdy_ x0 x1 x2 x3 x4 x5 x6 x7 x8 x9) (X := qbk_ x0 x1 x2 x3 x4 x5 x6 x7 x8 x9)
  (fun s s' h => qh6_ n x0 x1 x2 x3 x4 x5 x6 x7 x8 x9 s (.inl s') h)
  (fun s r h => qh6_ n x0 x1 x2 x3 x4 x5 x6 x7 x8 x9 s (.inr r) h)
  (fun r => by intro hx; rcases r with _ | _ <;> cases hx) h
def qd0_ (x0 : WL rw_iLii) (x1 : Int) (x2 : Int) (x3 : Int) (x4 : WL rw_iL) (st : Int) : XSt := match st with
 | x5 => (sT 94 [(0, (wlV x0)), (3, (pN 0 0)), (6, (i6 x5))], [], ⟨sB [(0, (cB [(i6 x1), (i6 x2), (i6 x3), (wlV x4)] 25))], 1, 0⟩)
def qbl_ (x0 : WL rw_iLii) (x1 : Int) (x2 : Int) (x3 : Int) (x4 : WL rw_iL) (r : (Unit) ⊕ (Unit)) : Ex × XSt := match r with
 | .inl _ => (.ret, (sT 94 [(4, (i6 (2 : Int)))], [], ⟨sB [], 0, 0⟩))
 | .inr _ => (.exit 0, (sT 94 [], [], ⟨sB [], 0, 0⟩))
abbrev qng_ (rd : Option Nat) (x0 : WL rw_iLii) (x1 : Int) (x2 : Int) (x3 : Int) (x4 : WL rw_iL) (st : Int) (r : (Unit) ⊕ (Unit)) : Prop := CG P rd (fnN P 10) 0 (qx_ P 10 [false, true, false, true, true, true, true]) (qd0_ x0 x1 x2 x3 x4 st) (qbl_ x0 x1 x2 x3 x4 r)
def qba_ (n : Nat) (x0 : WL rw_iLii) (x1 : Int) (x2 : Int) (x3 : Int) (x4 : WL rw_iL) (st : Int) : Option ((Int) ⊕ ((Unit) ⊕ (Unit))) := match st with
 | x5 =>
  if x5 < (((x0).l.length : Nat) : Int) then
   if 0 ≤ x5 ∧ x5 < (((x0).l.length : Nat) : Int) then
    ((some (((x0).l).getD (x5).toNat (0, nl0, 0, 0)))).bind fun y3_ =>
    if (y3_.1) < (-1 : Int) then
     some (.inr (.inl ()))
    else
     if (y3_.1) ≥ x1 then
      some (.inr (.inl ()))
     else
      if (y3_.2.2.1) < 1 then
       some (.inr (.inl ()))
      else
       if (y3_.2.2.2) < (-1000 : Int) then
        some (.inr (.inl ()))
       else
        if (y3_.2.2.2) > 1000 then
         some (.inr (.inl ()))
        else
         if ((((y3_.2.1)).l.length : Nat) : Int) > 8 then
          some (.inr (.inl ()))
         else
          match qdz_ n x0 x1 x2 x3 x4 x5 (y3_.1) (y3_.2.1) (y3_.2.2.1) (y3_.2.2.2) 0 with
          | none => none
          | some (.inl _) =>
           some (.inr (.inl ()))
          | some (.inr _) =>
           some (.inl (w64 (x5 + 1)))
   else none
  else
   some (.inr (.inr ()))
def qd1_ (n : Nat) (x0 : WL rw_iLii) (x1 : Int) (x2 : Int) (x3 : Int) (x4 : WL rw_iL) (st : Int) : Option ((Unit) ⊕ (Unit)) := iterM (qba_ n x0 x1 x2 x3 x4) n st
theorem qh7_ (n : Nat) {rnd : Option Nat} (x0 : WL rw_iLii) (x1 : Int) (x2 : Int) (x3 : Int) (x4 : WL rw_iL) (x5 : Int) (o : (Int) ⊕ ((Unit) ⊕ (Unit))) (h : qba_ n x0 x1 x2 x3 x4 x5 = some o) : CG P rnd (fnN P 10) 0 (qx_ P 10 [false, false, true, false, true, true, true, true]) (qd0_ x0 x1 x2 x3 x4 x5) (Sum.elim (fun s => (.normal, qd0_ x0 x1 x2 x3 x4 s)) (fun r => qbl_ x0 x1 x2 x3 x4 r) o) := by
 unfold qba_ at h
 dsimp only at h
 by_cases hy1 : x5 < (((x0).l.length : Nat) : Int)
 ·rw [if_pos hy1] at h
  obtain ⟨hy2, h⟩ := gd h
  obtain ⟨y3_, hy3, h⟩ := oB h
  have k0 := fun {A L l} (k : PL A L l) => zz 5 (xdT hy1) <|
   zz 12 (xk1 (x0).num (x0).off (x0).cap hy2) <|
   zz 13 (lk9 hy3 (qbp_ hy2)) <|
   k
  by_cases hy4 : (y3_.1) < (-1 : Int)
  ·rw [if_pos hy4] at h
   obtain rfl := oI h
   exact runC2 hm (kW [4] [] 0 0) (k0 <|
    zz 20 (xdT hy4) <|
    ee) (by kernel_rfl)
  ·rw [if_neg hy4] at h
   have k3 := fun {A L l} (k : PL A L l) => zz 20 (xdF hy4) <|
    k
   by_cases hy5 : (y3_.1) ≥ x1
   ·rw [if_pos hy5] at h
    obtain rfl := oI h
    exact runC2 hm (kW [4] [] 0 0) (k0 <|
     k3 <|
     zz 26 (xdT hy5) <|
     ee) (by kernel_rfl)
   ·rw [if_neg hy5] at h
    have k4 := fun {A L l} (k : PL A L l) => zz 26 (xdF hy5) <|
     k
    by_cases hy6 : (y3_.2.2.1) < 1
    ·rw [if_pos hy6] at h
     obtain rfl := oI h
     exact runC2 hm (kW [4] [] 0 0) (k0 <|
      k3 <|
      k4 <|
      zz 31 (xdT hy6) <|
      ee) (by kernel_rfl)
    ·rw [if_neg hy6] at h
     have k5 := fun {A L l} (k : PL A L l) => zz 31 (xdF hy6) <|
      k
     by_cases hy7 : (y3_.2.2.2) < (-1000 : Int)
     ·rw [if_pos hy7] at h
      obtain rfl := oI h
      exact runC2 hm (kW [4] [] 0 0) (k0 <|
       k3 <|
       k4 <|
       k5 <|
       zz 36 (xdT hy7) <|
       ee) (by kernel_rfl)
     ·rw [if_neg hy7] at h
      have k6 := fun {A L l} (k : PL A L l) => zz 36 (xdF hy7) <|
       k
      by_cases hy8 : (y3_.2.2.2) > 1000
      ·rw [if_pos hy8] at h
       obtain rfl := oI h
       exact runC2 hm (kW [4] [] 0 0) (k0 <|
        k3 <|
        k4 <|
        k5 <|
        k6 <|
        zz 41 (xdT hy8) <|
        ee) (by kernel_rfl)
      ·rw [if_neg hy8] at h
       have k7 := fun {A L l} (k : PL A L l) => zz 41 (xdF hy8) <|
        k
       by_cases hy9 : ((((y3_.2.1)).l.length : Nat) : Int) > 8
       ·rw [if_pos hy9] at h
        obtain rfl := oI h
        exact runC2 hm (kW [4] [] 0 0) (k0 <|
         k3 <|
         k4 <|
         k5 <|
         k6 <|
         k7 <|
         zz 47 (xdT hy9) <|
         ee) (by kernel_rfl)
       ·rw [if_neg hy9] at h
        have k8 := fun {A L l} (k : PL A L l) => zz 47 (xdF hy9) <|
         k
        rcases hy10 : qdz_ n x0 x1 x2 x3 x4 x5 (y3_.1) (y3_.2.1) (y3_.2.2.1) (y3_.2.2.2) 0 with _ | (⟨⟩ | ⟨⟩)
        ·rw [hy10] at h; cases h
        ·rw [hy10] at h
         dsimp only at h
         obtain rfl := oI h
         exact runC2 hm (kW [4] [] 0 0) (k0 <|
          k3 <|
          k4 <|
          k5 <|
          k6 <|
          k7 <|
          k8 <|
          ww (qgy_ n (rnd := rnd) x0 x1 x2 x3 x4 x5 (y3_.1) (y3_.2.1) (y3_.2.2.1) (y3_.2.2.2) 0 (.inl ()) hy10) <|
          ll 53 ⟨(kW [0, 3, 6, 7, 8] (iD 2) 2 0), (qbk_ x0 x1 x2 x3 x4 x5 (y3_.1) (y3_.2.1) (y3_.2.2.1) (y3_.2.2.2) (.inl ())).1, (qbk_ x0 x1 x2 x3 x4 x5 (y3_.1) (y3_.2.1) (y3_.2.2.1) (y3_.2.2.2) (.inl ())).2⟩ <|
          ee) (by kernel_rfl)
        ·rw [hy10] at h
         dsimp only at h
         obtain rfl := oI h
         exact runC2 hm (kW [0, 3, 6] [(0, 0, false)] 1 0) (k0 <|
          k3 <|
          k4 <|
          k5 <|
          k6 <|
          k7 <|
          k8 <|
          ww (qgy_ n (rnd := rnd) x0 x1 x2 x3 x4 x5 (y3_.1) (y3_.2.1) (y3_.2.2.1) (y3_.2.2.2) 0 (.inr ()) hy10) <|
          ll 53 ⟨(kW [0, 3, 6, 7, 8] (iD 2) 2 0), (qbk_ x0 x1 x2 x3 x4 x5 (y3_.1) (y3_.2.1) (y3_.2.2.1) (y3_.2.2.2) (.inr ())).1, (qbk_ x0 x1 x2 x3 x4 x5 (y3_.1) (y3_.2.1) (y3_.2.2.1) (y3_.2.2.2) (.inr ())).2⟩ <|
          ee) (by kernel_rfl)
 ·rw [if_neg hy1] at h
  obtain rfl := oI h
  exact runC2 hm (kW [] [] 0 0) (zz 5 (xdF hy1) <|
   ee) (by kernel_rfl)
theorem qgz_ (n : Nat) {rnd : Option Nat} (x0 : WL rw_iLii) (x1 : Int) (x2 : Int) (x3 : Int) (x4 : WL rw_iL) (st : Int) (r : (Unit) ⊕ (Unit)) (h : qd1_ n x0 x1 x2 x3 x4 st = some r) : qng_ rnd x0 x1 x2 x3 x4 st r :=
 CG.iter (b := qx_ P 10 [false, false, true, false, true, true, true, true]) (by kernel_rfl) (body := qba_ n x0 x1 x2 x3 x4) (S := qd0_ x0 x1 x2 x3 x4) (X := qbl_ x0 x1 x2 x3 x4)
  (fun s s' h => qh7_ n x0 x1 x2 x3 x4 s (.inl s') h)
  (fun s r h => qh7_ n x0 x1 x2 x3 x4 s (.inr r) h)
  (fun r => by intro hx; rcases r with _ | _ <;> cases hx) h
def qdi_ (n : Nat) (a0 : WL rw_iLii) (a1 : Int) (a2 : Int) (a3 : Int) (a4 : WL rw_iL) : Option (Int) :=
 (qbf_ n a1 a2 a3 a4).bind fun c1_ =>
 if c1_ = 0 then
  if (((a0).l.length : Nat) : Int) > 64 then
   some 3
  else
   match qd1_ n a0 a1 a2 a3 a4 0 with
   | none => none
   | some (.inl _) =>
    some 2
   | some (.inr _) =>
    some 0
 else
  some c1_
theorem qmy_ (n : Nat) (a0 : WL rw_iLii) (a1 : Int) (a2 : Int) (a3 : Int) (a4 : WL rw_iL) (r : Int) (h : qdi_ n a0 a1 a2 a3 a4 = some r) : qou_ a0 a1 a2 a3 a4 r := by
 unfold qdi_ at h
 obtain ⟨c1_, hc1, h⟩ := oB h
 have k0 := fun {A L l} (k : PL A L l) => yy 5 (.call (qot_ a1 a2 a3 a4 c1_ [] [])) <|
  ww (qmx_ n a1 a2 a3 a4 c1_ hc1) <|
  k
 by_cases hc2 : c1_ = 0
 ·rw [if_pos hc2] at h
  have k2 := fun {A L l} (k : PL A L l) => zz 10 (xnF hc2) <|
   k
  by_cases hc3 : (((a0).l.length : Nat) : Int) > 64
  ·rw [if_pos hc3] at h
   obtain rfl := oI h
   exact runF2 hm (kW [4] [] 0 0) (k0 <|
    k2 <|
    zz 16 (xdT hc3) <|
    ee) (by kernel_rfl)
  ·rw [if_neg hc3] at h
   have k3 := fun {A L l} (k : PL A L l) => zz 16 (xdF hc3) <|
    k
   rcases hc4 : qd1_ n a0 a1 a2 a3 a4 0 with _ | (⟨⟩ | ⟨⟩)
   ·rw [hc4] at h; cases h
   ·rw [hc4] at h
    dsimp only at h
    obtain rfl := oI h
    exact runF2 hm (kW [4] [] 0 0) (k0 <|
     k2 <|
     k3 <|
     ww (qgz_ n (rnd := none) a0 a1 a2 a3 a4 0 (.inl ()) hc4) <|
     ll 22 ⟨(kW [0, 3, 6] [(0, 0, false)] 1 0), (qbl_ a0 a1 a2 a3 a4 (.inl ())).1, (qbl_ a0 a1 a2 a3 a4 (.inl ())).2⟩ <|
     ee) (by kernel_rfl)
   ·rw [hc4] at h
    dsimp only at h
    obtain rfl := oI h
    exact runF2 hm (kW [4] [] 0 0) (k0 <|
     k2 <|
     k3 <|
     ww (qgz_ n (rnd := none) a0 a1 a2 a3 a4 0 (.inr ()) hc4) <|
     ll 22 ⟨(kW [0, 3, 6] [(0, 0, false)] 1 0), (qbl_ a0 a1 a2 a3 a4 (.inr ())).1, (qbl_ a0 a1 a2 a3 a4 (.inr ())).2⟩ <|
     ee) (by kernel_rfl)
 ·rw [if_neg hc2] at h
  obtain rfl := oI h
  exact runF2 hm (kW [4] [] 0 0) (k0 <|
   zz 10 (xnT hc2) <|
   ee) (by kernel_rfl)

def qh8_ (a0 : WL rw_iLii) (r : Unit) : Value := match r with
 | _ => (Value.func (.func 35) #[] #[(pN 0 0)])
def qh9_ (a0 : WL rw_iLii) (r : Unit) : AH := match r with
 | _ => ⟨sB [(0, (cB [(wlV a0)] 22))], 1, 0⟩
abbrev qnh_ (a0 : WL rw_iLii) (r : Unit) : Prop := Gv P (.func 25) [(wlV a0)] ⟨sB [], 0, 0⟩ (qh8_ a0 r) (qh9_ a0 r)
abbrev qni_ (a0 : WL rw_iLii) (r : Unit) (ins outs : BL) : CallA := ⟨0, ins, qh8_ a0 r, qh9_ a0 r, outs⟩
def qd2_ (n : Nat) (a0 : WL rw_iLii) : Option (Unit) :=
 some ()
theorem qlu_ (n : Nat) (a0 : WL rw_iLii) (r : Unit) (h : qd2_ n a0 = some r) : qnh_ a0 r := by
 unfold qd2_ at h
 obtain rfl := oI h
 exact runF2 hm (kW [2] [(0, 0, false)] 1 0) (ee) (by kernel_rfl)

def qow_ (a0 : Int) (a1 : Int) (a2 : Int) (a3 : Bool) (a4 : Int) (a5 : NL) (a6 : Int) (a7 : Int) (a8 : Int) (a9 : NL) (r : Int × NL × Int × Int × Bool) : Value := match r with
 | (o0, o1, o2, o3, o4) => (Value.agg #[(i6 o0), (nlV o1), (i6 o2), (i6 o3), (bO o4)])
def qox_ (a0 : Int) (a1 : Int) (a2 : Int) (a3 : Bool) (a4 : Int) (a5 : NL) (a6 : Int) (a7 : Int) (a8 : Int) (a9 : NL) (r : Int × NL × Int × Int × Bool) : AH := match r with
 | (o0, o1, o2, o3, o4) => ⟨sB [(2, (cB [(i6 o0), (nlV o1), (i6 o2), (i6 o3), (bO o4)] 50))], 3, 2⟩
abbrev qt5_ (a0 : Int) (a1 : Int) (a2 : Int) (a3 : Bool) (a4 : Int) (a5 : NL) (a6 : Int) (a7 : Int) (a8 : Int) (a9 : NL) (r : Int × NL × Int × Int × Bool) : Prop := Gv P (.func 26) [(Value.agg #[(i6 a0), (Value.slice none 0 0), (i6 a1), (i6 a2), (bO a3)]), (Value.agg #[(i6 a4), (nlV a5), (i6 a6), (i6 a7)]), (pN 0 0), (pN 1 0)] ⟨sB [(0, (cB [(i6 a8)] 3)), (1, (cB [(nlV a9)] 26))], 2, 2⟩ (qow_ a0 a1 a2 a3 a4 a5 a6 a7 a8 a9 r) (qox_ a0 a1 a2 a3 a4 a5 a6 a7 a8 a9 r)
abbrev qt6_ (a0 : Int) (a1 : Int) (a2 : Int) (a3 : Bool) (a4 : Int) (a5 : NL) (a6 : Int) (a7 : Int) (a8 : Int) (a9 : NL) (r : Int × NL × Int × Int × Bool) (ins outs : BL) : CallA := ⟨2, ins, qow_ a0 a1 a2 a3 a4 a5 a6 a7 a8 a9 r, qox_ a0 a1 a2 a3 a4 a5 a6 a7 a8 a9 r, outs⟩
def qe4_ (n : Nat) (a0 : Int) (a1 : Int) (a2 : Int) (a3 : Bool) (a4 : Int) (a5 : NL) (a6 : Int) (a7 : Int) (a8 : Int) (a9 : NL) : Option (Int × NL × Int × Int × Bool) :=
 (qdo_ n a4 a5 a6 a7 a8 a9).bind fun c1_ =>
 if c1_ = true then
  if a3 = true then
   if a7 ≤ a2 then
    some (a0, nl0, a1, a2, a3)
   else
    some (a4, a5, a6, a7, true)
  else
   some (a4, a5, a6, a7, true)
 else
  some (a0, nl0, a1, a2, a3)
theorem qq0_ (n : Nat) (a0 : Int) (a1 : Int) (a2 : Int) (a3 : Bool) (a4 : Int) (a5 : NL) (a6 : Int) (a7 : Int) (a8 : Int) (a9 : NL) (r : Int × NL × Int × Int × Bool) (h : qe4_ n a0 a1 a2 a3 a4 a5 a6 a7 a8 a9 = some r) : qt5_ a0 a1 a2 a3 a4 a5 a6 a7 a8 a9 r := by
 unfold qe4_ at h
 obtain ⟨c1_, hc1, h⟩ := oB h
 have k0 := fun {A L l} (k : PL A L l) => yy 9 (.call (qjr_ a4 a5 a6 a7 a8 a9 c1_ [] [])) <|
  ww (qhi_ n a4 a5 a6 a7 a8 a9 c1_ hc1) <|
  k
 by_cases hc2 : c1_ = true
 ·rw [if_pos hc2] at h
  have k2 := fun {A L l} (k : PL A L l) => yy 10 (vf) <|
   ww (p := (Value.bool (!c1_)) = (Value.bool false)) (vBn hc2) <|
   k
  by_cases hc3 : a3 = true
  ·rw [if_pos hc3] at h
   have k4 := fun {A L l} (k : PL A L l) => zz 14 (xbT hc3) <|
    k
   by_cases hc4 : a7 ≤ a2
   ·rw [if_pos hc4] at h
    obtain rfl := oI h
    exact runF2 hm ⟨[6], [(2, 4, false)], 3, 2, [], true, [50], [], []⟩ (k0 <|
     k2 <|
     k4 <|
     zz 20 (xdT hc4) <|
     ee) (by kernel_rfl)
   ·rw [if_neg hc4] at h
    obtain rfl := oI h
    exact runF2 hm ⟨[6], [(2, 4, false)], 3, 2, [], true, [50], [], []⟩ (k0 <|
     k2 <|
     k4 <|
     zz 20 (xdF hc4) <|
     ee) (by kernel_rfl)
  ·rw [if_neg hc3] at h
   obtain rfl := oI h
   exact runF2 hm ⟨[6], [(2, 4, false)], 3, 2, [], true, [50], [], []⟩ (k0 <|
    k2 <|
    zz 14 (xbF hc3) <|
    ee) (by kernel_rfl)
 ·rw [if_neg hc2] at h
  obtain rfl := oI h
  exact runF2 hm ⟨[6], [(2, 4, false)], 3, 2, [], true, [50], [], []⟩ (k0 <|
   yy 10 (vt) <|
   ww (p := (Value.bool (!c1_)) = (Value.bool true)) (vBn (Bool.eq_false_iff.2 hc2)) <|
   ee) (by kernel_rfl)

def qfw_ (a0 : Int) (a1 : Int) (a2 : Int) (a3 : Bool) (a4 : Int) (a5 : NL) (a6 : Int) (a7 : Int) (a8 : Int) (a9 : Bool) (a10 : WL rw_iLii) (a11 : Int) (a12 : NL) (a13 : Int) (a14 : Int) (r : Int × NL × Int × Int × Bool) : Value := match r with
 | (o0, o1, o2, o3, o4) => (bO true)
def qfx_ (a0 : Int) (a1 : Int) (a2 : Int) (a3 : Bool) (a4 : Int) (a5 : NL) (a6 : Int) (a7 : Int) (a8 : Int) (a9 : Bool) (a10 : WL rw_iLii) (a11 : Int) (a12 : NL) (a13 : Int) (a14 : Int) (r : Int × NL × Int × Int × Bool) : AH := match r with
 | (o0, o1, o2, o3, o4) => ⟨sB [(0, (some (rblk P 24 [false, true, false, true] .ready none [(4, (pN 2 0)), (5, (pN 3 0)), (6, (pN 6 0)), (8, (Value.func (.func 35) #[] #[(pN 7 0)]))] 1))), (1, (some (.marks true))), (2, (cB [(i6 o0), (nlV o1), (i6 o2), (i6 o3), (bO o4)] 50)), (3, (cB [(Value.func (.func 26) #[] #[(pN 4 0), (pN 5 0)])] 55)), (4, (cB [(i6 a4)] 3)), (5, (cB [(nlV a5)] 26)), (6, (cB [(i6 a6), (Value.slice none 0 0), (i6 a7), (i6 a8), (bO a9)] 50)), (7, (cB [(wlV a10)] 22))], 8, 0⟩
abbrev qkd_ (a0 : Int) (a1 : Int) (a2 : Int) (a3 : Bool) (a4 : Int) (a5 : NL) (a6 : Int) (a7 : Int) (a8 : Int) (a9 : Bool) (a10 : WL rw_iLii) (a11 : Int) (a12 : NL) (a13 : Int) (a14 : Int) (r : Int × NL × Int × Int × Bool) : Prop := Gv P (.yield 0) [(Value.agg #[(i6 a11), (nlV a12), (i6 a13), (i6 a14)])] ⟨sB [(0, (some (rblk P 24 [false, true, false, true] .ready none [(4, (pN 2 0)), (5, (pN 3 0)), (6, (pN 6 0)), (8, (Value.func (.func 35) #[] #[(pN 7 0)]))] 1))), (1, (some (.marks true))), (2, (cB [(i6 a0), (Value.slice none 0 0), (i6 a1), (i6 a2), (bO a3)] 50)), (3, (cB [(Value.func (.func 26) #[] #[(pN 4 0), (pN 5 0)])] 55)), (4, (cB [(i6 a4)] 3)), (5, (cB [(nlV a5)] 26)), (6, (cB [(i6 a6), (Value.slice none 0 0), (i6 a7), (i6 a8), (bO a9)] 50)), (7, (cB [(wlV a10)] 22))], 8, 8⟩ (qfw_ a0 a1 a2 a3 a4 a5 a6 a7 a8 a9 a10 a11 a12 a13 a14 r) (qfx_ a0 a1 a2 a3 a4 a5 a6 a7 a8 a9 a10 a11 a12 a13 a14 r)
abbrev qke_ (a0 : Int) (a1 : Int) (a2 : Int) (a3 : Bool) (a4 : Int) (a5 : NL) (a6 : Int) (a7 : Int) (a8 : Int) (a9 : Bool) (a10 : WL rw_iLii) (a11 : Int) (a12 : NL) (a13 : Int) (a14 : Int) (r : Int × NL × Int × Int × Bool) (ins outs : BL) : CallA := ⟨8, ins, qfw_ a0 a1 a2 a3 a4 a5 a6 a7 a8 a9 a10 a11 a12 a13 a14 r, qfx_ a0 a1 a2 a3 a4 a5 a6 a7 a8 a9 a10 a11 a12 a13 a14 r, outs⟩
def qcp_ (n : Nat) (a0 : Int) (a1 : Int) (a2 : Int) (a3 : Bool) (a4 : Int) (a5 : NL) (a6 : Int) (a7 : Int) (a8 : Int) (a9 : Bool) (a10 : WL rw_iLii) (a11 : Int) (a12 : NL) (a13 : Int) (a14 : Int) : Option (Int × NL × Int × Int × Bool) :=
 (qe4_ n a0 a1 a2 a3 a11 a12 a13 a14 a4 a5).bind fun t => match t with
 | (c1_0, c1_1, c1_2, c1_3, c1_4) =>
  some (c1_0, c1_1, c1_2, c1_3, c1_4)
theorem qir_ (n : Nat) (a0 : Int) (a1 : Int) (a2 : Int) (a3 : Bool) (a4 : Int) (a5 : NL) (a6 : Int) (a7 : Int) (a8 : Int) (a9 : Bool) (a10 : WL rw_iLii) (a11 : Int) (a12 : NL) (a13 : Int) (a14 : Int) (r : Int × NL × Int × Int × Bool) (h : qcp_ n a0 a1 a2 a3 a4 a5 a6 a7 a8 a9 a10 a11 a12 a13 a14 = some r) : qkd_ a0 a1 a2 a3 a4 a5 a6 a7 a8 a9 a10 a11 a12 a13 a14 r := by
 unfold qcp_ at h
 obtain ⟨⟨c1_0, c1_1, c1_2, c1_3, c1_4⟩, hc1, h⟩ := oB h
 dsimp only at h
 obtain rfl := oI h
 exact runY2 hm (kW [] (iD 8) 8 0) (ee) (yy 4 (.call (qt6_ a0 a1 a2 a3 a11 a12 a13 a14 a4 a5 (c1_0, c1_1, c1_2, c1_3, c1_4) [(0, 4, false), (1, 5, false)] [(9, 2, false)])) <|
  ww (qq0_ n a0 a1 a2 a3 a11 a12 a13 a14 a4 a5 (c1_0, c1_1, c1_2, c1_3, c1_4) hc1) <|
  ee) (by kernel_rfl)

def qoy_ (a0 : Int) (a1 : NL) (a2 : Int) (a3 : Int) (a4 : Bool) (a5 : Int) (a6 : NL) (a7 : Int) (a8 : Int) (a9 : Int) (a10 : NL) (r : Int × NL × Int × Int × Bool) : Value := match r with
 | (o0, o1, o2, o3, o4) => (Value.agg #[(i6 o0), (nlV o1), (i6 o2), (i6 o3), (bO o4)])
def qoz_ (a0 : Int) (a1 : NL) (a2 : Int) (a3 : Int) (a4 : Bool) (a5 : Int) (a6 : NL) (a7 : Int) (a8 : Int) (a9 : Int) (a10 : NL) (r : Int × NL × Int × Int × Bool) : AH := match r with
 | (o0, o1, o2, o3, o4) => ⟨sB [(2, (cB [(i6 o0), (nlV o1), (i6 o2), (i6 o3), (bO o4)] 50))], 3, 2⟩
abbrev qt7_ (a0 : Int) (a1 : NL) (a2 : Int) (a3 : Int) (a4 : Bool) (a5 : Int) (a6 : NL) (a7 : Int) (a8 : Int) (a9 : Int) (a10 : NL) (r : Int × NL × Int × Int × Bool) : Prop := Gv P (.func 26) [(Value.agg #[(i6 a0), (nlV a1), (i6 a2), (i6 a3), (bO a4)]), (Value.agg #[(i6 a5), (nlV a6), (i6 a7), (i6 a8)]), (pN 0 0), (pN 1 0)] ⟨sB [(0, (cB [(i6 a9)] 3)), (1, (cB [(nlV a10)] 26))], 2, 2⟩ (qoy_ a0 a1 a2 a3 a4 a5 a6 a7 a8 a9 a10 r) (qoz_ a0 a1 a2 a3 a4 a5 a6 a7 a8 a9 a10 r)
abbrev qt8_ (a0 : Int) (a1 : NL) (a2 : Int) (a3 : Int) (a4 : Bool) (a5 : Int) (a6 : NL) (a7 : Int) (a8 : Int) (a9 : Int) (a10 : NL) (r : Int × NL × Int × Int × Bool) (ins outs : BL) : CallA := ⟨2, ins, qoy_ a0 a1 a2 a3 a4 a5 a6 a7 a8 a9 a10 r, qoz_ a0 a1 a2 a3 a4 a5 a6 a7 a8 a9 a10 r, outs⟩
def qe5_ (n : Nat) (a0 : Int) (a1 : NL) (a2 : Int) (a3 : Int) (a4 : Bool) (a5 : Int) (a6 : NL) (a7 : Int) (a8 : Int) (a9 : Int) (a10 : NL) : Option (Int × NL × Int × Int × Bool) :=
 (qdo_ n a5 a6 a7 a8 a9 a10).bind fun c1_ =>
 if c1_ = true then
  if a4 = true then
   if a8 ≤ a3 then
    some (a0, a1, a2, a3, a4)
   else
    some (a5, a6, a7, a8, true)
  else
   some (a5, a6, a7, a8, true)
 else
  some (a0, a1, a2, a3, a4)
theorem qq1_ (n : Nat) (a0 : Int) (a1 : NL) (a2 : Int) (a3 : Int) (a4 : Bool) (a5 : Int) (a6 : NL) (a7 : Int) (a8 : Int) (a9 : Int) (a10 : NL) (r : Int × NL × Int × Int × Bool) (h : qe5_ n a0 a1 a2 a3 a4 a5 a6 a7 a8 a9 a10 = some r) : qt7_ a0 a1 a2 a3 a4 a5 a6 a7 a8 a9 a10 r := by
 unfold qe5_ at h
 obtain ⟨c1_, hc1, h⟩ := oB h
 have k0 := fun {A L l} (k : PL A L l) => yy 9 (.call (qjr_ a5 a6 a7 a8 a9 a10 c1_ [] [])) <|
  ww (qhi_ n a5 a6 a7 a8 a9 a10 c1_ hc1) <|
  k
 by_cases hc2 : c1_ = true
 ·rw [if_pos hc2] at h
  have k2 := fun {A L l} (k : PL A L l) => yy 10 (vf) <|
   ww (p := (Value.bool (!c1_)) = (Value.bool false)) (vBn hc2) <|
   k
  by_cases hc3 : a4 = true
  ·rw [if_pos hc3] at h
   have k4 := fun {A L l} (k : PL A L l) => zz 14 (xbT hc3) <|
    k
   by_cases hc4 : a8 ≤ a3
   ·rw [if_pos hc4] at h
    obtain rfl := oI h
    exact runF2 hm (kW [6] [(2, 4, false)] 3 2) (k0 <|
     k2 <|
     k4 <|
     zz 20 (xdT hc4) <|
     ee) (by kernel_rfl)
   ·rw [if_neg hc4] at h
    obtain rfl := oI h
    exact runF2 hm (kW [6] [(2, 4, false)] 3 2) (k0 <|
     k2 <|
     k4 <|
     zz 20 (xdF hc4) <|
     ee) (by kernel_rfl)
  ·rw [if_neg hc3] at h
   obtain rfl := oI h
   exact runF2 hm (kW [6] [(2, 4, false)] 3 2) (k0 <|
    k2 <|
    zz 14 (xbF hc3) <|
    ee) (by kernel_rfl)
 ·rw [if_neg hc2] at h
  obtain rfl := oI h
  exact runF2 hm (kW [6] [(2, 4, false)] 3 2) (k0 <|
   yy 10 (vt) <|
   ww (p := (Value.bool (!c1_)) = (Value.bool true)) (vBn (Bool.eq_false_iff.2 hc2)) <|
   ee) (by kernel_rfl)

def qfy_ (a0 : Int) (a1 : NL) (a2 : Int) (a3 : Int) (a4 : Bool) (a5 : Int) (a6 : NL) (a7 : Int) (a8 : Int) (a9 : Int) (a10 : Bool) (a11 : WL rw_iLii) (a12 : Int) (a13 : NL) (a14 : Int) (a15 : Int) (r : Int × NL × Int × Int × Bool) : Value := match r with
 | (o0, o1, o2, o3, o4) => (bO true)
def qfz_ (a0 : Int) (a1 : NL) (a2 : Int) (a3 : Int) (a4 : Bool) (a5 : Int) (a6 : NL) (a7 : Int) (a8 : Int) (a9 : Int) (a10 : Bool) (a11 : WL rw_iLii) (a12 : Int) (a13 : NL) (a14 : Int) (a15 : Int) (r : Int × NL × Int × Int × Bool) : AH := match r with
 | (o0, o1, o2, o3, o4) => ⟨sB [(0, (some (rblk P 24 [false, true, false, true] .ready none [(4, (pN 2 0)), (5, (pN 3 0)), (6, (pN 6 0)), (8, (Value.func (.func 35) #[] #[(pN 7 0)]))] 1))), (1, (some (.marks true))), (2, (cB [(i6 o0), (nlV o1), (i6 o2), (i6 o3), (bO o4)] 50)), (3, (cB [(Value.func (.func 26) #[] #[(pN 4 0), (pN 5 0)])] 55)), (4, (cB [(i6 a5)] 3)), (5, (cB [(nlV a6)] 26)), (6, (cB [(i6 a7), (Value.slice none 0 0), (i6 a8), (i6 a9), (bO a10)] 50)), (7, (cB [(wlV a11)] 22))], 8, 0⟩
abbrev qkf_ (a0 : Int) (a1 : NL) (a2 : Int) (a3 : Int) (a4 : Bool) (a5 : Int) (a6 : NL) (a7 : Int) (a8 : Int) (a9 : Int) (a10 : Bool) (a11 : WL rw_iLii) (a12 : Int) (a13 : NL) (a14 : Int) (a15 : Int) (r : Int × NL × Int × Int × Bool) : Prop := Gv P (.yield 0) [(Value.agg #[(i6 a12), (nlV a13), (i6 a14), (i6 a15)])] ⟨sB [(0, (some (rblk P 24 [false, true, false, true] .ready none [(4, (pN 2 0)), (5, (pN 3 0)), (6, (pN 6 0)), (8, (Value.func (.func 35) #[] #[(pN 7 0)]))] 1))), (1, (some (.marks true))), (2, (cB [(i6 a0), (nlV a1), (i6 a2), (i6 a3), (bO a4)] 50)), (3, (cB [(Value.func (.func 26) #[] #[(pN 4 0), (pN 5 0)])] 55)), (4, (cB [(i6 a5)] 3)), (5, (cB [(nlV a6)] 26)), (6, (cB [(i6 a7), (Value.slice none 0 0), (i6 a8), (i6 a9), (bO a10)] 50)), (7, (cB [(wlV a11)] 22))], 8, 8⟩ (qfy_ a0 a1 a2 a3 a4 a5 a6 a7 a8 a9 a10 a11 a12 a13 a14 a15 r) (qfz_ a0 a1 a2 a3 a4 a5 a6 a7 a8 a9 a10 a11 a12 a13 a14 a15 r)
abbrev qkg_ (a0 : Int) (a1 : NL) (a2 : Int) (a3 : Int) (a4 : Bool) (a5 : Int) (a6 : NL) (a7 : Int) (a8 : Int) (a9 : Int) (a10 : Bool) (a11 : WL rw_iLii) (a12 : Int) (a13 : NL) (a14 : Int) (a15 : Int) (r : Int × NL × Int × Int × Bool) (ins outs : BL) : CallA := ⟨8, ins, qfy_ a0 a1 a2 a3 a4 a5 a6 a7 a8 a9 a10 a11 a12 a13 a14 a15 r, qfz_ a0 a1 a2 a3 a4 a5 a6 a7 a8 a9 a10 a11 a12 a13 a14 a15 r, outs⟩
def qcq_ (n : Nat) (a0 : Int) (a1 : NL) (a2 : Int) (a3 : Int) (a4 : Bool) (a5 : Int) (a6 : NL) (a7 : Int) (a8 : Int) (a9 : Int) (a10 : Bool) (a11 : WL rw_iLii) (a12 : Int) (a13 : NL) (a14 : Int) (a15 : Int) : Option (Int × NL × Int × Int × Bool) :=
 (qe5_ n a0 a1 a2 a3 a4 a12 a13 a14 a15 a5 a6).bind fun t => match t with
 | (c1_0, c1_1, c1_2, c1_3, c1_4) =>
  some (c1_0, c1_1, c1_2, c1_3, c1_4)
theorem qis_ (n : Nat) (a0 : Int) (a1 : NL) (a2 : Int) (a3 : Int) (a4 : Bool) (a5 : Int) (a6 : NL) (a7 : Int) (a8 : Int) (a9 : Int) (a10 : Bool) (a11 : WL rw_iLii) (a12 : Int) (a13 : NL) (a14 : Int) (a15 : Int) (r : Int × NL × Int × Int × Bool) (h : qcq_ n a0 a1 a2 a3 a4 a5 a6 a7 a8 a9 a10 a11 a12 a13 a14 a15 = some r) : qkf_ a0 a1 a2 a3 a4 a5 a6 a7 a8 a9 a10 a11 a12 a13 a14 a15 r := by
 unfold qcq_ at h
 obtain ⟨⟨c1_0, c1_1, c1_2, c1_3, c1_4⟩, hc1, h⟩ := oB h
 dsimp only at h
 obtain rfl := oI h
 exact runY2 hm (kW [] (iD 8) 8 0) (ee) (yy 4 (.call (qt8_ a0 a1 a2 a3 a4 a12 a13 a14 a15 a5 a6 (c1_0, c1_1, c1_2, c1_3, c1_4) [(0, 4, false), (1, 5, false)] [(9, 2, false)])) <|
  ww (qq1_ n a0 a1 a2 a3 a4 a12 a13 a14 a15 a5 a6 (c1_0, c1_1, c1_2, c1_3, c1_4) hc1) <|
  ee) (by kernel_rfl)

def qhs_ (a0 : Int) (a1 : Int) (a2 : Int) (a3 : Bool) (a4 : Int) (a5 : NL) (a6 : Int) (a7 : Int) (a8 : Int) (a9 : Bool) (a10 : WL rw_iLii) (r : Int × List (NL) × Int × Int × Bool) : Value := match r with
 | (o0, o1, o2, o3, o4) => (Value.tuple #[])
def qht_ (a0 : Int) (a1 : Int) (a2 : Int) (a3 : Bool) (a4 : Int) (a5 : NL) (a6 : Int) (a7 : Int) (a8 : Int) (a9 : Bool) (a10 : WL rw_iLii) (r : Int × List (NL) × Int × Int × Bool) : AH := match r with
 | (o0, o1, o2, o3, o4) => ⟨sB [(0, (some (rblk P 24 [false, true, false, true] .ready none [(4, (pN 2 0)), (5, (pN 3 0)), (6, (pN 6 0)), (8, (Value.func (.func 35) #[] #[(pN 7 0)]))] 1))), (1, (some (.marks true))), (2, (cB [(i6 o0), (nlQ o1), (i6 o2), (i6 o3), (bO o4)] 50)), (3, (cB [(Value.func (.func 26) #[] #[(pN 4 0), (pN 5 0)])] 55)), (4, (cB [(i6 a4)] 3)), (5, (cB [(nlV a5)] 26)), (6, (cB [(i6 a6), (Value.slice none 0 0), (i6 a7), (i6 a8), (bO a9)] 50)), (7, (cB [(wlV a10)] 22))], 8, 0⟩
abbrev qmz_ (a0 : Int) (a1 : Int) (a2 : Int) (a3 : Bool) (a4 : Int) (a5 : NL) (a6 : Int) (a7 : Int) (a8 : Int) (a9 : Bool) (a10 : WL rw_iLii) (r : Int × List (NL) × Int × Int × Bool) : Prop := Gv P (.func 35) [(Value.func (.yield 0) #[] #[]), (pN 7 0)] ⟨sB [(0, (some (rblk P 24 [false, true, false, true] .ready none [(4, (pN 2 0)), (5, (pN 3 0)), (6, (pN 6 0)), (8, (Value.func (.func 35) #[] #[(pN 7 0)]))] 1))), (1, (some (.marks true))), (2, (cB [(i6 a0), (Value.slice none 0 0), (i6 a1), (i6 a2), (bO a3)] 50)), (3, (cB [(Value.func (.func 26) #[] #[(pN 4 0), (pN 5 0)])] 55)), (4, (cB [(i6 a4)] 3)), (5, (cB [(nlV a5)] 26)), (6, (cB [(i6 a6), (Value.slice none 0 0), (i6 a7), (i6 a8), (bO a9)] 50)), (7, (cB [(wlV a10)] 22))], 8, 8⟩ (qhs_ a0 a1 a2 a3 a4 a5 a6 a7 a8 a9 a10 r) (qht_ a0 a1 a2 a3 a4 a5 a6 a7 a8 a9 a10 r)
abbrev qhu_ (a0 : Int) (a1 : Int) (a2 : Int) (a3 : Bool) (a4 : Int) (a5 : NL) (a6 : Int) (a7 : Int) (a8 : Int) (a9 : Bool) (a10 : WL rw_iLii) (r : Int × List (NL) × Int × Int × Bool) (ins outs : BL) : CallA := ⟨8, ins, qhs_ a0 a1 a2 a3 a4 a5 a6 a7 a8 a9 a10 r, qht_ a0 a1 a2 a3 a4 a5 a6 a7 a8 a9 a10 r, outs⟩
def qc6_ (x5 : Int) (x6 : NL) (x7 : Int) (x8 : Int) (x9 : Int) (x10 : Bool) (x11 : WL rw_iLii) (x12 : Int) (st : Int × List (NL) × Int × Int × Bool × Int) : XSt := match st with
 | (x0, x1, x2, x3, x4, x13) => (sT 16 [(0, (Value.func (.yield 0) #[] #[])), (5, (wlV x11)), (6, (i6 x12)), (7, (i6 x13))], [], ⟨sB [(0, (some (rblk P 24 [false, true, false, true] .ready none [(4, (pN 2 0)), (5, (pN 3 0)), (6, (pN 6 0)), (8, (Value.func (.func 35) #[] #[(pN 7 0)]))] 1))), (1, (some (.marks true))), (2, (cB [(i6 x0), (nlQ x1), (i6 x2), (i6 x3), (bO x4)] 50)), (3, (cB [(Value.func (.func 26) #[] #[(pN 4 0), (pN 5 0)])] 55)), (4, (cB [(i6 x5)] 3)), (5, (cB [(nlV x6)] 26)), (6, (cB [(i6 x7), (Value.slice none 0 0), (i6 x8), (i6 x9), (bO x10)] 50)), (7, (cB [(wlV x11)] 22))], 8, 0⟩)
def q3_ (x5 : Int) (x6 : NL) (x7 : Int) (x8 : Int) (x9 : Int) (x10 : Bool) (x11 : WL rw_iLii) (x12 : Int) (r : Int × List (NL) × Int × Int × Bool) : Ex × XSt := match r with
 | (z0, z1, z2, z3, z4) => (.exit 0, (sT 16 [], [], ⟨sB [(0, (some (rblk P 24 [false, true, false, true] .ready none [(4, (pN 2 0)), (5, (pN 3 0)), (6, (pN 6 0)), (8, (Value.func (.func 35) #[] #[(pN 7 0)]))] 1))), (1, (some (.marks true))), (2, (cB [(i6 z0), (nlQ z1), (i6 z2), (i6 z3), (bO z4)] 50)), (3, (cB [(Value.func (.func 26) #[] #[(pN 4 0), (pN 5 0)])] 55)), (4, (cB [(i6 x5)] 3)), (5, (cB [(nlV x6)] 26)), (6, (cB [(i6 x7), (Value.slice none 0 0), (i6 x8), (i6 x9), (bO x10)] 50)), (7, (cB [(wlV x11)] 22))], 8, 0⟩))
abbrev qlv_ (rnd : Option Nat) (x5 : Int) (x6 : NL) (x7 : Int) (x8 : Int) (x9 : Int) (x10 : Bool) (x11 : WL rw_iLii) (x12 : Int) (st : Int × List (NL) × Int × Int × Bool × Int) (c : Ex × XSt) : Prop := CG P rnd (fnN P 35) 8 (qx_ P 35 [false, false, true]) (qc6_ x5 x6 x7 x8 x9 x10 x11 x12 st) c
abbrev qlw_ (rd : Option Nat) (x5 : Int) (x6 : NL) (x7 : Int) (x8 : Int) (x9 : Int) (x10 : Bool) (x11 : WL rw_iLii) (x12 : Int) (st : Int × List (NL) × Int × Int × Bool × Int) (r : Int × List (NL) × Int × Int × Bool) : Prop := CG P rd (fnN P 35) 8 (qx_ P 35 [false, true]) (qc6_ x5 x6 x7 x8 x9 x10 x11 x12 st) (q3_ x5 x6 x7 x8 x9 x10 x11 x12 r)
def q4_ (n : Nat) (x5 : Int) (x6 : NL) (x7 : Int) (x8 : Int) (x9 : Int) (x10 : Bool) (x11 : WL rw_iLii) (x12 : Int) (st : Int × List (NL) × Int × Int × Bool × Int) : Option ((Int × List (NL) × Int × Int × Bool × Int) ⊕ (Int × List (NL) × Int × Int × Bool)) := match st with
 | (x0, x1, x2, x3, x4, x13) =>
  match x1 with
  | [] =>
   if x13 < x12 then
    if 0 ≤ x13 ∧ x13 < (((x11).l.length : Nat) : Int) then
     ((some (((x11).l).getD (x13).toNat (0, nl0, 0, 0)))).bind fun y3_ =>
     (qcp_ n x0 x2 x3 x4 x5 x6 x7 x8 x9 x10 x11 (y3_.1) (y3_.2.1) (y3_.2.2.1) (y3_.2.2.2)).bind fun t => match t with
     | (y4_0, y4_1, y4_2, y4_3, y4_4) =>
      some (.inl (y4_0, [y4_1], y4_2, y4_3, y4_4, (w64 (x13 + 1))))
    else none
   else
    some (.inr (x0, ([] : List (NL)), x2, x3, x4))
  | x1a :: x1t =>
   if x13 < x12 then
    if 0 ≤ x13 ∧ x13 < (((x11).l.length : Nat) : Int) then
     ((some (((x11).l).getD (x13).toNat (0, nl0, 0, 0)))).bind fun y3_ =>
     (qcq_ n x0 x1a x2 x3 x4 x5 x6 x7 x8 x9 x10 x11 (y3_.1) (y3_.2.1) (y3_.2.2.1) (y3_.2.2.2)).bind fun t => match t with
     | (y4_0, y4_1, y4_2, y4_3, y4_4) =>
      some (.inl (y4_0, [y4_1], y4_2, y4_3, y4_4, (w64 (x13 + 1))))
    else none
   else
    some (.inr (x0, [x1a], x2, x3, x4))
def qel_ (n : Nat) (x5 : Int) (x6 : NL) (x7 : Int) (x8 : Int) (x9 : Int) (x10 : Bool) (x11 : WL rw_iLii) (x12 : Int) (st : Int × List (NL) × Int × Int × Bool × Int) : Option (Int × List (NL) × Int × Int × Bool) := iterM (q4_ n x5 x6 x7 x8 x9 x10 x11 x12) n st
theorem qg0_ (n : Nat) {rnd : Option Nat} (x5 : Int) (x6 : NL) (x7 : Int) (x8 : Int) (x9 : Int) (x10 : Bool) (x11 : WL rw_iLii) (x12 : Int) (st : Int × List (NL) × Int × Int × Bool × Int) (o : (Int × List (NL) × Int × Int × Bool × Int) ⊕ (Int × List (NL) × Int × Int × Bool)) (h : q4_ n x5 x6 x7 x8 x9 x10 x11 x12 st = some o) : qlv_ rnd x5 x6 x7 x8 x9 x10 x11 x12 st (Sum.elim (fun s => (.normal, qc6_ x5 x6 x7 x8 x9 x10 x11 x12 s)) (fun r => q3_ x5 x6 x7 x8 x9 x10 x11 x12 r) o) := by
 obtain ⟨x0, x1, x2, x3, x4, x13⟩ := st
 unfold q4_ at h
 dsimp only at h
 cases x1 with
 | nil =>
  dsimp only at h
  by_cases hy1 : x13 < x12
  ·rw [if_pos hy1] at h
   obtain ⟨hy2, h⟩ := gd h
   obtain ⟨y3_, hy3, h⟩ := oB h
   obtain ⟨⟨y4_0, y4_1, y4_2, y4_3, y4_4⟩, hy4, h⟩ := oB h
   dsimp only at h
   obtain rfl := oI h
   exact runC2 hm (kW [0, 5, 6, 7] (iD 8) 8 0) (zz 1 (xdT hy1) <|
    zz 7 (xk1 (x11).num (x11).off (x11).cap hy2) <|
    zz 8 (lk9 hy3 (qbp_ hy2)) <|
    yy 14 (.call (qke_ x0 x2 x3 x4 x5 x6 x7 x8 x9 x10 x11 (y3_.1) (y3_.2.1) (y3_.2.2.1) (y3_.2.2.2) (y4_0, y4_1, y4_2, y4_3, y4_4) (iD 8) (iD 8))) <|
    ww (qir_ n x0 x2 x3 x4 x5 x6 x7 x8 x9 x10 x11 (y3_.1) (y3_.2.1) (y3_.2.2.1) (y3_.2.2.2) (y4_0, y4_1, y4_2, y4_3, y4_4) hy4) <|
    ee) (by kernel_rfl)
  ·rw [if_neg hy1] at h
   obtain rfl := oI h
   exact runC2 hm (kW [] (iD 8) 8 0) (zz 1 (xdF hy1) <|
    ee) (by kernel_rfl)
 | cons x1a x1t =>
  dsimp only at h
  by_cases hy1 : x13 < x12
  ·rw [if_pos hy1] at h
   obtain ⟨hy2, h⟩ := gd h
   obtain ⟨y3_, hy3, h⟩ := oB h
   obtain ⟨⟨y4_0, y4_1, y4_2, y4_3, y4_4⟩, hy4, h⟩ := oB h
   dsimp only at h
   obtain rfl := oI h
   exact runC2 hm (kW [0, 5, 6, 7] (iD 8) 8 0) (zz 1 (xdT hy1) <|
    zz 7 (xk1 (x11).num (x11).off (x11).cap hy2) <|
    zz 8 (lk9 hy3 (qbp_ hy2)) <|
    yy 14 (.call (qkg_ x0 x1a x2 x3 x4 x5 x6 x7 x8 x9 x10 x11 (y3_.1) (y3_.2.1) (y3_.2.2.1) (y3_.2.2.2) (y4_0, y4_1, y4_2, y4_3, y4_4) (iD 8) (iD 8))) <|
    ww (qis_ n x0 x1a x2 x3 x4 x5 x6 x7 x8 x9 x10 x11 (y3_.1) (y3_.2.1) (y3_.2.2.1) (y3_.2.2.2) (y4_0, y4_1, y4_2, y4_3, y4_4) hy4) <|
    ee) (by kernel_rfl)
  ·rw [if_neg hy1] at h
   obtain rfl := oI h
   exact runC2 hm (kW [] (iD 8) 8 0) (zz 1 (xdF hy1) <|
    ee) (by kernel_rfl)
theorem qfn_ (n : Nat) {rnd : Option Nat} (x5 : Int) (x6 : NL) (x7 : Int) (x8 : Int) (x9 : Int) (x10 : Bool) (x11 : WL rw_iLii) (x12 : Int) (st : Int × List (NL) × Int × Int × Bool × Int) (r : Int × List (NL) × Int × Int × Bool) (h : qel_ n x5 x6 x7 x8 x9 x10 x11 x12 st = some r) : qlw_ rnd x5 x6 x7 x8 x9 x10 x11 x12 st r :=
 CG.iter (b := qx_ P 35 [false, false, true]) (by kernel_rfl) (body := q4_ n x5 x6 x7 x8 x9 x10 x11 x12) (S := qc6_ x5 x6 x7 x8 x9 x10 x11 x12) (X := q3_ x5 x6 x7 x8 x9 x10 x11 x12)
  (fun s s' h => qg0_ n x5 x6 x7 x8 x9 x10 x11 x12 s (.inl s') h)
  (fun s r h => qg0_ n x5 x6 x7 x8 x9 x10 x11 x12 s (.inr r) h)
  (fun r => by intro hx; cases hx) h
def qdm_ (n : Nat) (a0 : Int) (a1 : Int) (a2 : Int) (a3 : Bool) (a4 : Int) (a5 : NL) (a6 : Int) (a7 : Int) (a8 : Int) (a9 : Bool) (a10 : WL rw_iLii) : Option (Int × List (NL) × Int × Int × Bool) :=
 (qel_ n a4 a5 a6 a7 a8 a9 a10 (((a10).l.length : Nat) : Int) (a0, ([] : List (NL)), a1, a2, a3, 0)).bind fun t => match t with
 | (c1_0, c1_1, c1_2, c1_3, c1_4) =>
  match c1_1 with
  | [] =>
   some (c1_0, ([] : List (NL)), c1_2, c1_3, c1_4)
  | c1_1a :: c1_1t =>
   some (c1_0, [c1_1a], c1_2, c1_3, c1_4)
theorem qf9_ (n : Nat) (a0 : Int) (a1 : Int) (a2 : Int) (a3 : Bool) (a4 : Int) (a5 : NL) (a6 : Int) (a7 : Int) (a8 : Int) (a9 : Bool) (a10 : WL rw_iLii) (r : Int × List (NL) × Int × Int × Bool) (h : qdm_ n a0 a1 a2 a3 a4 a5 a6 a7 a8 a9 a10 = some r) : qmz_ a0 a1 a2 a3 a4 a5 a6 a7 a8 a9 a10 r := by
 unfold qdm_ at h
 obtain ⟨⟨c1_0, c1_1, c1_2, c1_3, c1_4⟩, hc1, h⟩ := oB h
 dsimp only at h
 cases c1_1 with
 | nil =>
  dsimp only at h
  obtain rfl := oI h
  exact runF2 hm (kW [] (iD 8) 8 0) (ww (qfn_ n (rnd := none) a4 a5 a6 a7 a8 a9 a10 (((a10).l.length : Nat) : Int) (a0, ([] : List (NL)), a1, a2, a3, 0) (c1_0, ([] : List (NL)), c1_2, c1_3, c1_4) hc1) <|
   ll 5 ⟨(kW [0, 5, 6, 7] (iD 8) 8 0), (q3_ a4 a5 a6 a7 a8 a9 a10 (((a10).l.length : Nat) : Int) (c1_0, ([] : List (NL)), c1_2, c1_3, c1_4)).1, (q3_ a4 a5 a6 a7 a8 a9 a10 (((a10).l.length : Nat) : Int) (c1_0, ([] : List (NL)), c1_2, c1_3, c1_4)).2⟩ <|
   ee) (by kernel_rfl)
 | cons c1_1a c1_1t =>
  dsimp only at h
  obtain rfl := oI h
  exact runF2 hm (kW [] (iD 8) 8 0) (ww (qfn_ n (rnd := none) a4 a5 a6 a7 a8 a9 a10 (((a10).l.length : Nat) : Int) (a0, ([] : List (NL)), a1, a2, a3, 0) (c1_0, (c1_1a :: c1_1t), c1_2, c1_3, c1_4) hc1) <|
   ll 5 ⟨(kW [0, 5, 6, 7] (iD 8) 8 0), (q3_ a4 a5 a6 a7 a8 a9 a10 (((a10).l.length : Nat) : Int) (c1_0, (c1_1a :: c1_1t), c1_2, c1_3, c1_4)).1, (q3_ a4 a5 a6 a7 a8 a9 a10 (((a10).l.length : Nat) : Int) (c1_0, (c1_1a :: c1_1t), c1_2, c1_3, c1_4)).2⟩ <|
   ee) (by kernel_rfl)

def qia_ (a0 : WL rw_iLii) (a1 : Int) (a2 : Int) (a3 : Int) (a4 : Bool) (a5 : Int) (a6 : NL) (r : Int × List (NL) × Int × Int × Bool) : Value := match r with
 | (o0, o1, o2, o3, o4) => (Value.agg #[(i6 o0), (nlQ o1), (i6 o2), (i6 o3), (bO o4)])
def qib_ (a0 : WL rw_iLii) (a1 : Int) (a2 : Int) (a3 : Int) (a4 : Bool) (a5 : Int) (a6 : NL) (r : Int × List (NL) × Int × Int × Bool) : AH := match r with
 | (o0, o1, o2, o3, o4) => ⟨sB [(0, (cB [(wlV a0)] 22)), (1, (cB [(i6 a5)] 3)), (2, (cB [(nlV a6)] 26)), (3, (some (.marks false))), (4, (cB [(i6 o0), (nlQ o1), (i6 o2), (i6 o3), (bO o4)] 50))], 5, 0⟩
abbrev qnj_ (a0 : WL rw_iLii) (a1 : Int) (a2 : Int) (a3 : Int) (a4 : Bool) (a5 : Int) (a6 : NL) (r : Int × List (NL) × Int × Int × Bool) : Prop := Gv P (.func 24) [(Value.func (.func 35) #[] #[(pN 0 0)]), (Value.agg #[(i6 a1), (Value.slice none 0 0), (i6 a2), (i6 a3), (bO a4)]), (Value.func (.func 26) #[] #[(pN 1 0), (pN 2 0)])] ⟨sB [(0, (cB [(wlV a0)] 22)), (1, (cB [(i6 a5)] 3)), (2, (cB [(nlV a6)] 26))], 3, 3⟩ (qia_ a0 a1 a2 a3 a4 a5 a6 r) (qib_ a0 a1 a2 a3 a4 a5 a6 r)
abbrev qic_ (a0 : WL rw_iLii) (a1 : Int) (a2 : Int) (a3 : Int) (a4 : Bool) (a5 : Int) (a6 : NL) (r : Int × List (NL) × Int × Int × Bool) (ins outs : BL) : CallA := ⟨3, ins, qia_ a0 a1 a2 a3 a4 a5 a6 r, qib_ a0 a1 a2 a3 a4 a5 a6 r, outs⟩
def qd3_ (n : Nat) (a0 : WL rw_iLii) (a1 : Int) (a2 : Int) (a3 : Int) (a4 : Bool) (a5 : Int) (a6 : NL) : Option (Int × List (NL) × Int × Int × Bool) :=
 (qdm_ n a1 a2 a3 a4 a5 a6 0 0 0 false a0).bind fun t => match t with
 | (c1_0, c1_1, c1_2, c1_3, c1_4) =>
  match c1_1 with
  | [] =>
   some (c1_0, ([] : List (NL)), c1_2, c1_3, c1_4)
  | c1_1a :: c1_1t =>
   some (c1_0, [c1_1a], c1_2, c1_3, c1_4)
theorem qg1_ (n : Nat) (a0 : WL rw_iLii) (a1 : Int) (a2 : Int) (a3 : Int) (a4 : Bool) (a5 : Int) (a6 : NL) (r : Int × List (NL) × Int × Int × Bool) (h : qd3_ n a0 a1 a2 a3 a4 a5 a6 = some r) : qnj_ a0 a1 a2 a3 a4 a5 a6 r := by
 unfold qd3_ at h
 obtain ⟨⟨c1_0, c1_1, c1_2, c1_3, c1_4⟩, hc1, h⟩ := oB h
 dsimp only at h
 cases c1_1 with
 | nil =>
  dsimp only at h
  obtain rfl := oI h
  exact runF2 hm (kW [6] [(0, 0, false), (1, 1, false), (2, 2, false), (3, 6, false), (4, 5, false)] 5 0) (yy 8 (.rng (qhu_ a1 a2 a3 a4 a5 a6 0 0 0 false a0 (c1_0, ([] : List (NL)), c1_2, c1_3, c1_4) [(0, 7, false), (1, 6, false), (2, 3, false), (3, 4, false), (4, 1, false), (5, 2, false), (6, 5, false), (7, 0, false)] [(7, 0, false), (6, 1, false), (3, 2, false), (4, 3, false), (1, 4, false), (2, 5, false), (5, 6, false), (0, 7, false)]) [4, 5, 6, 8]) <|
   ww (qf9_ n a1 a2 a3 a4 a5 a6 0 0 0 false a0 (c1_0, ([] : List (NL)), c1_2, c1_3, c1_4) hc1) <|
   ee) (by kernel_rfl)
 | cons c1_1a c1_1t =>
  dsimp only at h
  obtain rfl := oI h
  exact runF2 hm (kW [6] [(0, 0, false), (1, 1, false), (2, 2, false), (3, 6, false), (4, 5, false)] 5 0) (yy 8 (.rng (qhu_ a1 a2 a3 a4 a5 a6 0 0 0 false a0 (c1_0, (c1_1a :: c1_1t), c1_2, c1_3, c1_4) [(0, 7, false), (1, 6, false), (2, 3, false), (3, 4, false), (4, 1, false), (5, 2, false), (6, 5, false), (7, 0, false)] [(7, 0, false), (6, 1, false), (3, 2, false), (4, 3, false), (1, 4, false), (2, 5, false), (5, 6, false), (0, 7, false)]) [4, 5, 6, 8]) <|
   ww (qf9_ n a1 a2 a3 a4 a5 a6 0 0 0 false a0 (c1_0, (c1_1a :: c1_1t), c1_2, c1_3, c1_4) hc1) <|
   ee) (by kernel_rfl)

def qpx_ (a0 : WL rw_iLii) (a1 : Int) (a2 : NL) (r : Int) : Value := match r with
 | o0 => (i6 o0)
def qpy_ (a0 : WL rw_iLii) (a1 : Int) (a2 : NL) (r : Int) : AH := match r with
 | o0 => ⟨sB [], 0, 0⟩
abbrev qus_ (a0 : WL rw_iLii) (a1 : Int) (a2 : NL) (r : Int) : Prop := Gv P (.func 11) [(wlV a0), (i6 a1), (nlV a2)] ⟨sB [], 0, 0⟩ (qpx_ a0 a1 a2 r) (qpy_ a0 a1 a2 r)
abbrev qma_ (a0 : WL rw_iLii) (a1 : Int) (a2 : NL) (r : Int) (ins outs : BL) : CallA := ⟨0, ins, qpx_ a0 a1 a2 r, qpy_ a0 a1 a2 r, outs⟩
def qew_ (n : Nat) (a0 : WL rw_iLii) (a1 : Int) (a2 : NL) : Option (Int) :=
 (qd2_ n a0).bind fun _ =>
 (qd3_ n a0 0 0 0 false a1 a2).bind fun t => match t with
 | (c2_0, c2_1, c2_2, c2_3, c2_4) =>
  match c2_1 with
  | [] =>
   some c2_2
  | c2_1a :: c2_1t =>
   some c2_2
theorem qit_ (n : Nat) (a0 : WL rw_iLii) (a1 : Int) (a2 : NL) (r : Int) (h : qew_ n a0 a1 a2 = some r) : qus_ a0 a1 a2 r := by
 unfold qew_ at h
 obtain ⟨_, hc1, h⟩ := oB h
 obtain ⟨⟨c2_0, c2_1, c2_2, c2_3, c2_4⟩, hc2, h⟩ := oB h
 dsimp only at h
 have k0 := fun {A L l} (k : PL A L l) => yy 6 (.call (qni_ a0 () [] [(2, 0, false)])) <|
  ww (qlu_ n a0 () hc1) <|
  k
 cases c2_1 with
 | nil =>
  dsimp only at h
  obtain rfl := oI h
  exact runF2 hm ⟨[6], [], 0, 0, [], true, [50], [], []⟩ (k0 <|
   yy 9 (.call (qic_ a0 0 0 0 false a1 a2 (c2_0, ([] : List (NL)), c2_2, c2_3, c2_4) [(0, 2, false), (1, 0, false), (2, 1, false)] [(2, 0, false), (0, 1, false), (1, 2, false), (4, 4, false)])) <|
   ww (qg1_ n a0 0 0 0 false a1 a2 (c2_0, ([] : List (NL)), c2_2, c2_3, c2_4) hc2) <|
   ee) (by kernel_rfl)
 | cons c2_1a c2_1t =>
  dsimp only at h
  obtain rfl := oI h
  exact runF2 hm (kW [6] [] 0 0) (k0 <|
   yy 9 (.call (qic_ a0 0 0 0 false a1 a2 (c2_0, (c2_1a :: c2_1t), c2_2, c2_3, c2_4) [(0, 2, false), (1, 0, false), (2, 1, false)] [(2, 0, false), (0, 1, false), (1, 2, false), (4, 4, false)])) <|
   ww (qg1_ n a0 0 0 0 false a1 a2 (c2_0, (c2_1a :: c2_1t), c2_2, c2_3, c2_4) hc2) <|
   ee) (by kernel_rfl)

def qjg_ (a0 : WL rw_iLii) (a1 : Int) (a2 : NL) (r : Int) : Value := match r with
 | o0 => (i6 o0)
def qjh_ (a0 : WL rw_iLii) (a1 : Int) (a2 : NL) (r : Int) : AH := match r with
 | o0 => ⟨sB [], 0, 0⟩
abbrev qo0_ (a0 : WL rw_iLii) (a1 : Int) (a2 : NL) (r : Int) : Prop := Gv P (.func 12) [(wlV a0), (i6 a1), (nlV a2)] ⟨sB [], 0, 0⟩ (qjg_ a0 a1 a2 r) (qjh_ a0 a1 a2 r)
abbrev qga_ (a0 : WL rw_iLii) (a1 : Int) (a2 : NL) (r : Int) (ins outs : BL) : CallA := ⟨0, ins, qjg_ a0 a1 a2 r, qjh_ a0 a1 a2 r, outs⟩
def qd4_ (x0 : WL rw_iLii) (x1 : Int) (x2 : NL) (st : Int × Int) : XSt := match st with
 | (x3, x4) => (sT 47 [(0, (wlV x0)), (1, (i6 x1)), (2, (nlV x2)), (7, (i6 x3)), (8, (i6 x4))], [], ⟨sB [], 0, 0⟩)
def qcu_ (x0 : WL rw_iLii) (x1 : Int) (x2 : NL) (r : Int) : Ex × XSt := match r with
 | z0 => (.exit 0, (sT 47 [(0, (wlV x0)), (7, (i6 z0))], [], ⟨sB [], 0, 0⟩))
abbrev qnk_ (rnd : Option Nat) (x0 : WL rw_iLii) (x1 : Int) (x2 : NL) (st : Int × Int) (c : Ex × XSt) : Prop := CG P rnd (fnN P 12) 0 (qx_ P 12 [false, false, true, false, true, true]) (qd4_ x0 x1 x2 st) c
abbrev qnl_ (rd : Option Nat) (x0 : WL rw_iLii) (x1 : Int) (x2 : NL) (st : Int × Int) (r : Int) : Prop := CG P rd (fnN P 12) 0 (qx_ P 12 [false, true, false, true, true]) (qd4_ x0 x1 x2 st) (qcu_ x0 x1 x2 r)
def qbm_ (n : Nat) (x0 : WL rw_iLii) (x1 : Int) (x2 : NL) (st : Int × Int) : Option ((Int × Int) ⊕ (Int)) := match st with
 | (x3, x4) =>
  if x4 < (((x0).l.length : Nat) : Int) then
   if 0 ≤ x4 ∧ x4 < (((x0).l.length : Nat) : Int) then
    ((some (((x0).l).getD (x4).toNat (0, nl0, 0, 0)))).bind fun y3_ =>
    (qcb_ n (y3_.1) (y3_.2.1) (y3_.2.2.1) (y3_.2.2.2) x1 x2).bind fun y4_ =>
    if y4_ = true then
     if x3 < 0 then
      some (.inl (x4, (w64 (x4 + 1))))
     else
      if 0 ≤ x3 ∧ x3 < (((x0).l.length : Nat) : Int) then
       ((some (((x0).l).getD (x3).toNat (0, nl0, 0, 0)))).bind fun y8_ =>
       if (y3_.2.2.2) > (y8_.2.2.2) then
        some (.inl (x4, (w64 (x4 + 1))))
       else
        some (.inl (x3, (w64 (x4 + 1))))
      else none
    else
     some (.inl (x3, (w64 (x4 + 1))))
   else none
  else
   some (.inr x3)
def qff_ (n : Nat) (x0 : WL rw_iLii) (x1 : Int) (x2 : NL) (st : Int × Int) : Option (Int) := iterM (qbm_ n x0 x1 x2) n st
theorem qid_ (n : Nat) {rnd : Option Nat} (x0 : WL rw_iLii) (x1 : Int) (x2 : NL) (st : Int × Int) (o : (Int × Int) ⊕ (Int)) (h : qbm_ n x0 x1 x2 st = some o) : qnk_ rnd x0 x1 x2 st (Sum.elim (fun s => (.normal, qd4_ x0 x1 x2 s)) (fun r => qcu_ x0 x1 x2 r) o) := by
 obtain ⟨x3, x4⟩ := st
 unfold qbm_ at h
 dsimp only at h
 by_cases hy1 : x4 < (((x0).l.length : Nat) : Int)
 ·rw [if_pos hy1] at h
  obtain ⟨hy2, h⟩ := gd h
  obtain ⟨y3_, hy3, h⟩ := oB h
  obtain ⟨y4_, hy4, h⟩ := oB h
  have k0 := fun {A L l} (k : PL A L l) => zz 5 (xdT hy1) <|
   zz 12 (xk1 (x0).num (x0).off (x0).cap hy2) <|
   zz 13 (lk9 hy3 (qbp_ hy2)) <|
   yy 16 (.call (qh1_ (y3_.1) (y3_.2.1) (y3_.2.2.1) (y3_.2.2.2) x1 x2 y4_ [] [])) <|
   ww (qgq_ n (y3_.1) (y3_.2.1) (y3_.2.2.1) (y3_.2.2.2) x1 x2 y4_ hy4) <|
   k
  by_cases hy5 : y4_ = true
  ·rw [if_pos hy5] at h
   have k5 := fun {A L l} (k : PL A L l) => zz 17 (xbT hy5) <|
    k
   by_cases hy6 : x3 < 0
   ·rw [if_pos hy6] at h
    obtain rfl := oI h
    exact runC2 hm (kW [0, 1, 2, 7, 8] [] 0 0) (k0 <|
     k5 <|
     zz 19 (xdT hy6) <|
     ee) (by kernel_rfl)
   ·rw [if_neg hy6] at h
    obtain ⟨hy7, h⟩ := gd h
    obtain ⟨y8_, hy8, h⟩ := oB h
    have k6 := fun {A L l} (k : PL A L l) => zz 19 (xdF hy6) <|
     zz 23 (xk1 (x0).num (x0).off (x0).cap hy2) <|
     zz 24 (fk13 (x0).num (Nat.add (x0).off ((x4).toNat * 4))) <|
     zz 25 (lk14 hy3 (qbp_ hy2)) <|
     zz 28 (xk1 (x0).num (x0).off (x0).cap hy7) <|
     zz 29 (fk13 (x0).num (Nat.add (x0).off ((x3).toNat * 4))) <|
     zz 30 (lk14 hy8 (qbp_ hy7)) <|
     k
    by_cases hy9 : (y3_.2.2.2) > (y8_.2.2.2)
    ·rw [if_pos hy9] at h
     obtain rfl := oI h
     exact runC2 hm (kW [0, 1, 2, 7, 8] [] 0 0) (k0 <|
      k5 <|
      k6 <|
      zz 31 (xdT hy9) <|
      ee) (by kernel_rfl)
    ·rw [if_neg hy9] at h
     obtain rfl := oI h
     exact runC2 hm (kW [0, 1, 2, 7, 8] [] 0 0) (k0 <|
      k5 <|
      k6 <|
      zz 31 (xdF hy9) <|
      ee) (by kernel_rfl)
  ·rw [if_neg hy5] at h
   obtain rfl := oI h
   exact runC2 hm (kW [0, 1, 2, 7, 8] [] 0 0) (k0 <|
    zz 17 (xbF hy5) <|
    ee) (by kernel_rfl)
 ·rw [if_neg hy1] at h
  obtain rfl := oI h
  exact runC2 hm (kW [0, 7] [] 0 0) (zz 5 (xdF hy1) <|
   ee) (by kernel_rfl)
theorem qlx_ (n : Nat) {rnd : Option Nat} (x0 : WL rw_iLii) (x1 : Int) (x2 : NL) (st : Int × Int) (r : Int) (h : qff_ n x0 x1 x2 st = some r) : qnl_ rnd x0 x1 x2 st r :=
 CG.iter (b := qx_ P 12 [false, false, true, false, true, true]) (by kernel_rfl) (body := qbm_ n x0 x1 x2) (S := qd4_ x0 x1 x2) (X := qcu_ x0 x1 x2)
  (fun s s' h => qid_ n x0 x1 x2 s (.inl s') h)
  (fun s r h => qid_ n x0 x1 x2 s (.inr r) h)
  (fun r => by intro hx; cases hx) h
def qb4_ (n : Nat) (a0 : WL rw_iLii) (a1 : Int) (a2 : NL) : Option (Int) :=
 (qff_ n a0 a1 a2 ((-1), 0)).bind fun c1_ =>
 if c1_ < 0 then
  some 0
 else
  if 0 ≤ c1_ ∧ c1_ < (((a0).l.length : Nat) : Int) then
   ((some (((a0).l).getD (c1_).toNat (0, nl0, 0, 0)))).bind fun c4_ =>
   some (c4_.2.2.1)
  else none
theorem qe6_ (n : Nat) (a0 : WL rw_iLii) (a1 : Int) (a2 : NL) (r : Int) (h : qb4_ n a0 a1 a2 = some r) : qo0_ a0 a1 a2 r := by
 unfold qb4_ at h
 obtain ⟨c1_, hc1, h⟩ := oB h
 have k0 := fun {A L l} (k : PL A L l) => ww (qlx_ n (rnd := none) a0 a1 a2 ((-1), 0) c1_ hc1) <|
  ll 8 ⟨(kW [0, 1, 2, 7, 8] [] 0 0), (qcu_ a0 a1 a2 c1_).1, (qcu_ a0 a1 a2 c1_).2⟩ <|
  k
 by_cases hc2 : c1_ < 0
 ·rw [if_pos hc2] at h
  obtain rfl := oI h
  exact runF2 hm (kW [6] [] 0 0) (k0 <|
   zz 12 (xdT hc2) <|
   ee) (by kernel_rfl)
 ·rw [if_neg hc2] at h
  obtain ⟨hc3, h⟩ := gd h
  obtain ⟨c4_, hc4, h⟩ := oB h
  obtain rfl := oI h
  exact runF2 hm (kW [6] [] 0 0) (k0 <|
   zz 12 (xdF hc2) <|
   zz 17 (xk1 (a0).num (a0).off (a0).cap hc3) <|
   zz 18 (fk15 (a0).num (Nat.add (a0).off ((c1_).toNat * 4))) <|
   zz 19 (lk16 hc4 (qbp_ hc3)) <|
   ee) (by kernel_rfl)


end Go.Proofs.Ytlfcfopohlhlfaa.sca26
