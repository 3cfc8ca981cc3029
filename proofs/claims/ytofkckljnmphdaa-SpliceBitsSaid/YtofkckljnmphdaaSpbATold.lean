/-
  What functions do, told by pure functions. No condition.
-/
import Derived.Test.YtofkckljnmphdaaSpbLives
set_option linter.unusedSimpArgs false
set_option linter.unusedVariables false
set_option linter.unusedSectionVars false
set_option linter.unnecessarySimpa false
set_option maxRecDepth 100000
noncomputable section
namespace Go.Proofs.Ytofkckljnmphdaa.spb20
open Go Go.Proofs.Ytofkckljnmphdaa Ax
abbrev R8 [Nest] : Type := Int × Int × Int × Int × Int × Int × NL × Int
variable [Args]
def qee_ (x : Int × Int × Int) : List Value := [Value.int .i64 (x.1), Value.int .i64 (x.2.1), Value.int .i64 (x.2.2)]
theorem qf7_ : RowF qee_ 3 := ⟨fun _ => rfl, fun a v h => by
 simp only [qee_, List.mem_cons, List.not_mem_nil, or_false] at h
 rcases h with rfl | rfl | rfl <;> rfl, fun _ => rfl⟩
theorem qm_ : ∀ a, okVs (rw_iiiiiiLu a) = true := fun _ => rfl
abbrev xp1 (b o n k : Nat) (i : Int) : Prop := IA P 22 (sW b o n k) i (pW b (Nat.add o (i.toNat * 8)))
theorem xk1 (b o k : Nat) {n : Nat} {i : Int} (h : 0 ≤ i ∧ i < (n : Int)) : OB (.pur (pW b (Nat.add o (i.toNat * 8)))) (xp1 b o n k i) := ⟨ixWO (e := 49) (by kernel_rfl) (by kernel_rfl) h⟩
abbrev lp2 (x : WL rw_iiiiiiLu) (i : Nat) (r : R8) : Prop := Lg P 49 (pW x.num (Nat.add x.off (i * 8))) (Value.agg #[(i6 (r.1)), (i6 (r.2.1)), (i6 (r.2.2.1)), (i6 (r.2.2.2.1)), (i6 (r.2.2.2.2.1)), (i6 (r.2.2.2.2.2.1)), (nlV (r.2.2.2.2.2.2.1)), (Value.int .u64 (r.2.2.2.2.2.2.2))])
theorem lk2 {x : WL rw_iiiiiiLu} {i : Nat} {r : Int × Int × Int × Int × Int × Int × NL × Int} (hr : some ((x.l).getD i (0, 0, 0, 0, 0, 0, nl0, 0)) = some r) (h : i < (x.l).length) : OB (.ld (Value.agg #[(i6 (r.1)), (i6 (r.2.1)), (i6 (r.2.2.1)), (i6 (r.2.2.2.1)), (i6 (r.2.2.2.2.1)), (i6 (r.2.2.2.2.2.1)), (nlV (r.2.2.2.2.2.2.1)), (Value.int .u64 (r.2.2.2.2.2.2.2))])) (lp2 x i r) := by cases hr; exact ⟨ldRA rwf_iiiiiiLu (0, 0, 0, 0, 0, 0, nl0, 0) (i := i) (q := 0) x (n := 8) (Nat.add x.off (i * 8)) rfl (by kernel_rfl) (by kernel_rfl) h (by decide) (by decide) rfl⟩
abbrev fp3 (b o : Nat) : Prop := FA P 49 (pW b o) 1 (pW b (Nat.add o 1))
theorem fk3 (b o : Nat) : OB (.pur (pW b (Nat.add o 1))) (fp3 b o) := ⟨by unfold fp3 FA; kernel_rfl⟩
abbrev lp4 (x : WL rw_iiiiiiLu) (i : Nat) (r : R8) : Prop := Lg P 3 (pW x.num (Nat.add (Nat.add x.off (i * 8)) 1)) (i6 (r.2.1))
theorem lk4 {x : WL rw_iiiiiiLu} {i : Nat} {r : Int × Int × Int × Int × Int × Int × NL × Int} (hr : some ((x.l).getD i (0, 0, 0, 0, 0, 0, nl0, 0)) = some r) (h : i < (x.l).length) : OB (.ld (i6 (r.2.1))) (lp4 x i r) := by cases hr; exact ⟨ldRS rwf_iiiiiiLu (0, 0, 0, 0, 0, 0, nl0, 0) (i := i) (q := 1) x (Nat.add (Nat.add x.off (i * 8)) 1) rfl (by kernel_rfl) h (by decide) rfl⟩
abbrev fp5 (b o : Nat) : Prop := FA P 49 (pW b o) 2 (pW b (Nat.add o 2))
theorem fk5 (b o : Nat) : OB (.pur (pW b (Nat.add o 2))) (fp5 b o) := ⟨by unfold fp5 FA; kernel_rfl⟩
abbrev lp6 (x : WL rw_iiiiiiLu) (i : Nat) (r : R8) : Prop := Lg P 3 (pW x.num (Nat.add (Nat.add x.off (i * 8)) 2)) (i6 (r.2.2.1))
theorem lk6 {x : WL rw_iiiiiiLu} {i : Nat} {r : Int × Int × Int × Int × Int × Int × NL × Int} (hr : some ((x.l).getD i (0, 0, 0, 0, 0, 0, nl0, 0)) = some r) (h : i < (x.l).length) : OB (.ld (i6 (r.2.2.1))) (lp6 x i r) := by cases hr; exact ⟨ldRS rwf_iiiiiiLu (0, 0, 0, 0, 0, 0, nl0, 0) (i := i) (q := 2) x (Nat.add (Nat.add x.off (i * 8)) 2) rfl (by kernel_rfl) h (by decide) rfl⟩
abbrev fp7 (b o : Nat) : Prop := FA P 49 (pW b o) 6 (pW b (Nat.add o 6))
theorem fk7 (b o : Nat) : OB (.pur (pW b (Nat.add o 6))) (fp7 b o) := ⟨by unfold fp7 FA; kernel_rfl⟩
abbrev lp8 (x : WL rw_iiiiiiLu) (i : Nat) (r : R8) : Prop := Lg P 26 (pW x.num (Nat.add (Nat.add x.off (i * 8)) 6)) (nlV (r.2.2.2.2.2.2.1))
theorem lk8 {x : WL rw_iiiiiiLu} {i : Nat} {r : Int × Int × Int × Int × Int × Int × NL × Int} (hr : some ((x.l).getD i (0, 0, 0, 0, 0, 0, nl0, 0)) = some r) (h : i < (x.l).length) : OB (.ld (nlV (r.2.2.2.2.2.2.1))) (lp8 x i r) := by cases hr; exact ⟨ldRS rwf_iiiiiiLu (0, 0, 0, 0, 0, 0, nl0, 0) (i := i) (q := 6) x (Nat.add (Nat.add x.off (i * 8)) 6) rfl (by kernel_rfl) h (by decide) rfl⟩
abbrev xp9 (b o n k : Nat) (i : Int) : Prop := IA P 26 (sW b o n k) i (pW b (Nat.add o i.toNat))
theorem xk9 (b o k : Nat) {n : Nat} {i : Int} (h : 0 ≤ i ∧ i < (n : Int)) : OB (.pur (pW b (Nat.add o i.toNat))) (xp9 b o n k i) := ⟨ixWO1 (e := 3) (by kernel_rfl) (by kernel_rfl) h⟩
theorem nk10 {x : NL} {i : Nat} {v : Int} (hv : some (x.l.getD i 0) = some v) (h : i < x.l.length) : OB (.ld (i6 v)) (Lg P 3 (pW (Nat.add x.num 64) (Nat.add x.off i)) (i6 v)) := by cases hv; exact ⟨ldN x (by kernel_rfl) h⟩
abbrev fp11 (b o : Nat) : Prop := FA P 49 (pW b o) 4 (pW b (Nat.add o 4))
theorem fk11 (b o : Nat) : OB (.pur (pW b (Nat.add o 4))) (fp11 b o) := ⟨by unfold fp11 FA; kernel_rfl⟩
abbrev lp12 (x : WL rw_iiiiiiLu) (i : Nat) (r : R8) : Prop := Lg P 3 (pW x.num (Nat.add (Nat.add x.off (i * 8)) 4)) (i6 (r.2.2.2.2.1))
theorem lk12 {x : WL rw_iiiiiiLu} {i : Nat} {r : Int × Int × Int × Int × Int × Int × NL × Int} (hr : some ((x.l).getD i (0, 0, 0, 0, 0, 0, nl0, 0)) = some r) (h : i < (x.l).length) : OB (.ld (i6 (r.2.2.2.2.1))) (lp12 x i r) := by cases hr; exact ⟨ldRS rwf_iiiiiiLu (0, 0, 0, 0, 0, 0, nl0, 0) (i := i) (q := 4) x (Nat.add (Nat.add x.off (i * 8)) 4) rfl (by kernel_rfl) h (by decide) rfl⟩
abbrev xp13 (b n k : Nat) (i : Int) : Prop := IA P 22 (sN b 0 n k) i (pN b (i.toNat * 8))
theorem xk13 (b k : Nat) {n : Nat} {i : Int} (h : 0 ≤ i ∧ i < (n : Int)) : OB (.pur (pN b (i.toNat * 8))) (xp13 b n k i) := ⟨ixS (e := 49) (by kernel_rfl) (by kernel_rfl) h.1 h.2⟩
abbrev xp14 (b n k : Nat) (i : Int) : Prop := IA P 74 (sN b 0 n k) i (pN b (i.toNat * 3))
theorem xk14 (b k : Nat) {n : Nat} {i : Int} (h : 0 ≤ i ∧ i < (n : Int)) : OB (.pur (pN b (i.toNat * 3))) (xp14 b n k i) := ⟨ixS (e := 77) (by kernel_rfl) (by kernel_rfl) h.1 h.2⟩
abbrev op15 (L : List (Int × Int × Int)) (i : Nat) (r : Int × Int × Int) : Prop := (layT (rows qee_ L)).get (Nat.add (i * 3) 0) = some (i6 (r.1))
theorem ok15 {L : List (Int × Int × Int)} {i : Nat} {r : Int × Int × Int} (hr : some (L.getD i (0, 0, 0)) = some r) (h : i < L.length) : OB (.ld (i6 (r.1))) (op15 L i r) := by cases hr; exact ⟨rows_ld qf7_ (0, 0, 0) (i := i) (j := 0) (Nat.add (i * 3) 0) rfl h (by decide) rfl⟩
abbrev op16 (L : List (Int × Int × Int)) (i : Nat) (r : Int × Int × Int) : Prop := (layT (rows qee_ L)).get (Nat.add (i * 3) 1) = some (i6 (r.2.1))
theorem ok16 {L : List (Int × Int × Int)} {i : Nat} {r : Int × Int × Int} (hr : some (L.getD i (0, 0, 0)) = some r) (h : i < L.length) : OB (.ld (i6 (r.2.1))) (op16 L i r) := by cases hr; exact ⟨rows_ld qf7_ (0, 0, 0) (i := i) (j := 1) (Nat.add (i * 3) 1) rfl h (by decide) rfl⟩
abbrev op17 (L : List (Int × Int × Int)) (i : Nat) (r : Int × Int × Int) : Prop := (layT (rows qee_ L)).get (Nat.add (i * 3) 2) = some (i6 (r.2.2))
theorem ok17 {L : List (Int × Int × Int)} {i : Nat} {r : Int × Int × Int} (hr : some (L.getD i (0, 0, 0)) = some r) (h : i < L.length) : OB (.ld (i6 (r.2.2))) (op17 L i r) := by cases hr; exact ⟨rows_ld qf7_ (0, 0, 0) (i := i) (j := 2) (Nat.add (i * 3) 2) rfl h (by decide) rfl⟩
theorem qox_ {α : Type} (l : List α) (x : α) : ∃ a t, l ++ [x] = a :: t := by
 cases l with
 | nil => exact ⟨_, _, rfl⟩
 | cons a t => exact ⟨_, _, rfl⟩
theorem qmt_ {α : Type} {x v : α} {l : List α} {n : Nat} : ∃ a t, (x :: l).set n v = a :: t := by cases n <;> exact ⟨_, _, rfl⟩
abbrev xp18 (b n k : Nat) (i : Int) : Prop := IA P 26 (sN b 0 n k) i (pN b i.toNat)
theorem xk18 (b k : Nat) {n : Nat} {i : Int} (h : 0 ≤ i ∧ i < (n : Int)) : OB (.pur (pN b i.toNat)) (xp18 b n k i) := ⟨ixS1 (e := 3) (by kernel_rfl) (by kernel_rfl) h⟩
abbrev xp19 (b o n k : Nat) (i : Int) : Prop := IA P 23 (sW b o n k) i (pW b (Nat.add o (i.toNat * 5)))
theorem xk19 (b o k : Nat) {n : Nat} {i : Int} (h : 0 ≤ i ∧ i < (n : Int)) : OB (.pur (pW b (Nat.add o (i.toNat * 5)))) (xp19 b o n k i) := ⟨ixWO (e := 35) (by kernel_rfl) (by kernel_rfl) h⟩
abbrev lp20 (x : WL rw_iiiii) (i : Nat) (r : Int × Int × Int × Int × Int) : Prop := Lg P 35 (pW x.num (Nat.add x.off (i * 5))) (Value.agg #[(i6 (r.1)), (i6 (r.2.1)), (i6 (r.2.2.1)), (i6 (r.2.2.2.1)), (i6 (r.2.2.2.2))])
theorem lk20 {x : WL rw_iiiii} {i : Nat} {r : Int × Int × Int × Int × Int} (hr : some ((x.l).getD i (0, 0, 0, 0, 0)) = some r) (h : i < (x.l).length) : OB (.ld (Value.agg #[(i6 (r.1)), (i6 (r.2.1)), (i6 (r.2.2.1)), (i6 (r.2.2.2.1)), (i6 (r.2.2.2.2))])) (lp20 x i r) := by cases hr; exact ⟨ldRA rwf_iiiii (0, 0, 0, 0, 0) (i := i) (q := 0) x (n := 5) (Nat.add x.off (i * 5)) rfl (by kernel_rfl) (by kernel_rfl) h (by decide) (by decide) rfl⟩
abbrev op21 (L : List R8) (i : Nat) (r : R8) : Prop := (layT (rows rw_iiiiiiLu L)).get (Nat.add (i * 8) 7) = some (Value.int .u64 (r.2.2.2.2.2.2.2))
theorem ok21 {L : List R8} {i : Nat} {r : Int × Int × Int × Int × Int × Int × NL × Int} (hr : some (L.getD i (0, 0, 0, 0, 0, 0, nl0, 0)) = some r) (h : i < L.length) : OB (.ld (Value.int .u64 (r.2.2.2.2.2.2.2))) (op21 L i r) := by cases hr; exact ⟨rows_ld rwf_iiiiiiLu (0, 0, 0, 0, 0, 0, nl0, 0) (i := i) (j := 7) (Nat.add (i * 8) 7) rfl h (by decide) rfl⟩

def qiy_ (n : Nat) : Option Unit := some ()
theorem qks_ (n : Nat) (r : Unit) (h : qiy_ n = some r) : Gv P (.func 6) [] Ax.h0 (.bool true) Ax.h0 := lives_gv

def qgn_ (a0 : WL rw_iiiiiiLu) (a1 : Int) : List Value := [(wlV a0), (i6 a1)]
def qgo_ (a0 : WL rw_iiiiiiLu) (a1 : Int) : AH := ⟨sB [], 0, 0⟩
def qd3_ (a0 : WL rw_iiiiiiLu) (a1 : Int) (r : Bool) : Value := match r with
 | o0 => (bO o0)
def qd4_ (a0 : WL rw_iiiiiiLu) (a1 : Int) (r : Bool) : AH := match r with
 | o0 => ⟨sB [], 0, 0⟩
abbrev qom_ (a0 : WL rw_iiiiiiLu) (a1 : Int) (r : Bool) : Prop := Gv P (.func 30) (qgn_ a0 a1) (qgo_ a0 a1) (qd3_ a0 a1 r) (qd4_ a0 a1 r)
abbrev qj1_ (a0 : WL rw_iiiiiiLu) (a1 : Int) (r : Bool) (ins outs : BL) : CallA := ⟨0, ins, qd3_ a0 a1 r, qd4_ a0 a1 r, outs⟩
def q3_ (x1_0 : WL rw_iiiiiiLu) (x1_1 : Int) (st : Int × Int) : XSt := match st with
 | (x1_2, x1_3) => (sT 66 [(0, (wlV x1_0)), (1, (i6 x1_1)), (5, (i6 x1_2)), (6, (i6 x1_3))], [], ⟨sB [], 0, 0⟩)
def qn_ (x1_0 : WL rw_iiiiiiLu) (x1_1 : Int) (r : (Unit) ⊕ (Int)) : Ex × XSt := match r with
 | .inl _ => (.ret, (sT 66 [(4, (bO false))], [], ⟨sB [], 0, 0⟩))
 | .inr z1_0 => (.exit 0, (sT 66 [(0, (wlV x1_0)), (1, (i6 x1_1)), (5, (i6 z1_0))], [], ⟨sB [], 0, 0⟩))
abbrev qoe_ (rnd : Option Nat) (x1_0 : WL rw_iiiiiiLu) (x1_1 : Int) (st : Int × Int) (c : Ex × XSt) : Prop := CG P rnd (fnN P 30) 0 (codeOf P 30 [false, false, true, false, true, true]) (q3_ x1_0 x1_1 st) c
abbrev qfg_ (rd : Option Nat) (x1_0 : WL rw_iiiiiiLu) (x1_1 : Int) (st : Int × Int) (r : (Unit) ⊕ (Int)) : Prop := CG P rd (fnN P 30) 0 (codeOf P 30 [false, true, false, true, true]) (q3_ x1_0 x1_1 st) (qn_ x1_0 x1_1 r)
def q4_ (n : Nat) (x1_0 : WL rw_iiiiiiLu) (x1_1 : Int) (st : Int × Int) : Option ((Int × Int) ⊕ ((Unit) ⊕ (Int))) := match st with
 | (x1_2, x1_3) =>
  if x1_3 < (((x1_0).l.length : Nat) : Int) then
   if x1_3 ≤ x1_1 then
    if 0 ≤ x1_3 ∧ x1_3 < (((x1_0).l.length : Nat) : Int) then
     ((some (((x1_0).l).getD (x1_3).toNat (0, 0, 0, 0, 0, 0, nl0, 0)))).bind fun y1_4_ =>
     ((some (w64 (x1_2 + ((((y1_4_.2.2.2.2.2.2.1)).l.length : Nat) : Int))))).bind fun y1_5_ =>
     if (y1_4_.2.2.1) > (1048576 : Int) then
      some (.inr (.inl ()))
     else
      if (y1_4_.2.2.2.2.1) > (1048576 : Int) then
       some (.inr (.inl ()))
      else
       if (y1_4_.2.2.2.2.2.1) > (1048576 : Int) then
        some (.inr (.inl ()))
       else
        if (y1_4_.2.2.1) < (-1048576 : Int) then
         some (.inr (.inl ()))
        else
         if (y1_4_.2.2.2.2.1) < (-1048576 : Int) then
          some (.inr (.inl ()))
         else
          if (y1_4_.2.2.2.2.2.1) < (-1048576 : Int) then
           some (.inr (.inl ()))
          else
           some (.inl (y1_5_, (w64 (x1_3 + (1 : Int)))))
    else none
   else
    some (.inr (.inr x1_2))
  else
   some (.inr (.inr x1_2))
def qch_ (n : Nat) (x1_0 : WL rw_iiiiiiLu) (x1_1 : Int) (st : Int × Int) : Option ((Unit) ⊕ (Int)) := iterM (q4_ n x1_0 x1_1) n st
theorem qfh_ (n : Nat) {rnd : Option Nat} (x1_0 : WL rw_iiiiiiLu) (x1_1 : Int) (st : Int × Int) (o : (Int × Int) ⊕ ((Unit) ⊕ (Int))) (h : q4_ n x1_0 x1_1 st = some o) : CG P rnd (fnN P 30) 0 (codeOf P 30 [false, false, true, false, true, true]) (q3_ x1_0 x1_1 st) (Sum.elim (fun s => (.normal, q3_ x1_0 x1_1 s)) (fun r => qn_ x1_0 x1_1 r) o) := by
 obtain ⟨x1_2, x1_3⟩ := st
 unfold q4_ at h
 dsimp only at h
 by_cases hy1_1 : x1_3 < (((x1_0).l.length : Nat) : Int)
 ·rw [if_pos hy1_1] at h
  have k0 := fun {A L l} (k : PL A L l) => zz 5 (xdT hy1_1) <|
   k
  by_cases hy1_2 : x1_3 ≤ x1_1
  ·rw [if_pos hy1_2] at h
   obtain ⟨hy1_3, h⟩ := gd h
   obtain ⟨y1_4_, hy1_4, h⟩ := oB h
   obtain ⟨y1_5_, hy1_5, h⟩ := oB h
   have k1 := fun {A L l} (k : PL A L l) => zz 9 (xdT hy1_2) <|
    zz 17 (xk1 (x1_0).num (x1_0).off (x1_0).cap hy1_3) <|
    zz 18 (lk2 hy1_4 (toNatLt hy1_3)) <|
    zz 26 (xnm hy1_5) <|
    k
   by_cases hy1_6 : (y1_4_.2.2.1) > (1048576 : Int)
   ·rw [if_pos hy1_6] at h
    obtain rfl := oI h
    exact runC2 hm ⟨[4], [], 0, 0, [], false, [], [], []⟩ (k0 <|
     k1 <|
     zz 31 (xdT hy1_6) <|
     ee) (by kernel_rfl)
   ·rw [if_neg hy1_6] at h
    have k5 := fun {A L l} (k : PL A L l) => zz 31 (xdF hy1_6) <|
     k
    by_cases hy1_7 : (y1_4_.2.2.2.2.1) > (1048576 : Int)
    ·rw [if_pos hy1_7] at h
     obtain rfl := oI h
     exact runC2 hm ⟨[4], [], 0, 0, [], false, [], [], []⟩ (k0 <|
      k1 <|
      k5 <|
      zz 35 (xdT hy1_7) <|
      ee) (by kernel_rfl)
    ·rw [if_neg hy1_7] at h
     have k6 := fun {A L l} (k : PL A L l) => zz 35 (xdF hy1_7) <|
      k
     by_cases hy1_8 : (y1_4_.2.2.2.2.2.1) > (1048576 : Int)
     ·rw [if_pos hy1_8] at h
      obtain rfl := oI h
      exact runC2 hm ⟨[4], [], 0, 0, [], false, [], [], []⟩ (k0 <|
       k1 <|
       k5 <|
       k6 <|
       zz 40 (xdT hy1_8) <|
       ee) (by kernel_rfl)
     ·rw [if_neg hy1_8] at h
      have k7 := fun {A L l} (k : PL A L l) => zz 40 (xdF hy1_8) <|
       k
      by_cases hy1_9 : (y1_4_.2.2.1) < (-1048576 : Int)
      ·rw [if_pos hy1_9] at h
       obtain rfl := oI h
       exact runC2 hm ⟨[4], [], 0, 0, [], false, [], [], []⟩ (k0 <|
        k1 <|
        k5 <|
        k6 <|
        k7 <|
        zz 45 (xdT hy1_9) <|
        ee) (by kernel_rfl)
      ·rw [if_neg hy1_9] at h
       have k8 := fun {A L l} (k : PL A L l) => zz 45 (xdF hy1_9) <|
        k
       by_cases hy1_10 : (y1_4_.2.2.2.2.1) < (-1048576 : Int)
       ·rw [if_pos hy1_10] at h
        obtain rfl := oI h
        exact runC2 hm ⟨[4], [], 0, 0, [], false, [], [], []⟩ (k0 <|
         k1 <|
         k5 <|
         k6 <|
         k7 <|
         k8 <|
         zz 50 (xdT hy1_10) <|
         ee) (by kernel_rfl)
       ·rw [if_neg hy1_10] at h
        have k9 := fun {A L l} (k : PL A L l) => zz 50 (xdF hy1_10) <|
         k
        by_cases hy1_11 : (y1_4_.2.2.2.2.2.1) < (-1048576 : Int)
        ·rw [if_pos hy1_11] at h
         obtain rfl := oI h
         exact runC2 hm ⟨[4], [], 0, 0, [], false, [], [], []⟩ (k0 <|
          k1 <|
          k5 <|
          k6 <|
          k7 <|
          k8 <|
          k9 <|
          zz 55 (xdT hy1_11) <|
          ee) (by kernel_rfl)
        ·rw [if_neg hy1_11] at h
         obtain rfl := oI h
         exact runC2 hm ⟨[0, 1, 5, 6], [], 0, 0, [], false, [], [], []⟩ (k0 <|
          k1 <|
          k5 <|
          k6 <|
          k7 <|
          k8 <|
          k9 <|
          zz 55 (xdF hy1_11) <|
          ee) (by kernel_rfl)
  ·rw [if_neg hy1_2] at h
   obtain rfl := oI h
   exact runC2 hm ⟨[0, 1, 5], [], 0, 0, [], false, [], [], []⟩ (k0 <|
    zz 9 (xdF hy1_2) <|
    ee) (by kernel_rfl)
 ·rw [if_neg hy1_1] at h
  obtain rfl := oI h
  exact runC2 hm ⟨[0, 1, 5], [], 0, 0, [], false, [], [], []⟩ (zz 5 (xdF hy1_1) <|
   ee) (by kernel_rfl)
theorem qej_ (n : Nat) {rnd : Option Nat} (x1_0 : WL rw_iiiiiiLu) (x1_1 : Int) (st : Int × Int) (r : (Unit) ⊕ (Int)) (h : qch_ n x1_0 x1_1 st = some r) : CG P rnd (fnN P 30) 0 (codeOf P 30 [false, true, false, true, true]) (q3_ x1_0 x1_1 st) (qn_ x1_0 x1_1 r) :=
 CG.iter (b := codeOf P 30 [false, false, true, false, true, true]) (by kernel_rfl) (body := q4_ n x1_0 x1_1) (S := q3_ x1_0 x1_1) (X := qn_ x1_0 x1_1)
  (fun s s' h => qfh_ n x1_0 x1_1 s (.inl s') h)
  (fun s r h => qfh_ n x1_0 x1_1 s (.inr r) h)
  (fun r => by intro hx; rcases r with _ | _ <;> cases hx) h
def qbi_ (n : Nat) (a0 : WL rw_iiiiiiLu) (a1 : Int) : Option (Bool) :=
 match qch_ n a0 a1 (0, 0) with
 | none => none
 | some (.inl _) =>
  some false
 | some (.inr c1_) =>
  if (((a0).l.length : Nat) : Int) ≤ a1 then
   if c1_ ≤ (w64 ((2 : Int) * a1)) then
    some true
   else
    some false
  else
   some false
theorem qiz_ (n : Nat) (a0 : WL rw_iiiiiiLu) (a1 : Int) (r : Bool) (h : qbi_ n a0 a1 = some r) : Gv P (.func 30) (qgn_ a0 a1) (qgo_ a0 a1) (qd3_ a0 a1 r) (qd4_ a0 a1 r) := by
 unfold qbi_ at h
 rcases hc1 : qch_ n a0 a1 (0, 0) with _ | (⟨⟩ | c1_)
 ·rw [hc1] at h; cases h
 ·rw [hc1] at h
  dsimp only at h
  obtain rfl := oI h
  exact runF2 hm ⟨[4], [], 0, 0, [], false, [], [], []⟩ (ww (p := qfg_ none a0 a1 (0, 0) (.inl ())) (qej_ n a0 a1 (0, 0) (.inl ()) hc1) <|
   ll 8 ⟨⟨[0, 1, 5, 6], [], 0, 0, [], false, [], [], []⟩, (qn_ a0 a1 (.inl ())).1, (qn_ a0 a1 (.inl ())).2⟩ <|
   ee) (by kernel_rfl)
 ·rw [hc1] at h
  dsimp only at h
  have k0 := fun {A L l} (k : PL A L l) => ww (p := qfg_ none a0 a1 (0, 0) (.inr c1_)) (qej_ n a0 a1 (0, 0) (.inr c1_) hc1) <|
   ll 8 ⟨⟨[0, 1, 5, 6], [], 0, 0, [], false, [], [], []⟩, (qn_ a0 a1 (.inr c1_)).1, (qn_ a0 a1 (.inr c1_)).2⟩ <|
   k
  by_cases hc2 : (((a0).l.length : Nat) : Int) ≤ a1
  ·rw [if_pos hc2] at h
   have k2 := fun {A L l} (k : PL A L l) => zz 13 (xdT hc2) <|
    k
   by_cases hc3 : c1_ ≤ (w64 ((2 : Int) * a1))
   ·rw [if_pos hc3] at h
    obtain rfl := oI h
    exact runF2 hm ⟨[4], [], 0, 0, [], false, [], [], []⟩ (k0 <|
     k2 <|
     zz 18 (xdT hc3) <|
     ee) (by kernel_rfl)
   ·rw [if_neg hc3] at h
    obtain rfl := oI h
    exact runF2 hm ⟨[4], [], 0, 0, [], false, [], [], []⟩ (k0 <|
     k2 <|
     zz 18 (xdF hc3) <|
     ee) (by kernel_rfl)
  ·rw [if_neg hc2] at h
   obtain rfl := oI h
   exact runF2 hm ⟨[4], [], 0, 0, [], false, [], [], []⟩ (k0 <|
    zz 13 (xdF hc2) <|
    ee) (by kernel_rfl)

def qgp_ (a0 : Int) : List Value := [(Value.slice none 0 0), (i6 a0)]
def qgq_ (a0 : Int) : AH := ⟨sB [], 0, 0⟩
def qd5_ (a0 : Int) (r : Bool) : Value := match r with
 | o0 => (bO o0)
def qd6_ (a0 : Int) (r : Bool) : AH := match r with
 | o0 => ⟨sB [], 0, 0⟩
abbrev qon_ (a0 : Int) (r : Bool) : Prop := Gv P (.func 30) (qgp_ a0) (qgq_ a0) (qd5_ a0 r) (qd6_ a0 r)
abbrev qj2_ (a0 : Int) (r : Bool) (ins outs : BL) : CallA := ⟨0, ins, qd5_ a0 r, qd6_ a0 r, outs⟩
def q5_ (x1_0 : Int) (st : Unit) : XSt := match st with
 | _ => (sT 66 [(0, (Value.slice none 0 0)), (1, (i6 x1_0)), (5, (i6 (0 : Int))), (6, (i6 (0 : Int)))], [], ⟨sB [], 0, 0⟩)
def q6_ (x1_0 : Int) (r : Unit) : Ex × XSt := match r with
 | _ => (.exit 0, (sT 66 [(0, (Value.slice none 0 0)), (1, (i6 x1_0)), (5, (i6 (0 : Int)))], [], ⟨sB [], 0, 0⟩))
abbrev qof_ (rnd : Option Nat) (x1_0 : Int) (st : Unit) (c : Ex × XSt) : Prop := CG P rnd (fnN P 30) 0 (codeOf P 30 [false, false, true, false, true, true]) (q5_ x1_0 st) c
abbrev qjh_ (rd : Option Nat) (x1_0 : Int) (st : Unit) (r : Unit) : Prop := CG P rd (fnN P 30) 0 (codeOf P 30 [false, true, false, true, true]) (q5_ x1_0 st) (q6_ x1_0 r)
def qci_ (n : Nat) (x1_0 : Int) (st : Unit) : Option ((Unit) ⊕ (Unit)) := match st with
 | _ =>
  some (.inr ())
def qfi_ (n : Nat) (x1_0 : Int) (st : Unit) : Option (Unit) := iterM (qci_ n x1_0) n st
theorem qfj_ (n : Nat) {rnd : Option Nat} (x1_0 : Int) (st : Unit) (o : (Unit) ⊕ (Unit)) (h : qci_ n x1_0 st = some o) : CG P rnd (fnN P 30) 0 (codeOf P 30 [false, false, true, false, true, true]) (q5_ x1_0 st) (Sum.elim (fun s => (.normal, q5_ x1_0 s)) (fun r => q6_ x1_0 r) o) := by
 unfold qci_ at h
 dsimp only at h
 obtain rfl := oI h
 exact runC2 hm ⟨[0, 1, 5], [], 0, 0, [], false, [], [], []⟩ (ee) (by kernel_rfl)
theorem qic_ (n : Nat) {rnd : Option Nat} (x1_0 : Int) (st : Unit) (r : Unit) (h : qfi_ n x1_0 st = some r) : CG P rnd (fnN P 30) 0 (codeOf P 30 [false, true, false, true, true]) (q5_ x1_0 st) (q6_ x1_0 r) :=
 CG.iter (b := codeOf P 30 [false, false, true, false, true, true]) (by kernel_rfl) (body := qci_ n x1_0) (S := q5_ x1_0) (X := q6_ x1_0)
  (fun s s' h => qfj_ n x1_0 s (.inl s') h)
  (fun s r h => qfj_ n x1_0 s (.inr r) h)
  (fun r => by intro hx; cases hx) h
def qc2_ (n : Nat) (a0 : Int) : Option (Bool) :=
 (qfi_ n a0 ()).bind fun _ =>
 if (0 : Int) ≤ a0 then
  if (0 : Int) ≤ (w64 ((2 : Int) * a0)) then
   some true
  else
   some false
 else
  some false
theorem qi0_ (n : Nat) (a0 : Int) (r : Bool) (h : qc2_ n a0 = some r) : Gv P (.func 30) (qgp_ a0) (qgq_ a0) (qd5_ a0 r) (qd6_ a0 r) := by
 unfold qc2_ at h
 obtain ⟨_, hc1, h⟩ := oB h
 have k0 := fun {A L l} (k : PL A L l) => ww (p := qjh_ none a0 () ()) (qic_ n a0 () () hc1) <|
  ll 8 ⟨⟨[0, 1, 5, 6], [], 0, 0, [], false, [], [], []⟩, (q6_ a0 ()).1, (q6_ a0 ()).2⟩ <|
  k
 by_cases hc2 : (0 : Int) ≤ a0
 ·rw [if_pos hc2] at h
  have k2 := fun {A L l} (k : PL A L l) => zz 13 (xdT hc2) <|
   k
  by_cases hc3 : (0 : Int) ≤ (w64 ((2 : Int) * a0))
  ·rw [if_pos hc3] at h
   obtain rfl := oI h
   exact runF2 hm ⟨[4], [], 0, 0, [], false, [], [], []⟩ (k0 <|
    k2 <|
    zz 18 (xdT hc3) <|
    ee) (by kernel_rfl)
  ·rw [if_neg hc3] at h
   obtain rfl := oI h
   exact runF2 hm ⟨[4], [], 0, 0, [], false, [], [], []⟩ (k0 <|
    k2 <|
    zz 18 (xdF hc3) <|
    ee) (by kernel_rfl)
 ·rw [if_neg hc2] at h
  obtain rfl := oI h
  exact runF2 hm ⟨[4], [], 0, 0, [], false, [], [], []⟩ (k0 <|
   zz 13 (xdF hc2) <|
   ee) (by kernel_rfl)

def qh0_ (a0 : WL rw_iiiiiiLu) (a1 : WL rw_iiiii) : List Value := [(wlV a0), (Value.slice none 0 0), (wlV a1)]
def qh1_ (a0 : WL rw_iiiiiiLu) (a1 : WL rw_iiiii) : AH := ⟨sB [], 0, 0⟩
def qes_ (a0 : WL rw_iiiiiiLu) (a1 : WL rw_iiiii) (r : Bool) : Value := match r with
 | o0 => (bO o0)
def qet_ (a0 : WL rw_iiiiiiLu) (a1 : WL rw_iiiii) (r : Bool) : AH := match r with
 | o0 => ⟨sB [], 0, 0⟩
abbrev G_viewportlaw20lightq1 (a0 : WL rw_iiiiiiLu) (a1 : WL rw_iiiii) (r : Bool) : Prop := Gv P (.func 7) (qh0_ a0 a1) (qh1_ a0 a1) (qes_ a0 a1 r) (qet_ a0 a1 r)
abbrev qky_ (a0 : WL rw_iiiiiiLu) (a1 : WL rw_iiiii) (r : Bool) (ins outs : BL) : CallA := ⟨0, ins, qes_ a0 a1 r, qet_ a0 a1 r, outs⟩
def qc1_ (n : Nat) (a0 : WL rw_iiiiiiLu) (a1 : WL rw_iiiii) : Option (Bool) :=
 (qbi_ n a0 100).bind fun c1_ =>
 if c1_ = true then
  (qc2_ n 100).bind fun c3_ =>
  if c3_ = true then
   if (((a1).l.length : Nat) : Int) ≤ (40 : Int) then
    some true
   else
    some false
  else
   some false
 else
  some false
theorem qj3_ (n : Nat) (a0 : WL rw_iiiiiiLu) (a1 : WL rw_iiiii) (r : Bool) (h : qc1_ n a0 a1 = some r) : Gv P (.func 7) (qh0_ a0 a1) (qh1_ a0 a1) (qes_ a0 a1 r) (qet_ a0 a1 r) := by
 unfold qc1_ at h
 obtain ⟨c1_, hc1, h⟩ := oB h
 have k0 := fun {A L l} (k : PL A L l) => yy 4 (.call (qj1_ a0 100 c1_ [] [])) <|
  ww (qiz_ n a0 100 c1_ hc1) <|
  k
 by_cases hc2 : c1_ = true
 ·rw [if_pos hc2] at h
  obtain ⟨c3_, hc3, h⟩ := oB h
  have k2 := fun {A L l} (k : PL A L l) => zz 5 (xbT hc2) <|
   yy 7 (.call (qj2_ 100 c3_ [] [])) <|
   ww (qi0_ n 100 c3_ hc3) <|
   k
  by_cases hc4 : c3_ = true
  ·rw [if_pos hc4] at h
   have k5 := fun {A L l} (k : PL A L l) => zz 9 (xbT hc4) <|
    k
   by_cases hc5 : (((a1).l.length : Nat) : Int) ≤ (40 : Int)
   ·rw [if_pos hc5] at h
    obtain rfl := oI h
    exact runF2 hm ⟨[6], [], 0, 0, [], false, [], [], []⟩ (k0 <|
     k2 <|
     k5 <|
     zz 12 (xdT hc5) <|
     ee) (by kernel_rfl)
   ·rw [if_neg hc5] at h
    obtain rfl := oI h
    exact runF2 hm ⟨[6], [], 0, 0, [], false, [], [], []⟩ (k0 <|
     k2 <|
     k5 <|
     zz 12 (xdF hc5) <|
     ee) (by kernel_rfl)
  ·rw [if_neg hc4] at h
   obtain rfl := oI h
   exact runF2 hm ⟨[6], [], 0, 0, [], false, [], [], []⟩ (k0 <|
    k2 <|
    zz 9 (xbF hc4) <|
    ee) (by kernel_rfl)
 ·rw [if_neg hc2] at h
  obtain rfl := oI h
  exact runF2 hm ⟨[6], [], 0, 0, [], false, [], [], []⟩ (k0 <|
   zz 5 (xbF hc2) <|
   ee) (by kernel_rfl)

def qin_ (a0 : Int) : List Value := [(i6 a0)]
def qio_ (a0 : Int) : AH := ⟨sB [], 0, 0⟩
def qfv_ (a0 : Int) (r : Bool) : Value := match r with
 | o0 => (bO o0)
def qfw_ (a0 : Int) (r : Bool) : AH := match r with
 | o0 => ⟨sB [], 0, 0⟩
abbrev G_viewportref16leafq1 (a0 : Int) (r : Bool) : Prop := Gv P (.func 65) (qin_ a0) (qio_ a0) (qfv_ a0 r) (qfw_ a0 r)
abbrev qbd_ (a0 : Int) (r : Bool) (ins outs : BL) : CallA := ⟨0, ins, qfv_ a0 r, qfw_ a0 r, outs⟩
def qk_ (n : Nat) (a0 : Int) : Option (Bool) :=
 if a0 = (1 : Int) then
  some false
 else
  if a0 = (2 : Int) then
   some false
  else
   some true
theorem qu_ (n : Nat) (a0 : Int) (r : Bool) (h : qk_ n a0 = some r) : Gv P (.func 65) (qin_ a0) (qio_ a0) (qfv_ a0 r) (qfw_ a0 r) := by
 unfold qk_ at h
 by_cases hc1 : a0 = (1 : Int)
 ·rw [if_pos hc1] at h
  obtain rfl := oI h
  exact runF2 hm ⟨[2], [], 0, 0, [], false, [], [], []⟩ (zz 4 (xnF hc1) <|
   ee) (by kernel_rfl)
 ·rw [if_neg hc1] at h
  have k0 := fun {A L l} (k : PL A L l) => zz 4 (xnT hc1) <|
   k
  by_cases hc2 : a0 = (2 : Int)
  ·rw [if_pos hc2] at h
   obtain rfl := oI h
   exact runF2 hm ⟨[2], [], 0, 0, [], false, [], [], []⟩ (k0 <|
    zz 7 (xnF hc2) <|
    ee) (by kernel_rfl)
  ·rw [if_neg hc2] at h
   obtain rfl := oI h
   exact runF2 hm ⟨[2], [], 0, 0, [], false, [], [], []⟩ (k0 <|
    zz 7 (xnT hc2) <|
    ee) (by kernel_rfl)

def qip_ (a0 : Int) (a1 : Int) (a2 : Int) (a3 : Int) (a4 : Int) (a5 : Int) (a6 : NL) (a7 : Int) : List Value := [(Value.agg #[(i6 a0), (i6 a1), (i6 a2), (i6 a3), (i6 a4), (i6 a5), (nlV a6), (Value.int .u64 a7)])]
def qiq_ (a0 : Int) (a1 : Int) (a2 : Int) (a3 : Int) (a4 : Int) (a5 : Int) (a6 : NL) (a7 : Int) : AH := ⟨sB [], 0, 0⟩
def qfx_ (a0 : Int) (a1 : Int) (a2 : Int) (a3 : Int) (a4 : Int) (a5 : Int) (a6 : NL) (a7 : Int) (r : Bool) : Value := match r with
 | o0 => (bO o0)
def qfy_ (a0 : Int) (a1 : Int) (a2 : Int) (a3 : Int) (a4 : Int) (a5 : Int) (a6 : NL) (a7 : Int) (r : Bool) : AH := match r with
 | o0 => ⟨sB [], 0, 0⟩
abbrev G_viewportref16bareq1 (a0 : Int) (a1 : Int) (a2 : Int) (a3 : Int) (a4 : Int) (a5 : Int) (a6 : NL) (a7 : Int) (r : Bool) : Prop := Gv P (.func 47) (qip_ a0 a1 a2 a3 a4 a5 a6 a7) (qiq_ a0 a1 a2 a3 a4 a5 a6 a7) (qfx_ a0 a1 a2 a3 a4 a5 a6 a7 r) (qfy_ a0 a1 a2 a3 a4 a5 a6 a7 r)
abbrev qll_ (a0 : Int) (a1 : Int) (a2 : Int) (a3 : Int) (a4 : Int) (a5 : Int) (a6 : NL) (a7 : Int) (r : Bool) (ins outs : BL) : CallA := ⟨0, ins, qfx_ a0 a1 a2 a3 a4 a5 a6 a7 r, qfy_ a0 a1 a2 a3 a4 a5 a6 a7 r, outs⟩
def qs_ (n : Nat) (a0 : Int) (a1 : Int) (a2 : Int) (a3 : Int) (a4 : Int) (a5 : Int) (a6 : NL) (a7 : Int) : Option (Bool) :=
 if a1 < (1 : Int) then
  some false
 else
  if a1 > (6 : Int) then
   some false
  else
   if a2 < (0 : Int) then
    some false
   else
    if a2 > a4 then
     some false
    else
     if a5 ≤ a2 then
      some false
     else
      if a1 = (3 : Int) then
       if a3 < a2 then
        some false
       else
        if a3 > a4 then
         some false
        else
         if a1 = (4 : Int) then
          if a2 = a4 then
           (qk_ n a1).bind fun c11_ =>
           if c11_ = true then
            if (((a6).l.length : Nat) : Int) = (0 : Int) then
             some true
            else
             some false
           else
            some true
          else
           some false
         else
          (qk_ n a1).bind fun c10_ =>
          if c10_ = true then
           if (((a6).l.length : Nat) : Int) = (0 : Int) then
            some true
           else
            some false
          else
           some true
      else
       if a1 = (5 : Int) then
        if a3 < a2 then
         some false
        else
         if a3 > a4 then
          some false
         else
          if a1 = (4 : Int) then
           if a2 = a4 then
            (qk_ n a1).bind fun c12_ =>
            if c12_ = true then
             if (((a6).l.length : Nat) : Int) = (0 : Int) then
              some true
             else
              some false
            else
             some true
           else
            some false
          else
           (qk_ n a1).bind fun c11_ =>
           if c11_ = true then
            if (((a6).l.length : Nat) : Int) = (0 : Int) then
             some true
            else
             some false
           else
            some true
       else
        if a1 = (6 : Int) then
         if a3 < a2 then
          some false
         else
          if a3 > a4 then
           some false
          else
           if a1 = (4 : Int) then
            if a2 = a4 then
             (qk_ n a1).bind fun c13_ =>
             if c13_ = true then
              if (((a6).l.length : Nat) : Int) = (0 : Int) then
               some true
              else
               some false
             else
              some true
            else
             some false
           else
            (qk_ n a1).bind fun c12_ =>
            if c12_ = true then
             if (((a6).l.length : Nat) : Int) = (0 : Int) then
              some true
             else
              some false
            else
             some true
        else
         if a3 = a2 then
          if a1 = (4 : Int) then
           if a2 = a4 then
            (qk_ n a1).bind fun c12_ =>
            if c12_ = true then
             if (((a6).l.length : Nat) : Int) = (0 : Int) then
              some true
             else
              some false
            else
             some true
           else
            some false
          else
           (qk_ n a1).bind fun c11_ =>
           if c11_ = true then
            if (((a6).l.length : Nat) : Int) = (0 : Int) then
             some true
            else
             some false
           else
            some true
         else
          some false
theorem qj7_ (n : Nat) (a0 : Int) (a1 : Int) (a2 : Int) (a3 : Int) (a4 : Int) (a5 : Int) (a6 : NL) (a7 : Int) (r : Bool) (h : qs_ n a0 a1 a2 a3 a4 a5 a6 a7 = some r) : Gv P (.func 47) (qip_ a0 a1 a2 a3 a4 a5 a6 a7) (qiq_ a0 a1 a2 a3 a4 a5 a6 a7) (qfx_ a0 a1 a2 a3 a4 a5 a6 a7 r) (qfy_ a0 a1 a2 a3 a4 a5 a6 a7 r) := by
 unfold qs_ at h
 by_cases hc1 : a1 < (1 : Int)
 ·rw [if_pos hc1] at h
  obtain rfl := oI h
  exact runF2 hm ⟨[2], [], 0, 0, [], false, [], [], []⟩ (zz 7 (xdT hc1) <|
   ee) (by kernel_rfl)
 ·rw [if_neg hc1] at h
  have k0 := fun {A L l} (k : PL A L l) => zz 7 (xdF hc1) <|
   k
  by_cases hc2 : a1 > (6 : Int)
  ·rw [if_pos hc2] at h
   obtain rfl := oI h
   exact runF2 hm ⟨[2], [], 0, 0, [], false, [], [], []⟩ (k0 <|
    zz 11 (xdT hc2) <|
    ee) (by kernel_rfl)
  ·rw [if_neg hc2] at h
   have k1 := fun {A L l} (k : PL A L l) => zz 11 (xdF hc2) <|
    k
   by_cases hc3 : a2 < (0 : Int)
   ·rw [if_pos hc3] at h
    obtain rfl := oI h
    exact runF2 hm ⟨[2], [], 0, 0, [], false, [], [], []⟩ (k0 <|
     k1 <|
     zz 16 (xdT hc3) <|
     ee) (by kernel_rfl)
   ·rw [if_neg hc3] at h
    have k2 := fun {A L l} (k : PL A L l) => zz 16 (xdF hc3) <|
     k
    by_cases hc4 : a2 > a4
    ·rw [if_pos hc4] at h
     obtain rfl := oI h
     exact runF2 hm ⟨[2], [], 0, 0, [], false, [], [], []⟩ (k0 <|
      k1 <|
      k2 <|
      zz 23 (xdT hc4) <|
      ee) (by kernel_rfl)
    ·rw [if_neg hc4] at h
     have k3 := fun {A L l} (k : PL A L l) => zz 23 (xdF hc4) <|
      k
     by_cases hc5 : a5 ≤ a2
     ·rw [if_pos hc5] at h
      obtain rfl := oI h
      exact runF2 hm ⟨[2], [], 0, 0, [], false, [], [], []⟩ (k0 <|
       k1 <|
       k2 <|
       k3 <|
       zz 30 (xdT hc5) <|
       ee) (by kernel_rfl)
     ·rw [if_neg hc5] at h
      have k4 := fun {A L l} (k : PL A L l) => zz 30 (xdF hc5) <|
       k
      by_cases hc6 : a1 = (3 : Int)
      ·rw [if_pos hc6] at h
       have k5 := fun {A L l} (k : PL A L l) => zz 36 (xeT hc6) <|
        k
       by_cases hc7 : a3 < a2
       ·rw [if_pos hc7] at h
        obtain rfl := oI h
        exact runF2 hm ⟨[2], [], 0, 0, [], false, [], [], []⟩ (k0 <|
         k1 <|
         k2 <|
         k3 <|
         k4 <|
         k5 <|
         zz 56 (xdT hc7) <|
         ee) (by kernel_rfl)
       ·rw [if_neg hc7] at h
        have k6 := fun {A L l} (k : PL A L l) => zz 56 (xdF hc7) <|
         k
        by_cases hc8 : a3 > a4
        ·rw [if_pos hc8] at h
         obtain rfl := oI h
         exact runF2 hm ⟨[2], [], 0, 0, [], false, [], [], []⟩ (k0 <|
          k1 <|
          k2 <|
          k3 <|
          k4 <|
          k5 <|
          k6 <|
          zz 62 (xdT hc8) <|
          ee) (by kernel_rfl)
        ·rw [if_neg hc8] at h
         have k7 := fun {A L l} (k : PL A L l) => zz 62 (xdF hc8) <|
          k
         by_cases hc9 : a1 = (4 : Int)
         ·rw [if_pos hc9] at h
          have k8 := fun {A L l} (k : PL A L l) => zz 80 (xnF hc9) <|
           k
          by_cases hc10 : a2 = a4
          ·rw [if_pos hc10] at h
           obtain ⟨c11_, hc11, h⟩ := oB h
           have k9 := fun {A L l} (k : PL A L l) => zz 86 (xeT hc10) <|
            yy 91 (.call (qbd_ a1 c11_ [] [])) <|
            ww (qu_ n a1 c11_ hc11) <|
            k
           by_cases hc12 : c11_ = true
           ·rw [if_pos hc12] at h
            have k12 := fun {A L l} (k : PL A L l) => yy 92 (vf) <|
             ww (p := (Value.bool (!c11_)) = (Value.bool false)) (vBn hc12) <|
             k
            by_cases hc13 : (((a6).l.length : Nat) : Int) = (0 : Int)
            ·rw [if_pos hc13] at h
             obtain rfl := oI h
             exact runF2 hm ⟨[2], [], 0, 0, [], false, [], [], []⟩ (k0 <|
              k1 <|
              k2 <|
              k3 <|
              k4 <|
              k5 <|
              k6 <|
              k7 <|
              k8 <|
              k9 <|
              k12 <|
              zz 97 (xeT hc13) <|
              ee) (by kernel_rfl)
            ·rw [if_neg hc13] at h
             obtain rfl := oI h
             exact runF2 hm ⟨[2], [], 0, 0, [], false, [], [], []⟩ (k0 <|
              k1 <|
              k2 <|
              k3 <|
              k4 <|
              k5 <|
              k6 <|
              k7 <|
              k8 <|
              k9 <|
              k12 <|
              zz 97 (xeF hc13) <|
              ee) (by kernel_rfl)
           ·rw [if_neg hc12] at h
            obtain rfl := oI h
            exact runF2 hm ⟨[2], [], 0, 0, [], false, [], [], []⟩ (k0 <|
             k1 <|
             k2 <|
             k3 <|
             k4 <|
             k5 <|
             k6 <|
             k7 <|
             k8 <|
             k9 <|
             yy 92 (vt) <|
             ww (p := (Value.bool (!c11_)) = (Value.bool true)) (vBn (Bool.eq_false_iff.2 hc12)) <|
             ee) (by kernel_rfl)
          ·rw [if_neg hc10] at h
           obtain rfl := oI h
           exact runF2 hm ⟨[2], [], 0, 0, [], false, [], [], []⟩ (k0 <|
            k1 <|
            k2 <|
            k3 <|
            k4 <|
            k5 <|
            k6 <|
            k7 <|
            k8 <|
            zz 86 (xeF hc10) <|
            ee) (by kernel_rfl)
         ·rw [if_neg hc9] at h
          obtain ⟨c10_, hc10, h⟩ := oB h
          have k8 := fun {A L l} (k : PL A L l) => zz 80 (xnT hc9) <|
           yy 91 (.call (qbd_ a1 c10_ [] [])) <|
           ww (qu_ n a1 c10_ hc10) <|
           k
          by_cases hc11 : c10_ = true
          ·rw [if_pos hc11] at h
           have k11 := fun {A L l} (k : PL A L l) => yy 92 (vf) <|
            ww (p := (Value.bool (!c10_)) = (Value.bool false)) (vBn hc11) <|
            k
           by_cases hc12 : (((a6).l.length : Nat) : Int) = (0 : Int)
           ·rw [if_pos hc12] at h
            obtain rfl := oI h
            exact runF2 hm ⟨[2], [], 0, 0, [], false, [], [], []⟩ (k0 <|
             k1 <|
             k2 <|
             k3 <|
             k4 <|
             k5 <|
             k6 <|
             k7 <|
             k8 <|
             k11 <|
             zz 97 (xeT hc12) <|
             ee) (by kernel_rfl)
           ·rw [if_neg hc12] at h
            obtain rfl := oI h
            exact runF2 hm ⟨[2], [], 0, 0, [], false, [], [], []⟩ (k0 <|
             k1 <|
             k2 <|
             k3 <|
             k4 <|
             k5 <|
             k6 <|
             k7 <|
             k8 <|
             k11 <|
             zz 97 (xeF hc12) <|
             ee) (by kernel_rfl)
          ·rw [if_neg hc11] at h
           obtain rfl := oI h
           exact runF2 hm ⟨[2], [], 0, 0, [], false, [], [], []⟩ (k0 <|
            k1 <|
            k2 <|
            k3 <|
            k4 <|
            k5 <|
            k6 <|
            k7 <|
            k8 <|
            yy 92 (vt) <|
            ww (p := (Value.bool (!c10_)) = (Value.bool true)) (vBn (Bool.eq_false_iff.2 hc11)) <|
            ee) (by kernel_rfl)
      ·rw [if_neg hc6] at h
       have k5 := fun {A L l} (k : PL A L l) => zz 36 (xeF hc6) <|
        k
       by_cases hc7 : a1 = (5 : Int)
       ·rw [if_pos hc7] at h
        have k6 := fun {A L l} (k : PL A L l) => zz 40 (xeT hc7) <|
         k
        by_cases hc8 : a3 < a2
        ·rw [if_pos hc8] at h
         obtain rfl := oI h
         exact runF2 hm ⟨[2], [], 0, 0, [], false, [], [], []⟩ (k0 <|
          k1 <|
          k2 <|
          k3 <|
          k4 <|
          k5 <|
          k6 <|
          zz 56 (xdT hc8) <|
          ee) (by kernel_rfl)
        ·rw [if_neg hc8] at h
         have k7 := fun {A L l} (k : PL A L l) => zz 56 (xdF hc8) <|
          k
         by_cases hc9 : a3 > a4
         ·rw [if_pos hc9] at h
          obtain rfl := oI h
          exact runF2 hm ⟨[2], [], 0, 0, [], false, [], [], []⟩ (k0 <|
           k1 <|
           k2 <|
           k3 <|
           k4 <|
           k5 <|
           k6 <|
           k7 <|
           zz 62 (xdT hc9) <|
           ee) (by kernel_rfl)
         ·rw [if_neg hc9] at h
          have k8 := fun {A L l} (k : PL A L l) => zz 62 (xdF hc9) <|
           k
          by_cases hc10 : a1 = (4 : Int)
          ·rw [if_pos hc10] at h
           have k9 := fun {A L l} (k : PL A L l) => zz 80 (xnF hc10) <|
            k
           by_cases hc11 : a2 = a4
           ·rw [if_pos hc11] at h
            obtain ⟨c12_, hc12, h⟩ := oB h
            have k10 := fun {A L l} (k : PL A L l) => zz 86 (xeT hc11) <|
             yy 91 (.call (qbd_ a1 c12_ [] [])) <|
             ww (qu_ n a1 c12_ hc12) <|
             k
            by_cases hc13 : c12_ = true
            ·rw [if_pos hc13] at h
             have k13 := fun {A L l} (k : PL A L l) => yy 92 (vf) <|
              ww (p := (Value.bool (!c12_)) = (Value.bool false)) (vBn hc13) <|
              k
             by_cases hc14 : (((a6).l.length : Nat) : Int) = (0 : Int)
             ·rw [if_pos hc14] at h
              obtain rfl := oI h
              exact runF2 hm ⟨[2], [], 0, 0, [], false, [], [], []⟩ (k0 <|
               k1 <|
               k2 <|
               k3 <|
               k4 <|
               k5 <|
               k6 <|
               k7 <|
               k8 <|
               k9 <|
               k10 <|
               k13 <|
               zz 97 (xeT hc14) <|
               ee) (by kernel_rfl)
             ·rw [if_neg hc14] at h
              obtain rfl := oI h
              exact runF2 hm ⟨[2], [], 0, 0, [], false, [], [], []⟩ (k0 <|
               k1 <|
               k2 <|
               k3 <|
               k4 <|
               k5 <|
               k6 <|
               k7 <|
               k8 <|
               k9 <|
               k10 <|
               k13 <|
               zz 97 (xeF hc14) <|
               ee) (by kernel_rfl)
            ·rw [if_neg hc13] at h
             obtain rfl := oI h
             exact runF2 hm ⟨[2], [], 0, 0, [], false, [], [], []⟩ (k0 <|
              k1 <|
              k2 <|
              k3 <|
              k4 <|
              k5 <|
              k6 <|
              k7 <|
              k8 <|
              k9 <|
              k10 <|
              yy 92 (vt) <|
              ww (p := (Value.bool (!c12_)) = (Value.bool true)) (vBn (Bool.eq_false_iff.2 hc13)) <|
              ee) (by kernel_rfl)
           ·rw [if_neg hc11] at h
            obtain rfl := oI h
            exact runF2 hm ⟨[2], [], 0, 0, [], false, [], [], []⟩ (k0 <|
             k1 <|
             k2 <|
             k3 <|
             k4 <|
             k5 <|
             k6 <|
             k7 <|
             k8 <|
             k9 <|
             zz 86 (xeF hc11) <|
             ee) (by kernel_rfl)
          ·rw [if_neg hc10] at h
           obtain ⟨c11_, hc11, h⟩ := oB h
           have k9 := fun {A L l} (k : PL A L l) => zz 80 (xnT hc10) <|
            yy 91 (.call (qbd_ a1 c11_ [] [])) <|
            ww (qu_ n a1 c11_ hc11) <|
            k
           by_cases hc12 : c11_ = true
           ·rw [if_pos hc12] at h
            have k12 := fun {A L l} (k : PL A L l) => yy 92 (vf) <|
             ww (p := (Value.bool (!c11_)) = (Value.bool false)) (vBn hc12) <|
             k
            by_cases hc13 : (((a6).l.length : Nat) : Int) = (0 : Int)
            ·rw [if_pos hc13] at h
             obtain rfl := oI h
             exact runF2 hm ⟨[2], [], 0, 0, [], false, [], [], []⟩ (k0 <|
              k1 <|
              k2 <|
              k3 <|
              k4 <|
              k5 <|
              k6 <|
              k7 <|
              k8 <|
              k9 <|
              k12 <|
              zz 97 (xeT hc13) <|
              ee) (by kernel_rfl)
            ·rw [if_neg hc13] at h
             obtain rfl := oI h
             exact runF2 hm ⟨[2], [], 0, 0, [], false, [], [], []⟩ (k0 <|
              k1 <|
              k2 <|
              k3 <|
              k4 <|
              k5 <|
              k6 <|
              k7 <|
              k8 <|
              k9 <|
              k12 <|
              zz 97 (xeF hc13) <|
              ee) (by kernel_rfl)
           ·rw [if_neg hc12] at h
            obtain rfl := oI h
            exact runF2 hm ⟨[2], [], 0, 0, [], false, [], [], []⟩ (k0 <|
             k1 <|
             k2 <|
             k3 <|
             k4 <|
             k5 <|
             k6 <|
             k7 <|
             k8 <|
             k9 <|
             yy 92 (vt) <|
             ww (p := (Value.bool (!c11_)) = (Value.bool true)) (vBn (Bool.eq_false_iff.2 hc12)) <|
             ee) (by kernel_rfl)
       ·rw [if_neg hc7] at h
        have k6 := fun {A L l} (k : PL A L l) => zz 40 (xeF hc7) <|
         k
        by_cases hc8 : a1 = (6 : Int)
        ·rw [if_pos hc8] at h
         have k7 := fun {A L l} (k : PL A L l) => zz 45 (xeT hc8) <|
          k
         by_cases hc9 : a3 < a2
         ·rw [if_pos hc9] at h
          obtain rfl := oI h
          exact runF2 hm ⟨[2], [], 0, 0, [], false, [], [], []⟩ (k0 <|
           k1 <|
           k2 <|
           k3 <|
           k4 <|
           k5 <|
           k6 <|
           k7 <|
           zz 56 (xdT hc9) <|
           ee) (by kernel_rfl)
         ·rw [if_neg hc9] at h
          have k8 := fun {A L l} (k : PL A L l) => zz 56 (xdF hc9) <|
           k
          by_cases hc10 : a3 > a4
          ·rw [if_pos hc10] at h
           obtain rfl := oI h
           exact runF2 hm ⟨[2], [], 0, 0, [], false, [], [], []⟩ (k0 <|
            k1 <|
            k2 <|
            k3 <|
            k4 <|
            k5 <|
            k6 <|
            k7 <|
            k8 <|
            zz 62 (xdT hc10) <|
            ee) (by kernel_rfl)
          ·rw [if_neg hc10] at h
           have k9 := fun {A L l} (k : PL A L l) => zz 62 (xdF hc10) <|
            k
           by_cases hc11 : a1 = (4 : Int)
           ·rw [if_pos hc11] at h
            have k10 := fun {A L l} (k : PL A L l) => zz 80 (xnF hc11) <|
             k
            by_cases hc12 : a2 = a4
            ·rw [if_pos hc12] at h
             obtain ⟨c13_, hc13, h⟩ := oB h
             have k11 := fun {A L l} (k : PL A L l) => zz 86 (xeT hc12) <|
              yy 91 (.call (qbd_ a1 c13_ [] [])) <|
              ww (qu_ n a1 c13_ hc13) <|
              k
             by_cases hc14 : c13_ = true
             ·rw [if_pos hc14] at h
              have k14 := fun {A L l} (k : PL A L l) => yy 92 (vf) <|
               ww (p := (Value.bool (!c13_)) = (Value.bool false)) (vBn hc14) <|
               k
              by_cases hc15 : (((a6).l.length : Nat) : Int) = (0 : Int)
              ·rw [if_pos hc15] at h
               obtain rfl := oI h
               exact runF2 hm ⟨[2], [], 0, 0, [], false, [], [], []⟩ (k0 <|
                k1 <|
                k2 <|
                k3 <|
                k4 <|
                k5 <|
                k6 <|
                k7 <|
                k8 <|
                k9 <|
                k10 <|
                k11 <|
                k14 <|
                zz 97 (xeT hc15) <|
                ee) (by kernel_rfl)
              ·rw [if_neg hc15] at h
               obtain rfl := oI h
               exact runF2 hm ⟨[2], [], 0, 0, [], false, [], [], []⟩ (k0 <|
                k1 <|
                k2 <|
                k3 <|
                k4 <|
                k5 <|
                k6 <|
                k7 <|
                k8 <|
                k9 <|
                k10 <|
                k11 <|
                k14 <|
                zz 97 (xeF hc15) <|
                ee) (by kernel_rfl)
             ·rw [if_neg hc14] at h
              obtain rfl := oI h
              exact runF2 hm ⟨[2], [], 0, 0, [], false, [], [], []⟩ (k0 <|
               k1 <|
               k2 <|
               k3 <|
               k4 <|
               k5 <|
               k6 <|
               k7 <|
               k8 <|
               k9 <|
               k10 <|
               k11 <|
               yy 92 (vt) <|
               ww (p := (Value.bool (!c13_)) = (Value.bool true)) (vBn (Bool.eq_false_iff.2 hc14)) <|
               ee) (by kernel_rfl)
            ·rw [if_neg hc12] at h
             obtain rfl := oI h
             exact runF2 hm ⟨[2], [], 0, 0, [], false, [], [], []⟩ (k0 <|
              k1 <|
              k2 <|
              k3 <|
              k4 <|
              k5 <|
              k6 <|
              k7 <|
              k8 <|
              k9 <|
              k10 <|
              zz 86 (xeF hc12) <|
              ee) (by kernel_rfl)
           ·rw [if_neg hc11] at h
            obtain ⟨c12_, hc12, h⟩ := oB h
            have k10 := fun {A L l} (k : PL A L l) => zz 80 (xnT hc11) <|
             yy 91 (.call (qbd_ a1 c12_ [] [])) <|
             ww (qu_ n a1 c12_ hc12) <|
             k
            by_cases hc13 : c12_ = true
            ·rw [if_pos hc13] at h
             have k13 := fun {A L l} (k : PL A L l) => yy 92 (vf) <|
              ww (p := (Value.bool (!c12_)) = (Value.bool false)) (vBn hc13) <|
              k
             by_cases hc14 : (((a6).l.length : Nat) : Int) = (0 : Int)
             ·rw [if_pos hc14] at h
              obtain rfl := oI h
              exact runF2 hm ⟨[2], [], 0, 0, [], false, [], [], []⟩ (k0 <|
               k1 <|
               k2 <|
               k3 <|
               k4 <|
               k5 <|
               k6 <|
               k7 <|
               k8 <|
               k9 <|
               k10 <|
               k13 <|
               zz 97 (xeT hc14) <|
               ee) (by kernel_rfl)
             ·rw [if_neg hc14] at h
              obtain rfl := oI h
              exact runF2 hm ⟨[2], [], 0, 0, [], false, [], [], []⟩ (k0 <|
               k1 <|
               k2 <|
               k3 <|
               k4 <|
               k5 <|
               k6 <|
               k7 <|
               k8 <|
               k9 <|
               k10 <|
               k13 <|
               zz 97 (xeF hc14) <|
               ee) (by kernel_rfl)
            ·rw [if_neg hc13] at h
             obtain rfl := oI h
             exact runF2 hm ⟨[2], [], 0, 0, [], false, [], [], []⟩ (k0 <|
              k1 <|
              k2 <|
              k3 <|
              k4 <|
              k5 <|
              k6 <|
              k7 <|
              k8 <|
              k9 <|
              k10 <|
              yy 92 (vt) <|
              ww (p := (Value.bool (!c12_)) = (Value.bool true)) (vBn (Bool.eq_false_iff.2 hc13)) <|
              ee) (by kernel_rfl)
        ·rw [if_neg hc8] at h
         have k7 := fun {A L l} (k : PL A L l) => zz 45 (xeF hc8) <|
          k
         by_cases hc9 : a3 = a2
         ·rw [if_pos hc9] at h
          have k8 := fun {A L l} (k : PL A L l) => zz 73 (xnF hc9) <|
           k
          by_cases hc10 : a1 = (4 : Int)
          ·rw [if_pos hc10] at h
           have k9 := fun {A L l} (k : PL A L l) => zz 80 (xnF hc10) <|
            k
           by_cases hc11 : a2 = a4
           ·rw [if_pos hc11] at h
            obtain ⟨c12_, hc12, h⟩ := oB h
            have k10 := fun {A L l} (k : PL A L l) => zz 86 (xeT hc11) <|
             yy 91 (.call (qbd_ a1 c12_ [] [])) <|
             ww (qu_ n a1 c12_ hc12) <|
             k
            by_cases hc13 : c12_ = true
            ·rw [if_pos hc13] at h
             have k13 := fun {A L l} (k : PL A L l) => yy 92 (vf) <|
              ww (p := (Value.bool (!c12_)) = (Value.bool false)) (vBn hc13) <|
              k
             by_cases hc14 : (((a6).l.length : Nat) : Int) = (0 : Int)
             ·rw [if_pos hc14] at h
              obtain rfl := oI h
              exact runF2 hm ⟨[2], [], 0, 0, [], false, [], [], []⟩ (k0 <|
               k1 <|
               k2 <|
               k3 <|
               k4 <|
               k5 <|
               k6 <|
               k7 <|
               k8 <|
               k9 <|
               k10 <|
               k13 <|
               zz 97 (xeT hc14) <|
               ee) (by kernel_rfl)
             ·rw [if_neg hc14] at h
              obtain rfl := oI h
              exact runF2 hm ⟨[2], [], 0, 0, [], false, [], [], []⟩ (k0 <|
               k1 <|
               k2 <|
               k3 <|
               k4 <|
               k5 <|
               k6 <|
               k7 <|
               k8 <|
               k9 <|
               k10 <|
               k13 <|
               zz 97 (xeF hc14) <|
               ee) (by kernel_rfl)
            ·rw [if_neg hc13] at h
             obtain rfl := oI h
             exact runF2 hm ⟨[2], [], 0, 0, [], false, [], [], []⟩ (k0 <|
              k1 <|
              k2 <|
              k3 <|
              k4 <|
              k5 <|
              k6 <|
              k7 <|
              k8 <|
              k9 <|
              k10 <|
              yy 92 (vt) <|
              ww (p := (Value.bool (!c12_)) = (Value.bool true)) (vBn (Bool.eq_false_iff.2 hc13)) <|
              ee) (by kernel_rfl)
           ·rw [if_neg hc11] at h
            obtain rfl := oI h
            exact runF2 hm ⟨[2], [], 0, 0, [], false, [], [], []⟩ (k0 <|
             k1 <|
             k2 <|
             k3 <|
             k4 <|
             k5 <|
             k6 <|
             k7 <|
             k8 <|
             k9 <|
             zz 86 (xeF hc11) <|
             ee) (by kernel_rfl)
          ·rw [if_neg hc10] at h
           obtain ⟨c11_, hc11, h⟩ := oB h
           have k9 := fun {A L l} (k : PL A L l) => zz 80 (xnT hc10) <|
            yy 91 (.call (qbd_ a1 c11_ [] [])) <|
            ww (qu_ n a1 c11_ hc11) <|
            k
           by_cases hc12 : c11_ = true
           ·rw [if_pos hc12] at h
            have k12 := fun {A L l} (k : PL A L l) => yy 92 (vf) <|
             ww (p := (Value.bool (!c11_)) = (Value.bool false)) (vBn hc12) <|
             k
            by_cases hc13 : (((a6).l.length : Nat) : Int) = (0 : Int)
            ·rw [if_pos hc13] at h
             obtain rfl := oI h
             exact runF2 hm ⟨[2], [], 0, 0, [], false, [], [], []⟩ (k0 <|
              k1 <|
              k2 <|
              k3 <|
              k4 <|
              k5 <|
              k6 <|
              k7 <|
              k8 <|
              k9 <|
              k12 <|
              zz 97 (xeT hc13) <|
              ee) (by kernel_rfl)
            ·rw [if_neg hc13] at h
             obtain rfl := oI h
             exact runF2 hm ⟨[2], [], 0, 0, [], false, [], [], []⟩ (k0 <|
              k1 <|
              k2 <|
              k3 <|
              k4 <|
              k5 <|
              k6 <|
              k7 <|
              k8 <|
              k9 <|
              k12 <|
              zz 97 (xeF hc13) <|
              ee) (by kernel_rfl)
           ·rw [if_neg hc12] at h
            obtain rfl := oI h
            exact runF2 hm ⟨[2], [], 0, 0, [], false, [], [], []⟩ (k0 <|
             k1 <|
             k2 <|
             k3 <|
             k4 <|
             k5 <|
             k6 <|
             k7 <|
             k8 <|
             k9 <|
             yy 92 (vt) <|
             ww (p := (Value.bool (!c11_)) = (Value.bool true)) (vBn (Bool.eq_false_iff.2 hc12)) <|
             ee) (by kernel_rfl)
         ·rw [if_neg hc9] at h
          obtain rfl := oI h
          exact runF2 hm ⟨[2], [], 0, 0, [], false, [], [], []⟩ (k0 <|
           k1 <|
           k2 <|
           k3 <|
           k4 <|
           k5 <|
           k6 <|
           k7 <|
           zz 73 (xnT hc9) <|
           ee) (by kernel_rfl)

def qcs_ (a0 : WL rw_iiiiiiLu) (a1 : Int) : List Value := [(wlV a0), (i6 a1)]
def qct_ (a0 : WL rw_iiiiiiLu) (a1 : Int) : AH := ⟨sB [], 0, 0⟩
def qbz_ (a0 : WL rw_iiiiiiLu) (a1 : Int) (r : Int) : Value := match r with
 | o0 => (i6 o0)
def qb0_ (a0 : WL rw_iiiiiiLu) (a1 : Int) (r : Int) : AH := match r with
 | o0 => ⟨sB [], 0, 0⟩
abbrev G_viewportref16endq1 (a0 : WL rw_iiiiiiLu) (a1 : Int) (r : Int) : Prop := Gv P (.func 48) (qcs_ a0 a1) (qct_ a0 a1) (qbz_ a0 a1 r) (qb0_ a0 a1 r)
abbrev qgg_ (a0 : WL rw_iiiiiiLu) (a1 : Int) (r : Int) (ins outs : BL) : CallA := ⟨0, ins, qbz_ a0 a1 r, qb0_ a0 a1 r, outs⟩
def qb3_ (x1_0 : WL rw_iiiiiiLu) (x1_1 : Int) (st : Int × Int × Int) : XSt := match st with
 | (x1_2, x1_3, x1_4) => (sT 68 [(0, (wlV x1_0)), (1, (i6 x1_1)), (5, (i6 x1_2)), (6, (i6 x1_3)), (7, (i6 x1_4))], [], ⟨sB [], 0, 0⟩)
def q1_ (x1_0 : WL rw_iiiiiiLu) (x1_1 : Int) (r : (Unit) ⊕ (Int × Int)) : Ex × XSt := match r with
 | .inl _ => (.ret, (sT 68 [(4, (i6 (-1 : Int)))], [], ⟨sB [], 0, 0⟩))
 | .inr (z1_0, z1_1) => (.exit 0, (sT 68 [(0, (wlV x1_0)), (1, (i6 x1_1)), (5, (i6 z1_0)), (6, (i6 z1_1))], [], ⟨sB [], 0, 0⟩))
abbrev Q_viewportref16endq1_1 (rnd : Option Nat) (x1_0 : WL rw_iiiiiiLu) (x1_1 : Int) (st : Int × Int × Int) (c : Ex × XSt) : Prop := CG P rnd (fnN P 48) 0 (codeOf P 48 [false, false, true, false, true, true]) (qb3_ x1_0 x1_1 st) c
abbrev qh2_ (rd : Option Nat) (x1_0 : WL rw_iiiiiiLu) (x1_1 : Int) (st : Int × Int × Int) (r : (Unit) ⊕ (Int × Int)) : Prop := CG P rd (fnN P 48) 0 (codeOf P 48 [false, true, false, true, true]) (qb3_ x1_0 x1_1 st) (q1_ x1_0 x1_1 r)
def qg_ (rec_viewportref16endq1 : (WL rw_iiiiiiLu) → (Int) → Option (Int)) (n : Nat) (x1_0 : WL rw_iiiiiiLu) (x1_1 : Int) (st : Int × Int × Int) : Option ((Int × Int × Int) ⊕ ((Unit) ⊕ (Int × Int))) := match st with
 | (x1_2, x1_3, x1_4) =>
  if 0 ≤ x1_1 ∧ x1_1 < (((x1_0).l.length : Nat) : Int) then
   ((some (((x1_0).l).getD (x1_1).toNat (0, 0, 0, 0, 0, 0, nl0, 0)))).bind fun y1_2_ =>
   if x1_4 < ((((y1_2_.2.2.2.2.2.2.1)).l.length : Nat) : Int) then
    if 0 ≤ x1_4 ∧ x1_4 < ((((y1_2_.2.2.2.2.2.2.1)).l.length : Nat) : Int) then
     if (x1_4).toNat < (((y1_2_.2.2.2.2.2.2.1)).l).length then
      ((some ((((y1_2_.2.2.2.2.2.2.1)).l).getD (x1_4).toNat 0))).bind fun y1_6_ =>
      if y1_6_ = x1_2 then
       if x1_2 ≥ (((x1_0).l.length : Nat) : Int) then
        some (.inr (.inl ()))
       else
        if 0 ≤ x1_2 ∧ x1_2 < (((x1_0).l.length : Nat) : Int) then
         ((some (((x1_0).l).getD (x1_2).toNat (0, 0, 0, 0, 0, 0, nl0, 0)))).bind fun y1_10_ =>
         if (y1_10_.2.2.1) < x1_3 then
          some (.inr (.inl ()))
         else
          (rec_viewportref16endq1 x1_0 x1_2).bind fun y1_12_ =>
          if y1_12_ < (0 : Int) then
           some (.inr (.inl ()))
          else
           some (.inl (y1_12_, (y1_10_.2.2.2.2.1), (w64 (x1_4 + (1 : Int)))))
        else none
      else
       some (.inr (.inl ()))
     else none
    else none
   else
    some (.inr (.inr (x1_2, x1_3)))
  else none
def qb4_ (rec_viewportref16endq1 : (WL rw_iiiiiiLu) → (Int) → Option (Int)) (n : Nat) (x1_0 : WL rw_iiiiiiLu) (x1_1 : Int) (st : Int × Int × Int) : Option ((Unit) ⊕ (Int × Int)) := iterM (qg_ rec_viewportref16endq1 n x1_0 x1_1) n st
theorem qh3_ (rec_viewportref16endq1 : (WL rw_iiiiiiLu) → (Int) → Option (Int)) (hrec_viewportref16endq1 : ∀ (a0 : WL rw_iiiiiiLu) (a1 : Int) (r : Int), rec_viewportref16endq1 a0 a1 = some r → Gv P (.func 48) (qcs_ a0 a1) (qct_ a0 a1) (qbz_ a0 a1 r) (qb0_ a0 a1 r)) (n : Nat) {rnd : Option Nat} (x1_0 : WL rw_iiiiiiLu) (x1_1 : Int) (st : Int × Int × Int) (o : (Int × Int × Int) ⊕ ((Unit) ⊕ (Int × Int))) (h : qg_ rec_viewportref16endq1 n x1_0 x1_1 st = some o) : CG P rnd (fnN P 48) 0 (codeOf P 48 [false, false, true, false, true, true]) (qb3_ x1_0 x1_1 st) (Sum.elim (fun s => (.normal, qb3_ x1_0 x1_1 s)) (fun r => q1_ x1_0 x1_1 r) o) := by
 obtain ⟨x1_2, x1_3, x1_4⟩ := st
 unfold qg_ at h
 dsimp only at h
 obtain ⟨hy1_1, h⟩ := gd h
 obtain ⟨y1_2_, hy1_2, h⟩ := oB h
 have k0 := fun {A L l} (k : PL A L l) => zz 5 (xk1 (x1_0).num (x1_0).off (x1_0).cap hy1_1) <|
  zz 6 (fk7 (x1_0).num (Nat.add (x1_0).off ((x1_1).toNat * 8))) <|
  zz 7 (lk8 hy1_2 (toNatLt hy1_1)) <|
  k
 by_cases hy1_3 : x1_4 < ((((y1_2_.2.2.2.2.2.2.1)).l.length : Nat) : Int)
 ·rw [if_pos hy1_3] at h
  obtain ⟨hy1_4, h⟩ := gd h
  obtain ⟨hy1_5, h⟩ := gd h
  obtain ⟨y1_6_, hy1_6, h⟩ := oB h
  have k3 := fun {A L l} (k : PL A L l) => zz 9 (xdT hy1_3) <|
   zz 17 (xk1 (x1_0).num (x1_0).off (x1_0).cap hy1_1) <|
   zz 18 (fk7 (x1_0).num (Nat.add (x1_0).off ((x1_1).toNat * 8))) <|
   zz 19 (lk8 hy1_2 (toNatLt hy1_1)) <|
   zz 21 (xk9 (Nat.add ((y1_2_.2.2.2.2.2.2.1)).num 64) ((y1_2_.2.2.2.2.2.2.1)).off ((y1_2_.2.2.2.2.2.2.1)).cap hy1_4) <|
   zz 22 (nk10 hy1_6 hy1_5) <|
   k
  by_cases hy1_7 : y1_6_ = x1_2
  ·rw [if_pos hy1_7] at h
   have k9 := fun {A L l} (k : PL A L l) => zz 24 (xnF hy1_7) <|
    k
   by_cases hy1_8 : x1_2 ≥ (((x1_0).l.length : Nat) : Int)
   ·rw [if_pos hy1_8] at h
    obtain rfl := oI h
    exact runC2 hm ⟨[4], [], 0, 0, [], false, [], [], []⟩ (k0 <|
     k3 <|
     k9 <|
     zz 29 (xdT hy1_8) <|
     ee) (by kernel_rfl)
   ·rw [if_neg hy1_8] at h
    obtain ⟨hy1_9, h⟩ := gd h
    obtain ⟨y1_10_, hy1_10, h⟩ := oB h
    have k10 := fun {A L l} (k : PL A L l) => zz 29 (xdF hy1_8) <|
     zz 34 (xk1 (x1_0).num (x1_0).off (x1_0).cap hy1_9) <|
     zz 35 (fk5 (x1_0).num (Nat.add (x1_0).off ((x1_2).toNat * 8))) <|
     zz 36 (lk6 hy1_10 (toNatLt hy1_9)) <|
     k
    by_cases hy1_11 : (y1_10_.2.2.1) < x1_3
    ·rw [if_pos hy1_11] at h
     obtain rfl := oI h
     exact runC2 hm ⟨[4], [], 0, 0, [], false, [], [], []⟩ (k0 <|
      k3 <|
      k9 <|
      k10 <|
      zz 38 (xdT hy1_11) <|
      ee) (by kernel_rfl)
    ·rw [if_neg hy1_11] at h
     obtain ⟨y1_12_, hy1_12, h⟩ := oB h
     have k14 := fun {A L l} (k : PL A L l) => zz 38 (xdF hy1_11) <|
      zz 44 (xk1 (x1_0).num (x1_0).off (x1_0).cap hy1_9) <|
      zz 45 (fk11 (x1_0).num (Nat.add (x1_0).off ((x1_2).toNat * 8))) <|
      zz 46 (lk12 hy1_10 (toNatLt hy1_9)) <|
      yy 51 (.call (qgg_ x1_0 x1_2 y1_12_ [] [])) <|
      ww (hrec_viewportref16endq1 x1_0 x1_2 y1_12_ hy1_12) <|
      k
     by_cases hy1_13 : y1_12_ < (0 : Int)
     ·rw [if_pos hy1_13] at h
      obtain rfl := oI h
      exact runC2 hm ⟨[4], [], 0, 0, [], false, [], [], []⟩ (k0 <|
       k3 <|
       k9 <|
       k10 <|
       k14 <|
       zz 55 (xdT hy1_13) <|
       ee) (by kernel_rfl)
     ·rw [if_neg hy1_13] at h
      obtain rfl := oI h
      exact runC2 hm ⟨[0, 1, 5, 6, 7], [], 0, 0, [], false, [], [], []⟩ (k0 <|
       k3 <|
       k9 <|
       k10 <|
       k14 <|
       zz 55 (xdF hy1_13) <|
       ee) (by kernel_rfl)
  ·rw [if_neg hy1_7] at h
   obtain rfl := oI h
   exact runC2 hm ⟨[4], [], 0, 0, [], false, [], [], []⟩ (k0 <|
    k3 <|
    zz 24 (xnT hy1_7) <|
    ee) (by kernel_rfl)
 ·rw [if_neg hy1_3] at h
  obtain rfl := oI h
  exact runC2 hm ⟨[0, 1, 5, 6], [], 0, 0, [], false, [], [], []⟩ (k0 <|
   zz 9 (xdF hy1_3) <|
   ee) (by kernel_rfl)
theorem qgr_ (rec_viewportref16endq1 : (WL rw_iiiiiiLu) → (Int) → Option (Int)) (hrec_viewportref16endq1 : ∀ (a0 : WL rw_iiiiiiLu) (a1 : Int) (r : Int), rec_viewportref16endq1 a0 a1 = some r → Gv P (.func 48) (qcs_ a0 a1) (qct_ a0 a1) (qbz_ a0 a1 r) (qb0_ a0 a1 r)) (n : Nat) {rnd : Option Nat} (x1_0 : WL rw_iiiiiiLu) (x1_1 : Int) (st : Int × Int × Int) (r : (Unit) ⊕ (Int × Int)) (h : qb4_ rec_viewportref16endq1 n x1_0 x1_1 st = some r) : CG P rnd (fnN P 48) 0 (codeOf P 48 [false, true, false, true, true]) (qb3_ x1_0 x1_1 st) (q1_ x1_0 x1_1 r) :=
 CG.iter (b := codeOf P 48 [false, false, true, false, true, true]) (by kernel_rfl) (body := qg_ rec_viewportref16endq1 n x1_0 x1_1) (S := qb3_ x1_0 x1_1) (X := q1_ x1_0 x1_1)
  (fun s s' h => qh3_ rec_viewportref16endq1 hrec_viewportref16endq1 n x1_0 x1_1 s (.inl s') h)
  (fun s r h => qh3_ rec_viewportref16endq1 hrec_viewportref16endq1 n x1_0 x1_1 s (.inr r) h)
  (fun r => by intro hx; rcases r with _ | _ <;> cases hx) h
def qba_ (rec_viewportref16endq1 : (WL rw_iiiiiiLu) → (Int) → Option (Int)) (n : Nat) (a0 : WL rw_iiiiiiLu) (a1 : Int) : Option (Int) :=
 if 0 ≤ a1 ∧ a1 < (((a0).l.length : Nat) : Int) then
  ((some (((a0).l).getD (a1).toNat (0, 0, 0, 0, 0, 0, nl0, 0)))).bind fun c2_ =>
  match qb4_ rec_viewportref16endq1 n a0 a1 ((w64 (a1 + (1 : Int))), (c2_.2.2.1), 0) with
  | none => none
  | some (.inl _) =>
   some (-1)
  | some (.inr (c3_0, c3_1)) =>
   if c3_1 > (c2_.2.2.2.2.1) then
    some (-1)
   else
    some c3_0
 else none
theorem qkt_ (rec_viewportref16endq1 : (WL rw_iiiiiiLu) → (Int) → Option (Int)) (hrec_viewportref16endq1 : ∀ (a0 : WL rw_iiiiiiLu) (a1 : Int) (r : Int), rec_viewportref16endq1 a0 a1 = some r → Gv P (.func 48) (qcs_ a0 a1) (qct_ a0 a1) (qbz_ a0 a1 r) (qb0_ a0 a1 r)) (n : Nat) (a0 : WL rw_iiiiiiLu) (a1 : Int) (r : Int) (h : qba_ rec_viewportref16endq1 n a0 a1 = some r) : Gv P (.func 48) (qcs_ a0 a1) (qct_ a0 a1) (qbz_ a0 a1 r) (qb0_ a0 a1 r) := by
 unfold qba_ at h
 obtain ⟨hc1, h⟩ := gd h
 obtain ⟨c2_, hc2, h⟩ := oB h
 have k0 := fun {A L l} (k : PL A L l) => zz 7 (xk1 (a0).num (a0).off (a0).cap hc1) <|
  zz 8 (fk5 (a0).num (Nat.add (a0).off ((a1).toNat * 8))) <|
  zz 9 (lk6 hc2 (toNatLt hc1)) <|
  k
 rcases hc3 : qb4_ rec_viewportref16endq1 n a0 a1 ((w64 (a1 + (1 : Int))), (c2_.2.2.1), 0) with _ | (⟨⟩ | ⟨c3_0, c3_1⟩)
 ·rw [hc3] at h; cases h
 ·rw [hc3] at h
  dsimp only at h
  obtain rfl := oI h
  exact runF2 hm ⟨[4], [], 0, 0, [], false, [], [], []⟩ (k0 <|
   ww (p := qh2_ none a0 a1 ((w64 (a1 + (1 : Int))), (c2_.2.2.1), 0) (.inl ())) (qgr_ rec_viewportref16endq1 hrec_viewportref16endq1 n a0 a1 ((w64 (a1 + (1 : Int))), (c2_.2.2.1), 0) (.inl ()) hc3) <|
   ll 16 ⟨⟨[0, 1, 5, 6, 7], [], 0, 0, [], false, [], [], []⟩, (q1_ a0 a1 (.inl ())).1, (q1_ a0 a1 (.inl ())).2⟩ <|
   ee) (by kernel_rfl)
 ·rw [hc3] at h
  dsimp only at h
  have k3 := fun {A L l} (k : PL A L l) => ww (p := qh2_ none a0 a1 ((w64 (a1 + (1 : Int))), (c2_.2.2.1), 0) (.inr (c3_0, c3_1))) (qgr_ rec_viewportref16endq1 hrec_viewportref16endq1 n a0 a1 ((w64 (a1 + (1 : Int))), (c2_.2.2.1), 0) (.inr (c3_0, c3_1)) hc3) <|
   ll 16 ⟨⟨[0, 1, 5, 6, 7], [], 0, 0, [], false, [], [], []⟩, (q1_ a0 a1 (.inr (c3_0, c3_1))).1, (q1_ a0 a1 (.inr (c3_0, c3_1))).2⟩ <|
   zz 22 (xk1 (a0).num (a0).off (a0).cap hc1) <|
   zz 23 (fk11 (a0).num (Nat.add (a0).off ((a1).toNat * 8))) <|
   zz 24 (lk12 hc2 (toNatLt hc1)) <|
   k
  by_cases hc4 : c3_1 > (c2_.2.2.2.2.1)
  ·rw [if_pos hc4] at h
   obtain rfl := oI h
   exact runF2 hm ⟨[4], [], 0, 0, [], false, [], [], []⟩ (k0 <|
    k3 <|
    zz 25 (xdT hc4) <|
    ee) (by kernel_rfl)
  ·rw [if_neg hc4] at h
   obtain rfl := oI h
   exact runF2 hm ⟨[4], [], 0, 0, [], false, [], [], []⟩ (k0 <|
    k3 <|
    zz 25 (xdF hc4) <|
    ee) (by kernel_rfl)
def qa_ : Nat → (WL rw_iiiiiiLu) → (Int) → Option (Int)
 | 0 => fun _ _ => none
 | n + 1 => fun a0 a1 => qba_ (qa_ n) n a0 a1
theorem qen_ : ∀ (n : Nat) (a0 : WL rw_iiiiiiLu) (a1 : Int) (r : Int) (h : qa_ n a0 a1 = some r), Gv P (.func 48) (qcs_ a0 a1) (qct_ a0 a1) (qbz_ a0 a1 r) (qb0_ a0 a1 r)
 | 0, _, _, _, h => nomatch h
 | n + 1, a0, a1, r, h => qkt_ (qa_ n) (qen_ n) n a0 a1 r h

def qh4_ (a0 : WL rw_iiiiiiLu) : List Value := [(wlV a0)]
def qh5_ (a0 : WL rw_iiiiiiLu) : AH := ⟨sB [], 0, 0⟩
def qeu_ (a0 : WL rw_iiiiiiLu) (r : Int) : Value := match r with
 | o0 => (i6 o0)
def qev_ (a0 : WL rw_iiiiiiLu) (r : Int) : AH := match r with
 | o0 => ⟨sB [], 0, 0⟩
abbrev G_viewportref16Checkq1 (a0 : WL rw_iiiiiiLu) (r : Int) : Prop := Gv P (.func 23) (qh4_ a0) (qh5_ a0) (qeu_ a0 r) (qev_ a0 r)
abbrev qdx_ (a0 : WL rw_iiiiiiLu) (r : Int) (ins outs : BL) : CallA := ⟨0, ins, qeu_ a0 r, qev_ a0 r, outs⟩
def qbm_ (x1_0 : WL rw_iiiiiiLu) (st : Int) : XSt := match st with
 | x1_1 => (sT 41 [(0, (wlV x1_0)), (3, (i6 x1_1))], [], ⟨sB [], 0, 0⟩)
def qv_ (x1_0 : WL rw_iiiiiiLu) (r : (Unit) ⊕ (Unit)) : Ex × XSt := match r with
 | .inl _ => (.ret, (sT 41 [(2, (i6 (2 : Int)))], [], ⟨sB [], 0, 0⟩))
 | .inr _ => (.exit 0, (sT 41 [(0, (wlV x1_0))], [], ⟨sB [], 0, 0⟩))
abbrev qoy_ (rnd : Option Nat) (x1_0 : WL rw_iiiiiiLu) (st : Int) (c : Ex × XSt) : Prop := CG P rnd (fnN P 23) 0 (codeOf P 23 [false, false, true, false, true, true]) (qbm_ x1_0 st) c
abbrev qg2_ (rd : Option Nat) (x1_0 : WL rw_iiiiiiLu) (st : Int) (r : (Unit) ⊕ (Unit)) : Prop := CG P rd (fnN P 23) 0 (codeOf P 23 [false, true, false, true, true]) (qbm_ x1_0 st) (qv_ x1_0 r)
def qh_ (n : Nat) (x1_0 : WL rw_iiiiiiLu) (st : Int) : Option ((Int) ⊕ ((Unit) ⊕ (Unit))) := match st with
 | x1_1 =>
  if x1_1 < (((x1_0).l.length : Nat) : Int) then
   if 0 ≤ x1_1 ∧ x1_1 < (((x1_0).l.length : Nat) : Int) then
    ((some (((x1_0).l).getD (x1_1).toNat (0, 0, 0, 0, 0, 0, nl0, 0)))).bind fun y1_3_ =>
    (qs_ n (y1_3_.1) (y1_3_.2.1) (y1_3_.2.2.1) (y1_3_.2.2.2.1) (y1_3_.2.2.2.2.1) (y1_3_.2.2.2.2.2.1) (y1_3_.2.2.2.2.2.2.1) (y1_3_.2.2.2.2.2.2.2)).bind fun y1_4_ =>
    if y1_4_ = true then
     if x1_1 > (0 : Int) then
      if (y1_3_.2.1) = (1 : Int) then
       some (.inr (.inl ()))
      else
       some (.inl (w64 (x1_1 + (1 : Int))))
     else
      some (.inl (w64 (x1_1 + (1 : Int))))
    else
     some (.inr (.inl ()))
   else none
  else
   some (.inr (.inr ()))
def qb8_ (n : Nat) (x1_0 : WL rw_iiiiiiLu) (st : Int) : Option ((Unit) ⊕ (Unit)) := iterM (qh_ n x1_0) n st
theorem qg3_ (n : Nat) {rnd : Option Nat} (x1_0 : WL rw_iiiiiiLu) (x1_1 : Int) (o : (Int) ⊕ ((Unit) ⊕ (Unit))) (h : qh_ n x1_0 x1_1 = some o) : CG P rnd (fnN P 23) 0 (codeOf P 23 [false, false, true, false, true, true]) (qbm_ x1_0 x1_1) (Sum.elim (fun s => (.normal, qbm_ x1_0 s)) (fun r => qv_ x1_0 r) o) := by
 unfold qh_ at h
 dsimp only at h
 by_cases hy1_1 : x1_1 < (((x1_0).l.length : Nat) : Int)
 ·rw [if_pos hy1_1] at h
  obtain ⟨hy1_2, h⟩ := gd h
  obtain ⟨y1_3_, hy1_3, h⟩ := oB h
  obtain ⟨y1_4_, hy1_4, h⟩ := oB h
  have k0 := fun {A L l} (k : PL A L l) => zz 5 (xdT hy1_1) <|
   zz 12 (xk1 (x1_0).num (x1_0).off (x1_0).cap hy1_2) <|
   zz 13 (lk2 hy1_3 (toNatLt hy1_2)) <|
   yy 14 (.call (qll_ (y1_3_.1) (y1_3_.2.1) (y1_3_.2.2.1) (y1_3_.2.2.2.1) (y1_3_.2.2.2.2.1) (y1_3_.2.2.2.2.2.1) (y1_3_.2.2.2.2.2.2.1) (y1_3_.2.2.2.2.2.2.2) y1_4_ [] [])) <|
   ww (qj7_ n (y1_3_.1) (y1_3_.2.1) (y1_3_.2.2.1) (y1_3_.2.2.2.1) (y1_3_.2.2.2.2.1) (y1_3_.2.2.2.2.2.1) (y1_3_.2.2.2.2.2.2.1) (y1_3_.2.2.2.2.2.2.2) y1_4_ hy1_4) <|
   k
  by_cases hy1_5 : y1_4_ = true
  ·rw [if_pos hy1_5] at h
   have k5 := fun {A L l} (k : PL A L l) => yy 15 (vf) <|
    ww (p := (Value.bool (!y1_4_)) = (Value.bool false)) (vBn hy1_5) <|
    k
   by_cases hy1_6 : x1_1 > (0 : Int)
   ·rw [if_pos hy1_6] at h
    have k7 := fun {A L l} (k : PL A L l) => zz 18 (xdT hy1_6) <|
     zz 22 (xk1 (x1_0).num (x1_0).off (x1_0).cap hy1_2) <|
     zz 23 (fk3 (x1_0).num (Nat.add (x1_0).off ((x1_1).toNat * 8))) <|
     zz 24 (lk4 hy1_3 (toNatLt hy1_2)) <|
     k
    by_cases hy1_7 : (y1_3_.2.1) = (1 : Int)
    ·rw [if_pos hy1_7] at h
     obtain rfl := oI h
     exact runC2 hm ⟨[2], [], 0, 0, [], false, [], [], []⟩ (k0 <|
      k5 <|
      k7 <|
      zz 25 (xeT hy1_7) <|
      ee) (by kernel_rfl)
    ·rw [if_neg hy1_7] at h
     obtain rfl := oI h
     exact runC2 hm ⟨[0, 3], [], 0, 0, [], false, [], [], []⟩ (k0 <|
      k5 <|
      k7 <|
      zz 25 (xeF hy1_7) <|
      ee) (by kernel_rfl)
   ·rw [if_neg hy1_6] at h
    obtain rfl := oI h
    exact runC2 hm ⟨[0, 3], [], 0, 0, [], false, [], [], []⟩ (k0 <|
     k5 <|
     zz 18 (xdF hy1_6) <|
     ee) (by kernel_rfl)
  ·rw [if_neg hy1_5] at h
   obtain rfl := oI h
   exact runC2 hm ⟨[2], [], 0, 0, [], false, [], [], []⟩ (k0 <|
    yy 15 (vt) <|
    ww (p := (Value.bool (!y1_4_)) = (Value.bool true)) (vBn (Bool.eq_false_iff.2 hy1_5)) <|
    ee) (by kernel_rfl)
 ·rw [if_neg hy1_1] at h
  obtain rfl := oI h
  exact runC2 hm ⟨[0], [], 0, 0, [], false, [], [], []⟩ (zz 5 (xdF hy1_1) <|
   ee) (by kernel_rfl)
theorem qfk_ (n : Nat) {rnd : Option Nat} (x1_0 : WL rw_iiiiiiLu) (st : Int) (r : (Unit) ⊕ (Unit)) (h : qb8_ n x1_0 st = some r) : CG P rnd (fnN P 23) 0 (codeOf P 23 [false, true, false, true, true]) (qbm_ x1_0 st) (qv_ x1_0 r) :=
 CG.iter (b := codeOf P 23 [false, false, true, false, true, true]) (by kernel_rfl) (body := qh_ n x1_0) (S := qbm_ x1_0) (X := qv_ x1_0)
  (fun s s' h => qg3_ n x1_0 s (.inl s') h)
  (fun s r h => qg3_ n x1_0 s (.inr r) h)
  (fun r => by intro hx; rcases r with _ | _ <;> cases hx) h
def ql_ (n : Nat) (a0 : WL rw_iiiiiiLu) : Option (Int) :=
 if (((a0).l.length : Nat) : Int) > (524288 : Int) then
  some 3
 else
  match qb8_ n a0 0 with
  | none => none
  | some (.inl _) =>
   some 2
  | some (.inr _) =>
   if (((a0).l.length : Nat) : Int) = (0 : Int) then
    some 2
   else
    (qa_ n a0 0).bind fun c4_ =>
    if c4_ = (((a0).l.length : Nat) : Int) then
     some 0
    else
     some 2
theorem qc3_ (n : Nat) (a0 : WL rw_iiiiiiLu) (r : Int) (h : ql_ n a0 = some r) : Gv P (.func 23) (qh4_ a0) (qh5_ a0) (qeu_ a0 r) (qev_ a0 r) := by
 unfold ql_ at h
 by_cases hc1 : (((a0).l.length : Nat) : Int) > (524288 : Int)
 ·rw [if_pos hc1] at h
  obtain rfl := oI h
  exact runF2 hm ⟨[2], [], 0, 0, [], false, [], [], []⟩ (zz 6 (xdT hc1) <|
   ee) (by kernel_rfl)
 ·rw [if_neg hc1] at h
  have k0 := fun {A L l} (k : PL A L l) => zz 6 (xdF hc1) <|
   k
  rcases hc2 : qb8_ n a0 0 with _ | (⟨⟩ | ⟨⟩)
  ·rw [hc2] at h; cases h
  ·rw [hc2] at h
   dsimp only at h
   obtain rfl := oI h
   exact runF2 hm ⟨[2], [], 0, 0, [], false, [], [], []⟩ (k0 <|
    ww (p := qg2_ none a0 0 (.inl ())) (qfk_ n a0 0 (.inl ()) hc2) <|
    ll 12 ⟨⟨[0, 3], [], 0, 0, [], false, [], [], []⟩, (qv_ a0 (.inl ())).1, (qv_ a0 (.inl ())).2⟩ <|
    ee) (by kernel_rfl)
  ·rw [hc2] at h
   dsimp only at h
   have k1 := fun {A L l} (k : PL A L l) => ww (p := qg2_ none a0 0 (.inr ())) (qfk_ n a0 0 (.inr ()) hc2) <|
    ll 12 ⟨⟨[0, 3], [], 0, 0, [], false, [], [], []⟩, (qv_ a0 (.inr ())).1, (qv_ a0 (.inr ())).2⟩ <|
    k
   by_cases hc3 : (((a0).l.length : Nat) : Int) = (0 : Int)
   ·rw [if_pos hc3] at h
    obtain rfl := oI h
    exact runF2 hm ⟨[2], [], 0, 0, [], false, [], [], []⟩ (k0 <|
     k1 <|
     zz 17 (xeT hc3) <|
     ee) (by kernel_rfl)
   ·rw [if_neg hc3] at h
    obtain ⟨c4_, hc4, h⟩ := oB h
    have k3 := fun {A L l} (k : PL A L l) => zz 17 (xeF hc3) <|
     yy 20 (.call (qgg_ a0 0 c4_ [] [])) <|
     ww (qen_ n a0 0 c4_ hc4) <|
     k
    by_cases hc5 : c4_ = (((a0).l.length : Nat) : Int)
    ·rw [if_pos hc5] at h
     obtain rfl := oI h
     exact runF2 hm ⟨[2], [], 0, 0, [], false, [], [], []⟩ (k0 <|
      k1 <|
      k3 <|
      zz 23 (xnF hc5) <|
      ee) (by kernel_rfl)
    ·rw [if_neg hc5] at h
     obtain rfl := oI h
     exact runF2 hm ⟨[2], [], 0, 0, [], false, [], [], []⟩ (k0 <|
      k1 <|
      k3 <|
      zz 23 (xnT hc5) <|
      ee) (by kernel_rfl)

def qjo_ (a0 : Int) (a1 : Int) : List Value := [(i6 a0), (i6 a1)]
def qjp_ (a0 : Int) (a1 : Int) : AH := ⟨sB [], 0, 0⟩
def qg4_ (a0 : Int) (a1 : Int) (r : Int) : Value := match r with
 | o0 => (i6 o0)
def qg5_ (a0 : Int) (a1 : Int) (r : Int) : AH := match r with
 | o0 => ⟨sB [], 0, 0⟩
abbrev G_viewportkitPickq1 (a0 : Int) (a1 : Int) (r : Int) : Prop := Gv P (.func 24) (qjo_ a0 a1) (qjp_ a0 a1) (qg4_ a0 a1 r) (qg5_ a0 a1 r)
abbrev qmf_ (a0 : Int) (a1 : Int) (r : Int) (ins outs : BL) : CallA := ⟨0, ins, qg4_ a0 a1 r, qg5_ a0 a1 r, outs⟩
def qdy_ (n : Nat) (a0 : Int) (a1 : Int) : Option (Int) :=
 if a1 < (1 : Int) then
  some 0
 else
  if ¬ (a1 = 0) then
   if (Int.tmod a0 a1) < (0 : Int) then
    some (w64 ((Int.tmod a0 a1) + a1))
   else
    some (Int.tmod a0 a1)
  else none
theorem qkz_ (n : Nat) (a0 : Int) (a1 : Int) (r : Int) (h : qdy_ n a0 a1 = some r) : Gv P (.func 24) (qjo_ a0 a1) (qjp_ a0 a1) (qg4_ a0 a1 r) (qg5_ a0 a1 r) := by
 unfold qdy_ at h
 by_cases hc1 : a1 < (1 : Int)
 ·rw [if_pos hc1] at h
  obtain rfl := oI h
  exact runF2 hm ⟨[4], [], 0, 0, [], false, [], [], []⟩ (zz 5 (xdT hc1) <|
   ee) (by kernel_rfl)
 ·rw [if_neg hc1] at h
  obtain ⟨hc2, h⟩ := gd h
  have k0 := fun {A L l} (k : PL A L l) => zz 5 (xdF hc1) <|
   yy 10 (.pur (i6 (Int.tmod a0 a1))) <|
   ww (p := opBin P .rem 3 (.tmp 8) (.tmp 9) (i6 a0) (i6 a1) Ax.h0 = some ((i6 (Int.tmod a0 a1)), Ax.h0)) (remI hc2) <|
   k
  by_cases hc3 : (Int.tmod a0 a1) < (0 : Int)
  ·rw [if_pos hc3] at h
   obtain rfl := oI h
   exact runF2 hm ⟨[4], [], 0, 0, [], false, [], [], []⟩ (k0 <|
    zz 15 (xdT hc3) <|
    ee) (by kernel_rfl)
  ·rw [if_neg hc3] at h
   obtain rfl := oI h
   exact runF2 hm ⟨[4], [], 0, 0, [], false, [], [], []⟩ (k0 <|
    zz 15 (xdF hc3) <|
    ee) (by kernel_rfl)

def qjq_ (a0 : WL rw_iiiiiiLu) (a1 : Int) : List Value := [(wlV a0), (i6 a1)]
def qjr_ (a0 : WL rw_iiiiiiLu) (a1 : Int) : AH := ⟨sB [], 0, 0⟩
def qg6_ (a0 : WL rw_iiiiiiLu) (a1 : Int) (r : Bool) : Value := match r with
 | o0 => (bO o0)
def qg7_ (a0 : WL rw_iiiiiiLu) (a1 : Int) (r : Bool) : AH := match r with
 | o0 => ⟨sB [], 0, 0⟩
abbrev G_viewportref16isq1 (a0 : WL rw_iiiiiiLu) (a1 : Int) (r : Bool) : Prop := Gv P (.func 49) (qjq_ a0 a1) (qjr_ a0 a1) (qg6_ a0 a1 r) (qg7_ a0 a1 r)
abbrev qmg_ (a0 : WL rw_iiiiiiLu) (a1 : Int) (r : Bool) (ins outs : BL) : CallA := ⟨0, ins, qg6_ a0 a1 r, qg7_ a0 a1 r, outs⟩
def qep_ (n : Nat) (a0 : WL rw_iiiiiiLu) (a1 : Int) : Option (Bool) :=
 (ql_ n a0).bind fun c1_ =>
 if c1_ = (0 : Int) then
  if a1 ≥ (0 : Int) then
   if a1 < (((a0).l.length : Nat) : Int) then
    some true
   else
    some false
  else
   some false
 else
  some false
theorem qk0_ (n : Nat) (a0 : WL rw_iiiiiiLu) (a1 : Int) (r : Bool) (h : qep_ n a0 a1 = some r) : Gv P (.func 49) (qjq_ a0 a1) (qjr_ a0 a1) (qg6_ a0 a1 r) (qg7_ a0 a1 r) := by
 unfold qep_ at h
 obtain ⟨c1_, hc1, h⟩ := oB h
 have k0 := fun {A L l} (k : PL A L l) => yy 4 (.call (qdx_ a0 c1_ [] [])) <|
  ww (qc3_ n a0 c1_ hc1) <|
  k
 by_cases hc2 : c1_ = (0 : Int)
 ·rw [if_pos hc2] at h
  have k2 := fun {A L l} (k : PL A L l) => zz 5 (xeT hc2) <|
   k
  by_cases hc3 : a1 ≥ (0 : Int)
  ·rw [if_pos hc3] at h
   have k3 := fun {A L l} (k : PL A L l) => zz 8 (xdT hc3) <|
    k
   by_cases hc4 : a1 < (((a0).l.length : Nat) : Int)
   ·rw [if_pos hc4] at h
    obtain rfl := oI h
    exact runF2 hm ⟨[4], [], 0, 0, [], false, [], [], []⟩ (k0 <|
     k2 <|
     k3 <|
     zz 14 (xdT hc4) <|
     ee) (by kernel_rfl)
   ·rw [if_neg hc4] at h
    obtain rfl := oI h
    exact runF2 hm ⟨[4], [], 0, 0, [], false, [], [], []⟩ (k0 <|
     k2 <|
     k3 <|
     zz 14 (xdF hc4) <|
     ee) (by kernel_rfl)
  ·rw [if_neg hc3] at h
   obtain rfl := oI h
   exact runF2 hm ⟨[4], [], 0, 0, [], false, [], [], []⟩ (k0 <|
    k2 <|
    zz 8 (xdF hc3) <|
    ee) (by kernel_rfl)
 ·rw [if_neg hc2] at h
  obtain rfl := oI h
  exact runF2 hm ⟨[4], [], 0, 0, [], false, [], [], []⟩ (k0 <|
   zz 5 (xeF hc2) <|
   ee) (by kernel_rfl)

def qh6_ (a0 : WL rw_iiiiiiLu) (a1 : Int) : List Value := [(wlV a0), (i6 a1)]
def qh7_ (a0 : WL rw_iiiiiiLu) (a1 : Int) : AH := ⟨sB [], 0, 0⟩
def qew_ (a0 : WL rw_iiiiiiLu) (a1 : Int) (r : (Unit) ⊕ (List R8)) : Value := match r with
 | .inl _ => (Value.slice none 0 0)
 | .inr o0 => (sN 0 0 (o0).length (Nat.add big 8))
def qex_ (a0 : WL rw_iiiiiiLu) (a1 : Int) (r : (Unit) ⊕ (List R8)) : AH := match r with
 | .inl _ => ⟨sB [], 0, 0⟩
 | .inr o0 => ⟨sB [(0, (some (.cells (layT (rows rw_iiiiiiLu o0)) 49)))], 1, 0⟩
abbrev G_viewportref16movedq1 (a0 : WL rw_iiiiiiLu) (a1 : Int) (r : (Unit) ⊕ (List R8)) : Prop := Gv P (.func 50) (qh6_ a0 a1) (qh7_ a0 a1) (qew_ a0 a1 r) (qex_ a0 a1 r)
abbrev qey_ (a0 : WL rw_iiiiiiLu) (a1 : Int) (r : (Unit) ⊕ (List R8)) (ins outs : BL) : CallA := ⟨0, ins, qew_ a0 a1 r, qex_ a0 a1 r, outs⟩
def qbn_ (x2_0 : WL rw_iiiiiiLu) (x2_1 : Int) (x2_3 : Int) (x2_4 : Int) (x2_5 : Int) (x2_6 : Int) (x2_7 : Int) (x2_8 : Int) (x2_9 : Int) (x2_11 : Int) (st : List R8 × List Int × Int) : XSt := match st with
 | (x2_2, x2_10, x2_12) => (sT 50 [(0, (wlV x2_0)), (1, (i6 x2_1)), (5, (slR x2_2 0 8)), (6, (i6 x2_3)), (7, (pN 1 0)), (8, (i6 x2_12))], [], ⟨sB [(0, (nblkR rw_iiiiiiLu x2_2 49)), (1, (some (.cells (layT [(i6 x2_4), (i6 x2_5), (i6 x2_6), (i6 x2_7), (i6 x2_8), (i6 x2_9), (slN x2_10 2), (Value.int .u64 x2_11)]) 49))), (2, (nblk x2_10 3))], 3, 0⟩)
def qd_ (x2_0 : WL rw_iiiiiiLu) (x2_1 : Int) (x2_3 : Int) (x2_4 : Int) (x2_5 : Int) (x2_6 : Int) (x2_7 : Int) (x2_8 : Int) (x2_9 : Int) (x2_11 : Int) (r : List R8 × NL) : Ex × XSt := match r with
 | (z2_0, z2_1) => (.exit 2, (sT 50 [(0, (wlV x2_0)), (1, (i6 x2_1)), (5, (slR z2_0 0 8)), (6, (i6 x2_3)), (7, (pN 1 0))], [], ⟨sB [(0, (nblkR rw_iiiiiiLu z2_0 49)), (1, (some (.cells (layT [(i6 x2_4), (i6 x2_5), (i6 x2_6), (i6 x2_7), (i6 x2_8), (i6 x2_9), (nlV z2_1), (Value.int .u64 x2_11)]) 49)))], 2, 0⟩))
abbrev qoz_ (rnd : Option Nat) (x2_0 : WL rw_iiiiiiLu) (x2_1 : Int) (x2_3 : Int) (x2_4 : Int) (x2_5 : Int) (x2_6 : Int) (x2_7 : Int) (x2_8 : Int) (x2_9 : Int) (x2_11 : Int) (st : List R8 × List Int × Int) (c : Ex × XSt) : Prop := CG P rnd (fnN P 50) 0 (codeOf P 50 [false, false, true, false, true, true, false, false, true, false, false, true, false, true, true]) (qbn_ x2_0 x2_1 x2_3 x2_4 x2_5 x2_6 x2_7 x2_8 x2_9 x2_11 st) c
abbrev qc8_ (rd : Option Nat) (x2_0 : WL rw_iiiiiiLu) (x2_1 : Int) (x2_3 : Int) (x2_4 : Int) (x2_5 : Int) (x2_6 : Int) (x2_7 : Int) (x2_8 : Int) (x2_9 : Int) (x2_11 : Int) (st : List R8 × List Int × Int) (r : List R8 × NL) : Prop := CG P rd (fnN P 50) 0 (codeOf P 50 [false, true, false, true, true, false, false, true, false, false, true, false, true, true]) (qbn_ x2_0 x2_1 x2_3 x2_4 x2_5 x2_6 x2_7 x2_8 x2_9 x2_11 st) (qd_ x2_0 x2_1 x2_3 x2_4 x2_5 x2_6 x2_7 x2_8 x2_9 x2_11 r)
def qbb_ (n : Nat) (x2_0 : WL rw_iiiiiiLu) (x2_1 : Int) (x2_3 : Int) (x2_4 : Int) (x2_5 : Int) (x2_6 : Int) (x2_7 : Int) (x2_8 : Int) (x2_9 : Int) (x2_11 : Int) (st : List R8 × List Int × Int) : Option ((List R8 × List Int × Int) ⊕ (List R8 × NL)) := match st with
 | (x2_2, x2_10, x2_12) =>
  match x2_2 with
  | [] =>
   match x2_10 with
   | [] =>
    if 0 ≤ x2_3 ∧ x2_3 < (((x2_0).l.length : Nat) : Int) then
     ((some (((x2_0).l).getD (x2_3).toNat (0, 0, 0, 0, 0, 0, nl0, 0)))).bind fun y2_2_ =>
     if x2_12 < ((((y2_2_.2.2.2.2.2.2.1)).l.length : Nat) : Int) then
      if 0 ≤ x2_12 ∧ x2_12 < ((((y2_2_.2.2.2.2.2.2.1)).l.length : Nat) : Int) then
       if (x2_12).toNat < (((y2_2_.2.2.2.2.2.2.1)).l).length then
        ((some ((((y2_2_.2.2.2.2.2.2.1)).l).getD (x2_12).toNat 0))).bind fun y2_6_ =>
        some (.inl (([] : List R8), [(w64 (y2_6_ + x2_1))], (w64 (x2_12 + (1 : Int)))))
       else none
      else none
     else
      some (.inr (([] : List R8), nl0))
    else none
   | x2_10a :: x2_10t =>
    if 0 ≤ x2_3 ∧ x2_3 < (((x2_0).l.length : Nat) : Int) then
     ((some (((x2_0).l).getD (x2_3).toNat (0, 0, 0, 0, 0, 0, nl0, 0)))).bind fun y2_2_ =>
     if x2_12 < ((((y2_2_.2.2.2.2.2.2.1)).l.length : Nat) : Int) then
      if 0 ≤ x2_12 ∧ x2_12 < ((((y2_2_.2.2.2.2.2.2.1)).l.length : Nat) : Int) then
       if (x2_12).toNat < (((y2_2_.2.2.2.2.2.2.1)).l).length then
        ((some ((((y2_2_.2.2.2.2.2.2.1)).l).getD (x2_12).toNat 0))).bind fun y2_6_ =>
        if (((x2_10a :: x2_10t)).length + 1) * 8 ≤ 140737488355328 then
         some (.inl (([] : List R8), ((x2_10a :: x2_10t) ++ [(w64 (y2_6_ + x2_1))]), (w64 (x2_12 + (1 : Int)))))
        else none
       else none
      else none
     else
      if hy2_4 : (x2_10a :: x2_10t).length ≤ 9223372036854775807 then
       some (.inr (([] : List R8), (frzL (x2_10a :: x2_10t) hy2_4)))
      else none
    else none
  | x2_2a :: x2_2t =>
   match x2_10 with
   | [] =>
    if 0 ≤ x2_3 ∧ x2_3 < (((x2_0).l.length : Nat) : Int) then
     ((some (((x2_0).l).getD (x2_3).toNat (0, 0, 0, 0, 0, 0, nl0, 0)))).bind fun y2_2_ =>
     if x2_12 < ((((y2_2_.2.2.2.2.2.2.1)).l.length : Nat) : Int) then
      if 0 ≤ x2_12 ∧ x2_12 < ((((y2_2_.2.2.2.2.2.2.1)).l.length : Nat) : Int) then
       if (x2_12).toNat < (((y2_2_.2.2.2.2.2.2.1)).l).length then
        ((some ((((y2_2_.2.2.2.2.2.2.1)).l).getD (x2_12).toNat 0))).bind fun y2_6_ =>
        some (.inl ((x2_2a :: x2_2t), [(w64 (y2_6_ + x2_1))], (w64 (x2_12 + (1 : Int)))))
       else none
      else none
     else
      some (.inr ((x2_2a :: x2_2t), nl0))
    else none
   | x2_10a :: x2_10t =>
    if 0 ≤ x2_3 ∧ x2_3 < (((x2_0).l.length : Nat) : Int) then
     ((some (((x2_0).l).getD (x2_3).toNat (0, 0, 0, 0, 0, 0, nl0, 0)))).bind fun y2_2_ =>
     if x2_12 < ((((y2_2_.2.2.2.2.2.2.1)).l.length : Nat) : Int) then
      if 0 ≤ x2_12 ∧ x2_12 < ((((y2_2_.2.2.2.2.2.2.1)).l.length : Nat) : Int) then
       if (x2_12).toNat < (((y2_2_.2.2.2.2.2.2.1)).l).length then
        ((some ((((y2_2_.2.2.2.2.2.2.1)).l).getD (x2_12).toNat 0))).bind fun y2_6_ =>
        if (((x2_10a :: x2_10t)).length + 1) * 8 ≤ 140737488355328 then
         some (.inl ((x2_2a :: x2_2t), ((x2_10a :: x2_10t) ++ [(w64 (y2_6_ + x2_1))]), (w64 (x2_12 + (1 : Int)))))
        else none
       else none
      else none
     else
      if hy2_4 : (x2_10a :: x2_10t).length ≤ 9223372036854775807 then
       some (.inr ((x2_2a :: x2_2t), (frzL (x2_10a :: x2_10t) hy2_4)))
      else none
    else none
def qc9_ (n : Nat) (x2_0 : WL rw_iiiiiiLu) (x2_1 : Int) (x2_3 : Int) (x2_4 : Int) (x2_5 : Int) (x2_6 : Int) (x2_7 : Int) (x2_8 : Int) (x2_9 : Int) (x2_11 : Int) (st : List R8 × List Int × Int) : Option (List R8 × NL) := iterM (qbb_ n x2_0 x2_1 x2_3 x2_4 x2_5 x2_6 x2_7 x2_8 x2_9 x2_11) n st
theorem qg8_ (n : Nat) {rnd : Option Nat} (x2_0 : WL rw_iiiiiiLu) (x2_1 : Int) (x2_3 : Int) (x2_4 : Int) (x2_5 : Int) (x2_6 : Int) (x2_7 : Int) (x2_8 : Int) (x2_9 : Int) (x2_11 : Int) (st : List R8 × List Int × Int) (o : (List R8 × List Int × Int) ⊕ (List R8 × NL)) (h : qbb_ n x2_0 x2_1 x2_3 x2_4 x2_5 x2_6 x2_7 x2_8 x2_9 x2_11 st = some o) : CG P rnd (fnN P 50) 0 (codeOf P 50 [false, false, true, false, true, true, false, false, true, false, false, true, false, true, true]) (qbn_ x2_0 x2_1 x2_3 x2_4 x2_5 x2_6 x2_7 x2_8 x2_9 x2_11 st) (Sum.elim (fun s => (.normal, qbn_ x2_0 x2_1 x2_3 x2_4 x2_5 x2_6 x2_7 x2_8 x2_9 x2_11 s)) (fun r => qd_ x2_0 x2_1 x2_3 x2_4 x2_5 x2_6 x2_7 x2_8 x2_9 x2_11 r) o) := by
 obtain ⟨x2_2, x2_10, x2_12⟩ := st
 unfold qbb_ at h
 dsimp only at h
 cases x2_2 with
 | nil =>
  dsimp only at h
  cases x2_10 with
  | nil =>
   dsimp only at h
   obtain ⟨hy2_1, h⟩ := gd h
   obtain ⟨y2_2_, hy2_2, h⟩ := oB h
   have k0 := fun {A L l} (k : PL A L l) => zz 5 (xk1 (x2_0).num (x2_0).off (x2_0).cap hy2_1) <|
    zz 6 (fk7 (x2_0).num (Nat.add (x2_0).off ((x2_3).toNat * 8))) <|
    zz 7 (lk8 hy2_2 (toNatLt hy2_1)) <|
    k
   by_cases hy2_3 : x2_12 < ((((y2_2_.2.2.2.2.2.2.1)).l.length : Nat) : Int)
   ·rw [if_pos hy2_3] at h
    obtain ⟨hy2_4, h⟩ := gd h
    obtain ⟨hy2_5, h⟩ := gd h
    obtain ⟨y2_6_, hy2_6, h⟩ := oB h
    obtain rfl := oI h
    exact runC2 hm ⟨[0, 1, 5, 6, 7, 8], [(1, 1, false), (2, 16, false)], 3, 0, [], false, [], [], []⟩ (k0 <|
     zz 9 (xdT hy2_3) <|
     zz 17 (xk1 (x2_0).num (x2_0).off (x2_0).cap hy2_1) <|
     zz 18 (fk7 (x2_0).num (Nat.add (x2_0).off ((x2_3).toNat * 8))) <|
     zz 19 (lk8 hy2_2 (toNatLt hy2_1)) <|
     zz 21 (xk9 (Nat.add ((y2_2_.2.2.2.2.2.2.1)).num 64) ((y2_2_.2.2.2.2.2.2.1)).off ((y2_2_.2.2.2.2.2.2.1)).cap hy2_4) <|
     zz 22 (nk10 hy2_6 hy2_5) <|
     ee) (by kernel_rfl)
   ·rw [if_neg hy2_3] at h
    obtain rfl := oI h
    exact runC2 hm ⟨[0, 1, 5, 6, 7], [(1, 1, false)], 2, 0, [], true, [49], [], []⟩ (k0 <|
     zz 9 (xdF hy2_3) <|
     ee) (by kernel_rfl)
  | cons x2_10a x2_10t =>
   dsimp only at h
   obtain ⟨hy2_1, h⟩ := gd h
   obtain ⟨y2_2_, hy2_2, h⟩ := oB h
   have k0 := fun {A L l} (k : PL A L l) => zz 5 (xk1 (x2_0).num (x2_0).off (x2_0).cap hy2_1) <|
    zz 6 (fk7 (x2_0).num (Nat.add (x2_0).off ((x2_3).toNat * 8))) <|
    zz 7 (lk8 hy2_2 (toNatLt hy2_1)) <|
    k
   by_cases hy2_3 : x2_12 < ((((y2_2_.2.2.2.2.2.2.1)).l.length : Nat) : Int)
   ·rw [if_pos hy2_3] at h
    obtain ⟨hy2_4, h⟩ := gd h
    obtain ⟨hy2_5, h⟩ := gd h
    obtain ⟨y2_6_, hy2_6, h⟩ := oB h
    obtain ⟨hy2_7, h⟩ := gd h
    obtain rfl := oI h
    exact runC2 hm ⟨[0, 1, 5, 6, 7, 8], [(1, 1, false), (2, 16, true)], 3, 0, [], false, [], [], []⟩ (k0 <|
     zz 9 (xdT hy2_3) <|
     zz 17 (xk1 (x2_0).num (x2_0).off (x2_0).cap hy2_1) <|
     zz 18 (fk7 (x2_0).num (Nat.add (x2_0).off ((x2_3).toNat * 8))) <|
     zz 19 (lk8 hy2_2 (toNatLt hy2_1)) <|
     zz 21 (xk9 (Nat.add ((y2_2_.2.2.2.2.2.2.1)).num 64) ((y2_2_.2.2.2.2.2.2.1)).off ((y2_2_.2.2.2.2.2.2.1)).cap hy2_4) <|
     zz 22 (nk10 hy2_6 hy2_5) <|
     yy 26 (.app ⟨none, iv (x2_10a :: x2_10t), (iv ((x2_10a :: x2_10t) ++ [(w64 (y2_6_ + x2_1))])), (((x2_10a :: x2_10t) ++ [(w64 (y2_6_ + x2_1))])).length, false⟩) <|
     ww (p := 0 < 1) ((by decide)) <|
     ww (p := rdT (layT (iv (x2_10a :: x2_10t))) (Nat.mul ((x2_10a :: x2_10t)).length 1) 0 = some (iv (x2_10a :: x2_10t))) (iv_rd _) <|
     ww (p := fits (Nat.add ((x2_10a :: x2_10t)).length 1) 8 = true) (fits_ok hy2_7 (by have := hy2_7; show (_ : Nat) + _ ≤ _; omega)) <|
     ww (p := allCells [(i6 (w64 (y2_6_ + x2_1)))] = true) (rfl) <|
     ww (p := allCells (iv (x2_10a :: x2_10t)) = true) (iv_cells _) <|
     ww (p := iv (x2_10a :: x2_10t) ++ [(i6 (w64 (y2_6_ + x2_1)))] = (iv ((x2_10a :: x2_10t) ++ [(w64 (y2_6_ + x2_1))]))) (by simp [iv]) <|
     ww (p := Nat.add ((x2_10a :: x2_10t)).length 1 = (((x2_10a :: x2_10t) ++ [(w64 (y2_6_ + x2_1))])).length) (by simp) <|
     ww (iv_flat ((x2_10a :: x2_10t) ++ [(w64 (y2_6_ + x2_1))]) 3) <|
     ee) (by kernel_rfl)
   ·rw [if_neg hy2_3] at h
    obtain ⟨hy2_4, h⟩ := gdD h
    obtain rfl := oI h
    exact runC2 hm ⟨[0, 1, 5, 6, 7], [(1, 1, false)], 2, 0, [(2, Nat.add (2 * cod (x2_10a :: x2_10t) + 1) 64)], true, [], [], []⟩ (k0 <|
     zz 9 (xdF hy2_3) <|
     ww (frz_ok qbs_ qd1_ (x2_10a :: x2_10t)) <|
     ee) (by kernel_rfl)
 | cons x2_2a x2_2t =>
  dsimp only at h
  cases x2_10 with
  | nil =>
   dsimp only at h
   obtain ⟨hy2_1, h⟩ := gd h
   obtain ⟨y2_2_, hy2_2, h⟩ := oB h
   have k0 := fun {A L l} (k : PL A L l) => zz 5 (xk1 (x2_0).num (x2_0).off (x2_0).cap hy2_1) <|
    zz 6 (fk7 (x2_0).num (Nat.add (x2_0).off ((x2_3).toNat * 8))) <|
    zz 7 (lk8 hy2_2 (toNatLt hy2_1)) <|
    k
   by_cases hy2_3 : x2_12 < ((((y2_2_.2.2.2.2.2.2.1)).l.length : Nat) : Int)
   ·rw [if_pos hy2_3] at h
    obtain ⟨hy2_4, h⟩ := gd h
    obtain ⟨hy2_5, h⟩ := gd h
    obtain ⟨y2_6_, hy2_6, h⟩ := oB h
    obtain rfl := oI h
    exact runC2 hm ⟨[0, 1, 5, 6, 7, 8], [(0, 0, true), (1, 1, false), (2, 16, false)], 3, 0, [], false, [], [], []⟩ (k0 <|
     zz 9 (xdT hy2_3) <|
     zz 17 (xk1 (x2_0).num (x2_0).off (x2_0).cap hy2_1) <|
     zz 18 (fk7 (x2_0).num (Nat.add (x2_0).off ((x2_3).toNat * 8))) <|
     zz 19 (lk8 hy2_2 (toNatLt hy2_1)) <|
     zz 21 (xk9 (Nat.add ((y2_2_.2.2.2.2.2.2.1)).num 64) ((y2_2_.2.2.2.2.2.2.1)).off ((y2_2_.2.2.2.2.2.2.1)).cap hy2_4) <|
     zz 22 (nk10 hy2_6 hy2_5) <|
     ww (rows_flat rwf_iiiiiiLu (x2_2a :: x2_2t) 49) <|
     ee) (by kernel_rfl)
   ·rw [if_neg hy2_3] at h
    obtain rfl := oI h
    exact runC2 hm ⟨[0, 1, 5, 6, 7], [(0, 0, true), (1, 1, false)], 2, 0, [], true, [49], [], []⟩ (k0 <|
     zz 9 (xdF hy2_3) <|
     ww (rows_flat rwf_iiiiiiLu (x2_2a :: x2_2t) 49) <|
     ww (rows_flat rwf_iiiiiiLu (x2_2a :: x2_2t) 49) <|
     ee) (by kernel_rfl)
  | cons x2_10a x2_10t =>
   dsimp only at h
   obtain ⟨hy2_1, h⟩ := gd h
   obtain ⟨y2_2_, hy2_2, h⟩ := oB h
   have k0 := fun {A L l} (k : PL A L l) => zz 5 (xk1 (x2_0).num (x2_0).off (x2_0).cap hy2_1) <|
    zz 6 (fk7 (x2_0).num (Nat.add (x2_0).off ((x2_3).toNat * 8))) <|
    zz 7 (lk8 hy2_2 (toNatLt hy2_1)) <|
    k
   by_cases hy2_3 : x2_12 < ((((y2_2_.2.2.2.2.2.2.1)).l.length : Nat) : Int)
   ·rw [if_pos hy2_3] at h
    obtain ⟨hy2_4, h⟩ := gd h
    obtain ⟨hy2_5, h⟩ := gd h
    obtain ⟨y2_6_, hy2_6, h⟩ := oB h
    obtain ⟨hy2_7, h⟩ := gd h
    obtain rfl := oI h
    exact runC2 hm ⟨[0, 1, 5, 6, 7, 8], [(0, 0, true), (1, 1, false), (2, 16, true)], 3, 0, [], false, [], [], []⟩ (k0 <|
     zz 9 (xdT hy2_3) <|
     zz 17 (xk1 (x2_0).num (x2_0).off (x2_0).cap hy2_1) <|
     zz 18 (fk7 (x2_0).num (Nat.add (x2_0).off ((x2_3).toNat * 8))) <|
     zz 19 (lk8 hy2_2 (toNatLt hy2_1)) <|
     zz 21 (xk9 (Nat.add ((y2_2_.2.2.2.2.2.2.1)).num 64) ((y2_2_.2.2.2.2.2.2.1)).off ((y2_2_.2.2.2.2.2.2.1)).cap hy2_4) <|
     zz 22 (nk10 hy2_6 hy2_5) <|
     yy 26 (.app ⟨none, iv (x2_10a :: x2_10t), (iv ((x2_10a :: x2_10t) ++ [(w64 (y2_6_ + x2_1))])), (((x2_10a :: x2_10t) ++ [(w64 (y2_6_ + x2_1))])).length, false⟩) <|
     ww (p := 0 < 1) ((by decide)) <|
     ww (p := rdT (layT (iv (x2_10a :: x2_10t))) (Nat.mul ((x2_10a :: x2_10t)).length 1) 0 = some (iv (x2_10a :: x2_10t))) (iv_rd _) <|
     ww (p := fits (Nat.add ((x2_10a :: x2_10t)).length 1) 8 = true) (fits_ok hy2_7 (by have := hy2_7; show (_ : Nat) + _ ≤ _; omega)) <|
     ww (p := allCells [(i6 (w64 (y2_6_ + x2_1)))] = true) (rfl) <|
     ww (p := allCells (iv (x2_10a :: x2_10t)) = true) (iv_cells _) <|
     ww (p := iv (x2_10a :: x2_10t) ++ [(i6 (w64 (y2_6_ + x2_1)))] = (iv ((x2_10a :: x2_10t) ++ [(w64 (y2_6_ + x2_1))]))) (by simp [iv]) <|
     ww (p := Nat.add ((x2_10a :: x2_10t)).length 1 = (((x2_10a :: x2_10t) ++ [(w64 (y2_6_ + x2_1))])).length) (by simp) <|
     ww (rows_flat rwf_iiiiiiLu (x2_2a :: x2_2t) 49) <|
     ww (iv_flat ((x2_10a :: x2_10t) ++ [(w64 (y2_6_ + x2_1))]) 3) <|
     ee) (by kernel_rfl)
   ·rw [if_neg hy2_3] at h
    obtain ⟨hy2_4, h⟩ := gdD h
    obtain rfl := oI h
    exact runC2 hm ⟨[0, 1, 5, 6, 7], [(0, 0, true), (1, 1, false)], 2, 0, [(2, Nat.add (2 * cod (x2_10a :: x2_10t) + 1) 64)], true, [], [], []⟩ (k0 <|
     zz 9 (xdF hy2_3) <|
     ww (rows_flat rwf_iiiiiiLu (x2_2a :: x2_2t) 49) <|
     ww (frz_ok qbs_ qd1_ (x2_10a :: x2_10t)) <|
     ww (rows_flat rwf_iiiiiiLu (x2_2a :: x2_2t) 49) <|
     ee) (by kernel_rfl)
theorem qcj_ (n : Nat) {rnd : Option Nat} (x2_0 : WL rw_iiiiiiLu) (x2_1 : Int) (x2_3 : Int) (x2_4 : Int) (x2_5 : Int) (x2_6 : Int) (x2_7 : Int) (x2_8 : Int) (x2_9 : Int) (x2_11 : Int) (st : List R8 × List Int × Int) (r : List R8 × NL) (h : qc9_ n x2_0 x2_1 x2_3 x2_4 x2_5 x2_6 x2_7 x2_8 x2_9 x2_11 st = some r) : CG P rnd (fnN P 50) 0 (codeOf P 50 [false, true, false, true, true, false, false, true, false, false, true, false, true, true]) (qbn_ x2_0 x2_1 x2_3 x2_4 x2_5 x2_6 x2_7 x2_8 x2_9 x2_11 st) (qd_ x2_0 x2_1 x2_3 x2_4 x2_5 x2_6 x2_7 x2_8 x2_9 x2_11 r) :=
 CG.iter (b := codeOf P 50 [false, false, true, false, true, true, false, false, true, false, false, true, false, true, true]) (by kernel_rfl) (body := qbb_ n x2_0 x2_1 x2_3 x2_4 x2_5 x2_6 x2_7 x2_8 x2_9 x2_11) (S := qbn_ x2_0 x2_1 x2_3 x2_4 x2_5 x2_6 x2_7 x2_8 x2_9 x2_11) (X := qd_ x2_0 x2_1 x2_3 x2_4 x2_5 x2_6 x2_7 x2_8 x2_9 x2_11)
  (fun s s' h => qg8_ n x2_0 x2_1 x2_3 x2_4 x2_5 x2_6 x2_7 x2_8 x2_9 x2_11 s (.inl s') h)
  (fun s r h => qg8_ n x2_0 x2_1 x2_3 x2_4 x2_5 x2_6 x2_7 x2_8 x2_9 x2_11 s (.inr r) h)
  (fun r => by intro hx; cases hx) h
def qbo_ (x1_0 : WL rw_iiiiiiLu) (x1_1 : Int) (st : List R8 × Int) : XSt := match st with
 | (x1_2, x1_3) => (sT 50 [(0, (wlV x1_0)), (1, (i6 x1_1)), (5, (slR x1_2 0 8)), (6, (i6 x1_3))], [], ⟨sB [(0, (nblkR rw_iiiiiiLu x1_2 49))], 1, 0⟩)
def qw_ (x1_0 : WL rw_iiiiiiLu) (x1_1 : Int) (r : List R8) : Ex × XSt := match r with
 | z1_0 => (.exit 0, (sT 50 [(5, (slR z1_0 0 8))], [], ⟨sB [(0, (nblkR rw_iiiiiiLu z1_0 49))], 1, 0⟩))
abbrev qo0_ (rnd : Option Nat) (x1_0 : WL rw_iiiiiiLu) (x1_1 : Int) (st : List R8 × Int) (c : Ex × XSt) : Prop := CG P rnd (fnN P 50) 0 (codeOf P 50 [false, false, true, false, true, true]) (qbo_ x1_0 x1_1 st) c
abbrev qg9_ (rd : Option Nat) (x1_0 : WL rw_iiiiiiLu) (x1_1 : Int) (st : List R8 × Int) (r : List R8) : Prop := CG P rd (fnN P 50) 0 (codeOf P 50 [false, true, false, true, true]) (qbo_ x1_0 x1_1 st) (qw_ x1_0 x1_1 r)
def qbc_ (n : Nat) (x1_0 : WL rw_iiiiiiLu) (x1_1 : Int) (st : List R8 × Int) : Option ((List R8 × Int) ⊕ (List R8)) := match st with
 | (x1_2, x1_3) =>
  match x1_2 with
  | [] =>
   if x1_3 < (((x1_0).l.length : Nat) : Int) then
    if 0 ≤ x1_3 ∧ x1_3 < (((x1_0).l.length : Nat) : Int) then
     ((some (((x1_0).l).getD (x1_3).toNat (0, 0, 0, 0, 0, 0, nl0, 0)))).bind fun y1_3_ =>
     (qc9_ n x1_0 x1_1 x1_3 (y1_3_.1) (y1_3_.2.1) (y1_3_.2.2.1) (y1_3_.2.2.2.1) (y1_3_.2.2.2.2.1) (y1_3_.2.2.2.2.2.1) (y1_3_.2.2.2.2.2.2.2) (([] : List R8), ([] : List Int), 0)).bind fun t => match t with
     | (y1_4_0, y1_4_1) =>
      match y1_4_0 with
      | [] =>
       some (.inl ([((y1_3_.1), (y1_3_.2.1), (y1_3_.2.2.1), (y1_3_.2.2.2.1), (y1_3_.2.2.2.2.1), (y1_3_.2.2.2.2.2.1), y1_4_1, (y1_3_.2.2.2.2.2.2.2))], (w64 (x1_3 + (1 : Int)))))
      | y1_4_0a :: y1_4_0t =>
       if (((y1_4_0a :: y1_4_0t)).length + 1) * 80 ≤ 140737488355328 then
        some (.inl (((y1_4_0a :: y1_4_0t) ++ [((y1_3_.1), (y1_3_.2.1), (y1_3_.2.2.1), (y1_3_.2.2.2.1), (y1_3_.2.2.2.2.1), (y1_3_.2.2.2.2.2.1), y1_4_1, (y1_3_.2.2.2.2.2.2.2))]), (w64 (x1_3 + (1 : Int)))))
       else none
    else none
   else
    some (.inr ([] : List R8))
  | x1_2a :: x1_2t =>
   if x1_3 < (((x1_0).l.length : Nat) : Int) then
    if 0 ≤ x1_3 ∧ x1_3 < (((x1_0).l.length : Nat) : Int) then
     ((some (((x1_0).l).getD (x1_3).toNat (0, 0, 0, 0, 0, 0, nl0, 0)))).bind fun y1_3_ =>
     (qc9_ n x1_0 x1_1 x1_3 (y1_3_.1) (y1_3_.2.1) (y1_3_.2.2.1) (y1_3_.2.2.2.1) (y1_3_.2.2.2.2.1) (y1_3_.2.2.2.2.2.1) (y1_3_.2.2.2.2.2.2.2) ((x1_2a :: x1_2t), ([] : List Int), 0)).bind fun t => match t with
     | (y1_4_0, y1_4_1) =>
      match y1_4_0 with
      | [] =>
       some (.inl ([((y1_3_.1), (y1_3_.2.1), (y1_3_.2.2.1), (y1_3_.2.2.2.1), (y1_3_.2.2.2.2.1), (y1_3_.2.2.2.2.2.1), y1_4_1, (y1_3_.2.2.2.2.2.2.2))], (w64 (x1_3 + (1 : Int)))))
      | y1_4_0a :: y1_4_0t =>
       if (((y1_4_0a :: y1_4_0t)).length + 1) * 80 ≤ 140737488355328 then
        some (.inl (((y1_4_0a :: y1_4_0t) ++ [((y1_3_.1), (y1_3_.2.1), (y1_3_.2.2.1), (y1_3_.2.2.2.1), (y1_3_.2.2.2.2.1), (y1_3_.2.2.2.2.2.1), y1_4_1, (y1_3_.2.2.2.2.2.2.2))]), (w64 (x1_3 + (1 : Int)))))
       else none
    else none
   else
    some (.inr (x1_2a :: x1_2t))
def qef_ (n : Nat) (x1_0 : WL rw_iiiiiiLu) (x1_1 : Int) (st : List R8 × Int) : Option (List R8) := iterM (qbc_ n x1_0 x1_1) n st
theorem qha_ (n : Nat) {rnd : Option Nat} (x1_0 : WL rw_iiiiiiLu) (x1_1 : Int) (st : List R8 × Int) (o : (List R8 × Int) ⊕ (List R8)) (h : qbc_ n x1_0 x1_1 st = some o) : CG P rnd (fnN P 50) 0 (codeOf P 50 [false, false, true, false, true, true]) (qbo_ x1_0 x1_1 st) (Sum.elim (fun s => (.normal, qbo_ x1_0 x1_1 s)) (fun r => qw_ x1_0 x1_1 r) o) := by
 obtain ⟨x1_2, x1_3⟩ := st
 unfold qbc_ at h
 dsimp only at h
 cases x1_2 with
 | nil =>
  dsimp only at h
  by_cases hy1_1 : x1_3 < (((x1_0).l.length : Nat) : Int)
  ·rw [if_pos hy1_1] at h
   obtain ⟨hy1_2, h⟩ := gd h
   obtain ⟨y1_3_, hy1_3, h⟩ := oB h
   obtain ⟨⟨y1_4_0, y1_4_1⟩, hy1_4, h⟩ := oB h
   dsimp only at h
   have k0 := fun {A L l} (k : PL A L l) => zz 5 (xdT hy1_1) <|
    zz 12 (xk1 (x1_0).num (x1_0).off (x1_0).cap hy1_2) <|
    zz 13 (lk2 hy1_3 (toNatLt hy1_2)) <|
    k
   cases y1_4_0 with
   | nil =>
    dsimp only at h
    obtain rfl := oI h
    exact runC2 hm ⟨[0, 1, 5, 6], [(0, 3, false)], 1, 0, [], false, [], [], []⟩ (k0 <|
     ww (p := qc8_ rnd x1_0 x1_1 x1_3 (y1_3_.1) (y1_3_.2.1) (y1_3_.2.2.1) (y1_3_.2.2.2.1) (y1_3_.2.2.2.2.1) (y1_3_.2.2.2.2.2.1) (y1_3_.2.2.2.2.2.2.2) (([] : List R8), ([] : List Int), 0) (([] : List R8), y1_4_1)) (qcj_ n x1_0 x1_1 x1_3 (y1_3_.1) (y1_3_.2.1) (y1_3_.2.2.1) (y1_3_.2.2.2.1) (y1_3_.2.2.2.2.1) (y1_3_.2.2.2.2.2.1) (y1_3_.2.2.2.2.2.2.2) (([] : List R8), ([] : List Int), 0) (([] : List R8), y1_4_1) hy1_4) <|
     ll 23 ⟨⟨[0, 1, 5, 6, 7, 8], [(1, 1, false)], 3, 0, [], false, [], [], []⟩, (qd_ x1_0 x1_1 x1_3 (y1_3_.1) (y1_3_.2.1) (y1_3_.2.2.1) (y1_3_.2.2.2.1) (y1_3_.2.2.2.2.1) (y1_3_.2.2.2.2.2.1) (y1_3_.2.2.2.2.2.2.2) (([] : List R8), y1_4_1)).1, (qd_ x1_0 x1_1 x1_3 (y1_3_.1) (y1_3_.2.1) (y1_3_.2.2.1) (y1_3_.2.2.2.1) (y1_3_.2.2.2.2.1) (y1_3_.2.2.2.2.2.1) (y1_3_.2.2.2.2.2.2.2) (([] : List R8), y1_4_1)).2⟩ <|
     ee) (by kernel_rfl)
   | cons y1_4_0a y1_4_0t =>
    dsimp only at h
    obtain ⟨hy1_5, h⟩ := gd h
    obtain rfl := oI h
    exact runC2 hm ⟨[0, 1, 5, 6], [(0, 3, true)], 1, 0, [], false, [], [], []⟩ (k0 <|
     ww (p := qc8_ rnd x1_0 x1_1 x1_3 (y1_3_.1) (y1_3_.2.1) (y1_3_.2.2.1) (y1_3_.2.2.2.1) (y1_3_.2.2.2.2.1) (y1_3_.2.2.2.2.2.1) (y1_3_.2.2.2.2.2.2.2) (([] : List R8), ([] : List Int), 0) ((y1_4_0a :: y1_4_0t), y1_4_1)) (qcj_ n x1_0 x1_1 x1_3 (y1_3_.1) (y1_3_.2.1) (y1_3_.2.2.1) (y1_3_.2.2.2.1) (y1_3_.2.2.2.2.1) (y1_3_.2.2.2.2.2.1) (y1_3_.2.2.2.2.2.2.2) (([] : List R8), ([] : List Int), 0) ((y1_4_0a :: y1_4_0t), y1_4_1) hy1_4) <|
     ll 23 ⟨⟨[0, 1, 5, 6, 7, 8], [(1, 1, false)], 3, 0, [], false, [], [], []⟩, (qd_ x1_0 x1_1 x1_3 (y1_3_.1) (y1_3_.2.1) (y1_3_.2.2.1) (y1_3_.2.2.2.1) (y1_3_.2.2.2.2.1) (y1_3_.2.2.2.2.2.1) (y1_3_.2.2.2.2.2.2.2) ((y1_4_0a :: y1_4_0t), y1_4_1)).1, (qd_ x1_0 x1_1 x1_3 (y1_3_.1) (y1_3_.2.1) (y1_3_.2.2.1) (y1_3_.2.2.2.1) (y1_3_.2.2.2.2.1) (y1_3_.2.2.2.2.2.1) (y1_3_.2.2.2.2.2.2.2) ((y1_4_0a :: y1_4_0t), y1_4_1)).2⟩ <|
     yy 27 (.app ⟨none, rows rw_iiiiiiLu (y1_4_0a :: y1_4_0t), (rows rw_iiiiiiLu ((y1_4_0a :: y1_4_0t) ++ [((y1_3_.1), (y1_3_.2.1), (y1_3_.2.2.1), (y1_3_.2.2.2.1), (y1_3_.2.2.2.2.1), (y1_3_.2.2.2.2.2.1), y1_4_1, (y1_3_.2.2.2.2.2.2.2))])), (((y1_4_0a :: y1_4_0t) ++ [((y1_3_.1), (y1_3_.2.1), (y1_3_.2.2.1), (y1_3_.2.2.2.1), (y1_3_.2.2.2.2.1), (y1_3_.2.2.2.2.2.1), y1_4_1, (y1_3_.2.2.2.2.2.2.2))])).length, false⟩) <|
     ww (p := 0 < 1) ((by decide)) <|
     ww (p := rdT (layT (rows rw_iiiiiiLu (y1_4_0a :: y1_4_0t))) (Nat.mul ((y1_4_0a :: y1_4_0t)).length 8) 0 = some (rows rw_iiiiiiLu (y1_4_0a :: y1_4_0t))) (rows_rd rwf_iiiiiiLu _ _ rfl) <|
     ww (p := fits (Nat.add ((y1_4_0a :: y1_4_0t)).length 1) 80 = true) (fits_ok hy1_5 (by have := hy1_5; show (_ : Nat) + _ ≤ _; omega)) <|
     ww (p := allCells [(i6 (y1_3_.1)), (i6 (y1_3_.2.1)), (i6 (y1_3_.2.2.1)), (i6 (y1_3_.2.2.2.1)), (i6 (y1_3_.2.2.2.2.1)), (i6 (y1_3_.2.2.2.2.2.1)), (nlV y1_4_1), (Value.int .u64 (y1_3_.2.2.2.2.2.2.2))] = true) (rfl) <|
     ww (p := allCells (rows rw_iiiiiiLu (y1_4_0a :: y1_4_0t)) = true) (rows_cells rwf_iiiiiiLu _) <|
     ww (p := rows rw_iiiiiiLu (y1_4_0a :: y1_4_0t) ++ [(i6 (y1_3_.1)), (i6 (y1_3_.2.1)), (i6 (y1_3_.2.2.1)), (i6 (y1_3_.2.2.2.1)), (i6 (y1_3_.2.2.2.2.1)), (i6 (y1_3_.2.2.2.2.2.1)), (nlV y1_4_1), (Value.int .u64 (y1_3_.2.2.2.2.2.2.2))] = (rows rw_iiiiiiLu ((y1_4_0a :: y1_4_0t) ++ [((y1_3_.1), (y1_3_.2.1), (y1_3_.2.2.1), (y1_3_.2.2.2.1), (y1_3_.2.2.2.2.1), (y1_3_.2.2.2.2.2.1), y1_4_1, (y1_3_.2.2.2.2.2.2.2))]))) (rows_app rw_iiiiiiLu (y1_4_0a :: y1_4_0t) [((y1_3_.1), (y1_3_.2.1), (y1_3_.2.2.1), (y1_3_.2.2.2.1), (y1_3_.2.2.2.2.1), (y1_3_.2.2.2.2.2.1), y1_4_1, (y1_3_.2.2.2.2.2.2.2))]) <|
     ww (p := Nat.add ((y1_4_0a :: y1_4_0t)).length 1 = (((y1_4_0a :: y1_4_0t) ++ [((y1_3_.1), (y1_3_.2.1), (y1_3_.2.2.1), (y1_3_.2.2.2.1), (y1_3_.2.2.2.2.1), (y1_3_.2.2.2.2.2.1), y1_4_1, (y1_3_.2.2.2.2.2.2.2))])).length) (by simp) <|
     ww (rows_flat rwf_iiiiiiLu ((y1_4_0a :: y1_4_0t) ++ [((y1_3_.1), (y1_3_.2.1), (y1_3_.2.2.1), (y1_3_.2.2.2.1), (y1_3_.2.2.2.2.1), (y1_3_.2.2.2.2.2.1), y1_4_1, (y1_3_.2.2.2.2.2.2.2))]) 49) <|
     ee) (by kernel_rfl)
  ·rw [if_neg hy1_1] at h
   obtain rfl := oI h
   exact runC2 hm ⟨[5], [], 1, 0, [], false, [], [], []⟩ (zz 5 (xdF hy1_1) <|
    ee) (by kernel_rfl)
 | cons x1_2a x1_2t =>
  dsimp only at h
  by_cases hy1_1 : x1_3 < (((x1_0).l.length : Nat) : Int)
  ·rw [if_pos hy1_1] at h
   obtain ⟨hy1_2, h⟩ := gd h
   obtain ⟨y1_3_, hy1_3, h⟩ := oB h
   obtain ⟨⟨y1_4_0, y1_4_1⟩, hy1_4, h⟩ := oB h
   dsimp only at h
   have k0 := fun {A L l} (k : PL A L l) => zz 5 (xdT hy1_1) <|
    zz 12 (xk1 (x1_0).num (x1_0).off (x1_0).cap hy1_2) <|
    zz 13 (lk2 hy1_3 (toNatLt hy1_2)) <|
    k
   cases y1_4_0 with
   | nil =>
    dsimp only at h
    obtain rfl := oI h
    exact runC2 hm ⟨[0, 1, 5, 6], [(0, 3, false)], 1, 0, [], false, [], [], []⟩ (k0 <|
     ww (p := qc8_ rnd x1_0 x1_1 x1_3 (y1_3_.1) (y1_3_.2.1) (y1_3_.2.2.1) (y1_3_.2.2.2.1) (y1_3_.2.2.2.2.1) (y1_3_.2.2.2.2.2.1) (y1_3_.2.2.2.2.2.2.2) ((x1_2a :: x1_2t), ([] : List Int), 0) (([] : List R8), y1_4_1)) (qcj_ n x1_0 x1_1 x1_3 (y1_3_.1) (y1_3_.2.1) (y1_3_.2.2.1) (y1_3_.2.2.2.1) (y1_3_.2.2.2.2.1) (y1_3_.2.2.2.2.2.1) (y1_3_.2.2.2.2.2.2.2) ((x1_2a :: x1_2t), ([] : List Int), 0) (([] : List R8), y1_4_1) hy1_4) <|
     ww (rows_flat rwf_iiiiiiLu (x1_2a :: x1_2t) 49) <|
     ll 23 ⟨⟨[0, 1, 5, 6, 7, 8], [(0, 0, true), (1, 1, false)], 3, 0, [], false, [], [], []⟩, (qd_ x1_0 x1_1 x1_3 (y1_3_.1) (y1_3_.2.1) (y1_3_.2.2.1) (y1_3_.2.2.2.1) (y1_3_.2.2.2.2.1) (y1_3_.2.2.2.2.2.1) (y1_3_.2.2.2.2.2.2.2) (([] : List R8), y1_4_1)).1, (qd_ x1_0 x1_1 x1_3 (y1_3_.1) (y1_3_.2.1) (y1_3_.2.2.1) (y1_3_.2.2.2.1) (y1_3_.2.2.2.2.1) (y1_3_.2.2.2.2.2.1) (y1_3_.2.2.2.2.2.2.2) (([] : List R8), y1_4_1)).2⟩ <|
     ee) (by kernel_rfl)
   | cons y1_4_0a y1_4_0t =>
    dsimp only at h
    obtain ⟨hy1_5, h⟩ := gd h
    obtain rfl := oI h
    exact runC2 hm ⟨[0, 1, 5, 6], [(0, 3, true)], 1, 0, [], false, [], [], []⟩ (k0 <|
     ww (p := qc8_ rnd x1_0 x1_1 x1_3 (y1_3_.1) (y1_3_.2.1) (y1_3_.2.2.1) (y1_3_.2.2.2.1) (y1_3_.2.2.2.2.1) (y1_3_.2.2.2.2.2.1) (y1_3_.2.2.2.2.2.2.2) ((x1_2a :: x1_2t), ([] : List Int), 0) ((y1_4_0a :: y1_4_0t), y1_4_1)) (qcj_ n x1_0 x1_1 x1_3 (y1_3_.1) (y1_3_.2.1) (y1_3_.2.2.1) (y1_3_.2.2.2.1) (y1_3_.2.2.2.2.1) (y1_3_.2.2.2.2.2.1) (y1_3_.2.2.2.2.2.2.2) ((x1_2a :: x1_2t), ([] : List Int), 0) ((y1_4_0a :: y1_4_0t), y1_4_1) hy1_4) <|
     ww (rows_flat rwf_iiiiiiLu (x1_2a :: x1_2t) 49) <|
     ll 23 ⟨⟨[0, 1, 5, 6, 7, 8], [(0, 0, true), (1, 1, false)], 3, 0, [], false, [], [], []⟩, (qd_ x1_0 x1_1 x1_3 (y1_3_.1) (y1_3_.2.1) (y1_3_.2.2.1) (y1_3_.2.2.2.1) (y1_3_.2.2.2.2.1) (y1_3_.2.2.2.2.2.1) (y1_3_.2.2.2.2.2.2.2) ((y1_4_0a :: y1_4_0t), y1_4_1)).1, (qd_ x1_0 x1_1 x1_3 (y1_3_.1) (y1_3_.2.1) (y1_3_.2.2.1) (y1_3_.2.2.2.1) (y1_3_.2.2.2.2.1) (y1_3_.2.2.2.2.2.1) (y1_3_.2.2.2.2.2.2.2) ((y1_4_0a :: y1_4_0t), y1_4_1)).2⟩ <|
     yy 27 (.app ⟨none, rows rw_iiiiiiLu (y1_4_0a :: y1_4_0t), (rows rw_iiiiiiLu ((y1_4_0a :: y1_4_0t) ++ [((y1_3_.1), (y1_3_.2.1), (y1_3_.2.2.1), (y1_3_.2.2.2.1), (y1_3_.2.2.2.2.1), (y1_3_.2.2.2.2.2.1), y1_4_1, (y1_3_.2.2.2.2.2.2.2))])), (((y1_4_0a :: y1_4_0t) ++ [((y1_3_.1), (y1_3_.2.1), (y1_3_.2.2.1), (y1_3_.2.2.2.1), (y1_3_.2.2.2.2.1), (y1_3_.2.2.2.2.2.1), y1_4_1, (y1_3_.2.2.2.2.2.2.2))])).length, false⟩) <|
     ww (p := 0 < 1) ((by decide)) <|
     ww (p := rdT (layT (rows rw_iiiiiiLu (y1_4_0a :: y1_4_0t))) (Nat.mul ((y1_4_0a :: y1_4_0t)).length 8) 0 = some (rows rw_iiiiiiLu (y1_4_0a :: y1_4_0t))) (rows_rd rwf_iiiiiiLu _ _ rfl) <|
     ww (p := fits (Nat.add ((y1_4_0a :: y1_4_0t)).length 1) 80 = true) (fits_ok hy1_5 (by have := hy1_5; show (_ : Nat) + _ ≤ _; omega)) <|
     ww (p := allCells [(i6 (y1_3_.1)), (i6 (y1_3_.2.1)), (i6 (y1_3_.2.2.1)), (i6 (y1_3_.2.2.2.1)), (i6 (y1_3_.2.2.2.2.1)), (i6 (y1_3_.2.2.2.2.2.1)), (nlV y1_4_1), (Value.int .u64 (y1_3_.2.2.2.2.2.2.2))] = true) (rfl) <|
     ww (p := allCells (rows rw_iiiiiiLu (y1_4_0a :: y1_4_0t)) = true) (rows_cells rwf_iiiiiiLu _) <|
     ww (p := rows rw_iiiiiiLu (y1_4_0a :: y1_4_0t) ++ [(i6 (y1_3_.1)), (i6 (y1_3_.2.1)), (i6 (y1_3_.2.2.1)), (i6 (y1_3_.2.2.2.1)), (i6 (y1_3_.2.2.2.2.1)), (i6 (y1_3_.2.2.2.2.2.1)), (nlV y1_4_1), (Value.int .u64 (y1_3_.2.2.2.2.2.2.2))] = (rows rw_iiiiiiLu ((y1_4_0a :: y1_4_0t) ++ [((y1_3_.1), (y1_3_.2.1), (y1_3_.2.2.1), (y1_3_.2.2.2.1), (y1_3_.2.2.2.2.1), (y1_3_.2.2.2.2.2.1), y1_4_1, (y1_3_.2.2.2.2.2.2.2))]))) (rows_app rw_iiiiiiLu (y1_4_0a :: y1_4_0t) [((y1_3_.1), (y1_3_.2.1), (y1_3_.2.2.1), (y1_3_.2.2.2.1), (y1_3_.2.2.2.2.1), (y1_3_.2.2.2.2.2.1), y1_4_1, (y1_3_.2.2.2.2.2.2.2))]) <|
     ww (p := Nat.add ((y1_4_0a :: y1_4_0t)).length 1 = (((y1_4_0a :: y1_4_0t) ++ [((y1_3_.1), (y1_3_.2.1), (y1_3_.2.2.1), (y1_3_.2.2.2.1), (y1_3_.2.2.2.2.1), (y1_3_.2.2.2.2.2.1), y1_4_1, (y1_3_.2.2.2.2.2.2.2))])).length) (by simp) <|
     ww (rows_flat rwf_iiiiiiLu ((y1_4_0a :: y1_4_0t) ++ [((y1_3_.1), (y1_3_.2.1), (y1_3_.2.2.1), (y1_3_.2.2.2.1), (y1_3_.2.2.2.2.1), (y1_3_.2.2.2.2.2.1), y1_4_1, (y1_3_.2.2.2.2.2.2.2))]) 49) <|
     ee) (by kernel_rfl)
  ·rw [if_neg hy1_1] at h
   obtain rfl := oI h
   exact runC2 hm ⟨[5], [(0, 0, true)], 1, 0, [], false, [], [], []⟩ (zz 5 (xdF hy1_1) <|
    ww (rows_flat rwf_iiiiiiLu (x1_2a :: x1_2t) 49) <|
    ee) (by kernel_rfl)
theorem qfl_ (n : Nat) {rnd : Option Nat} (x1_0 : WL rw_iiiiiiLu) (x1_1 : Int) (st : List R8 × Int) (r : List R8) (h : qef_ n x1_0 x1_1 st = some r) : CG P rnd (fnN P 50) 0 (codeOf P 50 [false, true, false, true, true]) (qbo_ x1_0 x1_1 st) (qw_ x1_0 x1_1 r) :=
 CG.iter (b := codeOf P 50 [false, false, true, false, true, true]) (by kernel_rfl) (body := qbc_ n x1_0 x1_1) (S := qbo_ x1_0 x1_1) (X := qw_ x1_0 x1_1)
  (fun s s' h => qha_ n x1_0 x1_1 s (.inl s') h)
  (fun s r h => qha_ n x1_0 x1_1 s (.inr r) h)
  (fun r => by intro hx; cases hx) h
def q2_ (n : Nat) (a0 : WL rw_iiiiiiLu) (a1 : Int) : Option ((Unit) ⊕ (List R8)) :=
 (qef_ n a0 a1 (([] : List R8), 0)).bind fun c1_ =>
 match c1_ with
 | [] =>
  some (.inl ())
 | c1_a :: c1_t =>
  some (.inr (c1_a :: c1_t))
theorem qd7_ (n : Nat) (a0 : WL rw_iiiiiiLu) (a1 : Int) (r : (Unit) ⊕ (List R8)) (h : q2_ n a0 a1 = some r) : Gv P (.func 50) (qh6_ a0 a1) (qh7_ a0 a1) (qew_ a0 a1 r) (qex_ a0 a1 r) := by
 unfold q2_ at h
 obtain ⟨c1_, hc1, h⟩ := oB h
 cases c1_ with
 | nil =>
  dsimp only at h
  obtain rfl := oI h
  exact runF2 hm ⟨[4], [], 0, 0, [], false, [], [], []⟩ (ww (p := qg9_ none a0 a1 (([] : List R8), 0) ([] : List R8)) (qfl_ n a0 a1 (([] : List R8), 0) ([] : List R8) hc1) <|
   ll 8 ⟨⟨[0, 1, 5, 6], [], 1, 0, [], false, [], [], []⟩, (qw_ a0 a1 ([] : List R8)).1, (qw_ a0 a1 ([] : List R8)).2⟩ <|
   ee) (by kernel_rfl)
 | cons c1_a c1_t =>
  dsimp only at h
  obtain rfl := oI h
  exact runF2 hm ⟨[4], [(0, 0, true)], 1, 0, [], false, [], [], []⟩ (ww (p := qg9_ none a0 a1 (([] : List R8), 0) (c1_a :: c1_t)) (qfl_ n a0 a1 (([] : List R8), 0) (c1_a :: c1_t) hc1) <|
   ll 8 ⟨⟨[0, 1, 5, 6], [], 1, 0, [], false, [], [], []⟩, (qw_ a0 a1 (c1_a :: c1_t)).1, (qw_ a0 a1 (c1_a :: c1_t)).2⟩ <|
   ww (rows_flat rwf_iiiiiiLu (c1_a :: c1_t) 49) <|
   ee) (by kernel_rfl)

def qi1_ (a0 : WL rw_iiiiiiLu) (a1 : Int) : List Value := [(wlV a0), (i6 a1)]
def qi2_ (a0 : WL rw_iiiiiiLu) (a1 : Int) : AH := ⟨sB [], 0, 0⟩
def qgh_ (a0 : WL rw_iiiiiiLu) (a1 : Int) (r : WL rw_iiiiiiLu) : Value := match r with
 | o0 => (wlV o0)
def qgi_ (a0 : WL rw_iiiiiiLu) (a1 : Int) (r : WL rw_iiiiiiLu) : AH := match r with
 | o0 => ⟨sB [], 0, 0⟩
abbrev G_viewportref16Subq1 (a0 : WL rw_iiiiiiLu) (a1 : Int) (r : WL rw_iiiiiiLu) : Prop := Gv P (.func 26) (qi1_ a0 a1) (qi2_ a0 a1) (qgh_ a0 a1 r) (qgi_ a0 a1 r)
abbrev qly_ (a0 : WL rw_iiiiiiLu) (a1 : Int) (r : WL rw_iiiiiiLu) (ins outs : BL) : CallA := ⟨0, ins, qgh_ a0 a1 r, qgi_ a0 a1 r, outs⟩
def qdi_ (n : Nat) (a0 : WL rw_iiiiiiLu) (a1 : Int) : Option (WL rw_iiiiiiLu) :=
 (qep_ n a0 a1).bind fun c1_ =>
 if c1_ = true then
  (qa_ n a0 a1).bind fun c3_ =>
  if 0 ≤ a1 then
   if 0 ≤ c3_ then
    if hc6 : (a1).toNat ≤ (c3_).toNat ∧ (c3_).toNat ≤ (a0).l.length then
     match q2_ n (wlSub rwf_iiiiiiLu a0 (a1).toNat (c3_).toNat hc6) (w64 ((0 : Int) - a1)) with
     | none => none
     | some (.inl _) =>
      some (wl0 : WL rw_iiiiiiLu)
     | some (.inr c7_) =>
      if hc8 : c7_.length ≤ 9223372036854775807 then
       some (frzR qm_ c7_ hc8)
      else none
    else none
   else none
  else none
 else
  some (wl0 : WL rw_iiiiiiLu)
theorem qku_ (n : Nat) (a0 : WL rw_iiiiiiLu) (a1 : Int) (r : WL rw_iiiiiiLu) (h : qdi_ n a0 a1 = some r) : Gv P (.func 26) (qi1_ a0 a1) (qi2_ a0 a1) (qgh_ a0 a1 r) (qgi_ a0 a1 r) := by
 unfold qdi_ at h
 obtain ⟨c1_, hc1, h⟩ := oB h
 have k0 := fun {A L l} (k : PL A L l) => yy 6 (.call (qmg_ a0 a1 c1_ [] [])) <|
  ww (qk0_ n a0 a1 c1_ hc1) <|
  k
 by_cases hc2 : c1_ = true
 ·rw [if_pos hc2] at h
  obtain ⟨c3_, hc3, h⟩ := oB h
  obtain ⟨hc4, h⟩ := gd h
  obtain ⟨hc5, h⟩ := gd h
  obtain ⟨hc6, h⟩ := gdD h
  have k2 := fun {A L l} (k : PL A L l) => yy 7 (vf) <|
   ww (p := (Value.bool (!c1_)) = (Value.bool false)) (vBn hc2) <|
   yy 14 (.call (qgg_ a0 a1 c3_ [] [])) <|
   ww (qen_ n a0 a1 c3_ hc3) <|
   yy 15 (.pur (wlV (wlSub rwf_iiiiiiLu a0 (a1).toNat (c3_).toNat hc6))) <|
   ww (p := opSlice P 22 (wlV a0) (some (i6 a1)) (some (i6 c3_)) none Ax.h0 = some ((wlV (wlSub rwf_iiiiiiLu a0 (a1).toNat (c3_).toNat hc6)), Ax.h0)) (slWL (e := 49) rwf_iiiiiiLu a0 (by kernel_rfl) (by kernel_rfl) (bnd_int hc4) (bnd_int hc5) hc6) <|
   k
  rcases hc7 : q2_ n (wlSub rwf_iiiiiiLu a0 (a1).toNat (c3_).toNat hc6) (w64 ((0 : Int) - a1)) with _ | (⟨⟩ | c7_)
  ·rw [hc7] at h; cases h
  ·rw [hc7] at h
   dsimp only at h
   obtain rfl := oI h
   exact runF2 hm ⟨[4], [], 0, 0, [], true, [], [], [4]⟩ (k0 <|
    k2 <|
    yy 18 (.call (qey_ (wlSub rwf_iiiiiiLu a0 (a1).toNat (c3_).toNat hc6) (w64 ((0 : Int) - a1)) (.inl ()) [] [])) <|
    ww (qd7_ n (wlSub rwf_iiiiiiLu a0 (a1).toNat (c3_).toNat hc6) (w64 ((0 : Int) - a1)) (.inl ()) hc7) <|
    ee) (by kernel_rfl)
  ·rw [hc7] at h
   dsimp only at h
   replace h := gdD h
   obtain ⟨hc8, h⟩ := h
   obtain rfl := oI h
   exact runF2 hm ⟨[4], [], 0, 0, [(0, Nat.add (2 * codL (rows rw_iiiiiiLu c7_) + 1) 64)], true, [], [], []⟩ (k0 <|
    k2 <|
    yy 18 (.call (qey_ (wlSub rwf_iiiiiiLu a0 (a1).toNat (c3_).toNat hc6) (w64 ((0 : Int) - a1)) (.inr c7_) [] [(0, 0, true)])) <|
    ww (qd7_ n (wlSub rwf_iiiiiiLu a0 (a1).toNat (c3_).toNat hc6) (w64 ((0 : Int) - a1)) (.inr c7_) hc7) <|
    ww (rows_flat rwf_iiiiiiLu c7_ 49) <|
    ww (frz_okR qbs_ qd1_ qm_ c7_) <|
    ee) (by kernel_rfl)
 ·rw [if_neg hc2] at h
  obtain rfl := oI h
  exact runF2 hm ⟨[4], [], 0, 0, [], true, [], [], [4]⟩ (k0 <|
   yy 7 (vt) <|
   ww (p := (Value.bool (!c1_)) = (Value.bool true)) (vBn (Bool.eq_false_iff.2 hc2)) <|
   ee) (by kernel_rfl)

def qir_ (a0 : WL rw_iiiiiiLu) : List Value := [(wlV a0)]
def qis_ (a0 : WL rw_iiiiiiLu) : AH := ⟨sB [], 0, 0⟩
def qfz_ (a0 : WL rw_iiiiiiLu) (r : List R8) : Value := match r with
 | o0 => (sN 0 0 (o0).length (Nat.add big 8))
def qf0_ (a0 : WL rw_iiiiiiLu) (r : List R8) : AH := match r with
 | o0 => ⟨sB [(0, (some (.cells (layT (rows rw_iiiiiiLu o0)) 49)))], 1, 0⟩
abbrev G_viewportref16Copyq1 (a0 : WL rw_iiiiiiLu) (r : List R8) : Prop := Gv P (.func 46) (qir_ a0) (qis_ a0) (qfz_ a0 r) (qf0_ a0 r)
abbrev qlm_ (a0 : WL rw_iiiiiiLu) (r : List R8) (ins outs : BL) : CallA := ⟨0, ins, qfz_ a0 r, qf0_ a0 r, outs⟩
def qc6_ (n : Nat) (a0 : WL rw_iiiiiiLu) : Option (List R8) :=
 match q2_ n a0 0 with
 | none => none
 | some (.inl _) =>
  none
 | some (.inr c1_) =>
  some c1_
theorem qj8_ (n : Nat) (a0 : WL rw_iiiiiiLu) (r : List R8) (h : qc6_ n a0 = some r) : Gv P (.func 46) (qir_ a0) (qis_ a0) (qfz_ a0 r) (qf0_ a0 r) := by
 unfold qc6_ at h
 rcases hc1 : q2_ n a0 0 with _ | (⟨⟩ | c1_)
 ·rw [hc1] at h; cases h
 ·rw [hc1] at h
  dsimp only at h
  cases h
 ·rw [hc1] at h
  dsimp only at h
  obtain rfl := oI h
  exact runF2 hm ⟨[2], [(0, 0, true)], 1, 0, [], false, [], [], []⟩ (yy 4 (.call (qey_ a0 0 (.inr c1_) [] [(0, 0, true)])) <|
   ww (qd7_ n a0 0 (.inr c1_) hc1) <|
   ww (rows_flat rwf_iiiiiiLu c1_ 49) <|
   ww (rows_flat rwf_iiiiiiLu c1_ 49) <|
   ee) (by kernel_rfl)

def qf1_ (a0 : WL rw_iiiiiiLu) : List Value := [(wlV a0)]
def qf2_ (a0 : WL rw_iiiiiiLu) : AH := ⟨sB [], 0, 0⟩
def qf3_ (a0 : WL rw_iiiiiiLu) (r : WL rw_iiiiiiLu) : Value := match r with
 | o0 => (wlV o0)
def qd2_ (a0 : WL rw_iiiiiiLu) (r : WL rw_iiiiiiLu) : AH := match r with
 | o0 => ⟨sB [], 0, 0⟩
abbrev G_viewportref16Bareq1 (a0 : WL rw_iiiiiiLu) (r : WL rw_iiiiiiLu) : Prop := Gv P (.func 25) (qf1_ a0) (qf2_ a0) (qf3_ a0 r) (qd2_ a0 r)
abbrev qf4_ (a0 : WL rw_iiiiiiLu) (r : WL rw_iiiiiiLu) (ins outs : BL) : CallA := ⟨0, ins, qf3_ a0 r, qd2_ a0 r, outs⟩
def qbt_ (x1_1 : Nat) (st : List R8 × Int) : XSt := match st with
 | (x1_0, x1_2) => (sT 21 [(3, (sN 0 0 x1_1 (Nat.add big 8))), (4, (i6 x1_2))], [], ⟨sB [(0, (some (.cells (layT (rows rw_iiiiiiLu x1_0)) 49)))], 1, 0⟩)
def qbu_ (x1_1 : Nat) (r : List R8) : Ex × XSt := match r with
 | z1_0 => (.exit 0, (sT 21 [(3, (sN 0 0 x1_1 (Nat.add big 8)))], [], ⟨sB [(0, (some (.cells (layT (rows rw_iiiiiiLu z1_0)) 49)))], 1, 0⟩))
abbrev Q_viewportref16Bareq1_1 (rnd : Option Nat) (x1_1 : Nat) (st : List R8 × Int) (c : Ex × XSt) : Prop := CG P rnd (fnN P 25) 0 (codeOf P 25 [false, false, true, false, true, true, true]) (qbt_ x1_1 st) c
abbrev qkv_ (rd : Option Nat) (x1_1 : Nat) (st : List R8 × Int) (r : List R8) : Prop := CG P rd (fnN P 25) 0 (codeOf P 25 [false, true, false, true, true, true]) (qbt_ x1_1 st) (qbu_ x1_1 r)
def qbf_ (n : Nat) (x1_1 : Nat) (st : List R8 × Int) : Option ((List R8 × Int) ⊕ (List R8)) := match st with
 | (x1_0, x1_2) =>
  if x1_2 < ((x1_1 : Nat) : Int) then
   if 0 ≤ x1_2 ∧ x1_2 < ((x1_1 : Nat) : Int) then
    if (x1_2).toNat < (x1_0).length then
     ((some ((x1_0).getD (x1_2).toNat (0, 0, 0, 0, 0, 0, nl0, 0)))).bind fun y1_4_ =>
     some (.inl (((x1_0).set (x1_2).toNat ((y1_4_.1), (y1_4_.2.1), (y1_4_.2.2.1), (y1_4_.2.2.2.1), (y1_4_.2.2.2.2.1), (y1_4_.2.2.2.2.2.1), (y1_4_.2.2.2.2.2.2.1), (0 : Int))), (w64 (x1_2 + (1 : Int)))))
    else none
   else none
  else
   some (.inr x1_0)
def qeo_ (n : Nat) (x1_1 : Nat) (st : List R8 × Int) : Option (List R8) := iterM (qbf_ n x1_1) n st
theorem qhi_ (n : Nat) {rnd : Option Nat} (x1_1 : Nat) (st : List R8 × Int) (o : (List R8 × Int) ⊕ (List R8)) (h : qbf_ n x1_1 st = some o) : CG P rnd (fnN P 25) 0 (codeOf P 25 [false, false, true, false, true, true, true]) (qbt_ x1_1 st) (Sum.elim (fun s => (.normal, qbt_ x1_1 s)) (fun r => qbu_ x1_1 r) o) := by
 obtain ⟨x1_0, x1_2⟩ := st
 unfold qbf_ at h
 dsimp only at h
 by_cases hy1_1 : x1_2 < ((x1_1 : Nat) : Int)
 ·rw [if_pos hy1_1] at h
  obtain ⟨hy1_2, h⟩ := gd h
  obtain ⟨hy1_3, h⟩ := gd h
  obtain ⟨y1_4_, hy1_4, h⟩ := oB h
  obtain rfl := oI h
  exact runC2 hm ⟨[3, 4], [(0, 0, true)], 1, 0, [], false, [], [], []⟩ (zz 5 (xdT hy1_1) <|
   zz 11 (xk13 0 U8 hy1_2) <|
   yy 13 (.sto (layT (rows rw_iiiiiiLu ((x1_0).set (x1_2).toNat ((y1_4_.1), (y1_4_.2.1), (y1_4_.2.2.1), (y1_4_.2.2.2.1), (y1_4_.2.2.2.2.1), (y1_4_.2.2.2.2.2.1), (y1_4_.2.2.2.2.2.2.1), (0 : Int)))))) <|
   ww (p := ∃ old, rdT (layT (rows rw_iiiiiiLu x1_0)) 1 (Nat.add ((x1_2).toNat * 8) 7) = some old) (Exists.elim (rows_stN rwf_iiiiiiLu (0, 0, 0, 0, 0, 0, nl0, 0) (hr := hy1_4) (i := (x1_2).toNat) (j := 7) (l := [(Value.int .u64 (0 : Int))]) ((y1_4_.1), (y1_4_.2.1), (y1_4_.2.2.1), (y1_4_.2.2.2.1), (y1_4_.2.2.2.2.1), (y1_4_.2.2.2.2.2.1), (y1_4_.2.2.2.2.2.2.1), (0 : Int)) (Nat.add ((x1_2).toNat * 8) 7) rfl (hy1_3) (Nat.le_of_ble_eq_true rfl) rfl) fun o h => ⟨o, h.1⟩) <|
   ww (p := layL [(Value.int .u64 (0 : Int))] (Nat.add ((x1_2).toNat * 8) 7) (layT (rows rw_iiiiiiLu x1_0)) = layT (rows rw_iiiiiiLu ((x1_0).set (x1_2).toNat ((y1_4_.1), (y1_4_.2.1), (y1_4_.2.2.1), (y1_4_.2.2.2.1), (y1_4_.2.2.2.2.1), (y1_4_.2.2.2.2.2.1), (y1_4_.2.2.2.2.2.2.1), (0 : Int))))) (Exists.elim (rows_stN rwf_iiiiiiLu (0, 0, 0, 0, 0, 0, nl0, 0) (hr := hy1_4) (i := (x1_2).toNat) (j := 7) (l := [(Value.int .u64 (0 : Int))]) ((y1_4_.1), (y1_4_.2.1), (y1_4_.2.2.1), (y1_4_.2.2.2.1), (y1_4_.2.2.2.2.1), (y1_4_.2.2.2.2.2.1), (y1_4_.2.2.2.2.2.2.1), (0 : Int)) (Nat.add ((x1_2).toNat * 8) 7) rfl (hy1_3) (Nat.le_of_ble_eq_true rfl) rfl) fun o h => h.2) <|
   ww (rows_flat rwf_iiiiiiLu ((x1_0).set (x1_2).toNat ((y1_4_.1), (y1_4_.2.1), (y1_4_.2.2.1), (y1_4_.2.2.2.1), (y1_4_.2.2.2.2.1), (y1_4_.2.2.2.2.2.1), (y1_4_.2.2.2.2.2.2.1), (0 : Int))) 49) <|
   ee) (by kernel_rfl)
 ·rw [if_neg hy1_1] at h
  obtain rfl := oI h
  exact runC2 hm ⟨[3], [(0, 0, true)], 1, 0, [], false, [], [], []⟩ (zz 5 (xdF hy1_1) <|
   ww (rows_flat rwf_iiiiiiLu x1_0 49) <|
   ee) (by kernel_rfl)
theorem qjt_ (n : Nat) {rnd : Option Nat} (x1_1 : Nat) (st : List R8 × Int) (r : List R8) (h : qeo_ n x1_1 st = some r) : CG P rnd (fnN P 25) 0 (codeOf P 25 [false, true, false, true, true, true]) (qbt_ x1_1 st) (qbu_ x1_1 r) :=
 CG.iter (b := codeOf P 25 [false, false, true, false, true, true, true]) (by kernel_rfl) (body := qbf_ n x1_1) (S := qbt_ x1_1) (X := qbu_ x1_1)
  (fun s s' h => qhi_ n x1_1 s (.inl s') h)
  (fun s r h => qhi_ n x1_1 s (.inr r) h)
  (fun r => by intro hx; cases hx) h
def qbr_ (n : Nat) (a0 : WL rw_iiiiiiLu) : Option (WL rw_iiiiiiLu) :=
 (ql_ n a0).bind fun c1_ =>
 if c1_ = (0 : Int) then
  (qc6_ n a0).bind fun c3_ =>
  (qeo_ n ((c3_).length) (c3_, 0)).bind fun c4_ =>
  if ((c3_).length) = c4_.length then
   if hc6 : c4_.length ≤ 9223372036854775807 then
    some (frzR qm_ c4_ hc6)
   else none
  else none
 else
  some (wl0 : WL rw_iiiiiiLu)
theorem qeg_ (n : Nat) (a0 : WL rw_iiiiiiLu) (r : WL rw_iiiiiiLu) (h : qbr_ n a0 = some r) : Gv P (.func 25) (qf1_ a0) (qf2_ a0) (qf3_ a0 r) (qd2_ a0 r) := by
 unfold qbr_ at h
 obtain ⟨c1_, hc1, h⟩ := oB h
 have k0 := fun {A L l} (k : PL A L l) => yy 5 (.call (qdx_ a0 c1_ [] [])) <|
  ww (qc3_ n a0 c1_ hc1) <|
  k
 by_cases hc2 : c1_ = (0 : Int)
 ·rw [if_pos hc2] at h
  obtain ⟨c3_, hc3, h⟩ := oB h
  obtain ⟨c4_, hc4, h⟩ := oB h
  obtain ⟨hc5, h⟩ := gd h
  obtain ⟨hc6, h⟩ := gdD h
  obtain rfl := oI h
  have k0_ : Gv P (.func 25) (qf1_ a0) (qf2_ a0) (Value.slice (some ⟨Nat.add (2 * codL (rows rw_iiiiiiLu c4_) + 1) 64, 0, some 1⟩) ((c3_).length) (Nat.add big ((c3_).length))) (qd2_ a0 (frzR qm_ c4_ hc6)) := runF2 hm ⟨[2], [], 0, 0, [(0, Nat.add (2 * codL (rows rw_iiiiiiLu c4_) + 1) 64)], true, [], [], []⟩ (k0 <|
  zz 6 (xnF hc2) <|
  yy 10 (.call (qlm_ a0 c3_ [] [(0, 0, true)])) <|
  ww (qj8_ n a0 c3_ hc3) <|
  ww (rows_flat rwf_iiiiiiLu c3_ 49) <|
  ww (p := qkv_ none ((c3_).length) (c3_, 0) c4_) (qjt_ n ((c3_).length) (c3_, 0) c4_ hc4) <|
  ww (rows_flat rwf_iiiiiiLu c3_ 49) <|
  ll 16 ⟨⟨[3, 4], [(0, 0, true)], 1, 0, [], false, [], [], []⟩, (qbu_ ((c3_).length) c4_).1, (qbu_ ((c3_).length) c4_).2⟩ <|
  ww (frz_okR qbs_ qd1_ qm_ c4_) <|
  ee) (by kernel_rfl)
  have k1_ := gvLen (fn := fun m_ => (Value.slice (some ⟨Nat.add (2 * codL (rows rw_iiiiiiLu c4_) + 1) 64, 0, some 1⟩) m_ (Nat.add big m_))) hc5 k0_
  exact k1_
 ·rw [if_neg hc2] at h
  obtain rfl := oI h
  exact runF2 hm ⟨[2], [], 0, 0, [], true, [], [], [2]⟩ (k0 <|
   zz 6 (xnT hc2) <|
   ee) (by kernel_rfl)


end Go.Proofs.Ytofkckljnmphdaa.spb20
