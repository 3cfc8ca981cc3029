/-
  What functions do, told by pure functions. No condition.
-/
import Derived.Test.YtggbmhhikafdhaaTedLives
set_option linter.unusedSimpArgs false
set_option linter.unusedVariables false
set_option linter.unusedSectionVars false
set_option linter.unnecessarySimpa false
set_option maxRecDepth 100000
noncomputable section
namespace Go.Proofs.Ytggbmhhikafdhaa.ted16
open Go Go.Proofs.Ytggbmhhikafdhaa Ax
abbrev R8 [Nest] : Type := Int × Int × Int × Int × Int × Int × NL × Int
variable [Args]
def rw_b (x : Bool) : List Value := [Value.bool x]
theorem rwf_b : RowF rw_b 1 := ⟨fun _ => rfl, fun a v h => by
 simp only [rw_b, List.mem_cons, List.not_mem_nil, or_false] at h
 rcases h with rfl <;> rfl, fun _ => rfl⟩
def rw_iii (x : Int × Int × Int) : List Value := [Value.int .i64 (x.1), Value.int .i64 (x.2.1), Value.int .i64 (x.2.2)]
theorem rwf_iii : RowF rw_iii 3 := ⟨fun _ => rfl, fun a v h => by
 simp only [rw_iii, List.mem_cons, List.not_mem_nil, or_false] at h
 rcases h with rfl | rfl | rfl <;> rfl, fun _ => rfl⟩
abbrev xp1 (b n k : Nat) (i : Int) : Prop := IA P 22 (sW b 0 n k) i (pW b (i.toNat * 8))
theorem xk1 (b k : Nat) {n : Nat} {i : Int} (h : 0 ≤ i ∧ i < (n : Int)) : OB (.pur (pW b (i.toNat * 8))) (xp1 b n k i) := ⟨ixW (e := 32) (by kernel_rfl) (by kernel_rfl) h.1 h.2⟩
abbrev lp2 (i : Nat) (r : R8) : Prop := Lg P 32 (pW 0 (i * 8)) (Value.agg #[(i6 (r.1)), (i6 (r.2.1)), (i6 (r.2.2.1)), (i6 (r.2.2.2.1)), (i6 (r.2.2.2.2.1)), (i6 (r.2.2.2.2.2.1)), (nlV (r.2.2.2.2.2.2.1)), (Value.int .u64 (r.2.2.2.2.2.2.2))])
theorem lk2 {i : Nat} {r : Int × Int × Int × Int × Int × Int × NL × Int} (hr : some ((Args.A).getD i (0, 0, 0, 0, 0, 0, nl0, 0)) = some r) (h : i < (Args.A).length) : OB (.ld (Value.agg #[(i6 (r.1)), (i6 (r.2.1)), (i6 (r.2.2.1)), (i6 (r.2.2.2.1)), (i6 (r.2.2.2.2.1)), (i6 (r.2.2.2.2.2.1)), (nlV (r.2.2.2.2.2.2.1)), (Value.int .u64 (r.2.2.2.2.2.2.2))])) (lp2 i r) := by cases hr; exact ⟨ldWA rwf_iiiiiiLu (0, 0, 0, 0, 0, 0, nl0, 0) (i := i) (q := 0) (L := Args.A) (n := 8) (i * 8) rfl rfl (by kernel_rfl) (by kernel_rfl) h (by decide) rfl⟩
abbrev xp3 (b n k : Nat) (i : Int) : Prop := IA P 62 (sN b 0 n k) i (pN b (i.toNat * 3))
theorem xk3 (b k : Nat) {n : Nat} {i : Int} (h : 0 ≤ i ∧ i < (n : Int)) : OB (.pur (pN b (i.toNat * 3))) (xp3 b n k i) := ⟨ixS (e := 65) (by kernel_rfl) (by kernel_rfl) h.1 h.2⟩
abbrev op4 (L : List (Int × Int × Int)) (i : Nat) (r : Int × Int × Int) : Prop := (layT (rows rw_iii L)).get (Nat.add (i * 3) 0) = some (i6 (r.1))
theorem ok4 {L : List (Int × Int × Int)} {i : Nat} {r : Int × Int × Int} (hr : some (L.getD i (0, 0, 0)) = some r) (h : i < L.length) : OB (.ld (i6 (r.1))) (op4 L i r) := by cases hr; exact ⟨rows_ld rwf_iii (0, 0, 0) (i := i) (j := 0) (Nat.add (i * 3) 0) rfl h (by decide) rfl⟩
abbrev op5 (L : List (Int × Int × Int)) (i : Nat) (r : Int × Int × Int) : Prop := (layT (rows rw_iii L)).get (Nat.add (i * 3) 1) = some (i6 (r.2.1))
theorem ok5 {L : List (Int × Int × Int)} {i : Nat} {r : Int × Int × Int} (hr : some (L.getD i (0, 0, 0)) = some r) (h : i < L.length) : OB (.ld (i6 (r.2.1))) (op5 L i r) := by cases hr; exact ⟨rows_ld rwf_iii (0, 0, 0) (i := i) (j := 1) (Nat.add (i * 3) 1) rfl h (by decide) rfl⟩
abbrev xp6 (b n k : Nat) (i : Int) : Prop := IA P 29 (sW b 0 n k) i (pW b i.toNat)
theorem xk6 (b k : Nat) {n : Nat} {i : Int} (h : 0 ≤ i ∧ i < (n : Int)) : OB (.pur (pW b i.toNat)) (xp6 b n k i) := ⟨ixW1 (e := 3) (by kernel_rfl) (by kernel_rfl) h⟩
theorem nk7 {x : NL} {i : Nat} {v : Int} (hv : some (x.l.getD i 0) = some v) (h : i < x.l.length) : OB (.ld (i6 v)) (Lg P 3 (pW (Nat.add x.num 64) i) (i6 v)) := by cases hv; exact ⟨ldN x (by kernel_rfl) h⟩
abbrev op8 (L : List (Int × Int × Int)) (i : Nat) (r : Int × Int × Int) : Prop := (layT (rows rw_iii L)).get (Nat.add (i * 3) 2) = some (i6 (r.2.2))
theorem ok8 {L : List (Int × Int × Int)} {i : Nat} {r : Int × Int × Int} (hr : some (L.getD i (0, 0, 0)) = some r) (h : i < L.length) : OB (.ld (i6 (r.2.2))) (op8 L i r) := by cases hr; exact ⟨rows_ld rwf_iii (0, 0, 0) (i := i) (j := 2) (Nat.add (i * 3) 2) rfl h (by decide) rfl⟩
theorem snoc_cons {α : Type} (l : List α) (x : α) : ∃ a t, l ++ [x] = a :: t := by
 cases l with
 | nil => exact ⟨_, _, rfl⟩
 | cons a t => exact ⟨_, _, rfl⟩
theorem set_cons {α : Type} {x v : α} {l : List α} {n : Nat} : ∃ a t, (x :: l).set n v = a :: t := by cases n <;> exact ⟨_, _, rfl⟩
abbrev fp9 (o : Nat) : Prop := FA P 32 (pW 0 o) 1 (pW 0 (Nat.add o 1))
theorem fk9 (o : Nat) : OB (.pur (pW 0 (Nat.add o 1))) (fp9 o) := ⟨by unfold fp9 FA; kernel_rfl⟩
abbrev lp10 (i : Nat) (r : R8) : Prop := Lg P 3 (pW 0 (Nat.add (i * 8) 1)) (i6 (r.2.1))
theorem lk10 {i : Nat} {r : Int × Int × Int × Int × Int × Int × NL × Int} (hr : some ((Args.A).getD i (0, 0, 0, 0, 0, 0, nl0, 0)) = some r) (h : i < (Args.A).length) : OB (.ld (i6 (r.2.1))) (lp10 i r) := by cases hr; exact ⟨ldWS rwf_iiiiiiLu (0, 0, 0, 0, 0, 0, nl0, 0) (i := i) (q := 1) (L := Args.A) (Nat.add (i * 8) 1) rfl rfl (by kernel_rfl) h (by decide) rfl⟩
abbrev fp11 (o : Nat) : Prop := FA P 32 (pW 0 o) 2 (pW 0 (Nat.add o 2))
theorem fk11 (o : Nat) : OB (.pur (pW 0 (Nat.add o 2))) (fp11 o) := ⟨by unfold fp11 FA; kernel_rfl⟩
abbrev lp12 (i : Nat) (r : R8) : Prop := Lg P 3 (pW 0 (Nat.add (i * 8) 2)) (i6 (r.2.2.1))
theorem lk12 {i : Nat} {r : Int × Int × Int × Int × Int × Int × NL × Int} (hr : some ((Args.A).getD i (0, 0, 0, 0, 0, 0, nl0, 0)) = some r) (h : i < (Args.A).length) : OB (.ld (i6 (r.2.2.1))) (lp12 i r) := by cases hr; exact ⟨ldWS rwf_iiiiiiLu (0, 0, 0, 0, 0, 0, nl0, 0) (i := i) (q := 2) (L := Args.A) (Nat.add (i * 8) 2) rfl rfl (by kernel_rfl) h (by decide) rfl⟩
abbrev fp13 (o : Nat) : Prop := FA P 32 (pW 0 o) 5 (pW 0 (Nat.add o 5))
theorem fk13 (o : Nat) : OB (.pur (pW 0 (Nat.add o 5))) (fp13 o) := ⟨by unfold fp13 FA; kernel_rfl⟩
abbrev lp14 (i : Nat) (r : R8) : Prop := Lg P 3 (pW 0 (Nat.add (i * 8) 5)) (i6 (r.2.2.2.2.2.1))
theorem lk14 {i : Nat} {r : Int × Int × Int × Int × Int × Int × NL × Int} (hr : some ((Args.A).getD i (0, 0, 0, 0, 0, 0, nl0, 0)) = some r) (h : i < (Args.A).length) : OB (.ld (i6 (r.2.2.2.2.2.1))) (lp14 i r) := by cases hr; exact ⟨ldWS rwf_iiiiiiLu (0, 0, 0, 0, 0, 0, nl0, 0) (i := i) (q := 5) (L := Args.A) (Nat.add (i * 8) 5) rfl rfl (by kernel_rfl) h (by decide) rfl⟩
abbrev fp15 (o : Nat) : Prop := FA P 32 (pW 0 o) 4 (pW 0 (Nat.add o 4))
theorem fk15 (o : Nat) : OB (.pur (pW 0 (Nat.add o 4))) (fp15 o) := ⟨by unfold fp15 FA; kernel_rfl⟩
abbrev lp16 (i : Nat) (r : R8) : Prop := Lg P 3 (pW 0 (Nat.add (i * 8) 4)) (i6 (r.2.2.2.2.1))
theorem lk16 {i : Nat} {r : Int × Int × Int × Int × Int × Int × NL × Int} (hr : some ((Args.A).getD i (0, 0, 0, 0, 0, 0, nl0, 0)) = some r) (h : i < (Args.A).length) : OB (.ld (i6 (r.2.2.2.2.1))) (lp16 i r) := by cases hr; exact ⟨ldWS rwf_iiiiiiLu (0, 0, 0, 0, 0, 0, nl0, 0) (i := i) (q := 4) (L := Args.A) (Nat.add (i * 8) 4) rfl rfl (by kernel_rfl) h (by decide) rfl⟩
abbrev xp17 (b n k : Nat) (i : Int) : Prop := IA P 29 (sN b 0 n k) i (pN b i.toNat)
theorem xk17 (b k : Nat) {n : Nat} {i : Int} (h : 0 ≤ i ∧ i < (n : Int)) : OB (.pur (pN b i.toNat)) (xp17 b n k i) := ⟨ixS1 (e := 3) (by kernel_rfl) (by kernel_rfl) h⟩
abbrev xp18 (b n k : Nat) (i : Int) : Prop := IA P 22 (sN b 0 n k) i (pN b (i.toNat * 8))
theorem xk18 (b k : Nat) {n : Nat} {i : Int} (h : 0 ≤ i ∧ i < (n : Int)) : OB (.pur (pN b (i.toNat * 8))) (xp18 b n k i) := ⟨ixS (e := 32) (by kernel_rfl) (by kernel_rfl) h.1 h.2⟩
abbrev op19 (L : List R8) (i : Nat) (r : R8) : Prop := (layT (rows rw_iiiiiiLu L)).get (Nat.add (i * 8) 4) = some (i6 (r.2.2.2.2.1))
theorem ok19 {L : List R8} {i : Nat} {r : Int × Int × Int × Int × Int × Int × NL × Int} (hr : some (L.getD i (0, 0, 0, 0, 0, 0, nl0, 0)) = some r) (h : i < L.length) : OB (.ld (i6 (r.2.2.2.2.1))) (op19 L i r) := by cases hr; exact ⟨rows_ld rwf_iiiiiiLu (0, 0, 0, 0, 0, 0, nl0, 0) (i := i) (j := 4) (Nat.add (i * 8) 4) rfl h (by decide) rfl⟩
abbrev op20 (L : List R8) (i : Nat) (r : R8) : Prop := (layT (rows rw_iiiiiiLu L)).get (Nat.add (i * 8) 2) = some (i6 (r.2.2.1))
theorem ok20 {L : List R8} {i : Nat} {r : Int × Int × Int × Int × Int × Int × NL × Int} (hr : some (L.getD i (0, 0, 0, 0, 0, 0, nl0, 0)) = some r) (h : i < L.length) : OB (.ld (i6 (r.2.2.1))) (op20 L i r) := by cases hr; exact ⟨rows_ld rwf_iiiiiiLu (0, 0, 0, 0, 0, 0, nl0, 0) (i := i) (j := 2) (Nat.add (i * 8) 2) rfl h (by decide) rfl⟩
abbrev xp21 (b n k : Nat) (i : Int) : Prop := IA P 37 (sN b 0 n k) i (pN b (i.toNat * 1))
theorem xk21 (b k : Nat) {n : Nat} {i : Int} (h : 0 ≤ i ∧ i < (n : Int)) : OB (.pur (pN b (i.toNat * 1))) (xp21 b n k i) := ⟨ixS (e := 4) (by kernel_rfl) (by kernel_rfl) h.1 h.2⟩
abbrev op22 (L : List (Bool)) (i : Nat) (r : Bool) : Prop := (layT (rows rw_b L)).get (i * 1) = some (bO r)
theorem ok22 {L : List (Bool)} {i : Nat} {r : Bool} (hr : some (L.getD i (false)) = some r) (h : i < L.length) : OB (.ld (bO r)) (op22 L i r) := by cases hr; exact ⟨rows_ld rwf_b (false) (i := i) (j := 0) (i * 1) rfl h (by decide) rfl⟩
abbrev op23 (L : List R8) (i : Nat) (r : R8) : Prop := (layT (rows rw_iiiiiiLu L)).get (Nat.add (i * 8) 7) = some (Value.int .u64 (r.2.2.2.2.2.2.2))
theorem ok23 {L : List R8} {i : Nat} {r : Int × Int × Int × Int × Int × Int × NL × Int} (hr : some (L.getD i (0, 0, 0, 0, 0, 0, nl0, 0)) = some r) (h : i < L.length) : OB (.ld (Value.int .u64 (r.2.2.2.2.2.2.2))) (op23 L i r) := by cases hr; exact ⟨rows_ld rwf_iiiiiiLu (0, 0, 0, 0, 0, 0, nl0, 0) (i := i) (j := 7) (Nat.add (i * 8) 7) rfl h (by decide) rfl⟩

def m_viewportlaw16lives (n : Nat) : Option Unit := some ()
theorem m_viewportlaw16lives_ok (n : Nat) (r : Unit) (h : m_viewportlaw16lives n = some r) : Gv P (.func 4) [] Ax.h0 (.bool true) Ax.h0 := lives_gv

def A_LPq1 (a0 : Int) : List Value := [(sW 0 0 (Args.A).length Args.cA), (i6 a0)]
def H_LPq1 (a0 : Int) : AH := ⟨sB [], 0, 0⟩
def V_LPq1 (a0 : Int) (r : Bool) : Value := match r with
 | o0 => (bO o0)
def R_LPq1 (a0 : Int) (r : Bool) : AH := match r with
 | o0 => ⟨sB [], 0, 0⟩
abbrev G_LPq1 (a0 : Int) (r : Bool) : Prop := Gv P (.func 16) (A_LPq1 a0) (H_LPq1 a0) (V_LPq1 a0 r) (R_LPq1 a0 r)
abbrev C_LPq1 (a0 : Int) (r : Bool) (ins outs : BL) : CallA := ⟨0, ins, V_LPq1 a0 r, R_LPq1 a0 r, outs⟩
def S_LPq1_1 (x1_0 : Int) (st : Int × Int) : XSt := match st with
 | (x1_1, x1_2) => (sT 66 [(0, (sW 0 0 (Args.A).length Args.cA)), (1, (i6 x1_0)), (5, (i6 x1_1)), (6, (i6 x1_2))], [], ⟨sB [], 0, 0⟩)
def X_LPq1_1 (x1_0 : Int) (r : (Unit) ⊕ (Int)) : Ex × XSt := match r with
 | .inl _ => (.ret, (sT 66 [(4, (bO false))], [], ⟨sB [], 0, 0⟩))
 | .inr z1_0 => (.exit 0, (sT 66 [(0, (sW 0 0 (Args.A).length Args.cA)), (1, (i6 x1_0)), (5, (i6 z1_0))], [], ⟨sB [], 0, 0⟩))
abbrev Q_LPq1_1 (rnd : Option Nat) (x1_0 : Int) (st : Int × Int) (c : Ex × XSt) : Prop := CG P rnd (fnN P 16) 0 (codeOf P 16 [false, false, true, false, true, true]) (S_LPq1_1 x1_0 st) c
abbrev U_LPq1_1 (rd : Option Nat) (x1_0 : Int) (st : Int × Int) (r : (Unit) ⊕ (Int)) : Prop := CG P rd (fnN P 16) 0 (codeOf P 16 [false, true, false, true, true]) (S_LPq1_1 x1_0 st) (X_LPq1_1 x1_0 r)
def B_LPq1_1 (n : Nat) (x1_0 : Int) (st : Int × Int) : Option ((Int × Int) ⊕ ((Unit) ⊕ (Int))) := match st with
 | (x1_1, x1_2) =>
  if x1_2 < (Args.A.length : Int) then
   if x1_2 ≤ x1_0 then
    if 0 ≤ x1_2 ∧ x1_2 < (Args.A.length : Int) then
     ((some ((Args.A).getD (x1_2).toNat (0, 0, 0, 0, 0, 0, nl0, 0)))).bind fun y1_4_ =>
     ((some (w64 (x1_1 + (y1_4_.2.2.2.2.2.2.1.l.length : Int))))).bind fun y1_5_ =>
     if (y1_4_.2.2.1) > (1048576 : Int) then
      some (.inr (.inl ()))
     else
      if (y1_4_.2.2.2.2.1) > (1048576 : Int) then
       some (.inr (.inl ()))
      else
       if (y1_4_.2.2.2.2.2.1) > (1048576 : Int) then
        some (.inr (.inl ()))
       else
        if (y1_4_.2.2.1) < (-1048576 : Int) then
         some (.inr (.inl ()))
        else
         if (y1_4_.2.2.2.2.1) < (-1048576 : Int) then
          some (.inr (.inl ()))
         else
          if (y1_4_.2.2.2.2.2.1) < (-1048576 : Int) then
           some (.inr (.inl ()))
          else
           some (.inl (y1_5_, (w64 (x1_2 + (1 : Int)))))
    else none
   else
    some (.inr (.inr x1_1))
  else
   some (.inr (.inr x1_1))
def m_LPq1_1 (n : Nat) (x1_0 : Int) (st : Int × Int) : Option ((Unit) ⊕ (Int)) := iterM (B_LPq1_1 n x1_0) n st
theorem q_LPq1_1_0 (n : Nat) {rnd : Option Nat} (x1_0 x1_1 x1_2 : Int) (hy1_1 : x1_2 < (Args.A.length : Int)) (hy1_2 : x1_2 ≤ x1_0) (hy1_3 : 0 ≤ x1_2 ∧ x1_2 < (Args.A.length : Int)) (y1_4_ : R8) (hy1_4 : (some ((Args.A).getD (x1_2).toNat (0, 0, 0, 0, 0, 0, nl0, 0))) = some y1_4_) (y1_5_ : Int) (hy1_5 : (some (w64 (x1_1 + (y1_4_.2.2.2.2.2.2.1.l.length : Int)))) = some y1_5_) (hy1_6 : (y1_4_.2.2.1) > (1048576 : Int)) : Q_LPq1_1 rnd x1_0 (x1_1, x1_2) (X_LPq1_1 x1_0 (.inl ())) :=
 runC2 hm (L := lT []) ⟨[4], [], 0, 0, [], false, []⟩ (zz 5 (xdT hy1_1) <|
zz 9 (xdT hy1_2) <|
zz 17 (xk1 0 Args.cA hy1_3) <|
zz 18 (lk2 hy1_4 (toNatLt hy1_3)) <|
zz 26 (xnm hy1_5) <|
zz 31 (xdT hy1_6) <|
ee) (by kernel_rfl)
theorem q_LPq1_1_1 (n : Nat) {rnd : Option Nat} (x1_0 x1_1 x1_2 : Int) (hy1_1 : x1_2 < (Args.A.length : Int)) (hy1_2 : x1_2 ≤ x1_0) (hy1_3 : 0 ≤ x1_2 ∧ x1_2 < (Args.A.length : Int)) (y1_4_ : R8) (hy1_4 : (some ((Args.A).getD (x1_2).toNat (0, 0, 0, 0, 0, 0, nl0, 0))) = some y1_4_) (y1_5_ : Int) (hy1_5 : (some (w64 (x1_1 + (y1_4_.2.2.2.2.2.2.1.l.length : Int)))) = some y1_5_) (hy1_6 : ¬ ((y1_4_.2.2.1) > (1048576 : Int))) (hy1_7 : (y1_4_.2.2.2.2.1) > (1048576 : Int)) : Q_LPq1_1 rnd x1_0 (x1_1, x1_2) (X_LPq1_1 x1_0 (.inl ())) :=
 runC2 hm (L := lT []) ⟨[4], [], 0, 0, [], false, []⟩ (zz 5 (xdT hy1_1) <|
zz 9 (xdT hy1_2) <|
zz 17 (xk1 0 Args.cA hy1_3) <|
zz 18 (lk2 hy1_4 (toNatLt hy1_3)) <|
zz 26 (xnm hy1_5) <|
zz 31 (xdF hy1_6) <|
zz 35 (xdT hy1_7) <|
ee) (by kernel_rfl)
theorem q_LPq1_1_2 (n : Nat) {rnd : Option Nat} (x1_0 x1_1 x1_2 : Int) (hy1_1 : x1_2 < (Args.A.length : Int)) (hy1_2 : x1_2 ≤ x1_0) (hy1_3 : 0 ≤ x1_2 ∧ x1_2 < (Args.A.length : Int)) (y1_4_ : R8) (hy1_4 : (some ((Args.A).getD (x1_2).toNat (0, 0, 0, 0, 0, 0, nl0, 0))) = some y1_4_) (y1_5_ : Int) (hy1_5 : (some (w64 (x1_1 + (y1_4_.2.2.2.2.2.2.1.l.length : Int)))) = some y1_5_) (hy1_6 : ¬ ((y1_4_.2.2.1) > (1048576 : Int))) (hy1_7 : ¬ ((y1_4_.2.2.2.2.1) > (1048576 : Int))) (hy1_8 : (y1_4_.2.2.2.2.2.1) > (1048576 : Int)) : Q_LPq1_1 rnd x1_0 (x1_1, x1_2) (X_LPq1_1 x1_0 (.inl ())) :=
 runC2 hm (L := lT []) ⟨[4], [], 0, 0, [], false, []⟩ (zz 5 (xdT hy1_1) <|
zz 9 (xdT hy1_2) <|
zz 17 (xk1 0 Args.cA hy1_3) <|
zz 18 (lk2 hy1_4 (toNatLt hy1_3)) <|
zz 26 (xnm hy1_5) <|
zz 31 (xdF hy1_6) <|
zz 35 (xdF hy1_7) <|
zz 40 (xdT hy1_8) <|
ee) (by kernel_rfl)
theorem q_LPq1_1_3 (n : Nat) {rnd : Option Nat} (x1_0 x1_1 x1_2 : Int) (hy1_1 : x1_2 < (Args.A.length : Int)) (hy1_2 : x1_2 ≤ x1_0) (hy1_3 : 0 ≤ x1_2 ∧ x1_2 < (Args.A.length : Int)) (y1_4_ : R8) (hy1_4 : (some ((Args.A).getD (x1_2).toNat (0, 0, 0, 0, 0, 0, nl0, 0))) = some y1_4_) (y1_5_ : Int) (hy1_5 : (some (w64 (x1_1 + (y1_4_.2.2.2.2.2.2.1.l.length : Int)))) = some y1_5_) (hy1_6 : ¬ ((y1_4_.2.2.1) > (1048576 : Int))) (hy1_7 : ¬ ((y1_4_.2.2.2.2.1) > (1048576 : Int))) (hy1_8 : ¬ ((y1_4_.2.2.2.2.2.1) > (1048576 : Int))) (hy1_9 : (y1_4_.2.2.1) < (-1048576 : Int)) : Q_LPq1_1 rnd x1_0 (x1_1, x1_2) (X_LPq1_1 x1_0 (.inl ())) :=
 runC2 hm (L := lT []) ⟨[4], [], 0, 0, [], false, []⟩ (zz 5 (xdT hy1_1) <|
zz 9 (xdT hy1_2) <|
zz 17 (xk1 0 Args.cA hy1_3) <|
zz 18 (lk2 hy1_4 (toNatLt hy1_3)) <|
zz 26 (xnm hy1_5) <|
zz 31 (xdF hy1_6) <|
zz 35 (xdF hy1_7) <|
zz 40 (xdF hy1_8) <|
zz 45 (xdT hy1_9) <|
ee) (by kernel_rfl)
theorem q_LPq1_1_4 (n : Nat) {rnd : Option Nat} (x1_0 x1_1 x1_2 : Int) (hy1_1 : x1_2 < (Args.A.length : Int)) (hy1_2 : x1_2 ≤ x1_0) (hy1_3 : 0 ≤ x1_2 ∧ x1_2 < (Args.A.length : Int)) (y1_4_ : R8) (hy1_4 : (some ((Args.A).getD (x1_2).toNat (0, 0, 0, 0, 0, 0, nl0, 0))) = some y1_4_) (y1_5_ : Int) (hy1_5 : (some (w64 (x1_1 + (y1_4_.2.2.2.2.2.2.1.l.length : Int)))) = some y1_5_) (hy1_6 : ¬ ((y1_4_.2.2.1) > (1048576 : Int))) (hy1_7 : ¬ ((y1_4_.2.2.2.2.1) > (1048576 : Int))) (hy1_8 : ¬ ((y1_4_.2.2.2.2.2.1) > (1048576 : Int))) (hy1_9 : ¬ ((y1_4_.2.2.1) < (-1048576 : Int))) (hy1_10 : (y1_4_.2.2.2.2.1) < (-1048576 : Int)) : Q_LPq1_1 rnd x1_0 (x1_1, x1_2) (X_LPq1_1 x1_0 (.inl ())) :=
 runC2 hm (L := lT []) ⟨[4], [], 0, 0, [], false, []⟩ (zz 5 (xdT hy1_1) <|
zz 9 (xdT hy1_2) <|
zz 17 (xk1 0 Args.cA hy1_3) <|
zz 18 (lk2 hy1_4 (toNatLt hy1_3)) <|
zz 26 (xnm hy1_5) <|
zz 31 (xdF hy1_6) <|
zz 35 (xdF hy1_7) <|
zz 40 (xdF hy1_8) <|
zz 45 (xdF hy1_9) <|
zz 50 (xdT hy1_10) <|
ee) (by kernel_rfl)
theorem q_LPq1_1_5 (n : Nat) {rnd : Option Nat} (x1_0 x1_1 x1_2 : Int) (hy1_1 : x1_2 < (Args.A.length : Int)) (hy1_2 : x1_2 ≤ x1_0) (hy1_3 : 0 ≤ x1_2 ∧ x1_2 < (Args.A.length : Int)) (y1_4_ : R8) (hy1_4 : (some ((Args.A).getD (x1_2).toNat (0, 0, 0, 0, 0, 0, nl0, 0))) = some y1_4_) (y1_5_ : Int) (hy1_5 : (some (w64 (x1_1 + (y1_4_.2.2.2.2.2.2.1.l.length : Int)))) = some y1_5_) (hy1_6 : ¬ ((y1_4_.2.2.1) > (1048576 : Int))) (hy1_7 : ¬ ((y1_4_.2.2.2.2.1) > (1048576 : Int))) (hy1_8 : ¬ ((y1_4_.2.2.2.2.2.1) > (1048576 : Int))) (hy1_9 : ¬ ((y1_4_.2.2.1) < (-1048576 : Int))) (hy1_10 : ¬ ((y1_4_.2.2.2.2.1) < (-1048576 : Int))) (hy1_11 : (y1_4_.2.2.2.2.2.1) < (-1048576 : Int)) : Q_LPq1_1 rnd x1_0 (x1_1, x1_2) (X_LPq1_1 x1_0 (.inl ())) :=
 runC2 hm (L := lT []) ⟨[4], [], 0, 0, [], false, []⟩ (zz 5 (xdT hy1_1) <|
zz 9 (xdT hy1_2) <|
zz 17 (xk1 0 Args.cA hy1_3) <|
zz 18 (lk2 hy1_4 (toNatLt hy1_3)) <|
zz 26 (xnm hy1_5) <|
zz 31 (xdF hy1_6) <|
zz 35 (xdF hy1_7) <|
zz 40 (xdF hy1_8) <|
zz 45 (xdF hy1_9) <|
zz 50 (xdF hy1_10) <|
zz 55 (xdT hy1_11) <|
ee) (by kernel_rfl)
theorem q_LPq1_1_6 (n : Nat) {rnd : Option Nat} (x1_0 x1_1 x1_2 : Int) (hy1_1 : x1_2 < (Args.A.length : Int)) (hy1_2 : x1_2 ≤ x1_0) (hy1_3 : 0 ≤ x1_2 ∧ x1_2 < (Args.A.length : Int)) (y1_4_ : R8) (hy1_4 : (some ((Args.A).getD (x1_2).toNat (0, 0, 0, 0, 0, 0, nl0, 0))) = some y1_4_) (y1_5_ : Int) (hy1_5 : (some (w64 (x1_1 + (y1_4_.2.2.2.2.2.2.1.l.length : Int)))) = some y1_5_) (hy1_6 : ¬ ((y1_4_.2.2.1) > (1048576 : Int))) (hy1_7 : ¬ ((y1_4_.2.2.2.2.1) > (1048576 : Int))) (hy1_8 : ¬ ((y1_4_.2.2.2.2.2.1) > (1048576 : Int))) (hy1_9 : ¬ ((y1_4_.2.2.1) < (-1048576 : Int))) (hy1_10 : ¬ ((y1_4_.2.2.2.2.1) < (-1048576 : Int))) (hy1_11 : ¬ ((y1_4_.2.2.2.2.2.1) < (-1048576 : Int))) : Q_LPq1_1 rnd x1_0 (x1_1, x1_2) (.normal, S_LPq1_1 x1_0 (y1_5_, (w64 (x1_2 + (1 : Int))))) :=
 runC2 hm (L := lT []) ⟨[0, 1, 5, 6], [], 0, 0, [], false, []⟩ (zz 5 (xdT hy1_1) <|
zz 9 (xdT hy1_2) <|
zz 17 (xk1 0 Args.cA hy1_3) <|
zz 18 (lk2 hy1_4 (toNatLt hy1_3)) <|
zz 26 (xnm hy1_5) <|
zz 31 (xdF hy1_6) <|
zz 35 (xdF hy1_7) <|
zz 40 (xdF hy1_8) <|
zz 45 (xdF hy1_9) <|
zz 50 (xdF hy1_10) <|
zz 55 (xdF hy1_11) <|
ee) (by kernel_rfl)
theorem q_LPq1_1_7 (n : Nat) {rnd : Option Nat} (x1_0 x1_1 x1_2 : Int) (hy1_1 : x1_2 < (Args.A.length : Int)) (hy1_2 : ¬ (x1_2 ≤ x1_0)) : Q_LPq1_1 rnd x1_0 (x1_1, x1_2) (X_LPq1_1 x1_0 (.inr x1_1)) :=
 runC2 hm (L := lT []) ⟨[0, 1, 5], [], 0, 0, [], false, []⟩ (zz 5 (xdT hy1_1) <|
zz 9 (xdF hy1_2) <|
ee) (by kernel_rfl)
theorem q_LPq1_1_8 (n : Nat) {rnd : Option Nat} (x1_0 x1_1 x1_2 : Int) (hy1_1 : ¬ (x1_2 < (Args.A.length : Int))) : Q_LPq1_1 rnd x1_0 (x1_1, x1_2) (X_LPq1_1 x1_0 (.inr x1_1)) :=
 runC2 hm (L := lT []) ⟨[0, 1, 5], [], 0, 0, [], false, []⟩ (zz 5 (xdF hy1_1) <|
ee) (by kernel_rfl)
theorem m_LPq1_1_ok (n : Nat) {rnd : Option Nat} (x1_0 : Int) (st : Int × Int) (r : (Unit) ⊕ (Int)) (h : m_LPq1_1 n x1_0 st = some r) : CG P rnd (fnN P 16) 0 (codeOf P 16 [false, true, false, true, true]) (S_LPq1_1 x1_0 st) (X_LPq1_1 x1_0 r) :=
 CG.iter (b := codeOf P 16 [false, false, true, false, true, true]) (by kernel_rfl) (body := B_LPq1_1 n x1_0) (S := S_LPq1_1 x1_0) (X := X_LPq1_1 x1_0)
  (fun s s' h => by
  obtain ⟨x1_1, x1_2⟩ := s
  unfold B_LPq1_1 at h
  dsimp only at h
  by_cases hy1_1 : x1_2 < (Args.A.length : Int)
  ·rw [if_pos hy1_1] at h
   by_cases hy1_2 : x1_2 ≤ x1_0
   ·rw [if_pos hy1_2] at h
    by_cases hy1_3 : 0 ≤ x1_2 ∧ x1_2 < (Args.A.length : Int)
    ·rw [if_pos hy1_3] at h
     obtain ⟨y1_4_, hy1_4, h⟩ := Option.bind_eq_some_iff.1 h
     obtain ⟨y1_5_, hy1_5, h⟩ := Option.bind_eq_some_iff.1 h
     by_cases hy1_6 : (y1_4_.2.2.1) > (1048576 : Int)
     ·rw [if_pos hy1_6] at h
      cases h
     ·rw [if_neg hy1_6] at h
      by_cases hy1_7 : (y1_4_.2.2.2.2.1) > (1048576 : Int)
      ·rw [if_pos hy1_7] at h
       cases h
      ·rw [if_neg hy1_7] at h
       by_cases hy1_8 : (y1_4_.2.2.2.2.2.1) > (1048576 : Int)
       ·rw [if_pos hy1_8] at h
        cases h
       ·rw [if_neg hy1_8] at h
        by_cases hy1_9 : (y1_4_.2.2.1) < (-1048576 : Int)
        ·rw [if_pos hy1_9] at h
         cases h
        ·rw [if_neg hy1_9] at h
         by_cases hy1_10 : (y1_4_.2.2.2.2.1) < (-1048576 : Int)
         ·rw [if_pos hy1_10] at h
          cases h
         ·rw [if_neg hy1_10] at h
          by_cases hy1_11 : (y1_4_.2.2.2.2.2.1) < (-1048576 : Int)
          ·rw [if_pos hy1_11] at h
           cases h
          ·rw [if_neg hy1_11] at h
           obtain rfl := Sum.inl.inj (oI h); exact q_LPq1_1_6 n x1_0 x1_1 x1_2 hy1_1 hy1_2 hy1_3 y1_4_ hy1_4 y1_5_ hy1_5 hy1_6 hy1_7 hy1_8 hy1_9 hy1_10 hy1_11
    ·rw [if_neg hy1_3] at h; cases h
   ·rw [if_neg hy1_2] at h
    cases h
  ·rw [if_neg hy1_1] at h
   cases h)
  (fun s r h => by
  obtain ⟨x1_1, x1_2⟩ := s
  unfold B_LPq1_1 at h
  dsimp only at h
  by_cases hy1_1 : x1_2 < (Args.A.length : Int)
  ·rw [if_pos hy1_1] at h
   by_cases hy1_2 : x1_2 ≤ x1_0
   ·rw [if_pos hy1_2] at h
    by_cases hy1_3 : 0 ≤ x1_2 ∧ x1_2 < (Args.A.length : Int)
    ·rw [if_pos hy1_3] at h
     obtain ⟨y1_4_, hy1_4, h⟩ := Option.bind_eq_some_iff.1 h
     obtain ⟨y1_5_, hy1_5, h⟩ := Option.bind_eq_some_iff.1 h
     by_cases hy1_6 : (y1_4_.2.2.1) > (1048576 : Int)
     ·rw [if_pos hy1_6] at h
      obtain rfl := Sum.inr.inj (oI h); exact q_LPq1_1_0 n x1_0 x1_1 x1_2 hy1_1 hy1_2 hy1_3 y1_4_ hy1_4 y1_5_ hy1_5 hy1_6
     ·rw [if_neg hy1_6] at h
      by_cases hy1_7 : (y1_4_.2.2.2.2.1) > (1048576 : Int)
      ·rw [if_pos hy1_7] at h
       obtain rfl := Sum.inr.inj (oI h); exact q_LPq1_1_1 n x1_0 x1_1 x1_2 hy1_1 hy1_2 hy1_3 y1_4_ hy1_4 y1_5_ hy1_5 hy1_6 hy1_7
      ·rw [if_neg hy1_7] at h
       by_cases hy1_8 : (y1_4_.2.2.2.2.2.1) > (1048576 : Int)
       ·rw [if_pos hy1_8] at h
        obtain rfl := Sum.inr.inj (oI h); exact q_LPq1_1_2 n x1_0 x1_1 x1_2 hy1_1 hy1_2 hy1_3 y1_4_ hy1_4 y1_5_ hy1_5 hy1_6 hy1_7 hy1_8
       ·rw [if_neg hy1_8] at h
        by_cases hy1_9 : (y1_4_.2.2.1) < (-1048576 : Int)
        ·rw [if_pos hy1_9] at h
         obtain rfl := Sum.inr.inj (oI h); exact q_LPq1_1_3 n x1_0 x1_1 x1_2 hy1_1 hy1_2 hy1_3 y1_4_ hy1_4 y1_5_ hy1_5 hy1_6 hy1_7 hy1_8 hy1_9
        ·rw [if_neg hy1_9] at h
         by_cases hy1_10 : (y1_4_.2.2.2.2.1) < (-1048576 : Int)
         ·rw [if_pos hy1_10] at h
          obtain rfl := Sum.inr.inj (oI h); exact q_LPq1_1_4 n x1_0 x1_1 x1_2 hy1_1 hy1_2 hy1_3 y1_4_ hy1_4 y1_5_ hy1_5 hy1_6 hy1_7 hy1_8 hy1_9 hy1_10
         ·rw [if_neg hy1_10] at h
          by_cases hy1_11 : (y1_4_.2.2.2.2.2.1) < (-1048576 : Int)
          ·rw [if_pos hy1_11] at h
           obtain rfl := Sum.inr.inj (oI h); exact q_LPq1_1_5 n x1_0 x1_1 x1_2 hy1_1 hy1_2 hy1_3 y1_4_ hy1_4 y1_5_ hy1_5 hy1_6 hy1_7 hy1_8 hy1_9 hy1_10 hy1_11
          ·rw [if_neg hy1_11] at h
           cases h
    ·rw [if_neg hy1_3] at h; cases h
   ·rw [if_neg hy1_2] at h
    obtain rfl := Sum.inr.inj (oI h); exact q_LPq1_1_7 n x1_0 x1_1 x1_2 hy1_1 hy1_2
  ·rw [if_neg hy1_1] at h
   obtain rfl := Sum.inr.inj (oI h); exact q_LPq1_1_8 n x1_0 x1_1 x1_2 hy1_1)
  (fun r => by intro hx; rcases r with _ | _ <;> cases hx) h
def m_LPq1 (n : Nat) (a0 : Int) : Option (Bool) :=
 match m_LPq1_1 n a0 (0, 0) with
 | none => none
 | some (.inl _) =>
  some false
 | some (.inr c1_) =>
  if (Args.A.length : Int) ≤ a0 then
   if c1_ ≤ (w64 ((2 : Int) * a0)) then
    some true
   else
    some false
  else
   some false
theorem m_LPq1_ok (n : Nat) (a0 : Int) (r : Bool) (h : m_LPq1 n a0 = some r) : Gv P (.func 16) (A_LPq1 a0) (H_LPq1 a0) (V_LPq1 a0 r) (R_LPq1 a0 r) := by
 unfold m_LPq1 at h
 rcases hc1 : m_LPq1_1 n a0 (0, 0) with _ | (⟨⟩ | c1_)
 ·rw [hc1] at h; cases h
 ·rw [hc1] at h
  dsimp only at h
  obtain rfl := oI h; exact (runF2 hm (L := lT [(8, ⟨⟨[0, 1, 5, 6], [], 0, 0, [], false, []⟩, (X_LPq1_1 a0 (.inl ())).1, (X_LPq1_1 a0 (.inl ())).2⟩)]) ⟨[4], [], 0, 0, [], false, []⟩ (ww (p := U_LPq1_1 none a0 (0, 0) (.inl ())) (m_LPq1_1_ok n a0 (0, 0) (.inl ()) hc1) ee) (by kernel_rfl))
 ·rw [hc1] at h
  dsimp only at h
  by_cases hc2 : (Args.A.length : Int) ≤ a0
  ·rw [if_pos hc2] at h
   by_cases hc3 : c1_ ≤ (w64 ((2 : Int) * a0))
   ·rw [if_pos hc3] at h
    obtain rfl := oI h; exact (runF2 hm (L := lT [(8, ⟨⟨[0, 1, 5, 6], [], 0, 0, [], false, []⟩, (X_LPq1_1 a0 (.inr c1_)).1, (X_LPq1_1 a0 (.inr c1_)).2⟩)]) ⟨[4], [], 0, 0, [], false, []⟩ (ww (p := U_LPq1_1 none a0 (0, 0) (.inr c1_)) (m_LPq1_1_ok n a0 (0, 0) (.inr c1_) hc1) <|
zz 13 (xdT hc2) <|
zz 18 (xdT hc3) ee) (by kernel_rfl))
   ·rw [if_neg hc3] at h
    obtain rfl := oI h; exact (runF2 hm (L := lT [(8, ⟨⟨[0, 1, 5, 6], [], 0, 0, [], false, []⟩, (X_LPq1_1 a0 (.inr c1_)).1, (X_LPq1_1 a0 (.inr c1_)).2⟩)]) ⟨[4], [], 0, 0, [], false, []⟩ (ww (p := U_LPq1_1 none a0 (0, 0) (.inr c1_)) (m_LPq1_1_ok n a0 (0, 0) (.inr c1_) hc1) <|
zz 13 (xdT hc2) <|
zz 18 (xdF hc3) ee) (by kernel_rfl))
  ·rw [if_neg hc2] at h
   obtain rfl := oI h; exact (runF2 hm (L := lT [(8, ⟨⟨[0, 1, 5, 6], [], 0, 0, [], false, []⟩, (X_LPq1_1 a0 (.inr c1_)).1, (X_LPq1_1 a0 (.inr c1_)).2⟩)]) ⟨[4], [], 0, 0, [], false, []⟩ (ww (p := U_LPq1_1 none a0 (0, 0) (.inr c1_)) (m_LPq1_1_ok n a0 (0, 0) (.inr c1_) hc1) <|
zz 13 (xdF hc2) ee) (by kernel_rfl))

def A_LPq2 (a0 : Int) : List Value := [(Value.slice none 0 0), (i6 a0)]
def H_LPq2 (a0 : Int) : AH := ⟨sB [], 0, 0⟩
def V_LPq2 (a0 : Int) (r : Bool) : Value := match r with
 | o0 => (bO o0)
def R_LPq2 (a0 : Int) (r : Bool) : AH := match r with
 | o0 => ⟨sB [], 0, 0⟩
abbrev G_LPq2 (a0 : Int) (r : Bool) : Prop := Gv P (.func 16) (A_LPq2 a0) (H_LPq2 a0) (V_LPq2 a0 r) (R_LPq2 a0 r)
abbrev C_LPq2 (a0 : Int) (r : Bool) (ins outs : BL) : CallA := ⟨0, ins, V_LPq2 a0 r, R_LPq2 a0 r, outs⟩
def S_LPq2_1 (x1_0 : Int) (st : Unit) : XSt := match st with
 | _ => (sT 66 [(0, (Value.slice none 0 0)), (1, (i6 x1_0)), (5, (i6 (0 : Int))), (6, (i6 (0 : Int)))], [], ⟨sB [], 0, 0⟩)
def X_LPq2_1 (x1_0 : Int) (r : Unit) : Ex × XSt := match r with
 | _ => (.exit 0, (sT 66 [(0, (Value.slice none 0 0)), (1, (i6 x1_0)), (5, (i6 (0 : Int)))], [], ⟨sB [], 0, 0⟩))
abbrev Q_LPq2_1 (rnd : Option Nat) (x1_0 : Int) (st : Unit) (c : Ex × XSt) : Prop := CG P rnd (fnN P 16) 0 (codeOf P 16 [false, false, true, false, true, true]) (S_LPq2_1 x1_0 st) c
abbrev U_LPq2_1 (rd : Option Nat) (x1_0 : Int) (st : Unit) (r : Unit) : Prop := CG P rd (fnN P 16) 0 (codeOf P 16 [false, true, false, true, true]) (S_LPq2_1 x1_0 st) (X_LPq2_1 x1_0 r)
def B_LPq2_1 (n : Nat) (x1_0 : Int) (st : Unit) : Option ((Unit) ⊕ (Unit)) := match st with
 | _ =>
  some (.inr ())
def m_LPq2_1 (n : Nat) (x1_0 : Int) (st : Unit) : Option (Unit) := iterM (B_LPq2_1 n x1_0) n st
theorem q_LPq2_1_0 (n : Nat) {rnd : Option Nat} (x1_0 : Int) : Q_LPq2_1 rnd x1_0 () (X_LPq2_1 x1_0 ()) :=
 runC2 hm (L := lT []) ⟨[0, 1, 5], [], 0, 0, [], false, []⟩ (ee) (by kernel_rfl)
theorem m_LPq2_1_ok (n : Nat) {rnd : Option Nat} (x1_0 : Int) (st : Unit) (r : Unit) (h : m_LPq2_1 n x1_0 st = some r) : CG P rnd (fnN P 16) 0 (codeOf P 16 [false, true, false, true, true]) (S_LPq2_1 x1_0 st) (X_LPq2_1 x1_0 r) :=
 CG.iter (b := codeOf P 16 [false, false, true, false, true, true]) (by kernel_rfl) (body := B_LPq2_1 n x1_0) (S := S_LPq2_1 x1_0) (X := X_LPq2_1 x1_0)
  (fun s s' h => by
  unfold B_LPq2_1 at h
  dsimp only at h
  cases h)
  (fun s r h => by
  unfold B_LPq2_1 at h
  dsimp only at h
  obtain rfl := Sum.inr.inj (oI h); exact q_LPq2_1_0 n x1_0)
  (fun r => by intro hx; cases hx) h
def m_LPq2 (n : Nat) (a0 : Int) : Option (Bool) :=
 (m_LPq2_1 n a0 ()).bind fun _ =>
 if (0 : Int) ≤ a0 then
  if (0 : Int) ≤ (w64 ((2 : Int) * a0)) then
   some true
  else
   some false
 else
  some false
theorem m_LPq2_ok (n : Nat) (a0 : Int) (r : Bool) (h : m_LPq2 n a0 = some r) : Gv P (.func 16) (A_LPq2 a0) (H_LPq2 a0) (V_LPq2 a0 r) (R_LPq2 a0 r) := by
 unfold m_LPq2 at h
 obtain ⟨_, hc1, h⟩ := Option.bind_eq_some_iff.1 h
 by_cases hc2 : (0 : Int) ≤ a0
 ·rw [if_pos hc2] at h
  by_cases hc3 : (0 : Int) ≤ (w64 ((2 : Int) * a0))
  ·rw [if_pos hc3] at h
   obtain rfl := oI h; exact (runF2 hm (L := lT [(8, ⟨⟨[0, 1, 5, 6], [], 0, 0, [], false, []⟩, (X_LPq2_1 a0 ()).1, (X_LPq2_1 a0 ()).2⟩)]) ⟨[4], [], 0, 0, [], false, []⟩ (ww (p := U_LPq2_1 none a0 () ()) (m_LPq2_1_ok n a0 () () hc1) <|
zz 13 (xdT hc2) <|
zz 18 (xdT hc3) ee) (by kernel_rfl))
  ·rw [if_neg hc3] at h
   obtain rfl := oI h; exact (runF2 hm (L := lT [(8, ⟨⟨[0, 1, 5, 6], [], 0, 0, [], false, []⟩, (X_LPq2_1 a0 ()).1, (X_LPq2_1 a0 ()).2⟩)]) ⟨[4], [], 0, 0, [], false, []⟩ (ww (p := U_LPq2_1 none a0 () ()) (m_LPq2_1_ok n a0 () () hc1) <|
zz 13 (xdT hc2) <|
zz 18 (xdF hc3) ee) (by kernel_rfl))
 ·rw [if_neg hc2] at h
  obtain rfl := oI h; exact (runF2 hm (L := lT [(8, ⟨⟨[0, 1, 5, 6], [], 0, 0, [], false, []⟩, (X_LPq2_1 a0 ()).1, (X_LPq2_1 a0 ()).2⟩)]) ⟨[4], [], 0, 0, [], false, []⟩ (ww (p := U_LPq2_1 none a0 () ()) (m_LPq2_1_ok n a0 () () hc1) <|
zz 13 (xdF hc2) ee) (by kernel_rfl))

def A_lEq1 (a0 : Int) (a1 : Int) (a2 : Int) : List Value := [(Value.agg #[(i6 a0), (i6 a1), (i6 a2)])]
def H_lEq1 (a0 : Int) (a1 : Int) (a2 : Int) : AH := ⟨sB [], 0, 0⟩
def V_lEq1 (a0 : Int) (a1 : Int) (a2 : Int) (r : Bool) : Value := match r with
 | o0 => (bO o0)
def R_lEq1 (a0 : Int) (a1 : Int) (a2 : Int) (r : Bool) : AH := match r with
 | o0 => ⟨sB [], 0, 0⟩
abbrev G_lEq1 (a0 : Int) (a1 : Int) (a2 : Int) (r : Bool) : Prop := Gv P (.func 17) (A_lEq1 a0 a1 a2) (H_lEq1 a0 a1 a2) (V_lEq1 a0 a1 a2 r) (R_lEq1 a0 a1 a2 r)
abbrev C_lEq1 (a0 : Int) (a1 : Int) (a2 : Int) (r : Bool) (ins outs : BL) : CallA := ⟨0, ins, V_lEq1 a0 a1 a2 r, R_lEq1 a0 a1 a2 r, outs⟩
def m_lEq1 (n : Nat) (a0 : Int) (a1 : Int) (a2 : Int) : Option (Bool) :=
 if a0 ≤ (1048576 : Int) then
  if a1 ≤ (1048576 : Int) then
   if a2 ≤ (1048576 : Int) then
    if a0 ≥ (-1048576 : Int) then
     if a1 ≥ (-1048576 : Int) then
      if a2 ≥ (-1048576 : Int) then
       some true
      else
       some false
     else
      some false
    else
     some false
   else
    some false
  else
   some false
 else
  some false
theorem m_lEq1_ok (n : Nat) (a0 : Int) (a1 : Int) (a2 : Int) (r : Bool) (h : m_lEq1 n a0 a1 a2 = some r) : Gv P (.func 17) (A_lEq1 a0 a1 a2) (H_lEq1 a0 a1 a2) (V_lEq1 a0 a1 a2 r) (R_lEq1 a0 a1 a2 r) := by
 unfold m_lEq1 at h
 by_cases hc1 : a0 ≤ (1048576 : Int)
 ·rw [if_pos hc1] at h
  by_cases hc2 : a1 ≤ (1048576 : Int)
  ·rw [if_pos hc2] at h
   by_cases hc3 : a2 ≤ (1048576 : Int)
   ·rw [if_pos hc3] at h
    by_cases hc4 : a0 ≥ (-1048576 : Int)
    ·rw [if_pos hc4] at h
     by_cases hc5 : a1 ≥ (-1048576 : Int)
     ·rw [if_pos hc5] at h
      by_cases hc6 : a2 ≥ (-1048576 : Int)
      ·rw [if_pos hc6] at h
       obtain rfl := oI h; exact (runF2 hm (L := lT []) ⟨[2], [], 0, 0, [], false, []⟩ (zz 6 (xdT hc1) <|
zz 10 (xdT hc2) <|
zz 15 (xdT hc3) <|
zz 20 (xdT hc4) <|
zz 25 (xdT hc5) <|
zz 30 (xdT hc6) ee) (by kernel_rfl))
      ·rw [if_neg hc6] at h
       obtain rfl := oI h; exact (runF2 hm (L := lT []) ⟨[2], [], 0, 0, [], false, []⟩ (zz 6 (xdT hc1) <|
zz 10 (xdT hc2) <|
zz 15 (xdT hc3) <|
zz 20 (xdT hc4) <|
zz 25 (xdT hc5) <|
zz 30 (xdF hc6) ee) (by kernel_rfl))
     ·rw [if_neg hc5] at h
      obtain rfl := oI h; exact (runF2 hm (L := lT []) ⟨[2], [], 0, 0, [], false, []⟩ (zz 6 (xdT hc1) <|
zz 10 (xdT hc2) <|
zz 15 (xdT hc3) <|
zz 20 (xdT hc4) <|
zz 25 (xdF hc5) ee) (by kernel_rfl))
    ·rw [if_neg hc4] at h
     obtain rfl := oI h; exact (runF2 hm (L := lT []) ⟨[2], [], 0, 0, [], false, []⟩ (zz 6 (xdT hc1) <|
zz 10 (xdT hc2) <|
zz 15 (xdT hc3) <|
zz 20 (xdF hc4) ee) (by kernel_rfl))
   ·rw [if_neg hc3] at h
    obtain rfl := oI h; exact (runF2 hm (L := lT []) ⟨[2], [], 0, 0, [], false, []⟩ (zz 6 (xdT hc1) <|
zz 10 (xdT hc2) <|
zz 15 (xdF hc3) ee) (by kernel_rfl))
  ·rw [if_neg hc2] at h
   obtain rfl := oI h; exact (runF2 hm (L := lT []) ⟨[2], [], 0, 0, [], false, []⟩ (zz 6 (xdT hc1) <|
zz 10 (xdF hc2) ee) (by kernel_rfl))
 ·rw [if_neg hc1] at h
  obtain rfl := oI h; exact (runF2 hm (L := lT []) ⟨[2], [], 0, 0, [], false, []⟩ (zz 6 (xdF hc1) ee) (by kernel_rfl))

def A_liq1 (a0 : Int) (a1 : Int) (a2 : Int) : List Value := [(sW 0 0 (Args.A).length Args.cA), (Value.slice none 0 0), (Value.agg #[(i6 a0), (i6 a1), (i6 a2)])]
def H_liq1 (a0 : Int) (a1 : Int) (a2 : Int) : AH := ⟨sB [], 0, 0⟩
def V_liq1 (a0 : Int) (a1 : Int) (a2 : Int) (r : Bool) : Value := match r with
 | o0 => (bO o0)
def R_liq1 (a0 : Int) (a1 : Int) (a2 : Int) (r : Bool) : AH := match r with
 | o0 => ⟨sB [], 0, 0⟩
abbrev G_liq1 (a0 : Int) (a1 : Int) (a2 : Int) (r : Bool) : Prop := Gv P (.func 5) (A_liq1 a0 a1 a2) (H_liq1 a0 a1 a2) (V_liq1 a0 a1 a2 r) (R_liq1 a0 a1 a2 r)
abbrev C_liq1 (a0 : Int) (a1 : Int) (a2 : Int) (r : Bool) (ins outs : BL) : CallA := ⟨0, ins, V_liq1 a0 a1 a2 r, R_liq1 a0 a1 a2 r, outs⟩
def m_liq1 (n : Nat) (a0 : Int) (a1 : Int) (a2 : Int) : Option (Bool) :=
 (m_LPq1 n 120).bind fun c1_ =>
 if c1_ = true then
  (m_LPq2 n 120).bind fun c3_ =>
  if c3_ = true then
   (m_lEq1 n a0 a1 a2).bind fun c5_ =>
   some c5_
  else
   some false
 else
  some false
theorem m_liq1_ok (n : Nat) (a0 : Int) (a1 : Int) (a2 : Int) (r : Bool) (h : m_liq1 n a0 a1 a2 = some r) : Gv P (.func 5) (A_liq1 a0 a1 a2) (H_liq1 a0 a1 a2) (V_liq1 a0 a1 a2 r) (R_liq1 a0 a1 a2 r) := by
 unfold m_liq1 at h
 obtain ⟨c1_, hc1, h⟩ := Option.bind_eq_some_iff.1 h
 by_cases hc2 : c1_ = true
 ·rw [if_pos hc2] at h
  obtain ⟨c3_, hc3, h⟩ := Option.bind_eq_some_iff.1 h
  by_cases hc4 : c3_ = true
  ·rw [if_pos hc4] at h
   obtain ⟨c5_, hc5, h⟩ := Option.bind_eq_some_iff.1 h
   obtain rfl := oI h; exact (runF2 hm (L := lT []) ⟨[6], [], 0, 0, [], false, []⟩ (yy 5 (.call (C_LPq1 120 c1_ [] [])) <|
ww (m_LPq1_ok n 120 c1_ hc1) <|
zz 6 (xbT hc2) <|
yy 8 (.call (C_LPq2 120 c3_ [] [])) <|
ww (m_LPq2_ok n 120 c3_ hc3) <|
zz 10 (xbT hc4) <|
yy 12 (.call (C_lEq1 a0 a1 a2 c5_ [] [])) <|
ww (m_lEq1_ok n a0 a1 a2 c5_ hc5) ee) (by kernel_rfl))
  ·rw [if_neg hc4] at h
   obtain rfl := oI h; exact (runF2 hm (L := lT []) ⟨[6], [], 0, 0, [], false, []⟩ (yy 5 (.call (C_LPq1 120 c1_ [] [])) <|
ww (m_LPq1_ok n 120 c1_ hc1) <|
zz 6 (xbT hc2) <|
yy 8 (.call (C_LPq2 120 c3_ [] [])) <|
ww (m_LPq2_ok n 120 c3_ hc3) <|
zz 10 (xbF hc4) ee) (by kernel_rfl))
 ·rw [if_neg hc2] at h
  obtain rfl := oI h; exact (runF2 hm (L := lT []) ⟨[6], [], 0, 0, [], false, []⟩ (yy 5 (.call (C_LPq1 120 c1_ [] [])) <|
ww (m_LPq1_ok n 120 c1_ hc1) <|
zz 6 (xbF hc2) ee) (by kernel_rfl))

def A_iOq1 : List Value := [(sW 0 0 (Args.A).length Args.cA)]
def H_iOq1 : AH := ⟨sB [], 0, 0⟩
def V_iOq1 (r : Bool) : Value := match r with
 | o0 => (bO o0)
def R_iOq1 (r : Bool) : AH := match r with
 | o0 => ⟨sB [], 0, 0⟩
abbrev G_iOq1 (r : Bool) : Prop := Gv P (.func 18) A_iOq1 H_iOq1 (V_iOq1  r) (R_iOq1  r)
abbrev C_iOq1 (r : Bool) (ins outs : BL) : CallA := ⟨0, ins, V_iOq1  r, R_iOq1  r, outs⟩
def S_iOq1_1 (x1_2 : Int) (st : List (Int × Int × Int) × Nat × Int) : XSt := match st with
 | (x1_0, x1_1, x1_3) => (sT 99 [(0, (sW 0 0 (Args.A).length Args.cA)), (3, (slQ x1_0 0 x1_1 3)), (8, (sW 0 0 (Args.A).length Args.cA)), (9, (i6 x1_2)), (10, (i6 x1_3))], [], ⟨sB [(0, (nblkR rw_iii x1_0 65))], 1, 0⟩)
def X_iOq1_1 (x1_2 : Int) (r : (Unit) ⊕ (List (Int × Int × Int) × Nat)) : Ex × XSt := match r with
 | .inl _ => (.ret, (sT 99 [(2, (bO false))], [], ⟨sB [], 0, 0⟩))
 | .inr (z1_0, z1_1) => (.exit 0, (sT 99 [(3, (slQ z1_0 0 z1_1 3))], [], ⟨sB [(0, (nblkR rw_iii z1_0 65))], 1, 0⟩))
abbrev Q_iOq1_1 (rnd : Option Nat) (x1_2 : Int) (st : List (Int × Int × Int) × Nat × Int) (c : Ex × XSt) : Prop := CG P rnd (fnN P 18) 0 (codeOf P 18 [false, false, true, false, true, true]) (S_iOq1_1 x1_2 st) c
abbrev U_iOq1_1 (rd : Option Nat) (x1_2 : Int) (st : List (Int × Int × Int) × Nat × Int) (r : (Unit) ⊕ (List (Int × Int × Int) × Nat)) : Prop := CG P rd (fnN P 18) 0 (codeOf P 18 [false, true, false, true, true]) (S_iOq1_1 x1_2 st) (X_iOq1_1 x1_2 r)
def B_iOq1_1 (n : Nat) (x1_2 : Int) (st : List (Int × Int × Int) × Nat × Int) : Option ((List (Int × Int × Int) × Nat × Int) ⊕ ((Unit) ⊕ (List (Int × Int × Int) × Nat))) := match st with
 | (x1_0, x1_1, x1_3) =>
  match x1_0 with
  | [] =>
   if x1_3 < x1_2 then
    if 0 ≤ x1_3 ∧ x1_3 < (Args.A.length : Int) then
     ((some ((Args.A).getD (x1_3).toNat (0, 0, 0, 0, 0, 0, nl0, 0)))).bind fun y1_3_ =>
     if x1_3 > (0 : Int) then
      some (.inr (.inl ()))
     else
      if (y1_3_.2.2.2.2.2.2.1.l.length : Int) > (0 : Int) then
       some (.inl ([(x1_3, (0 : Int), (y1_3_.2.2.1))], 1, (w64 (x1_3 + (1 : Int)))))
      else
       some (.inl (([] : List (Int × Int × Int)), 0, (w64 (x1_3 + (1 : Int)))))
    else none
   else
    some (.inr (.inr (([] : List (Int × Int × Int)), 0)))
  | x1_0a :: x1_0t =>
   if x1_3 < x1_2 then
    if 0 ≤ x1_3 ∧ x1_3 < (Args.A.length : Int) then
     ((some ((Args.A).getD (x1_3).toNat (0, 0, 0, 0, 0, 0, nl0, 0)))).bind fun y1_3_ =>
     if x1_3 > (0 : Int) then
      if ((x1_1 : Nat) : Int) = (0 : Int) then
       some (.inr (.inl ()))
      else
       ((some (w64 (((x1_1 : Nat) : Int) - (1 : Int))))).bind fun y1_6_ =>
       if 0 ≤ y1_6_ ∧ y1_6_ < ((x1_1 : Nat) : Int) then
        if (y1_6_).toNat < ((x1_0a :: x1_0t)).length then
         ((some (((x1_0a :: x1_0t)).getD (y1_6_).toNat (0, 0, 0)))).bind fun y1_9_ =>
         if 0 ≤ (y1_9_.1) ∧ (y1_9_.1) < (Args.A.length : Int) then
          ((some ((Args.A).getD ((y1_9_.1)).toNat (0, 0, 0, 0, 0, 0, nl0, 0)))).bind fun y1_11_ =>
          if 0 ≤ (y1_9_.2.1) ∧ (y1_9_.2.1) < (y1_11_.2.2.2.2.2.2.1.l.length : Int) then
           if ((y1_9_.2.1)).toNat < (((y1_11_.2.2.2.2.2.2.1)).l).length then
            ((some ((((y1_11_.2.2.2.2.2.2.1)).l).getD ((y1_9_.2.1)).toNat 0))).bind fun y1_14_ =>
            if y1_14_ = x1_3 then
             if (y1_3_.2.2.1) < (y1_9_.2.2) then
              some (.inr (.inl ()))
             else
              if (y1_3_.2.2.2.2.1) > (y1_11_.2.2.2.2.1) then
               some (.inr (.inl ()))
              else
               if (w64 ((y1_9_.2.1) + (1 : Int))) = (y1_11_.2.2.2.2.2.2.1.l.length : Int) then
                if 0 ≤ y1_6_ ∧ y1_6_ ≤ ((x1_1 : Nat) : Int) then
                 if (y1_3_.2.2.2.2.2.2.1.l.length : Int) > (0 : Int) then
                  if (y1_6_).toNat ≤ ((((x1_0a :: x1_0t)).set (y1_6_).toNat ((y1_9_.1), (w64 ((y1_9_.2.1) + (1 : Int))), (y1_3_.2.2.2.2.1)))).length then
                   if ((y1_6_).toNat + 1) * 24 ≤ 140737488355328 then
                    some (.inl (((List.take (y1_6_).toNat (((x1_0a :: x1_0t)).set (y1_6_).toNat ((y1_9_.1), (w64 ((y1_9_.2.1) + (1 : Int))), (y1_3_.2.2.2.2.1)))) ++ [(x1_3, (0 : Int), (y1_3_.2.2.1))]), ((((List.take (y1_6_).toNat (((x1_0a :: x1_0t)).set (y1_6_).toNat ((y1_9_.1), (w64 ((y1_9_.2.1) + (1 : Int))), (y1_3_.2.2.2.2.1)))) ++ [(x1_3, (0 : Int), (y1_3_.2.2.1))])).length), (w64 (x1_3 + (1 : Int)))))
                   else none
                  else none
                 else
                  some (.inl ((((x1_0a :: x1_0t)).set (y1_6_).toNat ((y1_9_.1), (w64 ((y1_9_.2.1) + (1 : Int))), (y1_3_.2.2.2.2.1))), ((y1_6_).toNat), (w64 (x1_3 + (1 : Int)))))
                else none
               else
                if (y1_3_.2.2.2.2.2.2.1.l.length : Int) > (0 : Int) then
                 if x1_1 ≤ ((((x1_0a :: x1_0t)).set (y1_6_).toNat ((y1_9_.1), (w64 ((y1_9_.2.1) + (1 : Int))), (y1_3_.2.2.2.2.1)))).length then
                  if (x1_1 + 1) * 24 ≤ 140737488355328 then
                   some (.inl (((List.take x1_1 (((x1_0a :: x1_0t)).set (y1_6_).toNat ((y1_9_.1), (w64 ((y1_9_.2.1) + (1 : Int))), (y1_3_.2.2.2.2.1)))) ++ [(x1_3, (0 : Int), (y1_3_.2.2.1))]), ((((List.take x1_1 (((x1_0a :: x1_0t)).set (y1_6_).toNat ((y1_9_.1), (w64 ((y1_9_.2.1) + (1 : Int))), (y1_3_.2.2.2.2.1)))) ++ [(x1_3, (0 : Int), (y1_3_.2.2.1))])).length), (w64 (x1_3 + (1 : Int)))))
                  else none
                 else none
                else
                 some (.inl ((((x1_0a :: x1_0t)).set (y1_6_).toNat ((y1_9_.1), (w64 ((y1_9_.2.1) + (1 : Int))), (y1_3_.2.2.2.2.1))), x1_1, (w64 (x1_3 + (1 : Int)))))
            else
             some (.inr (.inl ()))
           else none
          else none
         else none
        else none
       else none
     else
      if (y1_3_.2.2.2.2.2.2.1.l.length : Int) > (0 : Int) then
       if x1_1 ≤ ((x1_0a :: x1_0t)).length then
        if (x1_1 + 1) * 24 ≤ 140737488355328 then
         some (.inl (((List.take x1_1 (x1_0a :: x1_0t)) ++ [(x1_3, (0 : Int), (y1_3_.2.2.1))]), ((((List.take x1_1 (x1_0a :: x1_0t)) ++ [(x1_3, (0 : Int), (y1_3_.2.2.1))])).length), (w64 (x1_3 + (1 : Int)))))
        else none
       else none
      else
       some (.inl ((x1_0a :: x1_0t), x1_1, (w64 (x1_3 + (1 : Int)))))
    else none
   else
    some (.inr (.inr ((x1_0a :: x1_0t), x1_1)))
def m_iOq1_1 (n : Nat) (x1_2 : Int) (st : List (Int × Int × Int) × Nat × Int) : Option ((Unit) ⊕ (List (Int × Int × Int) × Nat)) := iterM (B_iOq1_1 n x1_2) n st
theorem q_iOq1_1_0 (n : Nat) {rnd : Option Nat} (x1_1 : Nat) (x1_2 x1_3 : Int) (hy1_1 : x1_3 < x1_2) (hy1_2 : 0 ≤ x1_3 ∧ x1_3 < (Args.A.length : Int)) (y1_3_ : R8) (hy1_3 : (some ((Args.A).getD (x1_3).toNat (0, 0, 0, 0, 0, 0, nl0, 0))) = some y1_3_) (hy1_4 : x1_3 > (0 : Int)) : Q_iOq1_1 rnd x1_2 (([] : List (Int × Int × Int)), x1_1, x1_3) (X_iOq1_1 x1_2 (.inl ())) :=
 runC2 hm (L := lT []) ⟨[2], [], 0, 0, [], false, []⟩ (zz 1 (xdT hy1_1) <|
zz 8 (xk1 0 Args.cA hy1_2) <|
zz 9 (lk2 hy1_3 (toNatLt hy1_2)) <|
zz 16 (xdT hy1_4) <|
ee) (by kernel_rfl)
theorem q_iOq1_1_1 (n : Nat) {rnd : Option Nat} (x1_1 : Nat) (x1_2 x1_3 : Int) (hy1_1 : x1_3 < x1_2) (hy1_2 : 0 ≤ x1_3 ∧ x1_3 < (Args.A.length : Int)) (y1_3_ : R8) (hy1_3 : (some ((Args.A).getD (x1_3).toNat (0, 0, 0, 0, 0, 0, nl0, 0))) = some y1_3_) (hy1_4 : ¬ (x1_3 > (0 : Int))) (hy1_5 : (y1_3_.2.2.2.2.2.2.1.l.length : Int) > (0 : Int)) : Q_iOq1_1 rnd x1_2 (([] : List (Int × Int × Int)), x1_1, x1_3) (.normal, S_iOq1_1 x1_2 ([(x1_3, (0 : Int), (y1_3_.2.2.1))], 1, (w64 (x1_3 + (1 : Int))))) :=
 runC2 hm (L := lT []) ⟨[0, 3, 8, 9, 10], [(0, 3, false)], 1, 0, [], false, []⟩ (zz 1 (xdT hy1_1) <|
zz 8 (xk1 0 Args.cA hy1_2) <|
zz 9 (lk2 hy1_3 (toNatLt hy1_2)) <|
zz 16 (xdF hy1_4) <|
zz 22 (xdT hy1_5) <|
ee) (by kernel_rfl)
theorem q_iOq1_1_2 (n : Nat) {rnd : Option Nat} (x1_1 : Nat) (x1_2 x1_3 : Int) (hy1_1 : x1_3 < x1_2) (hy1_2 : 0 ≤ x1_3 ∧ x1_3 < (Args.A.length : Int)) (y1_3_ : R8) (hy1_3 : (some ((Args.A).getD (x1_3).toNat (0, 0, 0, 0, 0, 0, nl0, 0))) = some y1_3_) (hy1_4 : ¬ (x1_3 > (0 : Int))) (hy1_5 : ¬ ((y1_3_.2.2.2.2.2.2.1.l.length : Int) > (0 : Int))) : Q_iOq1_1 rnd x1_2 (([] : List (Int × Int × Int)), x1_1, x1_3) (.normal, S_iOq1_1 x1_2 (([] : List (Int × Int × Int)), 0, (w64 (x1_3 + (1 : Int))))) :=
 runC2 hm (L := lT []) ⟨[0, 3, 8, 9, 10], [], 1, 0, [], false, []⟩ (zz 1 (xdT hy1_1) <|
zz 8 (xk1 0 Args.cA hy1_2) <|
zz 9 (lk2 hy1_3 (toNatLt hy1_2)) <|
zz 16 (xdF hy1_4) <|
zz 22 (xdF hy1_5) <|
ee) (by kernel_rfl)
theorem q_iOq1_1_3 (n : Nat) {rnd : Option Nat} (x1_1 : Nat) (x1_2 x1_3 : Int) (hy1_1 : ¬ (x1_3 < x1_2)) : Q_iOq1_1 rnd x1_2 (([] : List (Int × Int × Int)), x1_1, x1_3) (X_iOq1_1 x1_2 (.inr (([] : List (Int × Int × Int)), 0))) :=
 runC2 hm (L := lT []) ⟨[3], [], 1, 0, [], false, []⟩ (zz 1 (xdF hy1_1) <|
ee) (by kernel_rfl)
theorem q_iOq1_1_4 (n : Nat) {rnd : Option Nat} (x1_0a : Int × Int × Int) (x1_0t : List (Int × Int × Int)) (x1_1 : Nat) (x1_2 x1_3 : Int) (hy1_1 : x1_3 < x1_2) (hy1_2 : 0 ≤ x1_3 ∧ x1_3 < (Args.A.length : Int)) (y1_3_ : R8) (hy1_3 : (some ((Args.A).getD (x1_3).toNat (0, 0, 0, 0, 0, 0, nl0, 0))) = some y1_3_) (hy1_4 : x1_3 > (0 : Int)) (hy1_5 : ((x1_1 : Nat) : Int) = (0 : Int)) : Q_iOq1_1 rnd x1_2 ((x1_0a :: x1_0t), x1_1, x1_3) (X_iOq1_1 x1_2 (.inl ())) :=
 runC2 hm (L := lT []) ⟨[2], [], 0, 0, [], false, []⟩ (zz 1 (xdT hy1_1) <|
zz 8 (xk1 0 Args.cA hy1_2) <|
zz 9 (lk2 hy1_3 (toNatLt hy1_2)) <|
zz 16 (xdT hy1_4) <|
zz 22 (xeT hy1_5) <|
ee) (by kernel_rfl)
theorem q_iOq1_1_5 (n : Nat) {rnd : Option Nat} (x1_0a : Int × Int × Int) (x1_0t : List (Int × Int × Int)) (x1_1 : Nat) (x1_2 x1_3 : Int) (hy1_1 : x1_3 < x1_2) (hy1_2 : 0 ≤ x1_3 ∧ x1_3 < (Args.A.length : Int)) (y1_3_ : R8) (hy1_3 : (some ((Args.A).getD (x1_3).toNat (0, 0, 0, 0, 0, 0, nl0, 0))) = some y1_3_) (hy1_4 : x1_3 > (0 : Int)) (hy1_5 : ¬ (((x1_1 : Nat) : Int) = (0 : Int))) (y1_6_ : Int) (hy1_6 : (some (w64 (((x1_1 : Nat) : Int) - (1 : Int)))) = some y1_6_) (hy1_7 : 0 ≤ y1_6_ ∧ y1_6_ < ((x1_1 : Nat) : Int)) (hy1_8 : (y1_6_).toNat < ((x1_0a :: x1_0t)).length) (y1_9_ : Int × Int × Int) (hy1_9 : (some (((x1_0a :: x1_0t)).getD (y1_6_).toNat (0, 0, 0))) = some y1_9_) (hy1_10 : 0 ≤ (y1_9_.1) ∧ (y1_9_.1) < (Args.A.length : Int)) (y1_11_ : R8) (hy1_11 : (some ((Args.A).getD ((y1_9_.1)).toNat (0, 0, 0, 0, 0, 0, nl0, 0))) = some y1_11_) (hy1_12 : 0 ≤ (y1_9_.2.1) ∧ (y1_9_.2.1) < (y1_11_.2.2.2.2.2.2.1.l.length : Int)) (hy1_13 : ((y1_9_.2.1)).toNat < (((y1_11_.2.2.2.2.2.2.1)).l).length) (y1_14_ : Int) (hy1_14 : (some ((((y1_11_.2.2.2.2.2.2.1)).l).getD ((y1_9_.2.1)).toNat 0)) = some y1_14_) (hy1_15 : y1_14_ = x1_3) (hy1_16 : (y1_3_.2.2.1) < (y1_9_.2.2)) : Q_iOq1_1 rnd x1_2 ((x1_0a :: x1_0t), x1_1, x1_3) (X_iOq1_1 x1_2 (.inl ())) :=
 runC2 hm (L := lT []) ⟨[2], [], 0, 0, [], false, []⟩ (zz 1 (xdT hy1_1) <|
zz 8 (xk1 0 Args.cA hy1_2) <|
zz 9 (lk2 hy1_3 (toNatLt hy1_2)) <|
zz 16 (xdT hy1_4) <|
zz 22 (xeF hy1_5) <|
zz 28 (xnm hy1_6) <|
zz 29 (xk3 0 U3 hy1_7) <|
zz 36 (ok4 hy1_9 (hy1_8)) <|
zz 37 (xk1 0 Args.cA hy1_10) <|
zz 38 (lk2 hy1_11 (toNatLt hy1_10)) <|
zz 48 (ok5 hy1_9 (hy1_8)) <|
zz 49 (xk6 (Nat.add ((y1_11_.2.2.2.2.2.2.1)).num 64) ((y1_11_.2.2.2.2.2.2.1)).cap hy1_12) <|
zz 50 (nk7 hy1_14 hy1_13) <|
zz 52 (xnF hy1_15) <|
zz 59 (ok8 hy1_9 (hy1_8)) <|
zz 60 (xdT hy1_16) <|
ee) (by kernel_rfl)
theorem q_iOq1_1_6 (n : Nat) {rnd : Option Nat} (x1_0a : Int × Int × Int) (x1_0t : List (Int × Int × Int)) (x1_1 : Nat) (x1_2 x1_3 : Int) (hy1_1 : x1_3 < x1_2) (hy1_2 : 0 ≤ x1_3 ∧ x1_3 < (Args.A.length : Int)) (y1_3_ : R8) (hy1_3 : (some ((Args.A).getD (x1_3).toNat (0, 0, 0, 0, 0, 0, nl0, 0))) = some y1_3_) (hy1_4 : x1_3 > (0 : Int)) (hy1_5 : ¬ (((x1_1 : Nat) : Int) = (0 : Int))) (y1_6_ : Int) (hy1_6 : (some (w64 (((x1_1 : Nat) : Int) - (1 : Int)))) = some y1_6_) (hy1_7 : 0 ≤ y1_6_ ∧ y1_6_ < ((x1_1 : Nat) : Int)) (hy1_8 : (y1_6_).toNat < ((x1_0a :: x1_0t)).length) (y1_9_ : Int × Int × Int) (hy1_9 : (some (((x1_0a :: x1_0t)).getD (y1_6_).toNat (0, 0, 0))) = some y1_9_) (hy1_10 : 0 ≤ (y1_9_.1) ∧ (y1_9_.1) < (Args.A.length : Int)) (y1_11_ : R8) (hy1_11 : (some ((Args.A).getD ((y1_9_.1)).toNat (0, 0, 0, 0, 0, 0, nl0, 0))) = some y1_11_) (hy1_12 : 0 ≤ (y1_9_.2.1) ∧ (y1_9_.2.1) < (y1_11_.2.2.2.2.2.2.1.l.length : Int)) (hy1_13 : ((y1_9_.2.1)).toNat < (((y1_11_.2.2.2.2.2.2.1)).l).length) (y1_14_ : Int) (hy1_14 : (some ((((y1_11_.2.2.2.2.2.2.1)).l).getD ((y1_9_.2.1)).toNat 0)) = some y1_14_) (hy1_15 : y1_14_ = x1_3) (hy1_16 : ¬ ((y1_3_.2.2.1) < (y1_9_.2.2))) (hy1_17 : (y1_3_.2.2.2.2.1) > (y1_11_.2.2.2.2.1)) : Q_iOq1_1 rnd x1_2 ((x1_0a :: x1_0t), x1_1, x1_3) (X_iOq1_1 x1_2 (.inl ())) :=
 runC2 hm (L := lT []) ⟨[2], [], 0, 0, [], false, []⟩ (zz 1 (xdT hy1_1) <|
zz 8 (xk1 0 Args.cA hy1_2) <|
zz 9 (lk2 hy1_3 (toNatLt hy1_2)) <|
zz 16 (xdT hy1_4) <|
zz 22 (xeF hy1_5) <|
zz 28 (xnm hy1_6) <|
zz 29 (xk3 0 U3 hy1_7) <|
zz 36 (ok4 hy1_9 (hy1_8)) <|
zz 37 (xk1 0 Args.cA hy1_10) <|
zz 38 (lk2 hy1_11 (toNatLt hy1_10)) <|
zz 48 (ok5 hy1_9 (hy1_8)) <|
zz 49 (xk6 (Nat.add ((y1_11_.2.2.2.2.2.2.1)).num 64) ((y1_11_.2.2.2.2.2.2.1)).cap hy1_12) <|
zz 50 (nk7 hy1_14 hy1_13) <|
zz 52 (xnF hy1_15) <|
zz 59 (ok8 hy1_9 (hy1_8)) <|
zz 60 (xdF hy1_16) <|
zz 67 (xdT hy1_17) <|
ee) (by kernel_rfl)
theorem q_iOq1_1_7 (n : Nat) {rnd : Option Nat} (x1_0a : Int × Int × Int) (x1_0t : List (Int × Int × Int)) (x1_1 : Nat) (x1_2 x1_3 : Int) (hy1_1 : x1_3 < x1_2) (hy1_2 : 0 ≤ x1_3 ∧ x1_3 < (Args.A.length : Int)) (y1_3_ : R8) (hy1_3 : (some ((Args.A).getD (x1_3).toNat (0, 0, 0, 0, 0, 0, nl0, 0))) = some y1_3_) (hy1_4 : x1_3 > (0 : Int)) (hy1_5 : ¬ (((x1_1 : Nat) : Int) = (0 : Int))) (y1_6_ : Int) (hy1_6 : (some (w64 (((x1_1 : Nat) : Int) - (1 : Int)))) = some y1_6_) (hy1_7 : 0 ≤ y1_6_ ∧ y1_6_ < ((x1_1 : Nat) : Int)) (hy1_8 : (y1_6_).toNat < ((x1_0a :: x1_0t)).length) (y1_9_ : Int × Int × Int) (hy1_9 : (some (((x1_0a :: x1_0t)).getD (y1_6_).toNat (0, 0, 0))) = some y1_9_) (hy1_10 : 0 ≤ (y1_9_.1) ∧ (y1_9_.1) < (Args.A.length : Int)) (y1_11_ : R8) (hy1_11 : (some ((Args.A).getD ((y1_9_.1)).toNat (0, 0, 0, 0, 0, 0, nl0, 0))) = some y1_11_) (hy1_12 : 0 ≤ (y1_9_.2.1) ∧ (y1_9_.2.1) < (y1_11_.2.2.2.2.2.2.1.l.length : Int)) (hy1_13 : ((y1_9_.2.1)).toNat < (((y1_11_.2.2.2.2.2.2.1)).l).length) (y1_14_ : Int) (hy1_14 : (some ((((y1_11_.2.2.2.2.2.2.1)).l).getD ((y1_9_.2.1)).toNat 0)) = some y1_14_) (hy1_15 : y1_14_ = x1_3) (hy1_16 : ¬ ((y1_3_.2.2.1) < (y1_9_.2.2))) (hy1_17 : ¬ ((y1_3_.2.2.2.2.1) > (y1_11_.2.2.2.2.1))) (hy1_18 : (w64 ((y1_9_.2.1) + (1 : Int))) = (y1_11_.2.2.2.2.2.2.1.l.length : Int)) (hy1_19 : 0 ≤ y1_6_ ∧ y1_6_ ≤ ((x1_1 : Nat) : Int)) (hy1_20 : (y1_3_.2.2.2.2.2.2.1.l.length : Int) > (0 : Int)) (hy1_21 : (y1_6_).toNat ≤ ((((x1_0a :: x1_0t)).set (y1_6_).toNat ((y1_9_.1), (w64 ((y1_9_.2.1) + (1 : Int))), (y1_3_.2.2.2.2.1)))).length) (hy1_22 : ((y1_6_).toNat + 1) * 24 ≤ 140737488355328) : Q_iOq1_1 rnd x1_2 ((x1_0a :: x1_0t), x1_1, x1_3) (.normal, S_iOq1_1 x1_2 (((List.take (y1_6_).toNat (((x1_0a :: x1_0t)).set (y1_6_).toNat ((y1_9_.1), (w64 ((y1_9_.2.1) + (1 : Int))), (y1_3_.2.2.2.2.1)))) ++ [(x1_3, (0 : Int), (y1_3_.2.2.1))]), ((((List.take (y1_6_).toNat (((x1_0a :: x1_0t)).set (y1_6_).toNat ((y1_9_.1), (w64 ((y1_9_.2.1) + (1 : Int))), (y1_3_.2.2.2.2.1)))) ++ [(x1_3, (0 : Int), (y1_3_.2.2.1))])).length), (w64 (x1_3 + (1 : Int))))) :=
 by
 obtain ⟨za, zt, hz⟩ : ∃ a t, ((List.take (y1_6_).toNat (((x1_0a :: x1_0t)).set (y1_6_).toNat ((y1_9_.1), (w64 ((y1_9_.2.1) + (1 : Int))), (y1_3_.2.2.2.2.1)))) ++ [(x1_3, (0 : Int), (y1_3_.2.2.1))]) = a :: t := snoc_cons (List.take (y1_6_).toNat (((x1_0a :: x1_0t)).set (y1_6_).toNat ((y1_9_.1), (w64 ((y1_9_.2.1) + (1 : Int))), (y1_3_.2.2.2.2.1)))) (x1_3, (0 : Int), (y1_3_.2.2.1))
 rw [hz]
 exact runC2 hm (L := lT []) ⟨[0, 3, 8, 9, 10], [(0, 4, true)], 1, 0, [], false, []⟩ (zz 1 (xdT hy1_1) <|
zz 8 (xk1 0 Args.cA hy1_2) <|
zz 9 (lk2 hy1_3 (toNatLt hy1_2)) <|
zz 16 (xdT hy1_4) <|
zz 22 (xeF hy1_5) <|
zz 28 (xnm hy1_6) <|
zz 29 (xk3 0 U3 hy1_7) <|
zz 36 (ok4 hy1_9 (hy1_8)) <|
zz 37 (xk1 0 Args.cA hy1_10) <|
zz 38 (lk2 hy1_11 (toNatLt hy1_10)) <|
zz 48 (ok5 hy1_9 (hy1_8)) <|
zz 49 (xk6 (Nat.add ((y1_11_.2.2.2.2.2.2.1)).num 64) ((y1_11_.2.2.2.2.2.2.1)).cap hy1_12) <|
zz 50 (nk7 hy1_14 hy1_13) <|
zz 52 (xnF hy1_15) <|
zz 59 (ok8 hy1_9 (hy1_8)) <|
zz 60 (xdF hy1_16) <|
zz 67 (xdF hy1_17) <|
zz 76 (ok5 hy1_9 (hy1_8)) <|
yy 82 (.sto (layT (rows rw_iii (((x1_0a :: x1_0t)).set (y1_6_).toNat ((y1_9_.1), (w64 ((y1_9_.2.1) + (1 : Int))), (y1_9_.2.2)))))) <|
ww (p := ∃ old, rdT (layT (rows rw_iii (x1_0a :: x1_0t))) 1 (Nat.add ((y1_6_).toNat * 3) 1) = some old) (Exists.elim (rows_stN rwf_iii (0, 0, 0) (hr := hy1_9) (i := (y1_6_).toNat) (j := 1) (l := [(i6 (w64 ((y1_9_.2.1) + (1 : Int))))]) ((y1_9_.1), (w64 ((y1_9_.2.1) + (1 : Int))), (y1_9_.2.2)) (Nat.add ((y1_6_).toNat * 3) 1) rfl (hy1_8) (Nat.le_of_ble_eq_true rfl) rfl) fun o h => ⟨o, h.1⟩) <|
ww (p := layL [(i6 (w64 ((y1_9_.2.1) + (1 : Int))))] (Nat.add ((y1_6_).toNat * 3) 1) (layT (rows rw_iii (x1_0a :: x1_0t))) = layT (rows rw_iii (((x1_0a :: x1_0t)).set (y1_6_).toNat ((y1_9_.1), (w64 ((y1_9_.2.1) + (1 : Int))), (y1_9_.2.2))))) (Exists.elim (rows_stN rwf_iii (0, 0, 0) (hr := hy1_9) (i := (y1_6_).toNat) (j := 1) (l := [(i6 (w64 ((y1_9_.2.1) + (1 : Int))))]) ((y1_9_.1), (w64 ((y1_9_.2.1) + (1 : Int))), (y1_9_.2.2)) (Nat.add ((y1_6_).toNat * 3) 1) rfl (hy1_8) (Nat.le_of_ble_eq_true rfl) rfl) fun o h => h.2) <|
yy 85 (.sto (layT (rows rw_iii (((x1_0a :: x1_0t)).set (y1_6_).toNat ((y1_9_.1), (w64 ((y1_9_.2.1) + (1 : Int))), (y1_3_.2.2.2.2.1)))))) <|
ww (p := ∃ old, rdT (layT (rows rw_iii (((x1_0a :: x1_0t)).set (y1_6_).toNat ((y1_9_.1), (w64 ((y1_9_.2.1) + (1 : Int))), (y1_9_.2.2))))) 1 (Nat.add ((y1_6_).toNat * 3) 2) = some old) (Exists.elim (rows_stS rwf_iii (i := (y1_6_).toNat) (j := 2) (l := [(i6 (y1_3_.2.2.2.2.1))]) ((y1_9_.1), (w64 ((y1_9_.2.1) + (1 : Int))), (y1_9_.2.2)) ((y1_9_.1), (w64 ((y1_9_.2.1) + (1 : Int))), (y1_3_.2.2.2.2.1)) (Nat.add ((y1_6_).toNat * 3) 2) rfl (hy1_8) (Nat.le_of_ble_eq_true rfl) rfl) fun o h => ⟨o, h.1⟩) <|
ww (p := layL [(i6 (y1_3_.2.2.2.2.1))] (Nat.add ((y1_6_).toNat * 3) 2) (layT (rows rw_iii (((x1_0a :: x1_0t)).set (y1_6_).toNat ((y1_9_.1), (w64 ((y1_9_.2.1) + (1 : Int))), (y1_9_.2.2))))) = layT (rows rw_iii (((x1_0a :: x1_0t)).set (y1_6_).toNat ((y1_9_.1), (w64 ((y1_9_.2.1) + (1 : Int))), (y1_3_.2.2.2.2.1))))) (Exists.elim (rows_stS rwf_iii (i := (y1_6_).toNat) (j := 2) (l := [(i6 (y1_3_.2.2.2.2.1))]) ((y1_9_.1), (w64 ((y1_9_.2.1) + (1 : Int))), (y1_9_.2.2)) ((y1_9_.1), (w64 ((y1_9_.2.1) + (1 : Int))), (y1_3_.2.2.2.2.1)) (Nat.add ((y1_6_).toNat * 3) 2) rfl (hy1_8) (Nat.le_of_ble_eq_true rfl) rfl) fun o h => h.2) <|
yy 90 (.ld (i6 (w64 ((y1_9_.2.1) + (1 : Int))))) <|
ww (p := (layT (rows rw_iii (((x1_0a :: x1_0t)).set (y1_6_).toNat ((y1_9_.1), (w64 ((y1_9_.2.1) + (1 : Int))), (y1_3_.2.2.2.2.1))))).get (Nat.add ((y1_6_).toNat * 3) 1) = some (i6 (w64 ((y1_9_.2.1) + (1 : Int))))) (rows_ldS rwf_iii (i := (y1_6_).toNat) (j := 1) ((y1_9_.1), (w64 ((y1_9_.2.1) + (1 : Int))), (y1_3_.2.2.2.2.1)) (Nat.add ((y1_6_).toNat * 3) 1) rfl (hy1_8) (by decide) rfl) <|
zz 94 (xeT hy1_18) <|
zz 99 (xnm hy1_6) <|
yy 100 (.pur (sN 0 0 (y1_6_).toNat (Nat.add big 3))) <|
ww (p := opSlice P 62 (sN 0 0 x1_1 (Nat.add big 3)) none (some (i6 y1_6_)) none Ax.h0 = some ((sN 0 0 (y1_6_).toNat (Nat.add big 3)), Ax.h0)) (slRowHi (e := 65) (es := 3) (by kernel_rfl) (by kernel_rfl) rfl rfl hy1_19) <|
zz 106 (xdT hy1_20) <|
yy 114 (.app ⟨none, rows rw_iii (List.take (y1_6_).toNat (((x1_0a :: x1_0t)).set (y1_6_).toNat ((y1_9_.1), (w64 ((y1_9_.2.1) + (1 : Int))), (y1_3_.2.2.2.2.1)))), (rows rw_iii (za :: zt)), ((za :: zt)).length, false⟩) <|
ww (p := 0 < 1) ((by decide)) <|
ww (p := rdT (layT (rows rw_iii (((x1_0a :: x1_0t)).set (y1_6_).toNat ((y1_9_.1), (w64 ((y1_9_.2.1) + (1 : Int))), (y1_3_.2.2.2.2.1))))) (Nat.mul (y1_6_).toNat 3) 0 = some (rows rw_iii (List.take (y1_6_).toNat (((x1_0a :: x1_0t)).set (y1_6_).toNat ((y1_9_.1), (w64 ((y1_9_.2.1) + (1 : Int))), (y1_3_.2.2.2.2.1)))))) (rows_rdTake rwf_iii _ _ hy1_21) <|
ww (p := fits (Nat.add (y1_6_).toNat 1) 24 = true) (fits_ok hy1_22 (by have := hy1_22; show (_ : Nat) + _ ≤ _; omega)) <|
ww (p := allCells [(i6 x1_3), (i6 (0 : Int)), (i6 (y1_3_.2.2.1))] = true) (rfl) <|
ww (p := allCells (rows rw_iii (List.take (y1_6_).toNat (((x1_0a :: x1_0t)).set (y1_6_).toNat ((y1_9_.1), (w64 ((y1_9_.2.1) + (1 : Int))), (y1_3_.2.2.2.2.1))))) = true) (rows_cells rwf_iii _) <|
ww (p := rows rw_iii (List.take (y1_6_).toNat (((x1_0a :: x1_0t)).set (y1_6_).toNat ((y1_9_.1), (w64 ((y1_9_.2.1) + (1 : Int))), (y1_3_.2.2.2.2.1)))) ++ [(i6 x1_3), (i6 (0 : Int)), (i6 (y1_3_.2.2.1))] = (rows rw_iii (za :: zt))) (by rw [← hz]; exact (rows_app rw_iii (List.take (y1_6_).toNat (((x1_0a :: x1_0t)).set (y1_6_).toNat ((y1_9_.1), (w64 ((y1_9_.2.1) + (1 : Int))), (y1_3_.2.2.2.2.1)))) [(x1_3, (0 : Int), (y1_3_.2.2.1))])) <|
ww (p := Nat.add (y1_6_).toNat 1 = ((za :: zt)).length) (by rw [← hz]; exact (take_len hy1_21 rfl)) <|
ww (rows_flat rwf_iii (za :: zt) 65) <|
ee) (by kernel_rfl)
theorem q_iOq1_1_8 (n : Nat) {rnd : Option Nat} (x1_0a : Int × Int × Int) (x1_0t : List (Int × Int × Int)) (x1_1 : Nat) (x1_2 x1_3 : Int) (hy1_1 : x1_3 < x1_2) (hy1_2 : 0 ≤ x1_3 ∧ x1_3 < (Args.A.length : Int)) (y1_3_ : R8) (hy1_3 : (some ((Args.A).getD (x1_3).toNat (0, 0, 0, 0, 0, 0, nl0, 0))) = some y1_3_) (hy1_4 : x1_3 > (0 : Int)) (hy1_5 : ¬ (((x1_1 : Nat) : Int) = (0 : Int))) (y1_6_ : Int) (hy1_6 : (some (w64 (((x1_1 : Nat) : Int) - (1 : Int)))) = some y1_6_) (hy1_7 : 0 ≤ y1_6_ ∧ y1_6_ < ((x1_1 : Nat) : Int)) (hy1_8 : (y1_6_).toNat < ((x1_0a :: x1_0t)).length) (y1_9_ : Int × Int × Int) (hy1_9 : (some (((x1_0a :: x1_0t)).getD (y1_6_).toNat (0, 0, 0))) = some y1_9_) (hy1_10 : 0 ≤ (y1_9_.1) ∧ (y1_9_.1) < (Args.A.length : Int)) (y1_11_ : R8) (hy1_11 : (some ((Args.A).getD ((y1_9_.1)).toNat (0, 0, 0, 0, 0, 0, nl0, 0))) = some y1_11_) (hy1_12 : 0 ≤ (y1_9_.2.1) ∧ (y1_9_.2.1) < (y1_11_.2.2.2.2.2.2.1.l.length : Int)) (hy1_13 : ((y1_9_.2.1)).toNat < (((y1_11_.2.2.2.2.2.2.1)).l).length) (y1_14_ : Int) (hy1_14 : (some ((((y1_11_.2.2.2.2.2.2.1)).l).getD ((y1_9_.2.1)).toNat 0)) = some y1_14_) (hy1_15 : y1_14_ = x1_3) (hy1_16 : ¬ ((y1_3_.2.2.1) < (y1_9_.2.2))) (hy1_17 : ¬ ((y1_3_.2.2.2.2.1) > (y1_11_.2.2.2.2.1))) (hy1_18 : (w64 ((y1_9_.2.1) + (1 : Int))) = (y1_11_.2.2.2.2.2.2.1.l.length : Int)) (hy1_19 : 0 ≤ y1_6_ ∧ y1_6_ ≤ ((x1_1 : Nat) : Int)) (hy1_20 : ¬ ((y1_3_.2.2.2.2.2.2.1.l.length : Int) > (0 : Int))) : Q_iOq1_1 rnd x1_2 ((x1_0a :: x1_0t), x1_1, x1_3) (.normal, S_iOq1_1 x1_2 ((((x1_0a :: x1_0t)).set (y1_6_).toNat ((y1_9_.1), (w64 ((y1_9_.2.1) + (1 : Int))), (y1_3_.2.2.2.2.1))), ((y1_6_).toNat), (w64 (x1_3 + (1 : Int))))) :=
 by
 obtain ⟨za, zt, hz⟩ : ∃ a t, (((x1_0a :: x1_0t)).set (y1_6_).toNat ((y1_9_.1), (w64 ((y1_9_.2.1) + (1 : Int))), (y1_3_.2.2.2.2.1))) = a :: t := set_cons
 rw [hz]
 exact runC2 hm (L := lT []) ⟨[0, 3, 8, 9, 10], [(0, 0, true)], 1, 0, [], false, []⟩ (zz 1 (xdT hy1_1) <|
zz 8 (xk1 0 Args.cA hy1_2) <|
zz 9 (lk2 hy1_3 (toNatLt hy1_2)) <|
zz 16 (xdT hy1_4) <|
zz 22 (xeF hy1_5) <|
zz 28 (xnm hy1_6) <|
zz 29 (xk3 0 U3 hy1_7) <|
zz 36 (ok4 hy1_9 (hy1_8)) <|
zz 37 (xk1 0 Args.cA hy1_10) <|
zz 38 (lk2 hy1_11 (toNatLt hy1_10)) <|
zz 48 (ok5 hy1_9 (hy1_8)) <|
zz 49 (xk6 (Nat.add ((y1_11_.2.2.2.2.2.2.1)).num 64) ((y1_11_.2.2.2.2.2.2.1)).cap hy1_12) <|
zz 50 (nk7 hy1_14 hy1_13) <|
zz 52 (xnF hy1_15) <|
zz 59 (ok8 hy1_9 (hy1_8)) <|
zz 60 (xdF hy1_16) <|
zz 67 (xdF hy1_17) <|
zz 76 (ok5 hy1_9 (hy1_8)) <|
yy 82 (.sto (layT (rows rw_iii (((x1_0a :: x1_0t)).set (y1_6_).toNat ((y1_9_.1), (w64 ((y1_9_.2.1) + (1 : Int))), (y1_9_.2.2)))))) <|
ww (p := ∃ old, rdT (layT (rows rw_iii (x1_0a :: x1_0t))) 1 (Nat.add ((y1_6_).toNat * 3) 1) = some old) (Exists.elim (rows_stN rwf_iii (0, 0, 0) (hr := hy1_9) (i := (y1_6_).toNat) (j := 1) (l := [(i6 (w64 ((y1_9_.2.1) + (1 : Int))))]) ((y1_9_.1), (w64 ((y1_9_.2.1) + (1 : Int))), (y1_9_.2.2)) (Nat.add ((y1_6_).toNat * 3) 1) rfl (hy1_8) (Nat.le_of_ble_eq_true rfl) rfl) fun o h => ⟨o, h.1⟩) <|
ww (p := layL [(i6 (w64 ((y1_9_.2.1) + (1 : Int))))] (Nat.add ((y1_6_).toNat * 3) 1) (layT (rows rw_iii (x1_0a :: x1_0t))) = layT (rows rw_iii (((x1_0a :: x1_0t)).set (y1_6_).toNat ((y1_9_.1), (w64 ((y1_9_.2.1) + (1 : Int))), (y1_9_.2.2))))) (Exists.elim (rows_stN rwf_iii (0, 0, 0) (hr := hy1_9) (i := (y1_6_).toNat) (j := 1) (l := [(i6 (w64 ((y1_9_.2.1) + (1 : Int))))]) ((y1_9_.1), (w64 ((y1_9_.2.1) + (1 : Int))), (y1_9_.2.2)) (Nat.add ((y1_6_).toNat * 3) 1) rfl (hy1_8) (Nat.le_of_ble_eq_true rfl) rfl) fun o h => h.2) <|
yy 85 (.sto (layT (rows rw_iii (za :: zt)))) <|
ww (p := ∃ old, rdT (layT (rows rw_iii (((x1_0a :: x1_0t)).set (y1_6_).toNat ((y1_9_.1), (w64 ((y1_9_.2.1) + (1 : Int))), (y1_9_.2.2))))) 1 (Nat.add ((y1_6_).toNat * 3) 2) = some old) (Exists.elim (rows_stS rwf_iii (i := (y1_6_).toNat) (j := 2) (l := [(i6 (y1_3_.2.2.2.2.1))]) ((y1_9_.1), (w64 ((y1_9_.2.1) + (1 : Int))), (y1_9_.2.2)) ((y1_9_.1), (w64 ((y1_9_.2.1) + (1 : Int))), (y1_3_.2.2.2.2.1)) (Nat.add ((y1_6_).toNat * 3) 2) rfl (hy1_8) (Nat.le_of_ble_eq_true rfl) rfl) fun o h => ⟨o, h.1⟩) <|
ww (p := layL [(i6 (y1_3_.2.2.2.2.1))] (Nat.add ((y1_6_).toNat * 3) 2) (layT (rows rw_iii (((x1_0a :: x1_0t)).set (y1_6_).toNat ((y1_9_.1), (w64 ((y1_9_.2.1) + (1 : Int))), (y1_9_.2.2))))) = layT (rows rw_iii (za :: zt))) (by rw [← hz]; exact (Exists.elim (rows_stS rwf_iii (i := (y1_6_).toNat) (j := 2) (l := [(i6 (y1_3_.2.2.2.2.1))]) ((y1_9_.1), (w64 ((y1_9_.2.1) + (1 : Int))), (y1_9_.2.2)) ((y1_9_.1), (w64 ((y1_9_.2.1) + (1 : Int))), (y1_3_.2.2.2.2.1)) (Nat.add ((y1_6_).toNat * 3) 2) rfl (hy1_8) (Nat.le_of_ble_eq_true rfl) rfl) fun o h => h.2)) <|
yy 90 (.ld (i6 (w64 ((y1_9_.2.1) + (1 : Int))))) <|
ww (p := (layT (rows rw_iii (za :: zt))).get (Nat.add ((y1_6_).toNat * 3) 1) = some (i6 (w64 ((y1_9_.2.1) + (1 : Int))))) (by rw [← hz]; exact (rows_ldS rwf_iii (i := (y1_6_).toNat) (j := 1) ((y1_9_.1), (w64 ((y1_9_.2.1) + (1 : Int))), (y1_3_.2.2.2.2.1)) (Nat.add ((y1_6_).toNat * 3) 1) rfl (hy1_8) (by decide) rfl)) <|
zz 94 (xeT hy1_18) <|
zz 99 (xnm hy1_6) <|
yy 100 (.pur (sN 0 0 (y1_6_).toNat (Nat.add big 3))) <|
ww (p := opSlice P 62 (sN 0 0 x1_1 (Nat.add big 3)) none (some (i6 y1_6_)) none Ax.h0 = some ((sN 0 0 (y1_6_).toNat (Nat.add big 3)), Ax.h0)) (slRowHi (e := 65) (es := 3) (by kernel_rfl) (by kernel_rfl) rfl rfl hy1_19) <|
zz 106 (xdF hy1_20) <|
ww (rows_flat rwf_iii (za :: zt) 65) <|
ee) (by kernel_rfl)
theorem q_iOq1_1_9 (n : Nat) {rnd : Option Nat} (x1_0a : Int × Int × Int) (x1_0t : List (Int × Int × Int)) (x1_1 : Nat) (x1_2 x1_3 : Int) (hy1_1 : x1_3 < x1_2) (hy1_2 : 0 ≤ x1_3 ∧ x1_3 < (Args.A.length : Int)) (y1_3_ : R8) (hy1_3 : (some ((Args.A).getD (x1_3).toNat (0, 0, 0, 0, 0, 0, nl0, 0))) = some y1_3_) (hy1_4 : x1_3 > (0 : Int)) (hy1_5 : ¬ (((x1_1 : Nat) : Int) = (0 : Int))) (y1_6_ : Int) (hy1_6 : (some (w64 (((x1_1 : Nat) : Int) - (1 : Int)))) = some y1_6_) (hy1_7 : 0 ≤ y1_6_ ∧ y1_6_ < ((x1_1 : Nat) : Int)) (hy1_8 : (y1_6_).toNat < ((x1_0a :: x1_0t)).length) (y1_9_ : Int × Int × Int) (hy1_9 : (some (((x1_0a :: x1_0t)).getD (y1_6_).toNat (0, 0, 0))) = some y1_9_) (hy1_10 : 0 ≤ (y1_9_.1) ∧ (y1_9_.1) < (Args.A.length : Int)) (y1_11_ : R8) (hy1_11 : (some ((Args.A).getD ((y1_9_.1)).toNat (0, 0, 0, 0, 0, 0, nl0, 0))) = some y1_11_) (hy1_12 : 0 ≤ (y1_9_.2.1) ∧ (y1_9_.2.1) < (y1_11_.2.2.2.2.2.2.1.l.length : Int)) (hy1_13 : ((y1_9_.2.1)).toNat < (((y1_11_.2.2.2.2.2.2.1)).l).length) (y1_14_ : Int) (hy1_14 : (some ((((y1_11_.2.2.2.2.2.2.1)).l).getD ((y1_9_.2.1)).toNat 0)) = some y1_14_) (hy1_15 : y1_14_ = x1_3) (hy1_16 : ¬ ((y1_3_.2.2.1) < (y1_9_.2.2))) (hy1_17 : ¬ ((y1_3_.2.2.2.2.1) > (y1_11_.2.2.2.2.1))) (hy1_18 : ¬ ((w64 ((y1_9_.2.1) + (1 : Int))) = (y1_11_.2.2.2.2.2.2.1.l.length : Int))) (hy1_19 : (y1_3_.2.2.2.2.2.2.1.l.length : Int) > (0 : Int)) (hy1_20 : x1_1 ≤ ((((x1_0a :: x1_0t)).set (y1_6_).toNat ((y1_9_.1), (w64 ((y1_9_.2.1) + (1 : Int))), (y1_3_.2.2.2.2.1)))).length) (hy1_21 : (x1_1 + 1) * 24 ≤ 140737488355328) : Q_iOq1_1 rnd x1_2 ((x1_0a :: x1_0t), x1_1, x1_3) (.normal, S_iOq1_1 x1_2 (((List.take x1_1 (((x1_0a :: x1_0t)).set (y1_6_).toNat ((y1_9_.1), (w64 ((y1_9_.2.1) + (1 : Int))), (y1_3_.2.2.2.2.1)))) ++ [(x1_3, (0 : Int), (y1_3_.2.2.1))]), ((((List.take x1_1 (((x1_0a :: x1_0t)).set (y1_6_).toNat ((y1_9_.1), (w64 ((y1_9_.2.1) + (1 : Int))), (y1_3_.2.2.2.2.1)))) ++ [(x1_3, (0 : Int), (y1_3_.2.2.1))])).length), (w64 (x1_3 + (1 : Int))))) :=
 by
 obtain ⟨za, zt, hz⟩ : ∃ a t, ((List.take x1_1 (((x1_0a :: x1_0t)).set (y1_6_).toNat ((y1_9_.1), (w64 ((y1_9_.2.1) + (1 : Int))), (y1_3_.2.2.2.2.1)))) ++ [(x1_3, (0 : Int), (y1_3_.2.2.1))]) = a :: t := snoc_cons (List.take x1_1 (((x1_0a :: x1_0t)).set (y1_6_).toNat ((y1_9_.1), (w64 ((y1_9_.2.1) + (1 : Int))), (y1_3_.2.2.2.2.1)))) (x1_3, (0 : Int), (y1_3_.2.2.1))
 rw [hz]
 exact runC2 hm (L := lT []) ⟨[0, 3, 8, 9, 10], [(0, 4, true)], 1, 0, [], false, []⟩ (zz 1 (xdT hy1_1) <|
zz 8 (xk1 0 Args.cA hy1_2) <|
zz 9 (lk2 hy1_3 (toNatLt hy1_2)) <|
zz 16 (xdT hy1_4) <|
zz 22 (xeF hy1_5) <|
zz 28 (xnm hy1_6) <|
zz 29 (xk3 0 U3 hy1_7) <|
zz 36 (ok4 hy1_9 (hy1_8)) <|
zz 37 (xk1 0 Args.cA hy1_10) <|
zz 38 (lk2 hy1_11 (toNatLt hy1_10)) <|
zz 48 (ok5 hy1_9 (hy1_8)) <|
zz 49 (xk6 (Nat.add ((y1_11_.2.2.2.2.2.2.1)).num 64) ((y1_11_.2.2.2.2.2.2.1)).cap hy1_12) <|
zz 50 (nk7 hy1_14 hy1_13) <|
zz 52 (xnF hy1_15) <|
zz 59 (ok8 hy1_9 (hy1_8)) <|
zz 60 (xdF hy1_16) <|
zz 67 (xdF hy1_17) <|
zz 76 (ok5 hy1_9 (hy1_8)) <|
yy 82 (.sto (layT (rows rw_iii (((x1_0a :: x1_0t)).set (y1_6_).toNat ((y1_9_.1), (w64 ((y1_9_.2.1) + (1 : Int))), (y1_9_.2.2)))))) <|
ww (p := ∃ old, rdT (layT (rows rw_iii (x1_0a :: x1_0t))) 1 (Nat.add ((y1_6_).toNat * 3) 1) = some old) (Exists.elim (rows_stN rwf_iii (0, 0, 0) (hr := hy1_9) (i := (y1_6_).toNat) (j := 1) (l := [(i6 (w64 ((y1_9_.2.1) + (1 : Int))))]) ((y1_9_.1), (w64 ((y1_9_.2.1) + (1 : Int))), (y1_9_.2.2)) (Nat.add ((y1_6_).toNat * 3) 1) rfl (hy1_8) (Nat.le_of_ble_eq_true rfl) rfl) fun o h => ⟨o, h.1⟩) <|
ww (p := layL [(i6 (w64 ((y1_9_.2.1) + (1 : Int))))] (Nat.add ((y1_6_).toNat * 3) 1) (layT (rows rw_iii (x1_0a :: x1_0t))) = layT (rows rw_iii (((x1_0a :: x1_0t)).set (y1_6_).toNat ((y1_9_.1), (w64 ((y1_9_.2.1) + (1 : Int))), (y1_9_.2.2))))) (Exists.elim (rows_stN rwf_iii (0, 0, 0) (hr := hy1_9) (i := (y1_6_).toNat) (j := 1) (l := [(i6 (w64 ((y1_9_.2.1) + (1 : Int))))]) ((y1_9_.1), (w64 ((y1_9_.2.1) + (1 : Int))), (y1_9_.2.2)) (Nat.add ((y1_6_).toNat * 3) 1) rfl (hy1_8) (Nat.le_of_ble_eq_true rfl) rfl) fun o h => h.2) <|
yy 85 (.sto (layT (rows rw_iii (((x1_0a :: x1_0t)).set (y1_6_).toNat ((y1_9_.1), (w64 ((y1_9_.2.1) + (1 : Int))), (y1_3_.2.2.2.2.1)))))) <|
ww (p := ∃ old, rdT (layT (rows rw_iii (((x1_0a :: x1_0t)).set (y1_6_).toNat ((y1_9_.1), (w64 ((y1_9_.2.1) + (1 : Int))), (y1_9_.2.2))))) 1 (Nat.add ((y1_6_).toNat * 3) 2) = some old) (Exists.elim (rows_stS rwf_iii (i := (y1_6_).toNat) (j := 2) (l := [(i6 (y1_3_.2.2.2.2.1))]) ((y1_9_.1), (w64 ((y1_9_.2.1) + (1 : Int))), (y1_9_.2.2)) ((y1_9_.1), (w64 ((y1_9_.2.1) + (1 : Int))), (y1_3_.2.2.2.2.1)) (Nat.add ((y1_6_).toNat * 3) 2) rfl (hy1_8) (Nat.le_of_ble_eq_true rfl) rfl) fun o h => ⟨o, h.1⟩) <|
ww (p := layL [(i6 (y1_3_.2.2.2.2.1))] (Nat.add ((y1_6_).toNat * 3) 2) (layT (rows rw_iii (((x1_0a :: x1_0t)).set (y1_6_).toNat ((y1_9_.1), (w64 ((y1_9_.2.1) + (1 : Int))), (y1_9_.2.2))))) = layT (rows rw_iii (((x1_0a :: x1_0t)).set (y1_6_).toNat ((y1_9_.1), (w64 ((y1_9_.2.1) + (1 : Int))), (y1_3_.2.2.2.2.1))))) (Exists.elim (rows_stS rwf_iii (i := (y1_6_).toNat) (j := 2) (l := [(i6 (y1_3_.2.2.2.2.1))]) ((y1_9_.1), (w64 ((y1_9_.2.1) + (1 : Int))), (y1_9_.2.2)) ((y1_9_.1), (w64 ((y1_9_.2.1) + (1 : Int))), (y1_3_.2.2.2.2.1)) (Nat.add ((y1_6_).toNat * 3) 2) rfl (hy1_8) (Nat.le_of_ble_eq_true rfl) rfl) fun o h => h.2) <|
yy 90 (.ld (i6 (w64 ((y1_9_.2.1) + (1 : Int))))) <|
ww (p := (layT (rows rw_iii (((x1_0a :: x1_0t)).set (y1_6_).toNat ((y1_9_.1), (w64 ((y1_9_.2.1) + (1 : Int))), (y1_3_.2.2.2.2.1))))).get (Nat.add ((y1_6_).toNat * 3) 1) = some (i6 (w64 ((y1_9_.2.1) + (1 : Int))))) (rows_ldS rwf_iii (i := (y1_6_).toNat) (j := 1) ((y1_9_.1), (w64 ((y1_9_.2.1) + (1 : Int))), (y1_3_.2.2.2.2.1)) (Nat.add ((y1_6_).toNat * 3) 1) rfl (hy1_8) (by decide) rfl) <|
zz 94 (xeF hy1_18) <|
zz 100 (xdT hy1_19) <|
yy 108 (.app ⟨none, rows rw_iii (List.take x1_1 (((x1_0a :: x1_0t)).set (y1_6_).toNat ((y1_9_.1), (w64 ((y1_9_.2.1) + (1 : Int))), (y1_3_.2.2.2.2.1)))), (rows rw_iii (za :: zt)), ((za :: zt)).length, false⟩) <|
ww (p := 0 < 1) ((by decide)) <|
ww (p := rdT (layT (rows rw_iii (((x1_0a :: x1_0t)).set (y1_6_).toNat ((y1_9_.1), (w64 ((y1_9_.2.1) + (1 : Int))), (y1_3_.2.2.2.2.1))))) (Nat.mul x1_1 3) 0 = some (rows rw_iii (List.take x1_1 (((x1_0a :: x1_0t)).set (y1_6_).toNat ((y1_9_.1), (w64 ((y1_9_.2.1) + (1 : Int))), (y1_3_.2.2.2.2.1)))))) (rows_rdTake rwf_iii _ _ hy1_20) <|
ww (p := fits (Nat.add x1_1 1) 24 = true) (fits_ok hy1_21 (by have := hy1_21; show (_ : Nat) + _ ≤ _; omega)) <|
ww (p := allCells [(i6 x1_3), (i6 (0 : Int)), (i6 (y1_3_.2.2.1))] = true) (rfl) <|
ww (p := allCells (rows rw_iii (List.take x1_1 (((x1_0a :: x1_0t)).set (y1_6_).toNat ((y1_9_.1), (w64 ((y1_9_.2.1) + (1 : Int))), (y1_3_.2.2.2.2.1))))) = true) (rows_cells rwf_iii _) <|
ww (p := rows rw_iii (List.take x1_1 (((x1_0a :: x1_0t)).set (y1_6_).toNat ((y1_9_.1), (w64 ((y1_9_.2.1) + (1 : Int))), (y1_3_.2.2.2.2.1)))) ++ [(i6 x1_3), (i6 (0 : Int)), (i6 (y1_3_.2.2.1))] = (rows rw_iii (za :: zt))) (by rw [← hz]; exact (rows_app rw_iii (List.take x1_1 (((x1_0a :: x1_0t)).set (y1_6_).toNat ((y1_9_.1), (w64 ((y1_9_.2.1) + (1 : Int))), (y1_3_.2.2.2.2.1)))) [(x1_3, (0 : Int), (y1_3_.2.2.1))])) <|
ww (p := Nat.add x1_1 1 = ((za :: zt)).length) (by rw [← hz]; exact (take_len hy1_20 rfl)) <|
ww (rows_flat rwf_iii (za :: zt) 65) <|
ee) (by kernel_rfl)
theorem q_iOq1_1_10 (n : Nat) {rnd : Option Nat} (x1_0a : Int × Int × Int) (x1_0t : List (Int × Int × Int)) (x1_1 : Nat) (x1_2 x1_3 : Int) (hy1_1 : x1_3 < x1_2) (hy1_2 : 0 ≤ x1_3 ∧ x1_3 < (Args.A.length : Int)) (y1_3_ : R8) (hy1_3 : (some ((Args.A).getD (x1_3).toNat (0, 0, 0, 0, 0, 0, nl0, 0))) = some y1_3_) (hy1_4 : x1_3 > (0 : Int)) (hy1_5 : ¬ (((x1_1 : Nat) : Int) = (0 : Int))) (y1_6_ : Int) (hy1_6 : (some (w64 (((x1_1 : Nat) : Int) - (1 : Int)))) = some y1_6_) (hy1_7 : 0 ≤ y1_6_ ∧ y1_6_ < ((x1_1 : Nat) : Int)) (hy1_8 : (y1_6_).toNat < ((x1_0a :: x1_0t)).length) (y1_9_ : Int × Int × Int) (hy1_9 : (some (((x1_0a :: x1_0t)).getD (y1_6_).toNat (0, 0, 0))) = some y1_9_) (hy1_10 : 0 ≤ (y1_9_.1) ∧ (y1_9_.1) < (Args.A.length : Int)) (y1_11_ : R8) (hy1_11 : (some ((Args.A).getD ((y1_9_.1)).toNat (0, 0, 0, 0, 0, 0, nl0, 0))) = some y1_11_) (hy1_12 : 0 ≤ (y1_9_.2.1) ∧ (y1_9_.2.1) < (y1_11_.2.2.2.2.2.2.1.l.length : Int)) (hy1_13 : ((y1_9_.2.1)).toNat < (((y1_11_.2.2.2.2.2.2.1)).l).length) (y1_14_ : Int) (hy1_14 : (some ((((y1_11_.2.2.2.2.2.2.1)).l).getD ((y1_9_.2.1)).toNat 0)) = some y1_14_) (hy1_15 : y1_14_ = x1_3) (hy1_16 : ¬ ((y1_3_.2.2.1) < (y1_9_.2.2))) (hy1_17 : ¬ ((y1_3_.2.2.2.2.1) > (y1_11_.2.2.2.2.1))) (hy1_18 : ¬ ((w64 ((y1_9_.2.1) + (1 : Int))) = (y1_11_.2.2.2.2.2.2.1.l.length : Int))) (hy1_19 : ¬ ((y1_3_.2.2.2.2.2.2.1.l.length : Int) > (0 : Int))) : Q_iOq1_1 rnd x1_2 ((x1_0a :: x1_0t), x1_1, x1_3) (.normal, S_iOq1_1 x1_2 ((((x1_0a :: x1_0t)).set (y1_6_).toNat ((y1_9_.1), (w64 ((y1_9_.2.1) + (1 : Int))), (y1_3_.2.2.2.2.1))), x1_1, (w64 (x1_3 + (1 : Int))))) :=
 by
 obtain ⟨za, zt, hz⟩ : ∃ a t, (((x1_0a :: x1_0t)).set (y1_6_).toNat ((y1_9_.1), (w64 ((y1_9_.2.1) + (1 : Int))), (y1_3_.2.2.2.2.1))) = a :: t := set_cons
 rw [hz]
 exact runC2 hm (L := lT []) ⟨[0, 3, 8, 9, 10], [(0, 0, true)], 1, 0, [], false, []⟩ (zz 1 (xdT hy1_1) <|
zz 8 (xk1 0 Args.cA hy1_2) <|
zz 9 (lk2 hy1_3 (toNatLt hy1_2)) <|
zz 16 (xdT hy1_4) <|
zz 22 (xeF hy1_5) <|
zz 28 (xnm hy1_6) <|
zz 29 (xk3 0 U3 hy1_7) <|
zz 36 (ok4 hy1_9 (hy1_8)) <|
zz 37 (xk1 0 Args.cA hy1_10) <|
zz 38 (lk2 hy1_11 (toNatLt hy1_10)) <|
zz 48 (ok5 hy1_9 (hy1_8)) <|
zz 49 (xk6 (Nat.add ((y1_11_.2.2.2.2.2.2.1)).num 64) ((y1_11_.2.2.2.2.2.2.1)).cap hy1_12) <|
zz 50 (nk7 hy1_14 hy1_13) <|
zz 52 (xnF hy1_15) <|
zz 59 (ok8 hy1_9 (hy1_8)) <|
zz 60 (xdF hy1_16) <|
zz 67 (xdF hy1_17) <|
zz 76 (ok5 hy1_9 (hy1_8)) <|
yy 82 (.sto (layT (rows rw_iii (((x1_0a :: x1_0t)).set (y1_6_).toNat ((y1_9_.1), (w64 ((y1_9_.2.1) + (1 : Int))), (y1_9_.2.2)))))) <|
ww (p := ∃ old, rdT (layT (rows rw_iii (x1_0a :: x1_0t))) 1 (Nat.add ((y1_6_).toNat * 3) 1) = some old) (Exists.elim (rows_stN rwf_iii (0, 0, 0) (hr := hy1_9) (i := (y1_6_).toNat) (j := 1) (l := [(i6 (w64 ((y1_9_.2.1) + (1 : Int))))]) ((y1_9_.1), (w64 ((y1_9_.2.1) + (1 : Int))), (y1_9_.2.2)) (Nat.add ((y1_6_).toNat * 3) 1) rfl (hy1_8) (Nat.le_of_ble_eq_true rfl) rfl) fun o h => ⟨o, h.1⟩) <|
ww (p := layL [(i6 (w64 ((y1_9_.2.1) + (1 : Int))))] (Nat.add ((y1_6_).toNat * 3) 1) (layT (rows rw_iii (x1_0a :: x1_0t))) = layT (rows rw_iii (((x1_0a :: x1_0t)).set (y1_6_).toNat ((y1_9_.1), (w64 ((y1_9_.2.1) + (1 : Int))), (y1_9_.2.2))))) (Exists.elim (rows_stN rwf_iii (0, 0, 0) (hr := hy1_9) (i := (y1_6_).toNat) (j := 1) (l := [(i6 (w64 ((y1_9_.2.1) + (1 : Int))))]) ((y1_9_.1), (w64 ((y1_9_.2.1) + (1 : Int))), (y1_9_.2.2)) (Nat.add ((y1_6_).toNat * 3) 1) rfl (hy1_8) (Nat.le_of_ble_eq_true rfl) rfl) fun o h => h.2) <|
yy 85 (.sto (layT (rows rw_iii (za :: zt)))) <|
ww (p := ∃ old, rdT (layT (rows rw_iii (((x1_0a :: x1_0t)).set (y1_6_).toNat ((y1_9_.1), (w64 ((y1_9_.2.1) + (1 : Int))), (y1_9_.2.2))))) 1 (Nat.add ((y1_6_).toNat * 3) 2) = some old) (Exists.elim (rows_stS rwf_iii (i := (y1_6_).toNat) (j := 2) (l := [(i6 (y1_3_.2.2.2.2.1))]) ((y1_9_.1), (w64 ((y1_9_.2.1) + (1 : Int))), (y1_9_.2.2)) ((y1_9_.1), (w64 ((y1_9_.2.1) + (1 : Int))), (y1_3_.2.2.2.2.1)) (Nat.add ((y1_6_).toNat * 3) 2) rfl (hy1_8) (Nat.le_of_ble_eq_true rfl) rfl) fun o h => ⟨o, h.1⟩) <|
ww (p := layL [(i6 (y1_3_.2.2.2.2.1))] (Nat.add ((y1_6_).toNat * 3) 2) (layT (rows rw_iii (((x1_0a :: x1_0t)).set (y1_6_).toNat ((y1_9_.1), (w64 ((y1_9_.2.1) + (1 : Int))), (y1_9_.2.2))))) = layT (rows rw_iii (za :: zt))) (by rw [← hz]; exact (Exists.elim (rows_stS rwf_iii (i := (y1_6_).toNat) (j := 2) (l := [(i6 (y1_3_.2.2.2.2.1))]) ((y1_9_.1), (w64 ((y1_9_.2.1) + (1 : Int))), (y1_9_.2.2)) ((y1_9_.1), (w64 ((y1_9_.2.1) + (1 : Int))), (y1_3_.2.2.2.2.1)) (Nat.add ((y1_6_).toNat * 3) 2) rfl (hy1_8) (Nat.le_of_ble_eq_true rfl) rfl) fun o h => h.2)) <|
yy 90 (.ld (i6 (w64 ((y1_9_.2.1) + (1 : Int))))) <|
ww (p := (layT (rows rw_iii (za :: zt))).get (Nat.add ((y1_6_).toNat * 3) 1) = some (i6 (w64 ((y1_9_.2.1) + (1 : Int))))) (by rw [← hz]; exact (rows_ldS rwf_iii (i := (y1_6_).toNat) (j := 1) ((y1_9_.1), (w64 ((y1_9_.2.1) + (1 : Int))), (y1_3_.2.2.2.2.1)) (Nat.add ((y1_6_).toNat * 3) 1) rfl (hy1_8) (by decide) rfl)) <|
zz 94 (xeF hy1_18) <|
zz 100 (xdF hy1_19) <|
ww (rows_flat rwf_iii (za :: zt) 65) <|
ee) (by kernel_rfl)
theorem q_iOq1_1_11 (n : Nat) {rnd : Option Nat} (x1_0a : Int × Int × Int) (x1_0t : List (Int × Int × Int)) (x1_1 : Nat) (x1_2 x1_3 : Int) (hy1_1 : x1_3 < x1_2) (hy1_2 : 0 ≤ x1_3 ∧ x1_3 < (Args.A.length : Int)) (y1_3_ : R8) (hy1_3 : (some ((Args.A).getD (x1_3).toNat (0, 0, 0, 0, 0, 0, nl0, 0))) = some y1_3_) (hy1_4 : x1_3 > (0 : Int)) (hy1_5 : ¬ (((x1_1 : Nat) : Int) = (0 : Int))) (y1_6_ : Int) (hy1_6 : (some (w64 (((x1_1 : Nat) : Int) - (1 : Int)))) = some y1_6_) (hy1_7 : 0 ≤ y1_6_ ∧ y1_6_ < ((x1_1 : Nat) : Int)) (hy1_8 : (y1_6_).toNat < ((x1_0a :: x1_0t)).length) (y1_9_ : Int × Int × Int) (hy1_9 : (some (((x1_0a :: x1_0t)).getD (y1_6_).toNat (0, 0, 0))) = some y1_9_) (hy1_10 : 0 ≤ (y1_9_.1) ∧ (y1_9_.1) < (Args.A.length : Int)) (y1_11_ : R8) (hy1_11 : (some ((Args.A).getD ((y1_9_.1)).toNat (0, 0, 0, 0, 0, 0, nl0, 0))) = some y1_11_) (hy1_12 : 0 ≤ (y1_9_.2.1) ∧ (y1_9_.2.1) < (y1_11_.2.2.2.2.2.2.1.l.length : Int)) (hy1_13 : ((y1_9_.2.1)).toNat < (((y1_11_.2.2.2.2.2.2.1)).l).length) (y1_14_ : Int) (hy1_14 : (some ((((y1_11_.2.2.2.2.2.2.1)).l).getD ((y1_9_.2.1)).toNat 0)) = some y1_14_) (hy1_15 : ¬ (y1_14_ = x1_3)) : Q_iOq1_1 rnd x1_2 ((x1_0a :: x1_0t), x1_1, x1_3) (X_iOq1_1 x1_2 (.inl ())) :=
 runC2 hm (L := lT []) ⟨[2], [], 0, 0, [], false, []⟩ (zz 1 (xdT hy1_1) <|
zz 8 (xk1 0 Args.cA hy1_2) <|
zz 9 (lk2 hy1_3 (toNatLt hy1_2)) <|
zz 16 (xdT hy1_4) <|
zz 22 (xeF hy1_5) <|
zz 28 (xnm hy1_6) <|
zz 29 (xk3 0 U3 hy1_7) <|
zz 36 (ok4 hy1_9 (hy1_8)) <|
zz 37 (xk1 0 Args.cA hy1_10) <|
zz 38 (lk2 hy1_11 (toNatLt hy1_10)) <|
zz 48 (ok5 hy1_9 (hy1_8)) <|
zz 49 (xk6 (Nat.add ((y1_11_.2.2.2.2.2.2.1)).num 64) ((y1_11_.2.2.2.2.2.2.1)).cap hy1_12) <|
zz 50 (nk7 hy1_14 hy1_13) <|
zz 52 (xnT hy1_15) <|
ee) (by kernel_rfl)
theorem q_iOq1_1_12 (n : Nat) {rnd : Option Nat} (x1_0a : Int × Int × Int) (x1_0t : List (Int × Int × Int)) (x1_1 : Nat) (x1_2 x1_3 : Int) (hy1_1 : x1_3 < x1_2) (hy1_2 : 0 ≤ x1_3 ∧ x1_3 < (Args.A.length : Int)) (y1_3_ : R8) (hy1_3 : (some ((Args.A).getD (x1_3).toNat (0, 0, 0, 0, 0, 0, nl0, 0))) = some y1_3_) (hy1_4 : ¬ (x1_3 > (0 : Int))) (hy1_5 : (y1_3_.2.2.2.2.2.2.1.l.length : Int) > (0 : Int)) (hy1_6 : x1_1 ≤ ((x1_0a :: x1_0t)).length) (hy1_7 : (x1_1 + 1) * 24 ≤ 140737488355328) : Q_iOq1_1 rnd x1_2 ((x1_0a :: x1_0t), x1_1, x1_3) (.normal, S_iOq1_1 x1_2 (((List.take x1_1 (x1_0a :: x1_0t)) ++ [(x1_3, (0 : Int), (y1_3_.2.2.1))]), ((((List.take x1_1 (x1_0a :: x1_0t)) ++ [(x1_3, (0 : Int), (y1_3_.2.2.1))])).length), (w64 (x1_3 + (1 : Int))))) :=
 by
 obtain ⟨za, zt, hz⟩ : ∃ a t, ((List.take x1_1 (x1_0a :: x1_0t)) ++ [(x1_3, (0 : Int), (y1_3_.2.2.1))]) = a :: t := snoc_cons (List.take x1_1 (x1_0a :: x1_0t)) (x1_3, (0 : Int), (y1_3_.2.2.1))
 rw [hz]
 exact runC2 hm (L := lT []) ⟨[0, 3, 8, 9, 10], [(0, 3, true)], 1, 0, [], false, []⟩ (zz 1 (xdT hy1_1) <|
zz 8 (xk1 0 Args.cA hy1_2) <|
zz 9 (lk2 hy1_3 (toNatLt hy1_2)) <|
zz 16 (xdF hy1_4) <|
zz 22 (xdT hy1_5) <|
yy 30 (.app ⟨none, rows rw_iii (List.take x1_1 (x1_0a :: x1_0t)), (rows rw_iii (za :: zt)), ((za :: zt)).length, false⟩) <|
ww (p := 0 < 1) ((by decide)) <|
ww (p := rdT (layT (rows rw_iii (x1_0a :: x1_0t))) (Nat.mul x1_1 3) 0 = some (rows rw_iii (List.take x1_1 (x1_0a :: x1_0t)))) (rows_rdTake rwf_iii _ _ hy1_6) <|
ww (p := fits (Nat.add x1_1 1) 24 = true) (fits_ok hy1_7 (by have := hy1_7; show (_ : Nat) + _ ≤ _; omega)) <|
ww (p := allCells [(i6 x1_3), (i6 (0 : Int)), (i6 (y1_3_.2.2.1))] = true) (rfl) <|
ww (p := allCells (rows rw_iii (List.take x1_1 (x1_0a :: x1_0t))) = true) (rows_cells rwf_iii _) <|
ww (p := rows rw_iii (List.take x1_1 (x1_0a :: x1_0t)) ++ [(i6 x1_3), (i6 (0 : Int)), (i6 (y1_3_.2.2.1))] = (rows rw_iii (za :: zt))) (by rw [← hz]; exact (rows_app rw_iii (List.take x1_1 (x1_0a :: x1_0t)) [(x1_3, (0 : Int), (y1_3_.2.2.1))])) <|
ww (p := Nat.add x1_1 1 = ((za :: zt)).length) (by rw [← hz]; exact (take_len hy1_6 rfl)) <|
ww (rows_flat rwf_iii (za :: zt) 65) <|
ee) (by kernel_rfl)
theorem q_iOq1_1_13 (n : Nat) {rnd : Option Nat} (x1_0a : Int × Int × Int) (x1_0t : List (Int × Int × Int)) (x1_1 : Nat) (x1_2 x1_3 : Int) (hy1_1 : x1_3 < x1_2) (hy1_2 : 0 ≤ x1_3 ∧ x1_3 < (Args.A.length : Int)) (y1_3_ : R8) (hy1_3 : (some ((Args.A).getD (x1_3).toNat (0, 0, 0, 0, 0, 0, nl0, 0))) = some y1_3_) (hy1_4 : ¬ (x1_3 > (0 : Int))) (hy1_5 : ¬ ((y1_3_.2.2.2.2.2.2.1.l.length : Int) > (0 : Int))) : Q_iOq1_1 rnd x1_2 ((x1_0a :: x1_0t), x1_1, x1_3) (.normal, S_iOq1_1 x1_2 ((x1_0a :: x1_0t), x1_1, (w64 (x1_3 + (1 : Int))))) :=
 runC2 hm (L := lT []) ⟨[0, 3, 8, 9, 10], [(0, 0, true)], 1, 0, [], false, []⟩ (zz 1 (xdT hy1_1) <|
zz 8 (xk1 0 Args.cA hy1_2) <|
zz 9 (lk2 hy1_3 (toNatLt hy1_2)) <|
zz 16 (xdF hy1_4) <|
zz 22 (xdF hy1_5) <|
ww (rows_flat rwf_iii (x1_0a :: x1_0t) 65) <|
ee) (by kernel_rfl)
theorem q_iOq1_1_14 (n : Nat) {rnd : Option Nat} (x1_0a : Int × Int × Int) (x1_0t : List (Int × Int × Int)) (x1_1 : Nat) (x1_2 x1_3 : Int) (hy1_1 : ¬ (x1_3 < x1_2)) : Q_iOq1_1 rnd x1_2 ((x1_0a :: x1_0t), x1_1, x1_3) (X_iOq1_1 x1_2 (.inr ((x1_0a :: x1_0t), x1_1))) :=
 runC2 hm (L := lT []) ⟨[3], [(0, 0, true)], 1, 0, [], false, []⟩ (zz 1 (xdF hy1_1) <|
ww (rows_flat rwf_iii (x1_0a :: x1_0t) 65) <|
ee) (by kernel_rfl)
theorem m_iOq1_1_ok (n : Nat) {rnd : Option Nat} (x1_2 : Int) (st : List (Int × Int × Int) × Nat × Int) (r : (Unit) ⊕ (List (Int × Int × Int) × Nat)) (h : m_iOq1_1 n x1_2 st = some r) : CG P rnd (fnN P 18) 0 (codeOf P 18 [false, true, false, true, true]) (S_iOq1_1 x1_2 st) (X_iOq1_1 x1_2 r) :=
 CG.iter (b := codeOf P 18 [false, false, true, false, true, true]) (by kernel_rfl) (body := B_iOq1_1 n x1_2) (S := S_iOq1_1 x1_2) (X := X_iOq1_1 x1_2)
  (fun s s' h => by
  obtain ⟨x1_0, x1_1, x1_3⟩ := s
  unfold B_iOq1_1 at h
  dsimp only at h
  cases x1_0 with
  | nil =>
   dsimp only at h
   by_cases hy1_1 : x1_3 < x1_2
   ·rw [if_pos hy1_1] at h
    by_cases hy1_2 : 0 ≤ x1_3 ∧ x1_3 < (Args.A.length : Int)
    ·rw [if_pos hy1_2] at h
     obtain ⟨y1_3_, hy1_3, h⟩ := Option.bind_eq_some_iff.1 h
     by_cases hy1_4 : x1_3 > (0 : Int)
     ·rw [if_pos hy1_4] at h
      cases h
     ·rw [if_neg hy1_4] at h
      by_cases hy1_5 : (y1_3_.2.2.2.2.2.2.1.l.length : Int) > (0 : Int)
      ·rw [if_pos hy1_5] at h
       obtain rfl := Sum.inl.inj (oI h); exact q_iOq1_1_1 n x1_1 x1_2 x1_3 hy1_1 hy1_2 y1_3_ hy1_3 hy1_4 hy1_5
      ·rw [if_neg hy1_5] at h
       obtain rfl := Sum.inl.inj (oI h); exact q_iOq1_1_2 n x1_1 x1_2 x1_3 hy1_1 hy1_2 y1_3_ hy1_3 hy1_4 hy1_5
    ·rw [if_neg hy1_2] at h; cases h
   ·rw [if_neg hy1_1] at h
    cases h
  | cons x1_0a x1_0t =>
   dsimp only at h
   by_cases hy1_1 : x1_3 < x1_2
   ·rw [if_pos hy1_1] at h
    by_cases hy1_2 : 0 ≤ x1_3 ∧ x1_3 < (Args.A.length : Int)
    ·rw [if_pos hy1_2] at h
     obtain ⟨y1_3_, hy1_3, h⟩ := Option.bind_eq_some_iff.1 h
     by_cases hy1_4 : x1_3 > (0 : Int)
     ·rw [if_pos hy1_4] at h
      by_cases hy1_5 : ((x1_1 : Nat) : Int) = (0 : Int)
      ·rw [if_pos hy1_5] at h
       cases h
      ·rw [if_neg hy1_5] at h
       obtain ⟨y1_6_, hy1_6, h⟩ := Option.bind_eq_some_iff.1 h
       by_cases hy1_7 : 0 ≤ y1_6_ ∧ y1_6_ < ((x1_1 : Nat) : Int)
       ·rw [if_pos hy1_7] at h
        by_cases hy1_8 : (y1_6_).toNat < ((x1_0a :: x1_0t)).length
        ·rw [if_pos hy1_8] at h
         obtain ⟨y1_9_, hy1_9, h⟩ := Option.bind_eq_some_iff.1 h
         by_cases hy1_10 : 0 ≤ (y1_9_.1) ∧ (y1_9_.1) < (Args.A.length : Int)
         ·rw [if_pos hy1_10] at h
          obtain ⟨y1_11_, hy1_11, h⟩ := Option.bind_eq_some_iff.1 h
          by_cases hy1_12 : 0 ≤ (y1_9_.2.1) ∧ (y1_9_.2.1) < (y1_11_.2.2.2.2.2.2.1.l.length : Int)
          ·rw [if_pos hy1_12] at h
           by_cases hy1_13 : ((y1_9_.2.1)).toNat < (((y1_11_.2.2.2.2.2.2.1)).l).length
           ·rw [if_pos hy1_13] at h
            obtain ⟨y1_14_, hy1_14, h⟩ := Option.bind_eq_some_iff.1 h
            by_cases hy1_15 : y1_14_ = x1_3
            ·rw [if_pos hy1_15] at h
             by_cases hy1_16 : (y1_3_.2.2.1) < (y1_9_.2.2)
             ·rw [if_pos hy1_16] at h
              cases h
             ·rw [if_neg hy1_16] at h
              by_cases hy1_17 : (y1_3_.2.2.2.2.1) > (y1_11_.2.2.2.2.1)
              ·rw [if_pos hy1_17] at h
               cases h
              ·rw [if_neg hy1_17] at h
               by_cases hy1_18 : (w64 ((y1_9_.2.1) + (1 : Int))) = (y1_11_.2.2.2.2.2.2.1.l.length : Int)
               ·rw [if_pos hy1_18] at h
                by_cases hy1_19 : 0 ≤ y1_6_ ∧ y1_6_ ≤ ((x1_1 : Nat) : Int)
                ·rw [if_pos hy1_19] at h
                 by_cases hy1_20 : (y1_3_.2.2.2.2.2.2.1.l.length : Int) > (0 : Int)
                 ·rw [if_pos hy1_20] at h
                  by_cases hy1_21 : (y1_6_).toNat ≤ ((((x1_0a :: x1_0t)).set (y1_6_).toNat ((y1_9_.1), (w64 ((y1_9_.2.1) + (1 : Int))), (y1_3_.2.2.2.2.1)))).length
                  ·rw [if_pos hy1_21] at h
                   by_cases hy1_22 : ((y1_6_).toNat + 1) * 24 ≤ 140737488355328
                   ·rw [if_pos hy1_22] at h
                    obtain rfl := Sum.inl.inj (oI h); exact q_iOq1_1_7 n x1_0a x1_0t x1_1 x1_2 x1_3 hy1_1 hy1_2 y1_3_ hy1_3 hy1_4 hy1_5 y1_6_ hy1_6 hy1_7 hy1_8 y1_9_ hy1_9 hy1_10 y1_11_ hy1_11 hy1_12 hy1_13 y1_14_ hy1_14 hy1_15 hy1_16 hy1_17 hy1_18 hy1_19 hy1_20 hy1_21 hy1_22
                   ·rw [if_neg hy1_22] at h; cases h
                  ·rw [if_neg hy1_21] at h; cases h
                 ·rw [if_neg hy1_20] at h
                  obtain rfl := Sum.inl.inj (oI h); exact q_iOq1_1_8 n x1_0a x1_0t x1_1 x1_2 x1_3 hy1_1 hy1_2 y1_3_ hy1_3 hy1_4 hy1_5 y1_6_ hy1_6 hy1_7 hy1_8 y1_9_ hy1_9 hy1_10 y1_11_ hy1_11 hy1_12 hy1_13 y1_14_ hy1_14 hy1_15 hy1_16 hy1_17 hy1_18 hy1_19 hy1_20
                ·rw [if_neg hy1_19] at h; cases h
               ·rw [if_neg hy1_18] at h
                by_cases hy1_19 : (y1_3_.2.2.2.2.2.2.1.l.length : Int) > (0 : Int)
                ·rw [if_pos hy1_19] at h
                 by_cases hy1_20 : x1_1 ≤ ((((x1_0a :: x1_0t)).set (y1_6_).toNat ((y1_9_.1), (w64 ((y1_9_.2.1) + (1 : Int))), (y1_3_.2.2.2.2.1)))).length
                 ·rw [if_pos hy1_20] at h
                  by_cases hy1_21 : (x1_1 + 1) * 24 ≤ 140737488355328
                  ·rw [if_pos hy1_21] at h
                   obtain rfl := Sum.inl.inj (oI h); exact q_iOq1_1_9 n x1_0a x1_0t x1_1 x1_2 x1_3 hy1_1 hy1_2 y1_3_ hy1_3 hy1_4 hy1_5 y1_6_ hy1_6 hy1_7 hy1_8 y1_9_ hy1_9 hy1_10 y1_11_ hy1_11 hy1_12 hy1_13 y1_14_ hy1_14 hy1_15 hy1_16 hy1_17 hy1_18 hy1_19 hy1_20 hy1_21
                  ·rw [if_neg hy1_21] at h; cases h
                 ·rw [if_neg hy1_20] at h; cases h
                ·rw [if_neg hy1_19] at h
                 obtain rfl := Sum.inl.inj (oI h); exact q_iOq1_1_10 n x1_0a x1_0t x1_1 x1_2 x1_3 hy1_1 hy1_2 y1_3_ hy1_3 hy1_4 hy1_5 y1_6_ hy1_6 hy1_7 hy1_8 y1_9_ hy1_9 hy1_10 y1_11_ hy1_11 hy1_12 hy1_13 y1_14_ hy1_14 hy1_15 hy1_16 hy1_17 hy1_18 hy1_19
            ·rw [if_neg hy1_15] at h
             cases h
           ·rw [if_neg hy1_13] at h; cases h
          ·rw [if_neg hy1_12] at h; cases h
         ·rw [if_neg hy1_10] at h; cases h
        ·rw [if_neg hy1_8] at h; cases h
       ·rw [if_neg hy1_7] at h; cases h
     ·rw [if_neg hy1_4] at h
      by_cases hy1_5 : (y1_3_.2.2.2.2.2.2.1.l.length : Int) > (0 : Int)
      ·rw [if_pos hy1_5] at h
       by_cases hy1_6 : x1_1 ≤ ((x1_0a :: x1_0t)).length
       ·rw [if_pos hy1_6] at h
        by_cases hy1_7 : (x1_1 + 1) * 24 ≤ 140737488355328
        ·rw [if_pos hy1_7] at h
         obtain rfl := Sum.inl.inj (oI h); exact q_iOq1_1_12 n x1_0a x1_0t x1_1 x1_2 x1_3 hy1_1 hy1_2 y1_3_ hy1_3 hy1_4 hy1_5 hy1_6 hy1_7
        ·rw [if_neg hy1_7] at h; cases h
       ·rw [if_neg hy1_6] at h; cases h
      ·rw [if_neg hy1_5] at h
       obtain rfl := Sum.inl.inj (oI h); exact q_iOq1_1_13 n x1_0a x1_0t x1_1 x1_2 x1_3 hy1_1 hy1_2 y1_3_ hy1_3 hy1_4 hy1_5
    ·rw [if_neg hy1_2] at h; cases h
   ·rw [if_neg hy1_1] at h
    cases h)
  (fun s r h => by
  obtain ⟨x1_0, x1_1, x1_3⟩ := s
  unfold B_iOq1_1 at h
  dsimp only at h
  cases x1_0 with
  | nil =>
   dsimp only at h
   by_cases hy1_1 : x1_3 < x1_2
   ·rw [if_pos hy1_1] at h
    by_cases hy1_2 : 0 ≤ x1_3 ∧ x1_3 < (Args.A.length : Int)
    ·rw [if_pos hy1_2] at h
     obtain ⟨y1_3_, hy1_3, h⟩ := Option.bind_eq_some_iff.1 h
     by_cases hy1_4 : x1_3 > (0 : Int)
     ·rw [if_pos hy1_4] at h
      obtain rfl := Sum.inr.inj (oI h); exact q_iOq1_1_0 n x1_1 x1_2 x1_3 hy1_1 hy1_2 y1_3_ hy1_3 hy1_4
     ·rw [if_neg hy1_4] at h
      by_cases hy1_5 : (y1_3_.2.2.2.2.2.2.1.l.length : Int) > (0 : Int)
      ·rw [if_pos hy1_5] at h
       cases h
      ·rw [if_neg hy1_5] at h
       cases h
    ·rw [if_neg hy1_2] at h; cases h
   ·rw [if_neg hy1_1] at h
    obtain rfl := Sum.inr.inj (oI h); exact q_iOq1_1_3 n x1_1 x1_2 x1_3 hy1_1
  | cons x1_0a x1_0t =>
   dsimp only at h
   by_cases hy1_1 : x1_3 < x1_2
   ·rw [if_pos hy1_1] at h
    by_cases hy1_2 : 0 ≤ x1_3 ∧ x1_3 < (Args.A.length : Int)
    ·rw [if_pos hy1_2] at h
     obtain ⟨y1_3_, hy1_3, h⟩ := Option.bind_eq_some_iff.1 h
     by_cases hy1_4 : x1_3 > (0 : Int)
     ·rw [if_pos hy1_4] at h
      by_cases hy1_5 : ((x1_1 : Nat) : Int) = (0 : Int)
      ·rw [if_pos hy1_5] at h
       obtain rfl := Sum.inr.inj (oI h); exact q_iOq1_1_4 n x1_0a x1_0t x1_1 x1_2 x1_3 hy1_1 hy1_2 y1_3_ hy1_3 hy1_4 hy1_5
      ·rw [if_neg hy1_5] at h
       obtain ⟨y1_6_, hy1_6, h⟩ := Option.bind_eq_some_iff.1 h
       by_cases hy1_7 : 0 ≤ y1_6_ ∧ y1_6_ < ((x1_1 : Nat) : Int)
       ·rw [if_pos hy1_7] at h
        by_cases hy1_8 : (y1_6_).toNat < ((x1_0a :: x1_0t)).length
        ·rw [if_pos hy1_8] at h
         obtain ⟨y1_9_, hy1_9, h⟩ := Option.bind_eq_some_iff.1 h
         by_cases hy1_10 : 0 ≤ (y1_9_.1) ∧ (y1_9_.1) < (Args.A.length : Int)
         ·rw [if_pos hy1_10] at h
          obtain ⟨y1_11_, hy1_11, h⟩ := Option.bind_eq_some_iff.1 h
          by_cases hy1_12 : 0 ≤ (y1_9_.2.1) ∧ (y1_9_.2.1) < (y1_11_.2.2.2.2.2.2.1.l.length : Int)
          ·rw [if_pos hy1_12] at h
           by_cases hy1_13 : ((y1_9_.2.1)).toNat < (((y1_11_.2.2.2.2.2.2.1)).l).length
           ·rw [if_pos hy1_13] at h
            obtain ⟨y1_14_, hy1_14, h⟩ := Option.bind_eq_some_iff.1 h
            by_cases hy1_15 : y1_14_ = x1_3
            ·rw [if_pos hy1_15] at h
             by_cases hy1_16 : (y1_3_.2.2.1) < (y1_9_.2.2)
             ·rw [if_pos hy1_16] at h
              obtain rfl := Sum.inr.inj (oI h); exact q_iOq1_1_5 n x1_0a x1_0t x1_1 x1_2 x1_3 hy1_1 hy1_2 y1_3_ hy1_3 hy1_4 hy1_5 y1_6_ hy1_6 hy1_7 hy1_8 y1_9_ hy1_9 hy1_10 y1_11_ hy1_11 hy1_12 hy1_13 y1_14_ hy1_14 hy1_15 hy1_16
             ·rw [if_neg hy1_16] at h
              by_cases hy1_17 : (y1_3_.2.2.2.2.1) > (y1_11_.2.2.2.2.1)
              ·rw [if_pos hy1_17] at h
               obtain rfl := Sum.inr.inj (oI h); exact q_iOq1_1_6 n x1_0a x1_0t x1_1 x1_2 x1_3 hy1_1 hy1_2 y1_3_ hy1_3 hy1_4 hy1_5 y1_6_ hy1_6 hy1_7 hy1_8 y1_9_ hy1_9 hy1_10 y1_11_ hy1_11 hy1_12 hy1_13 y1_14_ hy1_14 hy1_15 hy1_16 hy1_17
              ·rw [if_neg hy1_17] at h
               by_cases hy1_18 : (w64 ((y1_9_.2.1) + (1 : Int))) = (y1_11_.2.2.2.2.2.2.1.l.length : Int)
               ·rw [if_pos hy1_18] at h
                by_cases hy1_19 : 0 ≤ y1_6_ ∧ y1_6_ ≤ ((x1_1 : Nat) : Int)
                ·rw [if_pos hy1_19] at h
                 by_cases hy1_20 : (y1_3_.2.2.2.2.2.2.1.l.length : Int) > (0 : Int)
                 ·rw [if_pos hy1_20] at h
                  by_cases hy1_21 : (y1_6_).toNat ≤ ((((x1_0a :: x1_0t)).set (y1_6_).toNat ((y1_9_.1), (w64 ((y1_9_.2.1) + (1 : Int))), (y1_3_.2.2.2.2.1)))).length
                  ·rw [if_pos hy1_21] at h
                   by_cases hy1_22 : ((y1_6_).toNat + 1) * 24 ≤ 140737488355328
                   ·rw [if_pos hy1_22] at h
                    cases h
                   ·rw [if_neg hy1_22] at h; cases h
                  ·rw [if_neg hy1_21] at h; cases h
                 ·rw [if_neg hy1_20] at h
                  cases h
                ·rw [if_neg hy1_19] at h; cases h
               ·rw [if_neg hy1_18] at h
                by_cases hy1_19 : (y1_3_.2.2.2.2.2.2.1.l.length : Int) > (0 : Int)
                ·rw [if_pos hy1_19] at h
                 by_cases hy1_20 : x1_1 ≤ ((((x1_0a :: x1_0t)).set (y1_6_).toNat ((y1_9_.1), (w64 ((y1_9_.2.1) + (1 : Int))), (y1_3_.2.2.2.2.1)))).length
                 ·rw [if_pos hy1_20] at h
                  by_cases hy1_21 : (x1_1 + 1) * 24 ≤ 140737488355328
                  ·rw [if_pos hy1_21] at h
                   cases h
                  ·rw [if_neg hy1_21] at h; cases h
                 ·rw [if_neg hy1_20] at h; cases h
                ·rw [if_neg hy1_19] at h
                 cases h
            ·rw [if_neg hy1_15] at h
             obtain rfl := Sum.inr.inj (oI h); exact q_iOq1_1_11 n x1_0a x1_0t x1_1 x1_2 x1_3 hy1_1 hy1_2 y1_3_ hy1_3 hy1_4 hy1_5 y1_6_ hy1_6 hy1_7 hy1_8 y1_9_ hy1_9 hy1_10 y1_11_ hy1_11 hy1_12 hy1_13 y1_14_ hy1_14 hy1_15
           ·rw [if_neg hy1_13] at h; cases h
          ·rw [if_neg hy1_12] at h; cases h
         ·rw [if_neg hy1_10] at h; cases h
        ·rw [if_neg hy1_8] at h; cases h
       ·rw [if_neg hy1_7] at h; cases h
     ·rw [if_neg hy1_4] at h
      by_cases hy1_5 : (y1_3_.2.2.2.2.2.2.1.l.length : Int) > (0 : Int)
      ·rw [if_pos hy1_5] at h
       by_cases hy1_6 : x1_1 ≤ ((x1_0a :: x1_0t)).length
       ·rw [if_pos hy1_6] at h
        by_cases hy1_7 : (x1_1 + 1) * 24 ≤ 140737488355328
        ·rw [if_pos hy1_7] at h
         cases h
        ·rw [if_neg hy1_7] at h; cases h
       ·rw [if_neg hy1_6] at h; cases h
      ·rw [if_neg hy1_5] at h
       cases h
    ·rw [if_neg hy1_2] at h; cases h
   ·rw [if_neg hy1_1] at h
    obtain rfl := Sum.inr.inj (oI h); exact q_iOq1_1_14 n x1_0a x1_0t x1_1 x1_2 x1_3 hy1_1)
  (fun r => by intro hx; rcases r with _ | _ <;> cases hx) h
def m_iOq1 (n : Nat) : Option (Bool) :=
 match m_iOq1_1 n (Args.A.length : Int) (([] : List (Int × Int × Int)), 0, 0) with
 | none => none
 | some (.inl _) =>
  some false
 | some (.inr (c1_0, c1_1)) =>
  match c1_0 with
  | [] =>
   some true
  | c1_0a :: c1_0t =>
   if ((c1_1 : Nat) : Int) = (0 : Int) then
    some true
   else
    some false
theorem m_iOq1_ok (n : Nat) (r : Bool) (h : m_iOq1 n = some r) : Gv P (.func 18) A_iOq1 H_iOq1 (V_iOq1  r) (R_iOq1  r) := by
 unfold m_iOq1 at h
 rcases hc1 : m_iOq1_1 n (Args.A.length : Int) (([] : List (Int × Int × Int)), 0, 0) with _ | (⟨⟩ | ⟨c1_0, c1_1⟩)
 ·rw [hc1] at h; cases h
 ·rw [hc1] at h
  dsimp only at h
  obtain rfl := oI h; exact (runF2 hm (L := lT [(10, ⟨⟨[0, 3, 8, 9, 10], [], 1, 0, [], false, []⟩, (X_iOq1_1 (Args.A.length : Int) (.inl ())).1, (X_iOq1_1 (Args.A.length : Int) (.inl ())).2⟩)]) ⟨[2], [], 0, 0, [], false, []⟩ (ww (p := U_iOq1_1 none (Args.A.length : Int) (([] : List (Int × Int × Int)), 0, 0) (.inl ())) (m_iOq1_1_ok n (Args.A.length : Int) (([] : List (Int × Int × Int)), 0, 0) (.inl ()) hc1) ee) (by kernel_rfl))
 ·rw [hc1] at h
  dsimp only at h
  cases c1_0 with
  | nil =>
   dsimp only at h
   obtain rfl := oI h; exact (runF2 hm (L := lT [(10, ⟨⟨[0, 3, 8, 9, 10], [], 1, 0, [], false, []⟩, (X_iOq1_1 (Args.A.length : Int) (.inr (([] : List (Int × Int × Int)), c1_1))).1, (X_iOq1_1 (Args.A.length : Int) (.inr (([] : List (Int × Int × Int)), c1_1))).2⟩)]) ⟨[2], [], 0, 0, [], false, []⟩ (ww (p := U_iOq1_1 none (Args.A.length : Int) (([] : List (Int × Int × Int)), 0, 0) (.inr (([] : List (Int × Int × Int)), c1_1))) (m_iOq1_1_ok n (Args.A.length : Int) (([] : List (Int × Int × Int)), 0, 0) (.inr (([] : List (Int × Int × Int)), c1_1)) hc1) ee) (by kernel_rfl))
  | cons c1_0a c1_0t =>
   dsimp only at h
   by_cases hc2 : ((c1_1 : Nat) : Int) = (0 : Int)
   ·rw [if_pos hc2] at h
    obtain rfl := oI h; exact (runF2 hm (L := lT [(10, ⟨⟨[0, 3, 8, 9, 10], [], 1, 0, [], false, []⟩, (X_iOq1_1 (Args.A.length : Int) (.inr ((c1_0a :: c1_0t), c1_1))).1, (X_iOq1_1 (Args.A.length : Int) (.inr ((c1_0a :: c1_0t), c1_1))).2⟩)]) ⟨[2], [], 0, 0, [], false, []⟩ (ww (p := U_iOq1_1 none (Args.A.length : Int) (([] : List (Int × Int × Int)), 0, 0) (.inr ((c1_0a :: c1_0t), c1_1))) (m_iOq1_1_ok n (Args.A.length : Int) (([] : List (Int × Int × Int)), 0, 0) (.inr ((c1_0a :: c1_0t), c1_1)) hc1) <|
zz 14 (xeT hc2) ee) (by kernel_rfl))
   ·rw [if_neg hc2] at h
    obtain rfl := oI h; exact (runF2 hm (L := lT [(10, ⟨⟨[0, 3, 8, 9, 10], [], 1, 0, [], false, []⟩, (X_iOq1_1 (Args.A.length : Int) (.inr ((c1_0a :: c1_0t), c1_1))).1, (X_iOq1_1 (Args.A.length : Int) (.inr ((c1_0a :: c1_0t), c1_1))).2⟩)]) ⟨[2], [], 0, 0, [], false, []⟩ (ww (p := U_iOq1_1 none (Args.A.length : Int) (([] : List (Int × Int × Int)), 0, 0) (.inr ((c1_0a :: c1_0t), c1_1))) (m_iOq1_1_ok n (Args.A.length : Int) (([] : List (Int × Int × Int)), 0, 0) (.inr ((c1_0a :: c1_0t), c1_1)) hc1) <|
zz 14 (xeF hc2) ee) (by kernel_rfl))

def A_soq1 (a0 : Int) (a1 : Int) (a2 : Int) (a3 : Int) (a4 : Int) (a5 : Int) (a6 : NL) (a7 : Int) : List Value := [(Value.agg #[(i6 a0), (i6 a1), (i6 a2), (i6 a3), (i6 a4), (i6 a5), (nlV a6), (Value.int .u64 a7)])]
def H_soq1 (a0 : Int) (a1 : Int) (a2 : Int) (a3 : Int) (a4 : Int) (a5 : Int) (a6 : NL) (a7 : Int) : AH := ⟨sB [], 0, 0⟩
def V_soq1 (a0 : Int) (a1 : Int) (a2 : Int) (a3 : Int) (a4 : Int) (a5 : Int) (a6 : NL) (a7 : Int) (r : Bool) : Value := match r with
 | o0 => (bO o0)
def R_soq1 (a0 : Int) (a1 : Int) (a2 : Int) (a3 : Int) (a4 : Int) (a5 : Int) (a6 : NL) (a7 : Int) (r : Bool) : AH := match r with
 | o0 => ⟨sB [], 0, 0⟩
abbrev G_soq1 (a0 : Int) (a1 : Int) (a2 : Int) (a3 : Int) (a4 : Int) (a5 : Int) (a6 : NL) (a7 : Int) (r : Bool) : Prop := Gv P (.func 19) (A_soq1 a0 a1 a2 a3 a4 a5 a6 a7) (H_soq1 a0 a1 a2 a3 a4 a5 a6 a7) (V_soq1 a0 a1 a2 a3 a4 a5 a6 a7 r) (R_soq1 a0 a1 a2 a3 a4 a5 a6 a7 r)
abbrev C_soq1 (a0 : Int) (a1 : Int) (a2 : Int) (a3 : Int) (a4 : Int) (a5 : Int) (a6 : NL) (a7 : Int) (r : Bool) (ins outs : BL) : CallA := ⟨0, ins, V_soq1 a0 a1 a2 a3 a4 a5 a6 a7 r, R_soq1 a0 a1 a2 a3 a4 a5 a6 a7 r, outs⟩
def m_soq1 (n : Nat) (a0 : Int) (a1 : Int) (a2 : Int) (a3 : Int) (a4 : Int) (a5 : Int) (a6 : NL) (a7 : Int) : Option (Bool) :=
 if a2 < (0 : Int) then
  some false
 else
  if a2 > a4 then
   some false
  else
   if a5 ≤ a2 then
    some false
   else
    if a1 = (1 : Int) then
     if a3 = a2 then
      some true
     else
      some false
    else
     if a1 = (2 : Int) then
      if a3 = a2 then
       some true
      else
       some false
     else
      if a1 = (4 : Int) then
       if a3 = a2 then
        if a4 = a2 then
         if (a6.l.length : Int) = (0 : Int) then
          some true
         else
          some false
        else
         some false
       else
        some false
      else
       if a1 = (3 : Int) then
        if a3 ≥ a2 then
         if a3 ≤ a4 then
          if (a6.l.length : Int) = (0 : Int) then
           some true
          else
           some false
         else
          some false
        else
         some false
       else
        if a1 = (5 : Int) then
         if a3 ≥ a2 then
          if a3 ≤ a4 then
           if (a6.l.length : Int) = (0 : Int) then
            some true
           else
            some false
          else
           some false
         else
          some false
        else
         if a1 = (6 : Int) then
          if a3 ≥ a2 then
           if a3 ≤ a4 then
            if (a6.l.length : Int) = (0 : Int) then
             some true
            else
             some false
           else
            some false
          else
           some false
         else
          some false
theorem m_soq1_ok (n : Nat) (a0 : Int) (a1 : Int) (a2 : Int) (a3 : Int) (a4 : Int) (a5 : Int) (a6 : NL) (a7 : Int) (r : Bool) (h : m_soq1 n a0 a1 a2 a3 a4 a5 a6 a7 = some r) : Gv P (.func 19) (A_soq1 a0 a1 a2 a3 a4 a5 a6 a7) (H_soq1 a0 a1 a2 a3 a4 a5 a6 a7) (V_soq1 a0 a1 a2 a3 a4 a5 a6 a7 r) (R_soq1 a0 a1 a2 a3 a4 a5 a6 a7 r) := by
 unfold m_soq1 at h
 by_cases hc1 : a2 < (0 : Int)
 ·rw [if_pos hc1] at h
  obtain rfl := oI h; exact (runF2 hm (L := lT []) ⟨[2], [], 0, 0, [], false, []⟩ (zz 7 (xdT hc1) ee) (by kernel_rfl))
 ·rw [if_neg hc1] at h
  by_cases hc2 : a2 > a4
  ·rw [if_pos hc2] at h
   obtain rfl := oI h; exact (runF2 hm (L := lT []) ⟨[2], [], 0, 0, [], false, []⟩ (zz 7 (xdF hc1) <|
zz 13 (xdT hc2) ee) (by kernel_rfl))
  ·rw [if_neg hc2] at h
   by_cases hc3 : a5 ≤ a2
   ·rw [if_pos hc3] at h
    obtain rfl := oI h; exact (runF2 hm (L := lT []) ⟨[2], [], 0, 0, [], false, []⟩ (zz 7 (xdF hc1) <|
zz 13 (xdF hc2) <|
zz 20 (xdT hc3) ee) (by kernel_rfl))
   ·rw [if_neg hc3] at h
    by_cases hc4 : a1 = (1 : Int)
    ·rw [if_pos hc4] at h
     by_cases hc5 : a3 = a2
     ·rw [if_pos hc5] at h
      obtain rfl := oI h; exact (runF2 hm (L := lT []) ⟨[2], [], 0, 0, [], false, []⟩ (zz 7 (xdF hc1) <|
zz 13 (xdF hc2) <|
zz 20 (xdF hc3) <|
zz 30 (xeT hc4) <|
zz 39 (xeT hc5) ee) (by kernel_rfl))
     ·rw [if_neg hc5] at h
      obtain rfl := oI h; exact (runF2 hm (L := lT []) ⟨[2], [], 0, 0, [], false, []⟩ (zz 7 (xdF hc1) <|
zz 13 (xdF hc2) <|
zz 20 (xdF hc3) <|
zz 30 (xeT hc4) <|
zz 39 (xeF hc5) ee) (by kernel_rfl))
    ·rw [if_neg hc4] at h
     by_cases hc5 : a1 = (2 : Int)
     ·rw [if_pos hc5] at h
      by_cases hc6 : a3 = a2
      ·rw [if_pos hc6] at h
       obtain rfl := oI h; exact (runF2 hm (L := lT []) ⟨[2], [], 0, 0, [], false, []⟩ (zz 7 (xdF hc1) <|
zz 13 (xdF hc2) <|
zz 20 (xdF hc3) <|
zz 30 (xeF hc4) <|
zz 33 (xeT hc5) <|
zz 41 (xeT hc6) ee) (by kernel_rfl))
      ·rw [if_neg hc6] at h
       obtain rfl := oI h; exact (runF2 hm (L := lT []) ⟨[2], [], 0, 0, [], false, []⟩ (zz 7 (xdF hc1) <|
zz 13 (xdF hc2) <|
zz 20 (xdF hc3) <|
zz 30 (xeF hc4) <|
zz 33 (xeT hc5) <|
zz 41 (xeF hc6) ee) (by kernel_rfl))
     ·rw [if_neg hc5] at h
      by_cases hc6 : a1 = (4 : Int)
      ·rw [if_pos hc6] at h
       by_cases hc7 : a3 = a2
       ·rw [if_pos hc7] at h
        by_cases hc8 : a4 = a2
        ·rw [if_pos hc8] at h
         by_cases hc9 : (a6.l.length : Int) = (0 : Int)
         ·rw [if_pos hc9] at h
          obtain rfl := oI h; exact (runF2 hm (L := lT []) ⟨[2], [], 0, 0, [], false, []⟩ (zz 7 (xdF hc1) <|
zz 13 (xdF hc2) <|
zz 20 (xdF hc3) <|
zz 30 (xeF hc4) <|
zz 33 (xeF hc5) <|
zz 37 (xeT hc6) <|
zz 45 (xeT hc7) <|
zz 51 (xeT hc8) <|
zz 57 (xeT hc9) ee) (by kernel_rfl))
         ·rw [if_neg hc9] at h
          obtain rfl := oI h; exact (runF2 hm (L := lT []) ⟨[2], [], 0, 0, [], false, []⟩ (zz 7 (xdF hc1) <|
zz 13 (xdF hc2) <|
zz 20 (xdF hc3) <|
zz 30 (xeF hc4) <|
zz 33 (xeF hc5) <|
zz 37 (xeT hc6) <|
zz 45 (xeT hc7) <|
zz 51 (xeT hc8) <|
zz 57 (xeF hc9) ee) (by kernel_rfl))
        ·rw [if_neg hc8] at h
         obtain rfl := oI h; exact (runF2 hm (L := lT []) ⟨[2], [], 0, 0, [], false, []⟩ (zz 7 (xdF hc1) <|
zz 13 (xdF hc2) <|
zz 20 (xdF hc3) <|
zz 30 (xeF hc4) <|
zz 33 (xeF hc5) <|
zz 37 (xeT hc6) <|
zz 45 (xeT hc7) <|
zz 51 (xeF hc8) ee) (by kernel_rfl))
       ·rw [if_neg hc7] at h
        obtain rfl := oI h; exact (runF2 hm (L := lT []) ⟨[2], [], 0, 0, [], false, []⟩ (zz 7 (xdF hc1) <|
zz 13 (xdF hc2) <|
zz 20 (xdF hc3) <|
zz 30 (xeF hc4) <|
zz 33 (xeF hc5) <|
zz 37 (xeT hc6) <|
zz 45 (xeF hc7) ee) (by kernel_rfl))
      ·rw [if_neg hc6] at h
       by_cases hc7 : a1 = (3 : Int)
       ·rw [if_pos hc7] at h
        by_cases hc8 : a3 ≥ a2
        ·rw [if_pos hc8] at h
         by_cases hc9 : a3 ≤ a4
         ·rw [if_pos hc9] at h
          by_cases hc10 : (a6.l.length : Int) = (0 : Int)
          ·rw [if_pos hc10] at h
           obtain rfl := oI h; exact (runF2 hm (L := lT []) ⟨[2], [], 0, 0, [], false, []⟩ (zz 7 (xdF hc1) <|
zz 13 (xdF hc2) <|
zz 20 (xdF hc3) <|
zz 30 (xeF hc4) <|
zz 33 (xeF hc5) <|
zz 37 (xeF hc6) <|
zz 42 (xeT hc7) <|
zz 51 (xdT hc8) <|
zz 57 (xdT hc9) <|
zz 63 (xeT hc10) ee) (by kernel_rfl))
          ·rw [if_neg hc10] at h
           obtain rfl := oI h; exact (runF2 hm (L := lT []) ⟨[2], [], 0, 0, [], false, []⟩ (zz 7 (xdF hc1) <|
zz 13 (xdF hc2) <|
zz 20 (xdF hc3) <|
zz 30 (xeF hc4) <|
zz 33 (xeF hc5) <|
zz 37 (xeF hc6) <|
zz 42 (xeT hc7) <|
zz 51 (xdT hc8) <|
zz 57 (xdT hc9) <|
zz 63 (xeF hc10) ee) (by kernel_rfl))
         ·rw [if_neg hc9] at h
          obtain rfl := oI h; exact (runF2 hm (L := lT []) ⟨[2], [], 0, 0, [], false, []⟩ (zz 7 (xdF hc1) <|
zz 13 (xdF hc2) <|
zz 20 (xdF hc3) <|
zz 30 (xeF hc4) <|
zz 33 (xeF hc5) <|
zz 37 (xeF hc6) <|
zz 42 (xeT hc7) <|
zz 51 (xdT hc8) <|
zz 57 (xdF hc9) ee) (by kernel_rfl))
        ·rw [if_neg hc8] at h
         obtain rfl := oI h; exact (runF2 hm (L := lT []) ⟨[2], [], 0, 0, [], false, []⟩ (zz 7 (xdF hc1) <|
zz 13 (xdF hc2) <|
zz 20 (xdF hc3) <|
zz 30 (xeF hc4) <|
zz 33 (xeF hc5) <|
zz 37 (xeF hc6) <|
zz 42 (xeT hc7) <|
zz 51 (xdF hc8) ee) (by kernel_rfl))
       ·rw [if_neg hc7] at h
        by_cases hc8 : a1 = (5 : Int)
        ·rw [if_pos hc8] at h
         by_cases hc9 : a3 ≥ a2
         ·rw [if_pos hc9] at h
          by_cases hc10 : a3 ≤ a4
          ·rw [if_pos hc10] at h
           by_cases hc11 : (a6.l.length : Int) = (0 : Int)
           ·rw [if_pos hc11] at h
            obtain rfl := oI h; exact (runF2 hm (L := lT []) ⟨[2], [], 0, 0, [], false, []⟩ (zz 7 (xdF hc1) <|
zz 13 (xdF hc2) <|
zz 20 (xdF hc3) <|
zz 30 (xeF hc4) <|
zz 33 (xeF hc5) <|
zz 37 (xeF hc6) <|
zz 42 (xeF hc7) <|
zz 46 (xeT hc8) <|
zz 55 (xdT hc9) <|
zz 61 (xdT hc10) <|
zz 67 (xeT hc11) ee) (by kernel_rfl))
           ·rw [if_neg hc11] at h
            obtain rfl := oI h; exact (runF2 hm (L := lT []) ⟨[2], [], 0, 0, [], false, []⟩ (zz 7 (xdF hc1) <|
zz 13 (xdF hc2) <|
zz 20 (xdF hc3) <|
zz 30 (xeF hc4) <|
zz 33 (xeF hc5) <|
zz 37 (xeF hc6) <|
zz 42 (xeF hc7) <|
zz 46 (xeT hc8) <|
zz 55 (xdT hc9) <|
zz 61 (xdT hc10) <|
zz 67 (xeF hc11) ee) (by kernel_rfl))
          ·rw [if_neg hc10] at h
           obtain rfl := oI h; exact (runF2 hm (L := lT []) ⟨[2], [], 0, 0, [], false, []⟩ (zz 7 (xdF hc1) <|
zz 13 (xdF hc2) <|
zz 20 (xdF hc3) <|
zz 30 (xeF hc4) <|
zz 33 (xeF hc5) <|
zz 37 (xeF hc6) <|
zz 42 (xeF hc7) <|
zz 46 (xeT hc8) <|
zz 55 (xdT hc9) <|
zz 61 (xdF hc10) ee) (by kernel_rfl))
         ·rw [if_neg hc9] at h
          obtain rfl := oI h; exact (runF2 hm (L := lT []) ⟨[2], [], 0, 0, [], false, []⟩ (zz 7 (xdF hc1) <|
zz 13 (xdF hc2) <|
zz 20 (xdF hc3) <|
zz 30 (xeF hc4) <|
zz 33 (xeF hc5) <|
zz 37 (xeF hc6) <|
zz 42 (xeF hc7) <|
zz 46 (xeT hc8) <|
zz 55 (xdF hc9) ee) (by kernel_rfl))
        ·rw [if_neg hc8] at h
         by_cases hc9 : a1 = (6 : Int)
         ·rw [if_pos hc9] at h
          by_cases hc10 : a3 ≥ a2
          ·rw [if_pos hc10] at h
           by_cases hc11 : a3 ≤ a4
           ·rw [if_pos hc11] at h
            by_cases hc12 : (a6.l.length : Int) = (0 : Int)
            ·rw [if_pos hc12] at h
             obtain rfl := oI h; exact (runF2 hm (L := lT []) ⟨[2], [], 0, 0, [], false, []⟩ (zz 7 (xdF hc1) <|
zz 13 (xdF hc2) <|
zz 20 (xdF hc3) <|
zz 30 (xeF hc4) <|
zz 33 (xeF hc5) <|
zz 37 (xeF hc6) <|
zz 42 (xeF hc7) <|
zz 46 (xeF hc8) <|
zz 49 (xeT hc9) <|
zz 57 (xdT hc10) <|
zz 63 (xdT hc11) <|
zz 69 (xeT hc12) ee) (by kernel_rfl))
            ·rw [if_neg hc12] at h
             obtain rfl := oI h; exact (runF2 hm (L := lT []) ⟨[2], [], 0, 0, [], false, []⟩ (zz 7 (xdF hc1) <|
zz 13 (xdF hc2) <|
zz 20 (xdF hc3) <|
zz 30 (xeF hc4) <|
zz 33 (xeF hc5) <|
zz 37 (xeF hc6) <|
zz 42 (xeF hc7) <|
zz 46 (xeF hc8) <|
zz 49 (xeT hc9) <|
zz 57 (xdT hc10) <|
zz 63 (xdT hc11) <|
zz 69 (xeF hc12) ee) (by kernel_rfl))
           ·rw [if_neg hc11] at h
            obtain rfl := oI h; exact (runF2 hm (L := lT []) ⟨[2], [], 0, 0, [], false, []⟩ (zz 7 (xdF hc1) <|
zz 13 (xdF hc2) <|
zz 20 (xdF hc3) <|
zz 30 (xeF hc4) <|
zz 33 (xeF hc5) <|
zz 37 (xeF hc6) <|
zz 42 (xeF hc7) <|
zz 46 (xeF hc8) <|
zz 49 (xeT hc9) <|
zz 57 (xdT hc10) <|
zz 63 (xdF hc11) ee) (by kernel_rfl))
          ·rw [if_neg hc10] at h
           obtain rfl := oI h; exact (runF2 hm (L := lT []) ⟨[2], [], 0, 0, [], false, []⟩ (zz 7 (xdF hc1) <|
zz 13 (xdF hc2) <|
zz 20 (xdF hc3) <|
zz 30 (xeF hc4) <|
zz 33 (xeF hc5) <|
zz 37 (xeF hc6) <|
zz 42 (xeF hc7) <|
zz 46 (xeF hc8) <|
zz 49 (xeT hc9) <|
zz 57 (xdF hc10) ee) (by kernel_rfl))
         ·rw [if_neg hc9] at h
          obtain rfl := oI h; exact (runF2 hm (L := lT []) ⟨[2], [], 0, 0, [], false, []⟩ (zz 7 (xdF hc1) <|
zz 13 (xdF hc2) <|
zz 20 (xdF hc3) <|
zz 30 (xeF hc4) <|
zz 33 (xeF hc5) <|
zz 37 (xeF hc6) <|
zz 42 (xeF hc7) <|
zz 46 (xeF hc8) <|
zz 49 (xeF hc9) ee) (by kernel_rfl))

def A_tCq1 : List Value := [(sW 0 0 (Args.A).length Args.cA)]
def H_tCq1 : AH := ⟨sB [], 0, 0⟩
def V_tCq1 (r : Int) : Value := match r with
 | o0 => (i6 o0)
def R_tCq1 (r : Int) : AH := match r with
 | o0 => ⟨sB [], 0, 0⟩
abbrev G_tCq1 (r : Int) : Prop := Gv P (.func 6) A_tCq1 H_tCq1 (V_tCq1  r) (R_tCq1  r)
abbrev C_tCq1 (r : Int) (ins outs : BL) : CallA := ⟨0, ins, V_tCq1  r, R_tCq1  r, outs⟩
def S_tCq1_1 (x1_0 : Int) (st : Int) : XSt := match st with
 | x1_1 => (sT 36 [(16, (sW 0 0 (Args.A).length Args.cA)), (17, (i6 x1_0)), (18, (i6 x1_1))], [], ⟨sB [], 0, 0⟩)
def X_tCq1_1 (x1_0 : Int) (r : (Unit) ⊕ (Unit)) : Ex × XSt := match r with
 | .inl _ => (.ret, (sT 36 [(2, (i6 (2 : Int)))], [], ⟨sB [], 0, 0⟩))
 | .inr _ => (.exit 0, (sT 36 [], [], ⟨sB [], 0, 0⟩))
abbrev Q_tCq1_1 (rnd : Option Nat) (x1_0 : Int) (st : Int) (c : Ex × XSt) : Prop := CG P rnd (fnN P 6) 0 (codeOf P 6 [false, false, true, false, true, true, true]) (S_tCq1_1 x1_0 st) c
abbrev U_tCq1_1 (rd : Option Nat) (x1_0 : Int) (st : Int) (r : (Unit) ⊕ (Unit)) : Prop := CG P rd (fnN P 6) 0 (codeOf P 6 [false, true, false, true, true, true]) (S_tCq1_1 x1_0 st) (X_tCq1_1 x1_0 r)
def B_tCq1_1 (n : Nat) (x1_0 : Int) (st : Int) : Option ((Int) ⊕ ((Unit) ⊕ (Unit))) := match st with
 | x1_1 =>
  if x1_1 < x1_0 then
   if 0 ≤ x1_1 ∧ x1_1 < (Args.A.length : Int) then
    ((some ((Args.A).getD (x1_1).toNat (0, 0, 0, 0, 0, 0, nl0, 0)))).bind fun y1_3_ =>
    (m_soq1 n (y1_3_.1) (y1_3_.2.1) (y1_3_.2.2.1) (y1_3_.2.2.2.1) (y1_3_.2.2.2.2.1) (y1_3_.2.2.2.2.2.1) (y1_3_.2.2.2.2.2.2.1) (y1_3_.2.2.2.2.2.2.2)).bind fun y1_4_ =>
    if y1_4_ = true then
     if (y1_3_.2.1) = (1 : Int) then
      if x1_1 > (0 : Int) then
       some (.inr (.inl ()))
      else
       some (.inl (w64 (x1_1 + (1 : Int))))
     else
      some (.inl (w64 (x1_1 + (1 : Int))))
    else
     some (.inr (.inl ()))
   else none
  else
   some (.inr (.inr ()))
def m_tCq1_1 (n : Nat) (x1_0 : Int) (st : Int) : Option ((Unit) ⊕ (Unit)) := iterM (B_tCq1_1 n x1_0) n st
theorem q_tCq1_1_0 (n : Nat) {rnd : Option Nat} (x1_0 x1_1 : Int) (hy1_1 : x1_1 < x1_0) (hy1_2 : 0 ≤ x1_1 ∧ x1_1 < (Args.A.length : Int)) (y1_3_ : R8) (hy1_3 : (some ((Args.A).getD (x1_1).toNat (0, 0, 0, 0, 0, 0, nl0, 0))) = some y1_3_) (y1_4_ : Bool) (hy1_4 : m_soq1 n (y1_3_.1) (y1_3_.2.1) (y1_3_.2.2.1) (y1_3_.2.2.2.1) (y1_3_.2.2.2.2.1) (y1_3_.2.2.2.2.2.1) (y1_3_.2.2.2.2.2.2.1) (y1_3_.2.2.2.2.2.2.2) = some y1_4_) (hy1_5 : y1_4_ = true) (hy1_6 : (y1_3_.2.1) = (1 : Int)) (hy1_7 : x1_1 > (0 : Int)) : Q_tCq1_1 rnd x1_0 x1_1 (X_tCq1_1 x1_0 (.inl ())) :=
 runC2 hm (L := lT []) ⟨[2], [], 0, 0, [], false, []⟩ (zz 1 (xdT hy1_1) <|
zz 8 (xk1 0 Args.cA hy1_2) <|
zz 9 (lk2 hy1_3 (toNatLt hy1_2)) <|
yy 15 (.call (C_soq1 (y1_3_.1) (y1_3_.2.1) (y1_3_.2.2.1) (y1_3_.2.2.2.1) (y1_3_.2.2.2.2.1) (y1_3_.2.2.2.2.2.1) (y1_3_.2.2.2.2.2.2.1) (y1_3_.2.2.2.2.2.2.2) y1_4_ [] [])) <|
ww (m_soq1_ok n (y1_3_.1) (y1_3_.2.1) (y1_3_.2.2.1) (y1_3_.2.2.2.1) (y1_3_.2.2.2.2.1) (y1_3_.2.2.2.2.2.1) (y1_3_.2.2.2.2.2.2.1) (y1_3_.2.2.2.2.2.2.2) y1_4_ hy1_4) <|
yy 16 (vf) <|
ww (p := (Value.bool (!y1_4_)) = (Value.bool false)) (vBn hy1_5) <|
zz 20 (xeT hy1_6) <|
zz 23 (xdT hy1_7) <|
ee) (by kernel_rfl)
theorem q_tCq1_1_1 (n : Nat) {rnd : Option Nat} (x1_0 x1_1 : Int) (hy1_1 : x1_1 < x1_0) (hy1_2 : 0 ≤ x1_1 ∧ x1_1 < (Args.A.length : Int)) (y1_3_ : R8) (hy1_3 : (some ((Args.A).getD (x1_1).toNat (0, 0, 0, 0, 0, 0, nl0, 0))) = some y1_3_) (y1_4_ : Bool) (hy1_4 : m_soq1 n (y1_3_.1) (y1_3_.2.1) (y1_3_.2.2.1) (y1_3_.2.2.2.1) (y1_3_.2.2.2.2.1) (y1_3_.2.2.2.2.2.1) (y1_3_.2.2.2.2.2.2.1) (y1_3_.2.2.2.2.2.2.2) = some y1_4_) (hy1_5 : y1_4_ = true) (hy1_6 : (y1_3_.2.1) = (1 : Int)) (hy1_7 : ¬ (x1_1 > (0 : Int))) : Q_tCq1_1 rnd x1_0 x1_1 (.normal, S_tCq1_1 x1_0 (w64 (x1_1 + (1 : Int)))) :=
 runC2 hm (L := lT []) ⟨[16, 17, 18], [], 0, 0, [], false, []⟩ (zz 1 (xdT hy1_1) <|
zz 8 (xk1 0 Args.cA hy1_2) <|
zz 9 (lk2 hy1_3 (toNatLt hy1_2)) <|
yy 15 (.call (C_soq1 (y1_3_.1) (y1_3_.2.1) (y1_3_.2.2.1) (y1_3_.2.2.2.1) (y1_3_.2.2.2.2.1) (y1_3_.2.2.2.2.2.1) (y1_3_.2.2.2.2.2.2.1) (y1_3_.2.2.2.2.2.2.2) y1_4_ [] [])) <|
ww (m_soq1_ok n (y1_3_.1) (y1_3_.2.1) (y1_3_.2.2.1) (y1_3_.2.2.2.1) (y1_3_.2.2.2.2.1) (y1_3_.2.2.2.2.2.1) (y1_3_.2.2.2.2.2.2.1) (y1_3_.2.2.2.2.2.2.2) y1_4_ hy1_4) <|
yy 16 (vf) <|
ww (p := (Value.bool (!y1_4_)) = (Value.bool false)) (vBn hy1_5) <|
zz 20 (xeT hy1_6) <|
zz 23 (xdF hy1_7) <|
ee) (by kernel_rfl)
theorem q_tCq1_1_2 (n : Nat) {rnd : Option Nat} (x1_0 x1_1 : Int) (hy1_1 : x1_1 < x1_0) (hy1_2 : 0 ≤ x1_1 ∧ x1_1 < (Args.A.length : Int)) (y1_3_ : R8) (hy1_3 : (some ((Args.A).getD (x1_1).toNat (0, 0, 0, 0, 0, 0, nl0, 0))) = some y1_3_) (y1_4_ : Bool) (hy1_4 : m_soq1 n (y1_3_.1) (y1_3_.2.1) (y1_3_.2.2.1) (y1_3_.2.2.2.1) (y1_3_.2.2.2.2.1) (y1_3_.2.2.2.2.2.1) (y1_3_.2.2.2.2.2.2.1) (y1_3_.2.2.2.2.2.2.2) = some y1_4_) (hy1_5 : y1_4_ = true) (hy1_6 : ¬ ((y1_3_.2.1) = (1 : Int))) : Q_tCq1_1 rnd x1_0 x1_1 (.normal, S_tCq1_1 x1_0 (w64 (x1_1 + (1 : Int)))) :=
 runC2 hm (L := lT []) ⟨[16, 17, 18], [], 0, 0, [], false, []⟩ (zz 1 (xdT hy1_1) <|
zz 8 (xk1 0 Args.cA hy1_2) <|
zz 9 (lk2 hy1_3 (toNatLt hy1_2)) <|
yy 15 (.call (C_soq1 (y1_3_.1) (y1_3_.2.1) (y1_3_.2.2.1) (y1_3_.2.2.2.1) (y1_3_.2.2.2.2.1) (y1_3_.2.2.2.2.2.1) (y1_3_.2.2.2.2.2.2.1) (y1_3_.2.2.2.2.2.2.2) y1_4_ [] [])) <|
ww (m_soq1_ok n (y1_3_.1) (y1_3_.2.1) (y1_3_.2.2.1) (y1_3_.2.2.2.1) (y1_3_.2.2.2.2.1) (y1_3_.2.2.2.2.2.1) (y1_3_.2.2.2.2.2.2.1) (y1_3_.2.2.2.2.2.2.2) y1_4_ hy1_4) <|
yy 16 (vf) <|
ww (p := (Value.bool (!y1_4_)) = (Value.bool false)) (vBn hy1_5) <|
zz 20 (xeF hy1_6) <|
ee) (by kernel_rfl)
theorem q_tCq1_1_3 (n : Nat) {rnd : Option Nat} (x1_0 x1_1 : Int) (hy1_1 : x1_1 < x1_0) (hy1_2 : 0 ≤ x1_1 ∧ x1_1 < (Args.A.length : Int)) (y1_3_ : R8) (hy1_3 : (some ((Args.A).getD (x1_1).toNat (0, 0, 0, 0, 0, 0, nl0, 0))) = some y1_3_) (y1_4_ : Bool) (hy1_4 : m_soq1 n (y1_3_.1) (y1_3_.2.1) (y1_3_.2.2.1) (y1_3_.2.2.2.1) (y1_3_.2.2.2.2.1) (y1_3_.2.2.2.2.2.1) (y1_3_.2.2.2.2.2.2.1) (y1_3_.2.2.2.2.2.2.2) = some y1_4_) (hy1_5 : ¬ (y1_4_ = true)) : Q_tCq1_1 rnd x1_0 x1_1 (X_tCq1_1 x1_0 (.inl ())) :=
 runC2 hm (L := lT []) ⟨[2], [], 0, 0, [], false, []⟩ (zz 1 (xdT hy1_1) <|
zz 8 (xk1 0 Args.cA hy1_2) <|
zz 9 (lk2 hy1_3 (toNatLt hy1_2)) <|
yy 15 (.call (C_soq1 (y1_3_.1) (y1_3_.2.1) (y1_3_.2.2.1) (y1_3_.2.2.2.1) (y1_3_.2.2.2.2.1) (y1_3_.2.2.2.2.2.1) (y1_3_.2.2.2.2.2.2.1) (y1_3_.2.2.2.2.2.2.2) y1_4_ [] [])) <|
ww (m_soq1_ok n (y1_3_.1) (y1_3_.2.1) (y1_3_.2.2.1) (y1_3_.2.2.2.1) (y1_3_.2.2.2.2.1) (y1_3_.2.2.2.2.2.1) (y1_3_.2.2.2.2.2.2.1) (y1_3_.2.2.2.2.2.2.2) y1_4_ hy1_4) <|
yy 16 (vt) <|
ww (p := (Value.bool (!y1_4_)) = (Value.bool true)) (vBn (Bool.eq_false_iff.2 hy1_5)) <|
ee) (by kernel_rfl)
theorem q_tCq1_1_4 (n : Nat) {rnd : Option Nat} (x1_0 x1_1 : Int) (hy1_1 : ¬ (x1_1 < x1_0)) : Q_tCq1_1 rnd x1_0 x1_1 (X_tCq1_1 x1_0 (.inr ())) :=
 runC2 hm (L := lT []) ⟨[], [], 0, 0, [], false, []⟩ (zz 1 (xdF hy1_1) <|
ee) (by kernel_rfl)
theorem m_tCq1_1_ok (n : Nat) {rnd : Option Nat} (x1_0 : Int) (st : Int) (r : (Unit) ⊕ (Unit)) (h : m_tCq1_1 n x1_0 st = some r) : CG P rnd (fnN P 6) 0 (codeOf P 6 [false, true, false, true, true, true]) (S_tCq1_1 x1_0 st) (X_tCq1_1 x1_0 r) :=
 CG.iter (b := codeOf P 6 [false, false, true, false, true, true, true]) (by kernel_rfl) (body := B_tCq1_1 n x1_0) (S := S_tCq1_1 x1_0) (X := X_tCq1_1 x1_0)
  (fun x1_1 s' h => by
  unfold B_tCq1_1 at h
  dsimp only at h
  by_cases hy1_1 : x1_1 < x1_0
  ·rw [if_pos hy1_1] at h
   by_cases hy1_2 : 0 ≤ x1_1 ∧ x1_1 < (Args.A.length : Int)
   ·rw [if_pos hy1_2] at h
    obtain ⟨y1_3_, hy1_3, h⟩ := Option.bind_eq_some_iff.1 h
    obtain ⟨y1_4_, hy1_4, h⟩ := Option.bind_eq_some_iff.1 h
    by_cases hy1_5 : y1_4_ = true
    ·rw [if_pos hy1_5] at h
     by_cases hy1_6 : (y1_3_.2.1) = (1 : Int)
     ·rw [if_pos hy1_6] at h
      by_cases hy1_7 : x1_1 > (0 : Int)
      ·rw [if_pos hy1_7] at h
       cases h
      ·rw [if_neg hy1_7] at h
       obtain rfl := Sum.inl.inj (oI h); exact q_tCq1_1_1 n x1_0 x1_1 hy1_1 hy1_2 y1_3_ hy1_3 y1_4_ hy1_4 hy1_5 hy1_6 hy1_7
     ·rw [if_neg hy1_6] at h
      obtain rfl := Sum.inl.inj (oI h); exact q_tCq1_1_2 n x1_0 x1_1 hy1_1 hy1_2 y1_3_ hy1_3 y1_4_ hy1_4 hy1_5 hy1_6
    ·rw [if_neg hy1_5] at h
     cases h
   ·rw [if_neg hy1_2] at h; cases h
  ·rw [if_neg hy1_1] at h
   cases h)
  (fun x1_1 r h => by
  unfold B_tCq1_1 at h
  dsimp only at h
  by_cases hy1_1 : x1_1 < x1_0
  ·rw [if_pos hy1_1] at h
   by_cases hy1_2 : 0 ≤ x1_1 ∧ x1_1 < (Args.A.length : Int)
   ·rw [if_pos hy1_2] at h
    obtain ⟨y1_3_, hy1_3, h⟩ := Option.bind_eq_some_iff.1 h
    obtain ⟨y1_4_, hy1_4, h⟩ := Option.bind_eq_some_iff.1 h
    by_cases hy1_5 : y1_4_ = true
    ·rw [if_pos hy1_5] at h
     by_cases hy1_6 : (y1_3_.2.1) = (1 : Int)
     ·rw [if_pos hy1_6] at h
      by_cases hy1_7 : x1_1 > (0 : Int)
      ·rw [if_pos hy1_7] at h
       obtain rfl := Sum.inr.inj (oI h); exact q_tCq1_1_0 n x1_0 x1_1 hy1_1 hy1_2 y1_3_ hy1_3 y1_4_ hy1_4 hy1_5 hy1_6 hy1_7
      ·rw [if_neg hy1_7] at h
       cases h
     ·rw [if_neg hy1_6] at h
      cases h
    ·rw [if_neg hy1_5] at h
     obtain rfl := Sum.inr.inj (oI h); exact q_tCq1_1_3 n x1_0 x1_1 hy1_1 hy1_2 y1_3_ hy1_3 y1_4_ hy1_4 hy1_5
   ·rw [if_neg hy1_2] at h; cases h
  ·rw [if_neg hy1_1] at h
   obtain rfl := Sum.inr.inj (oI h); exact q_tCq1_1_4 n x1_0 x1_1 hy1_1)
  (fun r => by intro hx; rcases r with _ | _ <;> cases hx) h
def m_tCq1 (n : Nat) : Option (Int) :=
 if (Args.A.length : Int) > (524288 : Int) then
  some 3
 else
  if (Args.A.length : Int) = (0 : Int) then
   some 2
  else
   (m_iOq1 n).bind fun c3_ =>
   if c3_ = true then
    match m_tCq1_1 n (Args.A.length : Int) 0 with
    | none => none
    | some (.inl _) =>
     some 2
    | some (.inr _) =>
     some 0
   else
    some 2
theorem m_tCq1_ok (n : Nat) (r : Int) (h : m_tCq1 n = some r) : Gv P (.func 6) A_tCq1 H_tCq1 (V_tCq1  r) (R_tCq1  r) := by
 unfold m_tCq1 at h
 by_cases hc1 : (Args.A.length : Int) > (524288 : Int)
 ·rw [if_pos hc1] at h
  obtain rfl := oI h; exact (runF2 hm (L := lT []) ⟨[2], [], 0, 0, [], false, []⟩ (zz 6 (xdT hc1) ee) (by kernel_rfl))
 ·rw [if_neg hc1] at h
  by_cases hc2 : (Args.A.length : Int) = (0 : Int)
  ·rw [if_pos hc2] at h
   obtain rfl := oI h; exact (runF2 hm (L := lT []) ⟨[2], [], 0, 0, [], false, []⟩ (zz 6 (xdF hc1) <|
zz 12 (xeT hc2) ee) (by kernel_rfl))
  ·rw [if_neg hc2] at h
   obtain ⟨c3_, hc3, h⟩ := Option.bind_eq_some_iff.1 h
   by_cases hc4 : c3_ = true
   ·rw [if_pos hc4] at h
    rcases hc5 : m_tCq1_1 n (Args.A.length : Int) 0 with _ | (⟨⟩ | ⟨⟩)
    ·rw [hc5] at h; cases h
    ·rw [hc5] at h
     dsimp only at h
     obtain rfl := oI h; exact (runF2 hm (L := lT [(25, ⟨⟨[16, 17, 18], [], 0, 0, [], false, []⟩, (X_tCq1_1 (Args.A.length : Int) (.inl ())).1, (X_tCq1_1 (Args.A.length : Int) (.inl ())).2⟩)]) ⟨[2], [], 0, 0, [], false, []⟩ (zz 6 (xdF hc1) <|
zz 12 (xeF hc2) <|
yy 15 (.call (C_iOq1  c3_ [] [])) <|
ww (m_iOq1_ok n  c3_ hc3) <|
yy 16 (vf) <|
ww (p := (Value.bool (!c3_)) = (Value.bool false)) (vBn hc4) <|
ww (p := U_tCq1_1 none (Args.A.length : Int) 0 (.inl ())) (m_tCq1_1_ok n (Args.A.length : Int) 0 (.inl ()) hc5) ee) (by kernel_rfl))
    ·rw [hc5] at h
     dsimp only at h
     obtain rfl := oI h; exact (runF2 hm (L := lT [(25, ⟨⟨[16, 17, 18], [], 0, 0, [], false, []⟩, (X_tCq1_1 (Args.A.length : Int) (.inr ())).1, (X_tCq1_1 (Args.A.length : Int) (.inr ())).2⟩)]) ⟨[2], [], 0, 0, [], false, []⟩ (zz 6 (xdF hc1) <|
zz 12 (xeF hc2) <|
yy 15 (.call (C_iOq1  c3_ [] [])) <|
ww (m_iOq1_ok n  c3_ hc3) <|
yy 16 (vf) <|
ww (p := (Value.bool (!c3_)) = (Value.bool false)) (vBn hc4) <|
ww (p := U_tCq1_1 none (Args.A.length : Int) 0 (.inr ())) (m_tCq1_1_ok n (Args.A.length : Int) 0 (.inr ()) hc5) ee) (by kernel_rfl))
   ·rw [if_neg hc4] at h
    obtain rfl := oI h; exact (runF2 hm (L := lT []) ⟨[2], [], 0, 0, [], false, []⟩ (zz 6 (xdF hc1) <|
zz 12 (xeF hc2) <|
yy 15 (.call (C_iOq1  c3_ [] [])) <|
ww (m_iOq1_ok n  c3_ hc3) <|
yy 16 (vt) <|
ww (p := (Value.bool (!c3_)) = (Value.bool true)) (vBn (Bool.eq_false_iff.2 hc4)) ee) (by kernel_rfl))

def A_viewportkitPickq1 (a0 : Int) (a1 : Int) : List Value := [(i6 a0), (i6 a1)]
def H_viewportkitPickq1 (a0 : Int) (a1 : Int) : AH := ⟨sB [], 0, 0⟩
def V_viewportkitPickq1 (a0 : Int) (a1 : Int) (r : Int) : Value := match r with
 | o0 => (i6 o0)
def R_viewportkitPickq1 (a0 : Int) (a1 : Int) (r : Int) : AH := match r with
 | o0 => ⟨sB [], 0, 0⟩
abbrev G_viewportkitPickq1 (a0 : Int) (a1 : Int) (r : Int) : Prop := Gv P (.func 7) (A_viewportkitPickq1 a0 a1) (H_viewportkitPickq1 a0 a1) (V_viewportkitPickq1 a0 a1 r) (R_viewportkitPickq1 a0 a1 r)
abbrev C_viewportkitPickq1 (a0 : Int) (a1 : Int) (r : Int) (ins outs : BL) : CallA := ⟨0, ins, V_viewportkitPickq1 a0 a1 r, R_viewportkitPickq1 a0 a1 r, outs⟩
def m_viewportkitPickq1 (n : Nat) (a0 : Int) (a1 : Int) : Option (Int) :=
 if a1 < (1 : Int) then
  some 0
 else
  if ¬ (a1 = 0) then
   if (Int.tmod a0 a1) < (0 : Int) then
    some (w64 ((Int.tmod a0 a1) + a1))
   else
    some (Int.tmod a0 a1)
  else none
theorem m_viewportkitPickq1_ok (n : Nat) (a0 : Int) (a1 : Int) (r : Int) (h : m_viewportkitPickq1 n a0 a1 = some r) : Gv P (.func 7) (A_viewportkitPickq1 a0 a1) (H_viewportkitPickq1 a0 a1) (V_viewportkitPickq1 a0 a1 r) (R_viewportkitPickq1 a0 a1 r) := by
 unfold m_viewportkitPickq1 at h
 by_cases hc1 : a1 < (1 : Int)
 ·rw [if_pos hc1] at h
  obtain rfl := oI h; exact (runF2 hm (L := lT []) ⟨[4], [], 0, 0, [], false, []⟩ (zz 5 (xdT hc1) ee) (by kernel_rfl))
 ·rw [if_neg hc1] at h
  by_cases hc2 : ¬ (a1 = 0)
  ·rw [if_pos hc2] at h
   by_cases hc3 : (Int.tmod a0 a1) < (0 : Int)
   ·rw [if_pos hc3] at h
    obtain rfl := oI h; exact (runF2 hm (L := lT []) ⟨[4], [], 0, 0, [], false, []⟩ (zz 5 (xdF hc1) <|
yy 10 (.pur (i6 (Int.tmod a0 a1))) <|
ww (p := opBin P .rem 3 (.tmp 8) (.tmp 9) (i6 a0) (i6 a1) Ax.h0 = some ((i6 (Int.tmod a0 a1)), Ax.h0)) (remI hc2) <|
zz 15 (xdT hc3) ee) (by kernel_rfl))
   ·rw [if_neg hc3] at h
    obtain rfl := oI h; exact (runF2 hm (L := lT []) ⟨[4], [], 0, 0, [], false, []⟩ (zz 5 (xdF hc1) <|
yy 10 (.pur (i6 (Int.tmod a0 a1))) <|
ww (p := opBin P .rem 3 (.tmp 8) (.tmp 9) (i6 a0) (i6 a1) Ax.h0 = some ((i6 (Int.tmod a0 a1)), Ax.h0)) (remI hc2) <|
zz 15 (xdF hc3) ee) (by kernel_rfl))
  ·rw [if_neg hc2] at h; cases h

def A_treeCopy11q1 (a0 : Int) : List Value := [(i6 a0)]
def H_treeCopy11q1 (a0 : Int) : AH := ⟨sB [], 0, 0⟩
def V_treeCopy11q1 (a0 : Int) (r : Unit) : Value := match r with
 | _ => (i6 a0)
def R_treeCopy11q1 (a0 : Int) (r : Unit) : AH := match r with
 | _ => ⟨sB [], 0, 0⟩
abbrev G_treeCopy11q1 (a0 : Int) (r : Unit) : Prop := Gv P (.func 32) (A_treeCopy11q1 a0) (H_treeCopy11q1 a0) (V_treeCopy11q1 a0 r) (R_treeCopy11q1 a0 r)
abbrev C_treeCopy11q1 (a0 : Int) (r : Unit) (ins outs : BL) : CallA := ⟨0, ins, V_treeCopy11q1 a0 r, R_treeCopy11q1 a0 r, outs⟩
def m_treeCopy11q1 (n : Nat) (a0 : Int) : Option (Unit) :=
 some ()
theorem m_treeCopy11q1_ok (n : Nat) (a0 : Int) (r : Unit) (h : m_treeCopy11q1 n a0 = some r) : Gv P (.func 32) (A_treeCopy11q1 a0) (H_treeCopy11q1 a0) (V_treeCopy11q1 a0 r) (R_treeCopy11q1 a0 r) := by
 unfold m_treeCopy11q1 at h
 obtain rfl := oI h; exact (runF2 hm (L := lT []) ⟨[2], [], 0, 0, [], false, []⟩ (ee) (by kernel_rfl))

def A_eIq1 (a0 : NL) : List Value := [(nlV a0), (Value.func (.func 32) #[] #[])]
def H_eIq1 (a0 : NL) : AH := ⟨sB [], 0, 0⟩
def V_eIq1 (a0 : NL) (r : (Unit) ⊕ (List Int × Nat)) : Value := match r with
 | .inl _ => (Value.slice none 0 0)
 | .inr (o0, o1) => (sN 0 0 o1 o1)
def R_eIq1 (a0 : NL) (r : (Unit) ⊕ (List Int × Nat)) : AH := match r with
 | .inl _ => ⟨sB [], 0, 0⟩
 | .inr (o0, o1) => ⟨sB [(0, (some (.cells (layT (iv o0)) 3)))], 1, 0⟩
abbrev G_eIq1 (a0 : NL) (r : (Unit) ⊕ (List Int × Nat)) : Prop := Gv P (.func 43) (A_eIq1 a0) (H_eIq1 a0) (V_eIq1 a0 r) (R_eIq1 a0 r)
abbrev C_eIq1 (a0 : NL) (r : (Unit) ⊕ (List Int × Nat)) (ins outs : BL) : CallA := ⟨0, ins, V_eIq1 a0 r, R_eIq1 a0 r, outs⟩
def S_eIq1_1 (x1_1 : Nat) (x1_2 : NL) (x1_3 : Int) (st : List Int × Int) : XSt := match st with
 | (x1_0, x1_4) => (sT 29 [(1, (Value.func (.func 32) #[] #[])), (5, (sN 0 0 x1_1 x1_1)), (14, (nlV x1_2)), (15, (i6 x1_3)), (16, (i6 x1_4))], [], ⟨sB [(0, (some (.cells (layT (iv x1_0)) 3)))], 1, 0⟩)
def X_eIq1_1 (x1_1 : Nat) (x1_2 : NL) (x1_3 : Int) (r : List Int) : Ex × XSt := match r with
 | z1_0 => (.exit 0, (sT 29 [(5, (sN 0 0 x1_1 x1_1))], [], ⟨sB [(0, (some (.cells (layT (iv z1_0)) 3)))], 1, 0⟩))
abbrev Q_eIq1_1 (rnd : Option Nat) (x1_1 : Nat) (x1_2 : NL) (x1_3 : Int) (st : List Int × Int) (c : Ex × XSt) : Prop := CG P rnd (fnN P 43) 0 (codeOf P 43 [false, false, true, false, true, true, true]) (S_eIq1_1 x1_1 x1_2 x1_3 st) c
abbrev U_eIq1_1 (rd : Option Nat) (x1_1 : Nat) (x1_2 : NL) (x1_3 : Int) (st : List Int × Int) (r : List Int) : Prop := CG P rd (fnN P 43) 0 (codeOf P 43 [false, true, false, true, true, true]) (S_eIq1_1 x1_1 x1_2 x1_3 st) (X_eIq1_1 x1_1 x1_2 x1_3 r)
def B_eIq1_1 (n : Nat) (x1_1 : Nat) (x1_2 : NL) (x1_3 : Int) (st : List Int × Int) : Option ((List Int × Int) ⊕ (List Int)) := match st with
 | (x1_0, x1_4) =>
  if x1_4 < x1_3 then
   if 0 ≤ x1_4 ∧ x1_4 < (x1_2.l.length : Int) then
    if (x1_4).toNat < ((x1_2).l).length then
     ((some (((x1_2).l).getD (x1_4).toNat 0))).bind fun y1_4_ =>
     (m_treeCopy11q1 n y1_4_).bind fun _ =>
     if 0 ≤ x1_4 ∧ x1_4 < ((x1_1 : Nat) : Int) then
      if (x1_4).toNat < (x1_0).length then
       some (.inl (((x1_0).set (x1_4).toNat y1_4_), (w64 (x1_4 + (1 : Int)))))
      else none
     else none
    else none
   else none
  else
   some (.inr x1_0)
def m_eIq1_1 (n : Nat) (x1_1 : Nat) (x1_2 : NL) (x1_3 : Int) (st : List Int × Int) : Option (List Int) := iterM (B_eIq1_1 n x1_1 x1_2 x1_3) n st
theorem q_eIq1_1_0 (n : Nat) {rnd : Option Nat} (x1_0 : List Int) (x1_1 : Nat) (x1_2 : NL) (x1_3 x1_4 : Int) (hy1_1 : x1_4 < x1_3) (hy1_2 : 0 ≤ x1_4 ∧ x1_4 < (x1_2.l.length : Int)) (hy1_3 : (x1_4).toNat < ((x1_2).l).length) (y1_4_ : Int) (hy1_4 : (some (((x1_2).l).getD (x1_4).toNat 0)) = some y1_4_) (hy1_5 : m_treeCopy11q1 n y1_4_ = some ()) (hy1_6 : 0 ≤ x1_4 ∧ x1_4 < ((x1_1 : Nat) : Int)) (hy1_7 : (x1_4).toNat < (x1_0).length) : Q_eIq1_1 rnd x1_1 x1_2 x1_3 (x1_0, x1_4) (.normal, S_eIq1_1 x1_1 x1_2 x1_3 (((x1_0).set (x1_4).toNat y1_4_), (w64 (x1_4 + (1 : Int))))) :=
 runC2 hm (L := lT []) ⟨[1, 5, 14, 15, 16], [(0, 0, true)], 1, 0, [], false, []⟩ (zz 1 (xdT hy1_1) <|
zz 8 (xk6 (Nat.add (x1_2).num 64) (x1_2).cap hy1_2) <|
zz 9 (nk7 hy1_4 hy1_3) <|
yy 16 (.call (C_treeCopy11q1 y1_4_ () [] [])) <|
ww (m_treeCopy11q1_ok n y1_4_ () hy1_5) <|
zz 17 (xk17 0 x1_1 hy1_6) <|
yy 18 (.sto (layT (iv ((x1_0).set (x1_4).toNat y1_4_)))) <|
ww (p := ∃ old, rdT (layT (iv x1_0)) 1 (x1_4).toNat = some old) (Exists.elim (iv_st (x1_0) ((x1_4).toNat) (y1_4_) hy1_7) fun o h => ⟨o, h.1⟩) <|
ww (p := layL [(i6 y1_4_)] (x1_4).toNat (layT (iv x1_0)) = layT (iv ((x1_0).set (x1_4).toNat y1_4_))) (Exists.elim (iv_st (x1_0) ((x1_4).toNat) (y1_4_) hy1_7) fun o h => h.2) <|
ww (iv_flat ((x1_0).set (x1_4).toNat y1_4_) 3) <|
ee) (by kernel_rfl)
theorem q_eIq1_1_1 (n : Nat) {rnd : Option Nat} (x1_0 : List Int) (x1_1 : Nat) (x1_2 : NL) (x1_3 x1_4 : Int) (hy1_1 : ¬ (x1_4 < x1_3)) : Q_eIq1_1 rnd x1_1 x1_2 x1_3 (x1_0, x1_4) (X_eIq1_1 x1_1 x1_2 x1_3 x1_0) :=
 runC2 hm (L := lT []) ⟨[5], [(0, 0, true)], 1, 0, [], false, []⟩ (zz 1 (xdF hy1_1) <|
ww (iv_flat x1_0 3) <|
ee) (by kernel_rfl)
theorem m_eIq1_1_ok (n : Nat) {rnd : Option Nat} (x1_1 : Nat) (x1_2 : NL) (x1_3 : Int) (st : List Int × Int) (r : List Int) (h : m_eIq1_1 n x1_1 x1_2 x1_3 st = some r) : CG P rnd (fnN P 43) 0 (codeOf P 43 [false, true, false, true, true, true]) (S_eIq1_1 x1_1 x1_2 x1_3 st) (X_eIq1_1 x1_1 x1_2 x1_3 r) :=
 CG.iter (b := codeOf P 43 [false, false, true, false, true, true, true]) (by kernel_rfl) (body := B_eIq1_1 n x1_1 x1_2 x1_3) (S := S_eIq1_1 x1_1 x1_2 x1_3) (X := X_eIq1_1 x1_1 x1_2 x1_3)
  (fun s s' h => by
  obtain ⟨x1_0, x1_4⟩ := s
  unfold B_eIq1_1 at h
  dsimp only at h
  by_cases hy1_1 : x1_4 < x1_3
  ·rw [if_pos hy1_1] at h
   by_cases hy1_2 : 0 ≤ x1_4 ∧ x1_4 < (x1_2.l.length : Int)
   ·rw [if_pos hy1_2] at h
    by_cases hy1_3 : (x1_4).toNat < ((x1_2).l).length
    ·rw [if_pos hy1_3] at h
     obtain ⟨y1_4_, hy1_4, h⟩ := Option.bind_eq_some_iff.1 h
     obtain ⟨_, hy1_5, h⟩ := Option.bind_eq_some_iff.1 h
     by_cases hy1_6 : 0 ≤ x1_4 ∧ x1_4 < ((x1_1 : Nat) : Int)
     ·rw [if_pos hy1_6] at h
      by_cases hy1_7 : (x1_4).toNat < (x1_0).length
      ·rw [if_pos hy1_7] at h
       obtain rfl := Sum.inl.inj (oI h); exact q_eIq1_1_0 n x1_0 x1_1 x1_2 x1_3 x1_4 hy1_1 hy1_2 hy1_3 y1_4_ hy1_4 hy1_5 hy1_6 hy1_7
      ·rw [if_neg hy1_7] at h; cases h
     ·rw [if_neg hy1_6] at h; cases h
    ·rw [if_neg hy1_3] at h; cases h
   ·rw [if_neg hy1_2] at h; cases h
  ·rw [if_neg hy1_1] at h
   cases h)
  (fun s r h => by
  obtain ⟨x1_0, x1_4⟩ := s
  unfold B_eIq1_1 at h
  dsimp only at h
  by_cases hy1_1 : x1_4 < x1_3
  ·rw [if_pos hy1_1] at h
   by_cases hy1_2 : 0 ≤ x1_4 ∧ x1_4 < (x1_2.l.length : Int)
   ·rw [if_pos hy1_2] at h
    by_cases hy1_3 : (x1_4).toNat < ((x1_2).l).length
    ·rw [if_pos hy1_3] at h
     obtain ⟨y1_4_, hy1_4, h⟩ := Option.bind_eq_some_iff.1 h
     obtain ⟨_, hy1_5, h⟩ := Option.bind_eq_some_iff.1 h
     by_cases hy1_6 : 0 ≤ x1_4 ∧ x1_4 < ((x1_1 : Nat) : Int)
     ·rw [if_pos hy1_6] at h
      by_cases hy1_7 : (x1_4).toNat < (x1_0).length
      ·rw [if_pos hy1_7] at h
       cases h
      ·rw [if_neg hy1_7] at h; cases h
     ·rw [if_neg hy1_6] at h; cases h
    ·rw [if_neg hy1_3] at h; cases h
   ·rw [if_neg hy1_2] at h; cases h
  ·rw [if_neg hy1_1] at h
   obtain rfl := Sum.inr.inj (oI h); exact q_eIq1_1_1 n x1_0 x1_1 x1_2 x1_3 x1_4 hy1_1)
  (fun r => by intro hx; cases hx) h
def m_eIq1 (n : Nat) (a0 : NL) : Option ((Unit) ⊕ (List Int × Nat)) :=
 if (a0.l.length : Int) = (0 : Int) then
  some (.inl ())
 else
  if 0 ≤ (a0.l.length : Int) then
   if ((a0.l.length : Int)).toNat * 8 ≤ 140737488355328 then
    (m_eIq1_1 n (((a0.l.length : Int)).toNat) a0 (a0.l.length : Int) ((List.replicate ((a0.l.length : Int)).toNat (0 : Int)), 0)).bind fun c4_ =>
    some (.inr (c4_, (((a0.l.length : Int)).toNat)))
   else none
  else none
theorem m_eIq1_ok (n : Nat) (a0 : NL) (r : (Unit) ⊕ (List Int × Nat)) (h : m_eIq1 n a0 = some r) : Gv P (.func 43) (A_eIq1 a0) (H_eIq1 a0) (V_eIq1 a0 r) (R_eIq1 a0 r) := by
 unfold m_eIq1 at h
 by_cases hc1 : (a0.l.length : Int) = (0 : Int)
 ·rw [if_pos hc1] at h
  obtain rfl := oI h; exact (runF2 hm (L := lT []) ⟨[4], [], 0, 0, [], false, []⟩ (zz 6 (xeT hc1) ee) (by kernel_rfl))
 ·rw [if_neg hc1] at h
  by_cases hc2 : 0 ≤ (a0.l.length : Int)
  ·rw [if_pos hc2] at h
   by_cases hc3 : ((a0.l.length : Int)).toNat * 8 ≤ 140737488355328
   ·rw [if_pos hc3] at h
    obtain ⟨c4_, hc4, h⟩ := Option.bind_eq_some_iff.1 h
    obtain rfl := oI h; exact (runF2 hm (L := lT [(19, ⟨⟨[1, 5, 14, 15, 16], [(0, 0, true)], 1, 0, [], false, []⟩, (X_eIq1_1 (((a0.l.length : Int)).toNat) a0 (a0.l.length : Int) c4_).1, (X_eIq1_1 (((a0.l.length : Int)).toNat) a0 (a0.l.length : Int) c4_).2⟩)]) ⟨[4], [(0, 0, true)], 1, 0, [], false, []⟩ (zz 6 (xeF hc1) <|
yy 11 (.mk ((a0.l.length : Int)).toNat (iv (List.replicate ((a0.l.length : Int)).toNat (0 : Int)))) <|
ww (p := natOf (i6 (a0.l.length : Int)) = some ((a0.l.length : Int)).toNat) (natOf_toNat hc2) <|
ww (p := natOf (i6 (a0.l.length : Int)) = some ((a0.l.length : Int)).toNat) (natOf_toNat hc2) <|
ww (p := fits ((a0.l.length : Int)).toNat 8 = true) (fits_ok hc3 (by omega)) <|
ww (p := isZ8 [(i6 (0 : Int))] = false) (rfl) <|
ww (p := reps [(i6 (0 : Int))] ((a0.l.length : Int)).toNat = (iv (List.replicate ((a0.l.length : Int)).toNat (0 : Int)))) (reps_iv _) <|
ww (p := U_eIq1_1 none (((a0.l.length : Int)).toNat) a0 (a0.l.length : Int) ((List.replicate ((a0.l.length : Int)).toNat (0 : Int)), 0) c4_) (m_eIq1_1_ok n (((a0.l.length : Int)).toNat) a0 (a0.l.length : Int) ((List.replicate ((a0.l.length : Int)).toNat (0 : Int)), 0) c4_ hc4) <|
ww (iv_flat (List.replicate ((a0.l.length : Int)).toNat (0 : Int)) 3) <|
ww (iv_flat c4_ 3) ee) (by kernel_rfl))
   ·rw [if_neg hc3] at h; cases h
  ·rw [if_neg hc2] at h; cases h

def A_treemovedq1 (a0 : Int) (a1 : Int) (a2 : Int) (a3 : Int) (a4 : Int) (a5 : Int) (a6 : NL) (a7 : Int) : List Value := [(Value.agg #[(i6 a0), (i6 a1), (i6 a2), (i6 a3), (i6 a4), (i6 a5), (nlV a6), (Value.int .u64 a7)]), (Value.func (.func 32) #[] #[])]
def H_treemovedq1 (a0 : Int) (a1 : Int) (a2 : Int) (a3 : Int) (a4 : Int) (a5 : Int) (a6 : NL) (a7 : Int) : AH := ⟨sB [], 0, 0⟩
def V_treemovedq1 (a0 : Int) (a1 : Int) (a2 : Int) (a3 : Int) (a4 : Int) (a5 : Int) (a6 : NL) (a7 : Int) (r : NL) : Value := match r with
 | o0 => (Value.agg #[(i6 a0), (i6 a1), (i6 a2), (i6 a3), (i6 a4), (i6 a5), (nlV o0), (Value.int .u64 a7)])
def R_treemovedq1 (a0 : Int) (a1 : Int) (a2 : Int) (a3 : Int) (a4 : Int) (a5 : Int) (a6 : NL) (a7 : Int) (r : NL) : AH := match r with
 | o0 => ⟨sB [(0, (some (.cells (layT [(i6 a0), (i6 a1), (i6 a2), (i6 a3), (i6 a4), (i6 a5), (nlV o0), (Value.int .u64 a7)]) 32)))], 1, 0⟩
abbrev G_treemovedq1 (a0 : Int) (a1 : Int) (a2 : Int) (a3 : Int) (a4 : Int) (a5 : Int) (a6 : NL) (a7 : Int) (r : NL) : Prop := Gv P (.func 31) (A_treemovedq1 a0 a1 a2 a3 a4 a5 a6 a7) (H_treemovedq1 a0 a1 a2 a3 a4 a5 a6 a7) (V_treemovedq1 a0 a1 a2 a3 a4 a5 a6 a7 r) (R_treemovedq1 a0 a1 a2 a3 a4 a5 a6 a7 r)
abbrev C_treemovedq1 (a0 : Int) (a1 : Int) (a2 : Int) (a3 : Int) (a4 : Int) (a5 : Int) (a6 : NL) (a7 : Int) (r : NL) (ins outs : BL) : CallA := ⟨0, ins, V_treemovedq1 a0 a1 a2 a3 a4 a5 a6 a7 r, R_treemovedq1 a0 a1 a2 a3 a4 a5 a6 a7 r, outs⟩
def m_treemovedq1 (n : Nat) (a0 : Int) (a1 : Int) (a2 : Int) (a3 : Int) (a4 : Int) (a5 : Int) (a6 : NL) (a7 : Int) : Option (NL) :=
 match m_eIq1 n a6 with
 | none => none
 | some (.inl _) =>
  some nl0
 | some (.inr (c1_0, c1_1)) =>
  if c1_1 = c1_0.length then
   if hc3 : c1_0.length ≤ 9223372036854775807 then
    some (frzL c1_0 hc3)
   else none
  else none
theorem m_treemovedq1_ok (n : Nat) (a0 : Int) (a1 : Int) (a2 : Int) (a3 : Int) (a4 : Int) (a5 : Int) (a6 : NL) (a7 : Int) (r : NL) (h : m_treemovedq1 n a0 a1 a2 a3 a4 a5 a6 a7 = some r) : Gv P (.func 31) (A_treemovedq1 a0 a1 a2 a3 a4 a5 a6 a7) (H_treemovedq1 a0 a1 a2 a3 a4 a5 a6 a7) (V_treemovedq1 a0 a1 a2 a3 a4 a5 a6 a7 r) (R_treemovedq1 a0 a1 a2 a3 a4 a5 a6 a7 r) := by
 unfold m_treemovedq1 at h
 rcases hc1 : m_eIq1 n a6 with _ | (⟨⟩ | ⟨c1_0, c1_1⟩)
 ·rw [hc1] at h; cases h
 ·rw [hc1] at h
  dsimp only at h
  obtain rfl := oI h; exact (runF2 hm (L := lT []) ⟨[4], [(0, 1, false)], 1, 0, [], true, [32]⟩ (yy 7 (.call (C_eIq1 a6 (.inl ()) [] [])) <|
ww (m_eIq1_ok n a6 (.inl ()) hc1) ee) (by kernel_rfl))
 ·rw [hc1] at h
  dsimp only at h
  by_cases hc2 : c1_1 = c1_0.length
  ·rw [if_pos hc2] at h
   by_cases hc3 : c1_0.length ≤ 9223372036854775807
   ·rw [dif_pos hc3] at h
    obtain rfl := oI h; subst hc2; exact (runF2 hm (L := lT []) ⟨[4], [(0, 1, false)], 1, 0, [(2, Nat.add (2 * cod c1_0 + 1) 64)], true, []⟩ (yy 7 (.call (C_eIq1 a6 (.inr (c1_0, ((c1_0).length))) [] [(2, 0, true)])) <|
ww (m_eIq1_ok n a6 (.inr (c1_0, ((c1_0).length))) hc1) <|
ww (iv_flat c1_0 3) <|
ww (frz_ok wins_nest wins_odd c1_0) ee) (by kernel_rfl))
   ·rw [dif_neg hc3] at h; cases h
  ·rw [if_neg hc2] at h; cases h

def A_treeCopy1q1 (a0 : Int) (a1 : Int) (a2 : Int) (a3 : Int) (a4 : Int) (a5 : Int) (a6 : NL) (a7 : Int) : List Value := [(Value.agg #[(i6 a0), (i6 a1), (i6 a2), (i6 a3), (i6 a4), (i6 a5), (nlV a6), (Value.int .u64 a7)])]
def H_treeCopy1q1 (a0 : Int) (a1 : Int) (a2 : Int) (a3 : Int) (a4 : Int) (a5 : Int) (a6 : NL) (a7 : Int) : AH := ⟨sB [], 0, 0⟩
def V_treeCopy1q1 (a0 : Int) (a1 : Int) (a2 : Int) (a3 : Int) (a4 : Int) (a5 : Int) (a6 : NL) (a7 : Int) (r : NL) : Value := match r with
 | o0 => (Value.agg #[(i6 a0), (i6 a1), (i6 a2), (i6 a3), (i6 a4), (i6 a5), (nlV o0), (Value.int .u64 a7)])
def R_treeCopy1q1 (a0 : Int) (a1 : Int) (a2 : Int) (a3 : Int) (a4 : Int) (a5 : Int) (a6 : NL) (a7 : Int) (r : NL) : AH := match r with
 | o0 => ⟨sB [(0, (some (.cells (layT [(i6 a0), (i6 a1), (i6 a2), (i6 a3), (i6 a4), (i6 a5), (nlV o0), (Value.int .u64 a7)]) 32)))], 1, 0⟩
abbrev G_treeCopy1q1 (a0 : Int) (a1 : Int) (a2 : Int) (a3 : Int) (a4 : Int) (a5 : Int) (a6 : NL) (a7 : Int) (r : NL) : Prop := Gv P (.func 30) (A_treeCopy1q1 a0 a1 a2 a3 a4 a5 a6 a7) (H_treeCopy1q1 a0 a1 a2 a3 a4 a5 a6 a7) (V_treeCopy1q1 a0 a1 a2 a3 a4 a5 a6 a7 r) (R_treeCopy1q1 a0 a1 a2 a3 a4 a5 a6 a7 r)
abbrev C_treeCopy1q1 (a0 : Int) (a1 : Int) (a2 : Int) (a3 : Int) (a4 : Int) (a5 : Int) (a6 : NL) (a7 : Int) (r : NL) (ins outs : BL) : CallA := ⟨0, ins, V_treeCopy1q1 a0 a1 a2 a3 a4 a5 a6 a7 r, R_treeCopy1q1 a0 a1 a2 a3 a4 a5 a6 a7 r, outs⟩
def m_treeCopy1q1 (n : Nat) (a0 : Int) (a1 : Int) (a2 : Int) (a3 : Int) (a4 : Int) (a5 : Int) (a6 : NL) (a7 : Int) : Option (NL) :=
 (m_treemovedq1 n a0 a1 a2 a3 a4 a5 a6 a7).bind fun c1_ =>
 some c1_
theorem m_treeCopy1q1_ok (n : Nat) (a0 : Int) (a1 : Int) (a2 : Int) (a3 : Int) (a4 : Int) (a5 : Int) (a6 : NL) (a7 : Int) (r : NL) (h : m_treeCopy1q1 n a0 a1 a2 a3 a4 a5 a6 a7 = some r) : Gv P (.func 30) (A_treeCopy1q1 a0 a1 a2 a3 a4 a5 a6 a7) (H_treeCopy1q1 a0 a1 a2 a3 a4 a5 a6 a7) (V_treeCopy1q1 a0 a1 a2 a3 a4 a5 a6 a7 r) (R_treeCopy1q1 a0 a1 a2 a3 a4 a5 a6 a7 r) := by
 unfold m_treeCopy1q1 at h
 obtain ⟨c1_, hc1, h⟩ := Option.bind_eq_some_iff.1 h
 obtain rfl := oI h; exact (runF2 hm (L := lT []) ⟨[2], [(0, 1, false)], 1, 0, [], false, []⟩ (yy 5 (.call (C_treemovedq1 a0 a1 a2 a3 a4 a5 a6 a7 c1_ [] [(2, 0, false)])) <|
ww (m_treemovedq1_ok n a0 a1 a2 a3 a4 a5 a6 a7 c1_ hc1) ee) (by kernel_rfl))

def A_ePq1 : List Value := [(sW 0 0 (Args.A).length Args.cA), (Value.func (.func 30) #[] #[])]
def H_ePq1 : AH := ⟨sB [], 0, 0⟩
def V_ePq1 (r : (Unit) ⊕ (List R8 × Nat)) : Value := match r with
 | .inl _ => (Value.slice none 0 0)
 | .inr (o0, o1) => (sN 0 0 o1 o1)
def R_ePq1 (r : (Unit) ⊕ (List R8 × Nat)) : AH := match r with
 | .inl _ => ⟨sB [], 0, 0⟩
 | .inr (o0, o1) => ⟨sB [(0, (some (.cells (layT (rows rw_iiiiiiLu o0)) 32)))], 1, 0⟩
abbrev G_ePq1 (r : (Unit) ⊕ (List R8 × Nat)) : Prop := Gv P (.func 29) A_ePq1 H_ePq1 (V_ePq1  r) (R_ePq1  r)
abbrev C_ePq1 (r : (Unit) ⊕ (List R8 × Nat)) (ins outs : BL) : CallA := ⟨0, ins, V_ePq1  r, R_ePq1  r, outs⟩
def S_ePq1_1 (x1_1 : Nat) (x1_2 : Int) (st : List R8 × Int) : XSt := match st with
 | (x1_0, x1_3) => (sT 29 [(1, (Value.func (.func 30) #[] #[])), (5, (sN 0 0 x1_1 x1_1)), (14, (sW 0 0 (Args.A).length Args.cA)), (15, (i6 x1_2)), (16, (i6 x1_3))], [], ⟨sB [(0, (some (.cells (layT (rows rw_iiiiiiLu x1_0)) 32)))], 1, 0⟩)
def X_ePq1_1 (x1_1 : Nat) (x1_2 : Int) (r : List R8) : Ex × XSt := match r with
 | z1_0 => (.exit 0, (sT 29 [(5, (sN 0 0 x1_1 x1_1))], [], ⟨sB [(0, (some (.cells (layT (rows rw_iiiiiiLu z1_0)) 32)))], 1, 0⟩))
abbrev Q_ePq1_1 (rnd : Option Nat) (x1_1 : Nat) (x1_2 : Int) (st : List R8 × Int) (c : Ex × XSt) : Prop := CG P rnd (fnN P 29) 0 (codeOf P 29 [false, false, true, false, true, true, true]) (S_ePq1_1 x1_1 x1_2 st) c
abbrev U_ePq1_1 (rd : Option Nat) (x1_1 : Nat) (x1_2 : Int) (st : List R8 × Int) (r : List R8) : Prop := CG P rd (fnN P 29) 0 (codeOf P 29 [false, true, false, true, true, true]) (S_ePq1_1 x1_1 x1_2 st) (X_ePq1_1 x1_1 x1_2 r)
def B_ePq1_1 (n : Nat) (x1_1 : Nat) (x1_2 : Int) (st : List R8 × Int) : Option ((List R8 × Int) ⊕ (List R8)) := match st with
 | (x1_0, x1_3) =>
  if x1_3 < x1_2 then
   if 0 ≤ x1_3 ∧ x1_3 < (Args.A.length : Int) then
    ((some ((Args.A).getD (x1_3).toNat (0, 0, 0, 0, 0, 0, nl0, 0)))).bind fun y1_3_ =>
    (m_treeCopy1q1 n (y1_3_.1) (y1_3_.2.1) (y1_3_.2.2.1) (y1_3_.2.2.2.1) (y1_3_.2.2.2.2.1) (y1_3_.2.2.2.2.2.1) (y1_3_.2.2.2.2.2.2.1) (y1_3_.2.2.2.2.2.2.2)).bind fun y1_4_ =>
    if 0 ≤ x1_3 ∧ x1_3 < ((x1_1 : Nat) : Int) then
     if (x1_3).toNat < (x1_0).length then
      some (.inl (((x1_0).set (x1_3).toNat ((y1_3_.1), (y1_3_.2.1), (y1_3_.2.2.1), (y1_3_.2.2.2.1), (y1_3_.2.2.2.2.1), (y1_3_.2.2.2.2.2.1), y1_4_, (y1_3_.2.2.2.2.2.2.2))), (w64 (x1_3 + (1 : Int)))))
     else none
    else none
   else none
  else
   some (.inr x1_0)
def m_ePq1_1 (n : Nat) (x1_1 : Nat) (x1_2 : Int) (st : List R8 × Int) : Option (List R8) := iterM (B_ePq1_1 n x1_1 x1_2) n st
theorem q_ePq1_1_0 (n : Nat) {rnd : Option Nat} (x1_0 : List R8) (x1_1 : Nat) (x1_2 x1_3 : Int) (hy1_1 : x1_3 < x1_2) (hy1_2 : 0 ≤ x1_3 ∧ x1_3 < (Args.A.length : Int)) (y1_3_ : R8) (hy1_3 : (some ((Args.A).getD (x1_3).toNat (0, 0, 0, 0, 0, 0, nl0, 0))) = some y1_3_) (y1_4_ : NL) (hy1_4 : m_treeCopy1q1 n (y1_3_.1) (y1_3_.2.1) (y1_3_.2.2.1) (y1_3_.2.2.2.1) (y1_3_.2.2.2.2.1) (y1_3_.2.2.2.2.2.1) (y1_3_.2.2.2.2.2.2.1) (y1_3_.2.2.2.2.2.2.2) = some y1_4_) (hy1_5 : 0 ≤ x1_3 ∧ x1_3 < ((x1_1 : Nat) : Int)) (hy1_6 : (x1_3).toNat < (x1_0).length) : Q_ePq1_1 rnd x1_1 x1_2 (x1_0, x1_3) (.normal, S_ePq1_1 x1_1 x1_2 (((x1_0).set (x1_3).toNat ((y1_3_.1), (y1_3_.2.1), (y1_3_.2.2.1), (y1_3_.2.2.2.1), (y1_3_.2.2.2.2.1), (y1_3_.2.2.2.2.2.1), y1_4_, (y1_3_.2.2.2.2.2.2.2))), (w64 (x1_3 + (1 : Int))))) :=
 runC2 hm (L := lT []) ⟨[1, 5, 14, 15, 16], [(0, 0, true)], 1, 0, [], false, []⟩ (zz 1 (xdT hy1_1) <|
zz 8 (xk1 0 Args.cA hy1_2) <|
zz 9 (lk2 hy1_3 (toNatLt hy1_2)) <|
yy 17 (.call (C_treeCopy1q1 (y1_3_.1) (y1_3_.2.1) (y1_3_.2.2.1) (y1_3_.2.2.2.1) (y1_3_.2.2.2.2.1) (y1_3_.2.2.2.2.2.1) (y1_3_.2.2.2.2.2.2.1) (y1_3_.2.2.2.2.2.2.2) y1_4_ [] [(2, 0, false)])) <|
ww (m_treeCopy1q1_ok n (y1_3_.1) (y1_3_.2.1) (y1_3_.2.2.1) (y1_3_.2.2.2.1) (y1_3_.2.2.2.2.1) (y1_3_.2.2.2.2.2.1) (y1_3_.2.2.2.2.2.2.1) (y1_3_.2.2.2.2.2.2.2) y1_4_ hy1_4) <|
zz 18 (xk18 0 x1_1 hy1_5) <|
yy 19 (.sto (layT (rows rw_iiiiiiLu ((x1_0).set (x1_3).toNat ((y1_3_.1), (y1_3_.2.1), (y1_3_.2.2.1), (y1_3_.2.2.2.1), (y1_3_.2.2.2.2.1), (y1_3_.2.2.2.2.2.1), y1_4_, (y1_3_.2.2.2.2.2.2.2)))))) <|
ww (p := ∃ old, rdT (layT (rows rw_iiiiiiLu x1_0)) 8 ((x1_3).toNat * 8) = some old) (Exists.elim (rows_st rwf_iiiiiiLu (0, 0, 0, 0, 0, 0, nl0, 0) (i := (x1_3).toNat) (j := 0) (l := [(i6 (y1_3_.1)), (i6 (y1_3_.2.1)), (i6 (y1_3_.2.2.1)), (i6 (y1_3_.2.2.2.1)), (i6 (y1_3_.2.2.2.2.1)), (i6 (y1_3_.2.2.2.2.2.1)), (nlV y1_4_), (Value.int .u64 (y1_3_.2.2.2.2.2.2.2))]) ((y1_3_.1), (y1_3_.2.1), (y1_3_.2.2.1), (y1_3_.2.2.2.1), (y1_3_.2.2.2.2.1), (y1_3_.2.2.2.2.2.1), y1_4_, (y1_3_.2.2.2.2.2.2.2)) ((x1_3).toNat * 8) rfl (hy1_6) (Nat.le_of_ble_eq_true rfl) rfl) fun o h => ⟨o, h.1⟩) <|
ww (p := layL [(i6 (y1_3_.1)), (i6 (y1_3_.2.1)), (i6 (y1_3_.2.2.1)), (i6 (y1_3_.2.2.2.1)), (i6 (y1_3_.2.2.2.2.1)), (i6 (y1_3_.2.2.2.2.2.1)), (nlV y1_4_), (Value.int .u64 (y1_3_.2.2.2.2.2.2.2))] ((x1_3).toNat * 8) (layT (rows rw_iiiiiiLu x1_0)) = layT (rows rw_iiiiiiLu ((x1_0).set (x1_3).toNat ((y1_3_.1), (y1_3_.2.1), (y1_3_.2.2.1), (y1_3_.2.2.2.1), (y1_3_.2.2.2.2.1), (y1_3_.2.2.2.2.2.1), y1_4_, (y1_3_.2.2.2.2.2.2.2))))) (Exists.elim (rows_st rwf_iiiiiiLu (0, 0, 0, 0, 0, 0, nl0, 0) (i := (x1_3).toNat) (j := 0) (l := [(i6 (y1_3_.1)), (i6 (y1_3_.2.1)), (i6 (y1_3_.2.2.1)), (i6 (y1_3_.2.2.2.1)), (i6 (y1_3_.2.2.2.2.1)), (i6 (y1_3_.2.2.2.2.2.1)), (nlV y1_4_), (Value.int .u64 (y1_3_.2.2.2.2.2.2.2))]) ((y1_3_.1), (y1_3_.2.1), (y1_3_.2.2.1), (y1_3_.2.2.2.1), (y1_3_.2.2.2.2.1), (y1_3_.2.2.2.2.2.1), y1_4_, (y1_3_.2.2.2.2.2.2.2)) ((x1_3).toNat * 8) rfl (hy1_6) (Nat.le_of_ble_eq_true rfl) rfl) fun o h => h.2) <|
ww (rows_flat rwf_iiiiiiLu ((x1_0).set (x1_3).toNat ((y1_3_.1), (y1_3_.2.1), (y1_3_.2.2.1), (y1_3_.2.2.2.1), (y1_3_.2.2.2.2.1), (y1_3_.2.2.2.2.2.1), y1_4_, (y1_3_.2.2.2.2.2.2.2))) 32) <|
ee) (by kernel_rfl)
theorem q_ePq1_1_1 (n : Nat) {rnd : Option Nat} (x1_0 : List R8) (x1_1 : Nat) (x1_2 x1_3 : Int) (hy1_1 : ¬ (x1_3 < x1_2)) : Q_ePq1_1 rnd x1_1 x1_2 (x1_0, x1_3) (X_ePq1_1 x1_1 x1_2 x1_0) :=
 runC2 hm (L := lT []) ⟨[5], [(0, 0, true)], 1, 0, [], false, []⟩ (zz 1 (xdF hy1_1) <|
ww (rows_flat rwf_iiiiiiLu x1_0 32) <|
ee) (by kernel_rfl)
theorem m_ePq1_1_ok (n : Nat) {rnd : Option Nat} (x1_1 : Nat) (x1_2 : Int) (st : List R8 × Int) (r : List R8) (h : m_ePq1_1 n x1_1 x1_2 st = some r) : CG P rnd (fnN P 29) 0 (codeOf P 29 [false, true, false, true, true, true]) (S_ePq1_1 x1_1 x1_2 st) (X_ePq1_1 x1_1 x1_2 r) :=
 CG.iter (b := codeOf P 29 [false, false, true, false, true, true, true]) (by kernel_rfl) (body := B_ePq1_1 n x1_1 x1_2) (S := S_ePq1_1 x1_1 x1_2) (X := X_ePq1_1 x1_1 x1_2)
  (fun s s' h => by
  obtain ⟨x1_0, x1_3⟩ := s
  unfold B_ePq1_1 at h
  dsimp only at h
  by_cases hy1_1 : x1_3 < x1_2
  ·rw [if_pos hy1_1] at h
   by_cases hy1_2 : 0 ≤ x1_3 ∧ x1_3 < (Args.A.length : Int)
   ·rw [if_pos hy1_2] at h
    obtain ⟨y1_3_, hy1_3, h⟩ := Option.bind_eq_some_iff.1 h
    obtain ⟨y1_4_, hy1_4, h⟩ := Option.bind_eq_some_iff.1 h
    by_cases hy1_5 : 0 ≤ x1_3 ∧ x1_3 < ((x1_1 : Nat) : Int)
    ·rw [if_pos hy1_5] at h
     by_cases hy1_6 : (x1_3).toNat < (x1_0).length
     ·rw [if_pos hy1_6] at h
      obtain rfl := Sum.inl.inj (oI h); exact q_ePq1_1_0 n x1_0 x1_1 x1_2 x1_3 hy1_1 hy1_2 y1_3_ hy1_3 y1_4_ hy1_4 hy1_5 hy1_6
     ·rw [if_neg hy1_6] at h; cases h
    ·rw [if_neg hy1_5] at h; cases h
   ·rw [if_neg hy1_2] at h; cases h
  ·rw [if_neg hy1_1] at h
   cases h)
  (fun s r h => by
  obtain ⟨x1_0, x1_3⟩ := s
  unfold B_ePq1_1 at h
  dsimp only at h
  by_cases hy1_1 : x1_3 < x1_2
  ·rw [if_pos hy1_1] at h
   by_cases hy1_2 : 0 ≤ x1_3 ∧ x1_3 < (Args.A.length : Int)
   ·rw [if_pos hy1_2] at h
    obtain ⟨y1_3_, hy1_3, h⟩ := Option.bind_eq_some_iff.1 h
    obtain ⟨y1_4_, hy1_4, h⟩ := Option.bind_eq_some_iff.1 h
    by_cases hy1_5 : 0 ≤ x1_3 ∧ x1_3 < ((x1_1 : Nat) : Int)
    ·rw [if_pos hy1_5] at h
     by_cases hy1_6 : (x1_3).toNat < (x1_0).length
     ·rw [if_pos hy1_6] at h
      cases h
     ·rw [if_neg hy1_6] at h; cases h
    ·rw [if_neg hy1_5] at h; cases h
   ·rw [if_neg hy1_2] at h; cases h
  ·rw [if_neg hy1_1] at h
   obtain rfl := Sum.inr.inj (oI h); exact q_ePq1_1_1 n x1_0 x1_1 x1_2 x1_3 hy1_1)
  (fun r => by intro hx; cases hx) h
def m_ePq1 (n : Nat) : Option ((Unit) ⊕ (List R8 × Nat)) :=
 if (Args.A.length : Int) = (0 : Int) then
  some (.inl ())
 else
  if 0 ≤ (Args.A.length : Int) then
   if ((Args.A.length : Int)).toNat * 80 ≤ 140737488355328 then
    (m_ePq1_1 n (((Args.A.length : Int)).toNat) (Args.A.length : Int) ((List.replicate ((Args.A.length : Int)).toNat (0, 0, 0, 0, 0, 0, nl0, 0)), 0)).bind fun c4_ =>
    some (.inr (c4_, (((Args.A.length : Int)).toNat)))
   else none
  else none
theorem m_ePq1_ok (n : Nat) (r : (Unit) ⊕ (List R8 × Nat)) (h : m_ePq1 n = some r) : Gv P (.func 29) A_ePq1 H_ePq1 (V_ePq1  r) (R_ePq1  r) := by
 unfold m_ePq1 at h
 by_cases hc1 : (Args.A.length : Int) = (0 : Int)
 ·rw [if_pos hc1] at h
  obtain rfl := oI h; exact (runF2 hm (L := lT []) ⟨[4], [], 0, 0, [], false, []⟩ (zz 6 (xeT hc1) ee) (by kernel_rfl))
 ·rw [if_neg hc1] at h
  by_cases hc2 : 0 ≤ (Args.A.length : Int)
  ·rw [if_pos hc2] at h
   by_cases hc3 : ((Args.A.length : Int)).toNat * 80 ≤ 140737488355328
   ·rw [if_pos hc3] at h
    obtain ⟨c4_, hc4, h⟩ := Option.bind_eq_some_iff.1 h
    obtain rfl := oI h; exact (runF2 hm (L := lT [(19, ⟨⟨[1, 5, 14, 15, 16], [(0, 0, true)], 1, 0, [], false, []⟩, (X_ePq1_1 (((Args.A.length : Int)).toNat) (Args.A.length : Int) c4_).1, (X_ePq1_1 (((Args.A.length : Int)).toNat) (Args.A.length : Int) c4_).2⟩)]) ⟨[4], [(0, 0, true)], 1, 0, [], false, []⟩ (zz 6 (xeF hc1) <|
yy 11 (.mk ((Args.A.length : Int)).toNat (rows rw_iiiiiiLu (List.replicate ((Args.A.length : Int)).toNat (0, 0, 0, 0, 0, 0, nl0, 0)))) <|
ww (p := natOf (i6 (Args.A.length : Int)) = some ((Args.A.length : Int)).toNat) (natOf_toNat hc2) <|
ww (p := natOf (i6 (Args.A.length : Int)) = some ((Args.A.length : Int)).toNat) (natOf_toNat hc2) <|
ww (p := fits ((Args.A.length : Int)).toNat 80 = true) (fits_ok hc3 (by omega)) <|
ww (p := isZ8 [(i6 (0 : Int)), (i6 (0 : Int)), (i6 (0 : Int)), (i6 (0 : Int)), (i6 (0 : Int)), (i6 (0 : Int)), (nlV nl0), (Value.int .u64 (0 : Int))] = false) (rfl) <|
ww (p := reps [(i6 (0 : Int)), (i6 (0 : Int)), (i6 (0 : Int)), (i6 (0 : Int)), (i6 (0 : Int)), (i6 (0 : Int)), (nlV nl0), (Value.int .u64 (0 : Int))] ((Args.A.length : Int)).toNat = (rows rw_iiiiiiLu (List.replicate ((Args.A.length : Int)).toNat (0, 0, 0, 0, 0, 0, nl0, 0)))) (reps_rows rw_iiiiiiLu (0, 0, 0, 0, 0, 0, nl0, 0) _ rfl _) <|
ww (p := U_ePq1_1 none (((Args.A.length : Int)).toNat) (Args.A.length : Int) ((List.replicate ((Args.A.length : Int)).toNat (0, 0, 0, 0, 0, 0, nl0, 0)), 0) c4_) (m_ePq1_1_ok n (((Args.A.length : Int)).toNat) (Args.A.length : Int) ((List.replicate ((Args.A.length : Int)).toNat (0, 0, 0, 0, 0, 0, nl0, 0)), 0) c4_ hc4) <|
ww (rows_flat rwf_iiiiiiLu (List.replicate ((Args.A.length : Int)).toNat (0, 0, 0, 0, 0, 0, nl0, 0)) 32) <|
ww (rows_flat rwf_iiiiiiLu c4_ 32) ee) (by kernel_rfl))
   ·rw [if_neg hc3] at h; cases h
  ·rw [if_neg hc2] at h; cases h

def A_treeCopyq1 : List Value := [(sW 0 0 (Args.A).length Args.cA)]
def H_treeCopyq1 : AH := ⟨sB [], 0, 0⟩
def V_treeCopyq1 (r : List R8 × Nat) : Value := match r with
 | (o0, o1) => (sN 0 0 o1 o1)
def R_treeCopyq1 (r : List R8 × Nat) : AH := match r with
 | (o0, o1) => ⟨sB [(0, (some (.cells (layT (rows rw_iiiiiiLu o0)) 32)))], 1, 0⟩
abbrev G_treeCopyq1 (r : List R8 × Nat) : Prop := Gv P (.func 20) A_treeCopyq1 H_treeCopyq1 (V_treeCopyq1  r) (R_treeCopyq1  r)
abbrev C_treeCopyq1 (r : List R8 × Nat) (ins outs : BL) : CallA := ⟨0, ins, V_treeCopyq1  r, R_treeCopyq1  r, outs⟩
def m_treeCopyq1 (n : Nat) : Option (List R8 × Nat) :=
 match m_ePq1 n with
 | none => none
 | some (.inl _) =>
  none
 | some (.inr (c1_0, c1_1)) =>
  some (c1_0, c1_1)
theorem m_treeCopyq1_ok (n : Nat) (r : List R8 × Nat) (h : m_treeCopyq1 n = some r) : Gv P (.func 20) A_treeCopyq1 H_treeCopyq1 (V_treeCopyq1  r) (R_treeCopyq1  r) := by
 unfold m_treeCopyq1 at h
 rcases hc1 : m_ePq1 n with _ | (⟨⟩ | ⟨c1_0, c1_1⟩)
 ·rw [hc1] at h; cases h
 ·rw [hc1] at h
  dsimp only at h
  cases h
 ·rw [hc1] at h
  dsimp only at h
  obtain rfl := oI h; exact (runF2 hm (L := lT []) ⟨[2], [(0, 0, true)], 1, 0, [], false, []⟩ (yy 4 (.call (C_ePq1  (.inr (c1_0, c1_1)) [] [(0, 0, true)])) <|
ww (m_ePq1_ok n  (.inr (c1_0, c1_1)) hc1) <|
ww (rows_flat rwf_iiiiiiLu c1_0 32) <|
ww (rows_flat rwf_iiiiiiLu c1_0 32) ee) (by kernel_rfl))

def A_treeBareq1 : List Value := [(sW 0 0 (Args.A).length Args.cA)]
def H_treeBareq1 : AH := ⟨sB [], 0, 0⟩
def V_treeBareq1 (r : List R8 × Nat) : Value := match r with
 | (o0, o1) => (sN 0 0 o1 o1)
def R_treeBareq1 (r : List R8 × Nat) : AH := match r with
 | (o0, o1) => ⟨sB [(0, (some (.cells (layT (rows rw_iiiiiiLu o0)) 32)))], 1, 0⟩
abbrev G_treeBareq1 (r : List R8 × Nat) : Prop := Gv P (.func 9) A_treeBareq1 H_treeBareq1 (V_treeBareq1  r) (R_treeBareq1  r)
abbrev C_treeBareq1 (r : List R8 × Nat) (ins outs : BL) : CallA := ⟨0, ins, V_treeBareq1  r, R_treeBareq1  r, outs⟩
def S_treeBareq1_1 (x1_1 : Nat) (x1_2 : Int) (st : List R8 × Int) : XSt := match st with
 | (x1_0, x1_3) => (sT 21 [(3, (sN 0 0 x1_1 x1_1)), (11, (i6 x1_2)), (12, (i6 x1_3))], [], ⟨sB [(0, (some (.cells (layT (rows rw_iiiiiiLu x1_0)) 32)))], 1, 0⟩)
def X_treeBareq1_1 (x1_1 : Nat) (x1_2 : Int) (r : List R8) : Ex × XSt := match r with
 | z1_0 => (.exit 0, (sT 21 [(3, (sN 0 0 x1_1 x1_1))], [], ⟨sB [(0, (some (.cells (layT (rows rw_iiiiiiLu z1_0)) 32)))], 1, 0⟩))
abbrev Q_treeBareq1_1 (rnd : Option Nat) (x1_1 : Nat) (x1_2 : Int) (st : List R8 × Int) (c : Ex × XSt) : Prop := CG P rnd (fnN P 9) 0 (codeOf P 9 [false, false, true, false, true, true, true]) (S_treeBareq1_1 x1_1 x1_2 st) c
abbrev U_treeBareq1_1 (rd : Option Nat) (x1_1 : Nat) (x1_2 : Int) (st : List R8 × Int) (r : List R8) : Prop := CG P rd (fnN P 9) 0 (codeOf P 9 [false, true, false, true, true, true]) (S_treeBareq1_1 x1_1 x1_2 st) (X_treeBareq1_1 x1_1 x1_2 r)
def B_treeBareq1_1 (n : Nat) (x1_1 : Nat) (x1_2 : Int) (st : List R8 × Int) : Option ((List R8 × Int) ⊕ (List R8)) := match st with
 | (x1_0, x1_3) =>
  if x1_3 < x1_2 then
   if 0 ≤ x1_3 ∧ x1_3 < ((x1_1 : Nat) : Int) then
    if (x1_3).toNat < (x1_0).length then
     ((some ((x1_0).getD (x1_3).toNat (0, 0, 0, 0, 0, 0, nl0, 0)))).bind fun y1_4_ =>
     some (.inl (((x1_0).set (x1_3).toNat ((y1_4_.1), (y1_4_.2.1), (y1_4_.2.2.1), (y1_4_.2.2.2.1), (y1_4_.2.2.2.2.1), (y1_4_.2.2.2.2.2.1), (y1_4_.2.2.2.2.2.2.1), (0 : Int))), (w64 (x1_3 + (1 : Int)))))
    else none
   else none
  else
   some (.inr x1_0)
def m_treeBareq1_1 (n : Nat) (x1_1 : Nat) (x1_2 : Int) (st : List R8 × Int) : Option (List R8) := iterM (B_treeBareq1_1 n x1_1 x1_2) n st
theorem q_treeBareq1_1_0 (n : Nat) {rnd : Option Nat} (x1_0 : List R8) (x1_1 : Nat) (x1_2 x1_3 : Int) (hy1_1 : x1_3 < x1_2) (hy1_2 : 0 ≤ x1_3 ∧ x1_3 < ((x1_1 : Nat) : Int)) (hy1_3 : (x1_3).toNat < (x1_0).length) (y1_4_ : R8) (hy1_4 : (some ((x1_0).getD (x1_3).toNat (0, 0, 0, 0, 0, 0, nl0, 0))) = some y1_4_) : Q_treeBareq1_1 rnd x1_1 x1_2 (x1_0, x1_3) (.normal, S_treeBareq1_1 x1_1 x1_2 (((x1_0).set (x1_3).toNat ((y1_4_.1), (y1_4_.2.1), (y1_4_.2.2.1), (y1_4_.2.2.2.1), (y1_4_.2.2.2.2.1), (y1_4_.2.2.2.2.2.1), (y1_4_.2.2.2.2.2.2.1), (0 : Int))), (w64 (x1_3 + (1 : Int))))) :=
 runC2 hm (L := lT []) ⟨[3, 11, 12], [(0, 0, true)], 1, 0, [], false, []⟩ (zz 1 (xdT hy1_1) <|
zz 11 (xk18 0 x1_1 hy1_2) <|
yy 13 (.sto (layT (rows rw_iiiiiiLu ((x1_0).set (x1_3).toNat ((y1_4_.1), (y1_4_.2.1), (y1_4_.2.2.1), (y1_4_.2.2.2.1), (y1_4_.2.2.2.2.1), (y1_4_.2.2.2.2.2.1), (y1_4_.2.2.2.2.2.2.1), (0 : Int)))))) <|
ww (p := ∃ old, rdT (layT (rows rw_iiiiiiLu x1_0)) 1 (Nat.add ((x1_3).toNat * 8) 7) = some old) (Exists.elim (rows_stN rwf_iiiiiiLu (0, 0, 0, 0, 0, 0, nl0, 0) (hr := hy1_4) (i := (x1_3).toNat) (j := 7) (l := [(Value.int .u64 (0 : Int))]) ((y1_4_.1), (y1_4_.2.1), (y1_4_.2.2.1), (y1_4_.2.2.2.1), (y1_4_.2.2.2.2.1), (y1_4_.2.2.2.2.2.1), (y1_4_.2.2.2.2.2.2.1), (0 : Int)) (Nat.add ((x1_3).toNat * 8) 7) rfl (hy1_3) (Nat.le_of_ble_eq_true rfl) rfl) fun o h => ⟨o, h.1⟩) <|
ww (p := layL [(Value.int .u64 (0 : Int))] (Nat.add ((x1_3).toNat * 8) 7) (layT (rows rw_iiiiiiLu x1_0)) = layT (rows rw_iiiiiiLu ((x1_0).set (x1_3).toNat ((y1_4_.1), (y1_4_.2.1), (y1_4_.2.2.1), (y1_4_.2.2.2.1), (y1_4_.2.2.2.2.1), (y1_4_.2.2.2.2.2.1), (y1_4_.2.2.2.2.2.2.1), (0 : Int))))) (Exists.elim (rows_stN rwf_iiiiiiLu (0, 0, 0, 0, 0, 0, nl0, 0) (hr := hy1_4) (i := (x1_3).toNat) (j := 7) (l := [(Value.int .u64 (0 : Int))]) ((y1_4_.1), (y1_4_.2.1), (y1_4_.2.2.1), (y1_4_.2.2.2.1), (y1_4_.2.2.2.2.1), (y1_4_.2.2.2.2.2.1), (y1_4_.2.2.2.2.2.2.1), (0 : Int)) (Nat.add ((x1_3).toNat * 8) 7) rfl (hy1_3) (Nat.le_of_ble_eq_true rfl) rfl) fun o h => h.2) <|
ww (rows_flat rwf_iiiiiiLu ((x1_0).set (x1_3).toNat ((y1_4_.1), (y1_4_.2.1), (y1_4_.2.2.1), (y1_4_.2.2.2.1), (y1_4_.2.2.2.2.1), (y1_4_.2.2.2.2.2.1), (y1_4_.2.2.2.2.2.2.1), (0 : Int))) 32) <|
ee) (by kernel_rfl)
theorem q_treeBareq1_1_1 (n : Nat) {rnd : Option Nat} (x1_0 : List R8) (x1_1 : Nat) (x1_2 x1_3 : Int) (hy1_1 : ¬ (x1_3 < x1_2)) : Q_treeBareq1_1 rnd x1_1 x1_2 (x1_0, x1_3) (X_treeBareq1_1 x1_1 x1_2 x1_0) :=
 runC2 hm (L := lT []) ⟨[3], [(0, 0, true)], 1, 0, [], false, []⟩ (zz 1 (xdF hy1_1) <|
ww (rows_flat rwf_iiiiiiLu x1_0 32) <|
ee) (by kernel_rfl)
theorem m_treeBareq1_1_ok (n : Nat) {rnd : Option Nat} (x1_1 : Nat) (x1_2 : Int) (st : List R8 × Int) (r : List R8) (h : m_treeBareq1_1 n x1_1 x1_2 st = some r) : CG P rnd (fnN P 9) 0 (codeOf P 9 [false, true, false, true, true, true]) (S_treeBareq1_1 x1_1 x1_2 st) (X_treeBareq1_1 x1_1 x1_2 r) :=
 CG.iter (b := codeOf P 9 [false, false, true, false, true, true, true]) (by kernel_rfl) (body := B_treeBareq1_1 n x1_1 x1_2) (S := S_treeBareq1_1 x1_1 x1_2) (X := X_treeBareq1_1 x1_1 x1_2)
  (fun s s' h => by
  obtain ⟨x1_0, x1_3⟩ := s
  unfold B_treeBareq1_1 at h
  dsimp only at h
  by_cases hy1_1 : x1_3 < x1_2
  ·rw [if_pos hy1_1] at h
   by_cases hy1_2 : 0 ≤ x1_3 ∧ x1_3 < ((x1_1 : Nat) : Int)
   ·rw [if_pos hy1_2] at h
    by_cases hy1_3 : (x1_3).toNat < (x1_0).length
    ·rw [if_pos hy1_3] at h
     obtain ⟨y1_4_, hy1_4, h⟩ := Option.bind_eq_some_iff.1 h
     obtain rfl := Sum.inl.inj (oI h); exact q_treeBareq1_1_0 n x1_0 x1_1 x1_2 x1_3 hy1_1 hy1_2 hy1_3 y1_4_ hy1_4
    ·rw [if_neg hy1_3] at h; cases h
   ·rw [if_neg hy1_2] at h; cases h
  ·rw [if_neg hy1_1] at h
   cases h)
  (fun s r h => by
  obtain ⟨x1_0, x1_3⟩ := s
  unfold B_treeBareq1_1 at h
  dsimp only at h
  by_cases hy1_1 : x1_3 < x1_2
  ·rw [if_pos hy1_1] at h
   by_cases hy1_2 : 0 ≤ x1_3 ∧ x1_3 < ((x1_1 : Nat) : Int)
   ·rw [if_pos hy1_2] at h
    by_cases hy1_3 : (x1_3).toNat < (x1_0).length
    ·rw [if_pos hy1_3] at h
     obtain ⟨y1_4_, hy1_4, h⟩ := Option.bind_eq_some_iff.1 h
     cases h
    ·rw [if_neg hy1_3] at h; cases h
   ·rw [if_neg hy1_2] at h; cases h
  ·rw [if_neg hy1_1] at h
   obtain rfl := Sum.inr.inj (oI h); exact q_treeBareq1_1_1 n x1_0 x1_1 x1_2 x1_3 hy1_1)
  (fun r => by intro hx; cases hx) h
def m_treeBareq1 (n : Nat) : Option (List R8 × Nat) :=
 (m_tCq1 n).bind fun c1_ =>
 if c1_ = (0 : Int) then
  (m_treeCopyq1 n).bind fun t => match t with
  | (c3_0, c3_1) =>
   (m_treeBareq1_1 n c3_1 ((c3_1 : Nat) : Int) (c3_0, 0)).bind fun c4_ =>
   some (c4_, c3_1)
 else
  none
theorem m_treeBareq1_ok (n : Nat) (r : List R8 × Nat) (h : m_treeBareq1 n = some r) : Gv P (.func 9) A_treeBareq1 H_treeBareq1 (V_treeBareq1  r) (R_treeBareq1  r) := by
 unfold m_treeBareq1 at h
 obtain ⟨c1_, hc1, h⟩ := Option.bind_eq_some_iff.1 h
 by_cases hc2 : c1_ = (0 : Int)
 ·rw [if_pos hc2] at h
  obtain ⟨⟨c3_0, c3_1⟩, hc3, h⟩ := Option.bind_eq_some_iff.1 h
  dsimp only at h
  obtain ⟨c4_, hc4, h⟩ := Option.bind_eq_some_iff.1 h
  obtain rfl := oI h; exact (runF2 hm (L := lT [(18, ⟨⟨[3, 11, 12], [(0, 0, true)], 1, 0, [], false, []⟩, (X_treeBareq1_1 c3_1 ((c3_1 : Nat) : Int) c4_).1, (X_treeBareq1_1 c3_1 ((c3_1 : Nat) : Int) c4_).2⟩)]) ⟨[2], [(0, 0, true)], 1, 0, [], false, []⟩ (yy 5 (.call (C_tCq1  c1_ [] [])) <|
ww (m_tCq1_ok n  c1_ hc1) <|
zz 6 (xnF hc2) <|
yy 10 (.call (C_treeCopyq1  (c3_0, c3_1) [] [(0, 0, true)])) <|
ww (m_treeCopyq1_ok n  (c3_0, c3_1) hc3) <|
ww (rows_flat rwf_iiiiiiLu c3_0 32) <|
ww (p := U_treeBareq1_1 none c3_1 ((c3_1 : Nat) : Int) (c3_0, 0) c4_) (m_treeBareq1_1_ok n c3_1 ((c3_1 : Nat) : Int) (c3_0, 0) c4_ hc4) <|
ww (rows_flat rwf_iiiiiiLu c3_0 32) <|
ww (rows_flat rwf_iiiiiiLu c4_ 32) ee) (by kernel_rfl))
 ·rw [if_neg hc2] at h
  cases h


end Go.Proofs.Ytggbmhhikafdhaa.ted16
