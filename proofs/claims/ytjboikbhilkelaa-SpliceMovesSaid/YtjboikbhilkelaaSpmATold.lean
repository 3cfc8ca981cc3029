/-
  What functions do, told by pure functions. No condition.
-/
import Derived.Test.YtjboikbhilkelaaSpmLives
set_option linter.unusedSimpArgs false
set_option linter.unusedVariables false
set_option linter.unusedSectionVars false
set_option linter.unnecessarySimpa false
set_option maxRecDepth 100000
namespace Go.Proofs.Ytjboikbhilkelaa.spm
open Go Go.Proofs.Ytjboikbhilkelaa Ax
abbrev R8 [Nest] : Type := Int × Int × Int × Int × Int × Int × NL × Int
variable [Args]

abbrev xp1 (b n k : Nat) (i : Int) : Prop := IA P 22 (sW b 0 n k) i (pW b (i.toNat * 8))
theorem xk1 (b k : Nat) {n : Nat} {i : Int} (h : 0 ≤ i ∧ i < (n : Int)) : OB (.pur (pW b (i.toNat * 8))) (xp1 b n k i) := ⟨ixW (e := 41) (by kernel_rfl) (by kernel_rfl) h.1 h.2⟩
abbrev lp2 (i : Nat) (r : R8) : Prop := Lg P 41 (pW 0 (i * 8)) (Value.agg #[(i6 (r.1)), (i6 (r.2.1)), (i6 (r.2.2.1)), (i6 (r.2.2.2.1)), (i6 (r.2.2.2.2.1)), (i6 (r.2.2.2.2.2.1)), (nlV (r.2.2.2.2.2.2.1)), (Value.int .u64 (r.2.2.2.2.2.2.2))])
theorem lk2 {i : Nat} {r : Int × Int × Int × Int × Int × Int × NL × Int} (hr : some ((Args.A).getD i (0, 0, 0, 0, 0, 0, nl0, 0)) = some r) (h : i < (Args.A).length) : OB (.ld (Value.agg #[(i6 (r.1)), (i6 (r.2.1)), (i6 (r.2.2.1)), (i6 (r.2.2.2.1)), (i6 (r.2.2.2.2.1)), (i6 (r.2.2.2.2.2.1)), (nlV (r.2.2.2.2.2.2.1)), (Value.int .u64 (r.2.2.2.2.2.2.2))])) (lp2 i r) := by cases hr; exact ⟨ldWA rwf_iiiiiiLu (0, 0, 0, 0, 0, 0, nl0, 0) (i := i) (q := 0) (L := Args.A) (n := 8) (i * 8) rfl rfl (by kernel_rfl) (by kernel_rfl) h (by decide) rfl⟩
abbrev fp3 (o : Nat) : Prop := FA P 41 (pW 0 o) 1 (pW 0 (Nat.add o 1))
theorem fk3 (o : Nat) : OB (.pur (pW 0 (Nat.add o 1))) (fp3 o) := ⟨by unfold fp3 FA; kernel_rfl⟩
abbrev lp4 (i : Nat) (r : R8) : Prop := Lg P 3 (pW 0 (Nat.add (i * 8) 1)) (i6 (r.2.1))
theorem lk4 {i : Nat} {r : Int × Int × Int × Int × Int × Int × NL × Int} (hr : some ((Args.A).getD i (0, 0, 0, 0, 0, 0, nl0, 0)) = some r) (h : i < (Args.A).length) : OB (.ld (i6 (r.2.1))) (lp4 i r) := by cases hr; exact ⟨ldWS rwf_iiiiiiLu (0, 0, 0, 0, 0, 0, nl0, 0) (i := i) (q := 1) (L := Args.A) (Nat.add (i * 8) 1) rfl rfl (by kernel_rfl) h (by decide) rfl⟩
abbrev fp5 (o : Nat) : Prop := FA P 41 (pW 0 o) 2 (pW 0 (Nat.add o 2))
theorem fk5 (o : Nat) : OB (.pur (pW 0 (Nat.add o 2))) (fp5 o) := ⟨by unfold fp5 FA; kernel_rfl⟩
abbrev lp6 (i : Nat) (r : R8) : Prop := Lg P 3 (pW 0 (Nat.add (i * 8) 2)) (i6 (r.2.2.1))
theorem lk6 {i : Nat} {r : Int × Int × Int × Int × Int × Int × NL × Int} (hr : some ((Args.A).getD i (0, 0, 0, 0, 0, 0, nl0, 0)) = some r) (h : i < (Args.A).length) : OB (.ld (i6 (r.2.2.1))) (lp6 i r) := by cases hr; exact ⟨ldWS rwf_iiiiiiLu (0, 0, 0, 0, 0, 0, nl0, 0) (i := i) (q := 2) (L := Args.A) (Nat.add (i * 8) 2) rfl rfl (by kernel_rfl) h (by decide) rfl⟩
abbrev fp7 (o : Nat) : Prop := FA P 41 (pW 0 o) 6 (pW 0 (Nat.add o 6))
theorem fk7 (o : Nat) : OB (.pur (pW 0 (Nat.add o 6))) (fp7 o) := ⟨by unfold fp7 FA; kernel_rfl⟩
abbrev lp8 (i : Nat) (r : R8) : Prop := Lg P 31 (pW 0 (Nat.add (i * 8) 6)) (nlV (r.2.2.2.2.2.2.1))
theorem lk8 {i : Nat} {r : Int × Int × Int × Int × Int × Int × NL × Int} (hr : some ((Args.A).getD i (0, 0, 0, 0, 0, 0, nl0, 0)) = some r) (h : i < (Args.A).length) : OB (.ld (nlV (r.2.2.2.2.2.2.1))) (lp8 i r) := by cases hr; exact ⟨ldWS rwf_iiiiiiLu (0, 0, 0, 0, 0, 0, nl0, 0) (i := i) (q := 6) (L := Args.A) (Nat.add (i * 8) 6) rfl rfl (by kernel_rfl) h (by decide) rfl⟩
abbrev xp9 (b n k : Nat) (i : Int) : Prop := IA P 31 (sW b 0 n k) i (pW b i.toNat)
theorem xk9 (b k : Nat) {n : Nat} {i : Int} (h : 0 ≤ i ∧ i < (n : Int)) : OB (.pur (pW b i.toNat)) (xp9 b n k i) := ⟨ixW1 (e := 3) (by kernel_rfl) (by kernel_rfl) h⟩
theorem nk10 {x : NL} {i : Nat} {v : Int} (hv : some (x.l.getD i 0) = some v) (h : i < x.l.length) : OB (.ld (i6 v)) (Lg P 3 (pW (Nat.add x.num 64) i) (i6 v)) := by cases hv; exact ⟨ldN x (by kernel_rfl) h⟩
abbrev fp11 (o : Nat) : Prop := FA P 41 (pW 0 o) 4 (pW 0 (Nat.add o 4))
theorem fk11 (o : Nat) : OB (.pur (pW 0 (Nat.add o 4))) (fp11 o) := ⟨by unfold fp11 FA; kernel_rfl⟩
abbrev lp12 (i : Nat) (r : R8) : Prop := Lg P 3 (pW 0 (Nat.add (i * 8) 4)) (i6 (r.2.2.2.2.1))
theorem lk12 {i : Nat} {r : Int × Int × Int × Int × Int × Int × NL × Int} (hr : some ((Args.A).getD i (0, 0, 0, 0, 0, 0, nl0, 0)) = some r) (h : i < (Args.A).length) : OB (.ld (i6 (r.2.2.2.2.1))) (lp12 i r) := by cases hr; exact ⟨ldWS rwf_iiiiiiLu (0, 0, 0, 0, 0, 0, nl0, 0) (i := i) (q := 4) (L := Args.A) (Nat.add (i * 8) 4) rfl rfl (by kernel_rfl) h (by decide) rfl⟩
abbrev xp13 (b n k : Nat) (i : Int) : Prop := IA P 31 (sN b 0 n k) i (pN b i.toNat)
theorem xk13 (b k : Nat) {n : Nat} {i : Int} (h : 0 ≤ i ∧ i < (n : Int)) : OB (.pur (pN b i.toNat)) (xp13 b n k i) := ⟨ixS1 (e := 3) (by kernel_rfl) (by kernel_rfl) h⟩
abbrev xp14 (b n k : Nat) (i : Int) : Prop := IA P 22 (sN b 0 n k) i (pN b (i.toNat * 8))
theorem xk14 (b k : Nat) {n : Nat} {i : Int} (h : 0 ≤ i ∧ i < (n : Int)) : OB (.pur (pN b (i.toNat * 8))) (xp14 b n k i) := ⟨ixS (e := 41) (by kernel_rfl) (by kernel_rfl) h.1 h.2⟩
abbrev op15 (L : List R8) (i : Nat) (r : R8) : Prop := (layT (rows rw_iiiiiiLu L)).get (Nat.add (i * 8) 7) = some (Value.int .u64 (r.2.2.2.2.2.2.2))
theorem ok15 {L : List R8} {i : Nat} {r : Int × Int × Int × Int × Int × Int × NL × Int} (hr : some (L.getD i (0, 0, 0, 0, 0, 0, nl0, 0)) = some r) (h : i < L.length) : OB (.ld (Value.int .u64 (r.2.2.2.2.2.2.2))) (op15 L i r) := by cases hr; exact ⟨rows_ld rwf_iiiiiiLu (0, 0, 0, 0, 0, 0, nl0, 0) (i := i) (j := 7) (Nat.add (i * 8) 7) rfl h (by decide) rfl⟩
abbrev fp16 (o : Nat) : Prop := FA P 41 (pW 0 o) 7 (pW 0 (Nat.add o 7))
theorem fk16 (o : Nat) : OB (.pur (pW 0 (Nat.add o 7))) (fp16 o) := ⟨by unfold fp16 FA; kernel_rfl⟩
abbrev lp17 (i : Nat) (r : R8) : Prop := Lg P 35 (pW 0 (Nat.add (i * 8) 7)) (Value.int .u64 (r.2.2.2.2.2.2.2))
theorem lk17 {i : Nat} {r : Int × Int × Int × Int × Int × Int × NL × Int} (hr : some ((Args.A).getD i (0, 0, 0, 0, 0, 0, nl0, 0)) = some r) (h : i < (Args.A).length) : OB (.ld (Value.int .u64 (r.2.2.2.2.2.2.2))) (lp17 i r) := by cases hr; exact ⟨ldWS rwf_iiiiiiLu (0, 0, 0, 0, 0, 0, nl0, 0) (i := i) (q := 7) (L := Args.A) (Nat.add (i * 8) 7) rfl rfl (by kernel_rfl) h (by decide) rfl⟩
abbrev op18 (L : List R8) (i : Nat) (r : R8) : Prop := (layT (rows rw_iiiiiiLu L)).get (Nat.add (i * 8) 1) = some (i6 (r.2.1))
theorem ok18 {L : List R8} {i : Nat} {r : Int × Int × Int × Int × Int × Int × NL × Int} (hr : some (L.getD i (0, 0, 0, 0, 0, 0, nl0, 0)) = some r) (h : i < L.length) : OB (.ld (i6 (r.2.1))) (op18 L i r) := by cases hr; exact ⟨rows_ld rwf_iiiiiiLu (0, 0, 0, 0, 0, 0, nl0, 0) (i := i) (j := 1) (Nat.add (i * 8) 1) rfl h (by decide) rfl⟩
abbrev op19 (L : List R8) (i : Nat) (r : R8) : Prop := (layT (rows rw_iiiiiiLu L)).get (Nat.add (i * 8) 2) = some (i6 (r.2.2.1))
theorem ok19 {L : List R8} {i : Nat} {r : Int × Int × Int × Int × Int × Int × NL × Int} (hr : some (L.getD i (0, 0, 0, 0, 0, 0, nl0, 0)) = some r) (h : i < L.length) : OB (.ld (i6 (r.2.2.1))) (op19 L i r) := by cases hr; exact ⟨rows_ld rwf_iiiiiiLu (0, 0, 0, 0, 0, 0, nl0, 0) (i := i) (j := 2) (Nat.add (i * 8) 2) rfl h (by decide) rfl⟩
abbrev op20 (L : List R8) (i : Nat) (r : R8) : Prop := (layT (rows rw_iiiiiiLu L)).get (Nat.add (i * 8) 6) = some (nlV (r.2.2.2.2.2.2.1))
theorem ok20 {L : List R8} {i : Nat} {r : Int × Int × Int × Int × Int × Int × NL × Int} (hr : some (L.getD i (0, 0, 0, 0, 0, 0, nl0, 0)) = some r) (h : i < L.length) : OB (.ld (nlV (r.2.2.2.2.2.2.1))) (op20 L i r) := by cases hr; exact ⟨rows_ld rwf_iiiiiiLu (0, 0, 0, 0, 0, 0, nl0, 0) (i := i) (j := 6) (Nat.add (i * 8) 6) rfl h (by decide) rfl⟩
abbrev op21 (L : List R8) (i : Nat) (r : R8) : Prop := (layT (rows rw_iiiiiiLu L)).get (Nat.add (i * 8) 4) = some (i6 (r.2.2.2.2.1))
theorem ok21 {L : List R8} {i : Nat} {r : Int × Int × Int × Int × Int × Int × NL × Int} (hr : some (L.getD i (0, 0, 0, 0, 0, 0, nl0, 0)) = some r) (h : i < L.length) : OB (.ld (i6 (r.2.2.2.2.1))) (op21 L i r) := by cases hr; exact ⟨rows_ld rwf_iiiiiiLu (0, 0, 0, 0, 0, 0, nl0, 0) (i := i) (j := 4) (Nat.add (i * 8) 4) rfl h (by decide) rfl⟩

def m_Vlives (n : Nat) : Option Unit := some ()
theorem m_Vlives_ok (n : Nat) (r : Unit) (h : m_Vlives n = some r) : Gv P (.func 6) [] Ax.h0 (.bool true) Ax.h0 := lives_gv

noncomputable def A_LPq1 (a0 : Int) : List Value := [(sW 0 0 (Args.A).length Args.cA), (i6 a0)]
noncomputable def H_LPq1 (a0 : Int) : AH := ⟨sB [], 0, 0⟩
noncomputable def V_LPq1 (a0 : Int) (r : Bool) : Value := match r with
 | o0 => (bO o0)
noncomputable def R_LPq1 (a0 : Int) (r : Bool) : AH := match r with
 | o0 => ⟨sB [], 0, 0⟩
noncomputable abbrev G_LPq1 (a0 : Int) (r : Bool) : Prop := Gv P (.func 21) (A_LPq1 a0) (H_LPq1 a0) (V_LPq1 a0 r) (R_LPq1 a0 r)
noncomputable abbrev C_LPq1 (a0 : Int) (r : Bool) (ins outs : BL) : CallA := ⟨0, ins, V_LPq1 a0 r, R_LPq1 a0 r, outs⟩
noncomputable def S_LPq1_1 (x1_0 : Int) (st : Int × Int) : XSt := match st with
 | (x1_1, x1_2) => (sT 66 [(0, (sW 0 0 (Args.A).length Args.cA)), (1, (i6 x1_0)), (5, (i6 x1_1)), (6, (i6 x1_2))], [], ⟨sB [], 0, 0⟩)
noncomputable def X_LPq1_1 (x1_0 : Int) (r : (Unit) ⊕ (Int)) : Ex × XSt := match r with
 | .inl _ => (.ret, (sT 66 [(4, (bO false))], [], ⟨sB [], 0, 0⟩))
 | .inr z1_0 => (.exit 0, (sT 66 [(0, (sW 0 0 (Args.A).length Args.cA)), (1, (i6 x1_0)), (5, (i6 z1_0))], [], ⟨sB [], 0, 0⟩))
noncomputable abbrev Q_LPq1_1 (rnd : Option Nat) (x1_0 : Int) (st : Int × Int) (c : Ex × XSt) : Prop := CG P rnd (fnN P 21) 0 (codeOf P 21 [false, false, true, false, true, true]) (S_LPq1_1 x1_0 st) c
noncomputable abbrev U_LPq1_1 (rd : Option Nat) (x1_0 : Int) (st : Int × Int) (r : (Unit) ⊕ (Int)) : Prop := CG P rd (fnN P 21) 0 (codeOf P 21 [false, true, false, true, true]) (S_LPq1_1 x1_0 st) (X_LPq1_1 x1_0 r)
def B_LPq1_1 (n : Nat) (x1_0 : Int) (st : Int × Int) : Option ((Int × Int) ⊕ ((Unit) ⊕ (Int))) := match st with
 | (x1_1, x1_2) =>
  if x1_2 < (((Args.A).length : Nat) : Int) then
   if x1_2 ≤ x1_0 then
    if 0 ≤ x1_2 ∧ x1_2 < (((Args.A).length : Nat) : Int) then
     ((some ((Args.A).getD (x1_2).toNat (0, 0, 0, 0, 0, 0, nl0, 0)))).bind fun y1_4_ =>
     ((some (w64 (x1_1 + ((((y1_4_.2.2.2.2.2.2.1)).l.length : Nat) : Int))))).bind fun y1_5_ =>
     if (y1_4_.2.2.1) > (1048576 : Int) then
      some (.inr (.inl ()))
     else
      if (y1_4_.2.2.2.2.1) > (1048576 : Int) then
       some (.inr (.inl ()))
      else
       if (y1_4_.2.2.2.2.2.1) > (1048576 : Int) then
        some (.inr (.inl ()))
       else
        if (y1_4_.2.2.1) < (-1048576 : Int) then
         some (.inr (.inl ()))
        else
         if (y1_4_.2.2.2.2.1) < (-1048576 : Int) then
          some (.inr (.inl ()))
         else
          if (y1_4_.2.2.2.2.2.1) < (-1048576 : Int) then
           some (.inr (.inl ()))
          else
           some (.inl (y1_5_, (w64 (x1_2 + (1 : Int)))))
    else none
   else
    some (.inr (.inr x1_1))
  else
   some (.inr (.inr x1_1))
def m_LPq1_1 (n : Nat) (x1_0 : Int) (st : Int × Int) : Option ((Unit) ⊕ (Int)) := iterM (B_LPq1_1 n x1_0) n st
theorem q_LPq1_1_0 (n : Nat) {rnd : Option Nat} (x1_0 x1_1 x1_2 : Int) (hy1_1 : x1_2 < (((Args.A).length : Nat) : Int)) (hy1_2 : x1_2 ≤ x1_0) (hy1_3 : 0 ≤ x1_2 ∧ x1_2 < (((Args.A).length : Nat) : Int)) (y1_4_ : R8) (hy1_4 : (some ((Args.A).getD (x1_2).toNat (0, 0, 0, 0, 0, 0, nl0, 0))) = some y1_4_) (y1_5_ : Int) (hy1_5 : (some (w64 (x1_1 + ((((y1_4_.2.2.2.2.2.2.1)).l.length : Nat) : Int)))) = some y1_5_) (hy1_6 : (y1_4_.2.2.1) > (1048576 : Int)) : Q_LPq1_1 rnd x1_0 (x1_1, x1_2) (X_LPq1_1 x1_0 (.inl ())) :=
 runC2 hm (L := lT []) ⟨[4], [], 0, 0, [], false, []⟩ (zz 5 (xdT hy1_1) <|
zz 9 (xdT hy1_2) <|
zz 17 (xk1 0 Args.cA hy1_3) <|
zz 18 (lk2 hy1_4 (toNatLt hy1_3)) <|
zz 26 (xnm hy1_5) <|
zz 31 (xdT hy1_6) <|
ee) (by kernel_rfl)
theorem q_LPq1_1_1 (n : Nat) {rnd : Option Nat} (x1_0 x1_1 x1_2 : Int) (hy1_1 : x1_2 < (((Args.A).length : Nat) : Int)) (hy1_2 : x1_2 ≤ x1_0) (hy1_3 : 0 ≤ x1_2 ∧ x1_2 < (((Args.A).length : Nat) : Int)) (y1_4_ : R8) (hy1_4 : (some ((Args.A).getD (x1_2).toNat (0, 0, 0, 0, 0, 0, nl0, 0))) = some y1_4_) (y1_5_ : Int) (hy1_5 : (some (w64 (x1_1 + ((((y1_4_.2.2.2.2.2.2.1)).l.length : Nat) : Int)))) = some y1_5_) (hy1_6 : ¬ ((y1_4_.2.2.1) > (1048576 : Int))) (hy1_7 : (y1_4_.2.2.2.2.1) > (1048576 : Int)) : Q_LPq1_1 rnd x1_0 (x1_1, x1_2) (X_LPq1_1 x1_0 (.inl ())) :=
 runC2 hm (L := lT []) ⟨[4], [], 0, 0, [], false, []⟩ (zz 5 (xdT hy1_1) <|
zz 9 (xdT hy1_2) <|
zz 17 (xk1 0 Args.cA hy1_3) <|
zz 18 (lk2 hy1_4 (toNatLt hy1_3)) <|
zz 26 (xnm hy1_5) <|
zz 31 (xdF hy1_6) <|
zz 35 (xdT hy1_7) <|
ee) (by kernel_rfl)
theorem q_LPq1_1_2 (n : Nat) {rnd : Option Nat} (x1_0 x1_1 x1_2 : Int) (hy1_1 : x1_2 < (((Args.A).length : Nat) : Int)) (hy1_2 : x1_2 ≤ x1_0) (hy1_3 : 0 ≤ x1_2 ∧ x1_2 < (((Args.A).length : Nat) : Int)) (y1_4_ : R8) (hy1_4 : (some ((Args.A).getD (x1_2).toNat (0, 0, 0, 0, 0, 0, nl0, 0))) = some y1_4_) (y1_5_ : Int) (hy1_5 : (some (w64 (x1_1 + ((((y1_4_.2.2.2.2.2.2.1)).l.length : Nat) : Int)))) = some y1_5_) (hy1_6 : ¬ ((y1_4_.2.2.1) > (1048576 : Int))) (hy1_7 : ¬ ((y1_4_.2.2.2.2.1) > (1048576 : Int))) (hy1_8 : (y1_4_.2.2.2.2.2.1) > (1048576 : Int)) : Q_LPq1_1 rnd x1_0 (x1_1, x1_2) (X_LPq1_1 x1_0 (.inl ())) :=
 runC2 hm (L := lT []) ⟨[4], [], 0, 0, [], false, []⟩ (zz 5 (xdT hy1_1) <|
zz 9 (xdT hy1_2) <|
zz 17 (xk1 0 Args.cA hy1_3) <|
zz 18 (lk2 hy1_4 (toNatLt hy1_3)) <|
zz 26 (xnm hy1_5) <|
zz 31 (xdF hy1_6) <|
zz 35 (xdF hy1_7) <|
zz 40 (xdT hy1_8) <|
ee) (by kernel_rfl)
theorem q_LPq1_1_3 (n : Nat) {rnd : Option Nat} (x1_0 x1_1 x1_2 : Int) (hy1_1 : x1_2 < (((Args.A).length : Nat) : Int)) (hy1_2 : x1_2 ≤ x1_0) (hy1_3 : 0 ≤ x1_2 ∧ x1_2 < (((Args.A).length : Nat) : Int)) (y1_4_ : R8) (hy1_4 : (some ((Args.A).getD (x1_2).toNat (0, 0, 0, 0, 0, 0, nl0, 0))) = some y1_4_) (y1_5_ : Int) (hy1_5 : (some (w64 (x1_1 + ((((y1_4_.2.2.2.2.2.2.1)).l.length : Nat) : Int)))) = some y1_5_) (hy1_6 : ¬ ((y1_4_.2.2.1) > (1048576 : Int))) (hy1_7 : ¬ ((y1_4_.2.2.2.2.1) > (1048576 : Int))) (hy1_8 : ¬ ((y1_4_.2.2.2.2.2.1) > (1048576 : Int))) (hy1_9 : (y1_4_.2.2.1) < (-1048576 : Int)) : Q_LPq1_1 rnd x1_0 (x1_1, x1_2) (X_LPq1_1 x1_0 (.inl ())) :=
 runC2 hm (L := lT []) ⟨[4], [], 0, 0, [], false, []⟩ (zz 5 (xdT hy1_1) <|
zz 9 (xdT hy1_2) <|
zz 17 (xk1 0 Args.cA hy1_3) <|
zz 18 (lk2 hy1_4 (toNatLt hy1_3)) <|
zz 26 (xnm hy1_5) <|
zz 31 (xdF hy1_6) <|
zz 35 (xdF hy1_7) <|
zz 40 (xdF hy1_8) <|
zz 45 (xdT hy1_9) <|
ee) (by kernel_rfl)
theorem q_LPq1_1_4 (n : Nat) {rnd : Option Nat} (x1_0 x1_1 x1_2 : Int) (hy1_1 : x1_2 < (((Args.A).length : Nat) : Int)) (hy1_2 : x1_2 ≤ x1_0) (hy1_3 : 0 ≤ x1_2 ∧ x1_2 < (((Args.A).length : Nat) : Int)) (y1_4_ : R8) (hy1_4 : (some ((Args.A).getD (x1_2).toNat (0, 0, 0, 0, 0, 0, nl0, 0))) = some y1_4_) (y1_5_ : Int) (hy1_5 : (some (w64 (x1_1 + ((((y1_4_.2.2.2.2.2.2.1)).l.length : Nat) : Int)))) = some y1_5_) (hy1_6 : ¬ ((y1_4_.2.2.1) > (1048576 : Int))) (hy1_7 : ¬ ((y1_4_.2.2.2.2.1) > (1048576 : Int))) (hy1_8 : ¬ ((y1_4_.2.2.2.2.2.1) > (1048576 : Int))) (hy1_9 : ¬ ((y1_4_.2.2.1) < (-1048576 : Int))) (hy1_10 : (y1_4_.2.2.2.2.1) < (-1048576 : Int)) : Q_LPq1_1 rnd x1_0 (x1_1, x1_2) (X_LPq1_1 x1_0 (.inl ())) :=
 runC2 hm (L := lT []) ⟨[4], [], 0, 0, [], false, []⟩ (zz 5 (xdT hy1_1) <|
zz 9 (xdT hy1_2) <|
zz 17 (xk1 0 Args.cA hy1_3) <|
zz 18 (lk2 hy1_4 (toNatLt hy1_3)) <|
zz 26 (xnm hy1_5) <|
zz 31 (xdF hy1_6) <|
zz 35 (xdF hy1_7) <|
zz 40 (xdF hy1_8) <|
zz 45 (xdF hy1_9) <|
zz 50 (xdT hy1_10) <|
ee) (by kernel_rfl)
theorem q_LPq1_1_5 (n : Nat) {rnd : Option Nat} (x1_0 x1_1 x1_2 : Int) (hy1_1 : x1_2 < (((Args.A).length : Nat) : Int)) (hy1_2 : x1_2 ≤ x1_0) (hy1_3 : 0 ≤ x1_2 ∧ x1_2 < (((Args.A).length : Nat) : Int)) (y1_4_ : R8) (hy1_4 : (some ((Args.A).getD (x1_2).toNat (0, 0, 0, 0, 0, 0, nl0, 0))) = some y1_4_) (y1_5_ : Int) (hy1_5 : (some (w64 (x1_1 + ((((y1_4_.2.2.2.2.2.2.1)).l.length : Nat) : Int)))) = some y1_5_) (hy1_6 : ¬ ((y1_4_.2.2.1) > (1048576 : Int))) (hy1_7 : ¬ ((y1_4_.2.2.2.2.1) > (1048576 : Int))) (hy1_8 : ¬ ((y1_4_.2.2.2.2.2.1) > (1048576 : Int))) (hy1_9 : ¬ ((y1_4_.2.2.1) < (-1048576 : Int))) (hy1_10 : ¬ ((y1_4_.2.2.2.2.1) < (-1048576 : Int))) (hy1_11 : (y1_4_.2.2.2.2.2.1) < (-1048576 : Int)) : Q_LPq1_1 rnd x1_0 (x1_1, x1_2) (X_LPq1_1 x1_0 (.inl ())) :=
 runC2 hm (L := lT []) ⟨[4], [], 0, 0, [], false, []⟩ (zz 5 (xdT hy1_1) <|
zz 9 (xdT hy1_2) <|
zz 17 (xk1 0 Args.cA hy1_3) <|
zz 18 (lk2 hy1_4 (toNatLt hy1_3)) <|
zz 26 (xnm hy1_5) <|
zz 31 (xdF hy1_6) <|
zz 35 (xdF hy1_7) <|
zz 40 (xdF hy1_8) <|
zz 45 (xdF hy1_9) <|
zz 50 (xdF hy1_10) <|
zz 55 (xdT hy1_11) <|
ee) (by kernel_rfl)
theorem q_LPq1_1_6 (n : Nat) {rnd : Option Nat} (x1_0 x1_1 x1_2 : Int) (hy1_1 : x1_2 < (((Args.A).length : Nat) : Int)) (hy1_2 : x1_2 ≤ x1_0) (hy1_3 : 0 ≤ x1_2 ∧ x1_2 < (((Args.A).length : Nat) : Int)) (y1_4_ : R8) (hy1_4 : (some ((Args.A).getD (x1_2).toNat (0, 0, 0, 0, 0, 0, nl0, 0))) = some y1_4_) (y1_5_ : Int) (hy1_5 : (some (w64 (x1_1 + ((((y1_4_.2.2.2.2.2.2.1)).l.length : Nat) : Int)))) = some y1_5_) (hy1_6 : ¬ ((y1_4_.2.2.1) > (1048576 : Int))) (hy1_7 : ¬ ((y1_4_.2.2.2.2.1) > (1048576 : Int))) (hy1_8 : ¬ ((y1_4_.2.2.2.2.2.1) > (1048576 : Int))) (hy1_9 : ¬ ((y1_4_.2.2.1) < (-1048576 : Int))) (hy1_10 : ¬ ((y1_4_.2.2.2.2.1) < (-1048576 : Int))) (hy1_11 : ¬ ((y1_4_.2.2.2.2.2.1) < (-1048576 : Int))) : Q_LPq1_1 rnd x1_0 (x1_1, x1_2) (.normal, S_LPq1_1 x1_0 (y1_5_, (w64 (x1_2 + (1 : Int))))) :=
 runC2 hm (L := lT []) ⟨[0, 1, 5, 6], [], 0, 0, [], false, []⟩ (zz 5 (xdT hy1_1) <|
zz 9 (xdT hy1_2) <|
zz 17 (xk1 0 Args.cA hy1_3) <|
zz 18 (lk2 hy1_4 (toNatLt hy1_3)) <|
zz 26 (xnm hy1_5) <|
zz 31 (xdF hy1_6) <|
zz 35 (xdF hy1_7) <|
zz 40 (xdF hy1_8) <|
zz 45 (xdF hy1_9) <|
zz 50 (xdF hy1_10) <|
zz 55 (xdF hy1_11) <|
ee) (by kernel_rfl)
theorem q_LPq1_1_7 (n : Nat) {rnd : Option Nat} (x1_0 x1_1 x1_2 : Int) (hy1_1 : x1_2 < (((Args.A).length : Nat) : Int)) (hy1_2 : ¬ (x1_2 ≤ x1_0)) : Q_LPq1_1 rnd x1_0 (x1_1, x1_2) (X_LPq1_1 x1_0 (.inr x1_1)) :=
 runC2 hm (L := lT []) ⟨[0, 1, 5], [], 0, 0, [], false, []⟩ (zz 5 (xdT hy1_1) <|
zz 9 (xdF hy1_2) <|
ee) (by kernel_rfl)
theorem q_LPq1_1_8 (n : Nat) {rnd : Option Nat} (x1_0 x1_1 x1_2 : Int) (hy1_1 : ¬ (x1_2 < (((Args.A).length : Nat) : Int))) : Q_LPq1_1 rnd x1_0 (x1_1, x1_2) (X_LPq1_1 x1_0 (.inr x1_1)) :=
 runC2 hm (L := lT []) ⟨[0, 1, 5], [], 0, 0, [], false, []⟩ (zz 5 (xdF hy1_1) <|
ee) (by kernel_rfl)
theorem m_LPq1_1_ok (n : Nat) {rnd : Option Nat} (x1_0 : Int) (st : Int × Int) (r : (Unit) ⊕ (Int)) (h : m_LPq1_1 n x1_0 st = some r) : CG P rnd (fnN P 21) 0 (codeOf P 21 [false, true, false, true, true]) (S_LPq1_1 x1_0 st) (X_LPq1_1 x1_0 r) :=
 CG.iter (b := codeOf P 21 [false, false, true, false, true, true]) (by kernel_rfl) (body := B_LPq1_1 n x1_0) (S := S_LPq1_1 x1_0) (X := X_LPq1_1 x1_0)
  (fun s s' h => by
  obtain ⟨x1_1, x1_2⟩ := s
  unfold B_LPq1_1 at h
  dsimp only at h
  by_cases hy1_1 : x1_2 < (((Args.A).length : Nat) : Int)
  ·rw [if_pos hy1_1] at h
   by_cases hy1_2 : x1_2 ≤ x1_0
   ·rw [if_pos hy1_2] at h
    by_cases hy1_3 : 0 ≤ x1_2 ∧ x1_2 < (((Args.A).length : Nat) : Int)
    ·rw [if_pos hy1_3] at h
     obtain ⟨y1_4_, hy1_4, h⟩ := Option.bind_eq_some_iff.1 h
     obtain ⟨y1_5_, hy1_5, h⟩ := Option.bind_eq_some_iff.1 h
     by_cases hy1_6 : (y1_4_.2.2.1) > (1048576 : Int)
     ·rw [if_pos hy1_6] at h
      cases h
     ·rw [if_neg hy1_6] at h
      by_cases hy1_7 : (y1_4_.2.2.2.2.1) > (1048576 : Int)
      ·rw [if_pos hy1_7] at h
       cases h
      ·rw [if_neg hy1_7] at h
       by_cases hy1_8 : (y1_4_.2.2.2.2.2.1) > (1048576 : Int)
       ·rw [if_pos hy1_8] at h
        cases h
       ·rw [if_neg hy1_8] at h
        by_cases hy1_9 : (y1_4_.2.2.1) < (-1048576 : Int)
        ·rw [if_pos hy1_9] at h
         cases h
        ·rw [if_neg hy1_9] at h
         by_cases hy1_10 : (y1_4_.2.2.2.2.1) < (-1048576 : Int)
         ·rw [if_pos hy1_10] at h
          cases h
         ·rw [if_neg hy1_10] at h
          by_cases hy1_11 : (y1_4_.2.2.2.2.2.1) < (-1048576 : Int)
          ·rw [if_pos hy1_11] at h
           cases h
          ·rw [if_neg hy1_11] at h
           obtain rfl := Sum.inl.inj (oI h); exact q_LPq1_1_6 n x1_0 x1_1 x1_2 hy1_1 hy1_2 hy1_3 y1_4_ hy1_4 y1_5_ hy1_5 hy1_6 hy1_7 hy1_8 hy1_9 hy1_10 hy1_11
    ·rw [if_neg hy1_3] at h; cases h
   ·rw [if_neg hy1_2] at h
    cases h
  ·rw [if_neg hy1_1] at h
   cases h)
  (fun s r h => by
  obtain ⟨x1_1, x1_2⟩ := s
  unfold B_LPq1_1 at h
  dsimp only at h
  by_cases hy1_1 : x1_2 < (((Args.A).length : Nat) : Int)
  ·rw [if_pos hy1_1] at h
   by_cases hy1_2 : x1_2 ≤ x1_0
   ·rw [if_pos hy1_2] at h
    by_cases hy1_3 : 0 ≤ x1_2 ∧ x1_2 < (((Args.A).length : Nat) : Int)
    ·rw [if_pos hy1_3] at h
     obtain ⟨y1_4_, hy1_4, h⟩ := Option.bind_eq_some_iff.1 h
     obtain ⟨y1_5_, hy1_5, h⟩ := Option.bind_eq_some_iff.1 h
     by_cases hy1_6 : (y1_4_.2.2.1) > (1048576 : Int)
     ·rw [if_pos hy1_6] at h
      obtain rfl := Sum.inr.inj (oI h); exact q_LPq1_1_0 n x1_0 x1_1 x1_2 hy1_1 hy1_2 hy1_3 y1_4_ hy1_4 y1_5_ hy1_5 hy1_6
     ·rw [if_neg hy1_6] at h
      by_cases hy1_7 : (y1_4_.2.2.2.2.1) > (1048576 : Int)
      ·rw [if_pos hy1_7] at h
       obtain rfl := Sum.inr.inj (oI h); exact q_LPq1_1_1 n x1_0 x1_1 x1_2 hy1_1 hy1_2 hy1_3 y1_4_ hy1_4 y1_5_ hy1_5 hy1_6 hy1_7
      ·rw [if_neg hy1_7] at h
       by_cases hy1_8 : (y1_4_.2.2.2.2.2.1) > (1048576 : Int)
       ·rw [if_pos hy1_8] at h
        obtain rfl := Sum.inr.inj (oI h); exact q_LPq1_1_2 n x1_0 x1_1 x1_2 hy1_1 hy1_2 hy1_3 y1_4_ hy1_4 y1_5_ hy1_5 hy1_6 hy1_7 hy1_8
       ·rw [if_neg hy1_8] at h
        by_cases hy1_9 : (y1_4_.2.2.1) < (-1048576 : Int)
        ·rw [if_pos hy1_9] at h
         obtain rfl := Sum.inr.inj (oI h); exact q_LPq1_1_3 n x1_0 x1_1 x1_2 hy1_1 hy1_2 hy1_3 y1_4_ hy1_4 y1_5_ hy1_5 hy1_6 hy1_7 hy1_8 hy1_9
        ·rw [if_neg hy1_9] at h
         by_cases hy1_10 : (y1_4_.2.2.2.2.1) < (-1048576 : Int)
         ·rw [if_pos hy1_10] at h
          obtain rfl := Sum.inr.inj (oI h); exact q_LPq1_1_4 n x1_0 x1_1 x1_2 hy1_1 hy1_2 hy1_3 y1_4_ hy1_4 y1_5_ hy1_5 hy1_6 hy1_7 hy1_8 hy1_9 hy1_10
         ·rw [if_neg hy1_10] at h
          by_cases hy1_11 : (y1_4_.2.2.2.2.2.1) < (-1048576 : Int)
          ·rw [if_pos hy1_11] at h
           obtain rfl := Sum.inr.inj (oI h); exact q_LPq1_1_5 n x1_0 x1_1 x1_2 hy1_1 hy1_2 hy1_3 y1_4_ hy1_4 y1_5_ hy1_5 hy1_6 hy1_7 hy1_8 hy1_9 hy1_10 hy1_11
          ·rw [if_neg hy1_11] at h
           cases h
    ·rw [if_neg hy1_3] at h; cases h
   ·rw [if_neg hy1_2] at h
    obtain rfl := Sum.inr.inj (oI h); exact q_LPq1_1_7 n x1_0 x1_1 x1_2 hy1_1 hy1_2
  ·rw [if_neg hy1_1] at h
   obtain rfl := Sum.inr.inj (oI h); exact q_LPq1_1_8 n x1_0 x1_1 x1_2 hy1_1)
  (fun r => by intro hx; rcases r with _ | _ <;> cases hx) h
def m_LPq1 (n : Nat) (a0 : Int) : Option (Bool) :=
 match m_LPq1_1 n a0 (0, 0) with
 | none => none
 | some (.inl _) =>
  some false
 | some (.inr c1_) =>
  if (((Args.A).length : Nat) : Int) ≤ a0 then
   if c1_ ≤ (w64 ((2 : Int) * a0)) then
    some true
   else
    some false
  else
   some false
theorem p_LPq1_0 (n : Nat) (a0 : Int) (hc1 : m_LPq1_1 n a0 (0, 0) = some (.inl ())) : G_LPq1 a0 false :=
 runF2 hm (L := lT [(8, ⟨⟨[0, 1, 5, 6], [], 0, 0, [], false, []⟩, (X_LPq1_1 a0 (.inl ())).1, (X_LPq1_1 a0 (.inl ())).2⟩)]) ⟨[4], [], 0, 0, [], false, []⟩ (ww (p := U_LPq1_1 none a0 (0, 0) (.inl ())) (m_LPq1_1_ok n a0 (0, 0) (.inl ()) hc1) <|
ee) (by kernel_rfl)
theorem p_LPq1_1 (n : Nat) (a0 c1_ : Int) (hc1 : m_LPq1_1 n a0 (0, 0) = some (.inr c1_)) (hc2 : (((Args.A).length : Nat) : Int) ≤ a0) (hc3 : c1_ ≤ (w64 ((2 : Int) * a0))) : G_LPq1 a0 true :=
 runF2 hm (L := lT [(8, ⟨⟨[0, 1, 5, 6], [], 0, 0, [], false, []⟩, (X_LPq1_1 a0 (.inr c1_)).1, (X_LPq1_1 a0 (.inr c1_)).2⟩)]) ⟨[4], [], 0, 0, [], false, []⟩ (ww (p := U_LPq1_1 none a0 (0, 0) (.inr c1_)) (m_LPq1_1_ok n a0 (0, 0) (.inr c1_) hc1) <|
zz 13 (xdT hc2) <|
zz 18 (xdT hc3) <|
ee) (by kernel_rfl)
theorem p_LPq1_2 (n : Nat) (a0 c1_ : Int) (hc1 : m_LPq1_1 n a0 (0, 0) = some (.inr c1_)) (hc2 : (((Args.A).length : Nat) : Int) ≤ a0) (hc3 : ¬ (c1_ ≤ (w64 ((2 : Int) * a0)))) : G_LPq1 a0 false :=
 runF2 hm (L := lT [(8, ⟨⟨[0, 1, 5, 6], [], 0, 0, [], false, []⟩, (X_LPq1_1 a0 (.inr c1_)).1, (X_LPq1_1 a0 (.inr c1_)).2⟩)]) ⟨[4], [], 0, 0, [], false, []⟩ (ww (p := U_LPq1_1 none a0 (0, 0) (.inr c1_)) (m_LPq1_1_ok n a0 (0, 0) (.inr c1_) hc1) <|
zz 13 (xdT hc2) <|
zz 18 (xdF hc3) <|
ee) (by kernel_rfl)
theorem p_LPq1_3 (n : Nat) (a0 c1_ : Int) (hc1 : m_LPq1_1 n a0 (0, 0) = some (.inr c1_)) (hc2 : ¬ ((((Args.A).length : Nat) : Int) ≤ a0)) : G_LPq1 a0 false :=
 runF2 hm (L := lT [(8, ⟨⟨[0, 1, 5, 6], [], 0, 0, [], false, []⟩, (X_LPq1_1 a0 (.inr c1_)).1, (X_LPq1_1 a0 (.inr c1_)).2⟩)]) ⟨[4], [], 0, 0, [], false, []⟩ (ww (p := U_LPq1_1 none a0 (0, 0) (.inr c1_)) (m_LPq1_1_ok n a0 (0, 0) (.inr c1_) hc1) <|
zz 13 (xdF hc2) <|
ee) (by kernel_rfl)
theorem m_LPq1_ok (n : Nat) (a0 : Int) (r : Bool) (h : m_LPq1 n a0 = some r) : Gv P (.func 21) (A_LPq1 a0) (H_LPq1 a0) (V_LPq1 a0 r) (R_LPq1 a0 r) := by
 unfold m_LPq1 at h
 rcases hc1 : m_LPq1_1 n a0 (0, 0) with _ | (⟨⟩ | c1_)
 ·rw [hc1] at h; cases h
 ·rw [hc1] at h
  dsimp only at h
  obtain rfl := oI h; exact p_LPq1_0 n a0 hc1
 ·rw [hc1] at h
  dsimp only at h
  by_cases hc2 : (((Args.A).length : Nat) : Int) ≤ a0
  ·rw [if_pos hc2] at h
   by_cases hc3 : c1_ ≤ (w64 ((2 : Int) * a0))
   ·rw [if_pos hc3] at h
    obtain rfl := oI h; exact p_LPq1_1 n a0 c1_ hc1 hc2 hc3
   ·rw [if_neg hc3] at h
    obtain rfl := oI h; exact p_LPq1_2 n a0 c1_ hc1 hc2 hc3
  ·rw [if_neg hc2] at h
   obtain rfl := oI h; exact p_LPq1_3 n a0 c1_ hc1 hc2

noncomputable def A_LPq2 (a0 : Int) : List Value := [(Value.slice none 0 0), (i6 a0)]
noncomputable def H_LPq2 (a0 : Int) : AH := ⟨sB [], 0, 0⟩
noncomputable def V_LPq2 (a0 : Int) (r : Bool) : Value := match r with
 | o0 => (bO o0)
noncomputable def R_LPq2 (a0 : Int) (r : Bool) : AH := match r with
 | o0 => ⟨sB [], 0, 0⟩
noncomputable abbrev G_LPq2 (a0 : Int) (r : Bool) : Prop := Gv P (.func 21) (A_LPq2 a0) (H_LPq2 a0) (V_LPq2 a0 r) (R_LPq2 a0 r)
noncomputable abbrev C_LPq2 (a0 : Int) (r : Bool) (ins outs : BL) : CallA := ⟨0, ins, V_LPq2 a0 r, R_LPq2 a0 r, outs⟩
noncomputable def S_LPq2_1 (x1_0 : Int) (st : Unit) : XSt := match st with
 | _ => (sT 66 [(0, (Value.slice none 0 0)), (1, (i6 x1_0)), (5, (i6 (0 : Int))), (6, (i6 (0 : Int)))], [], ⟨sB [], 0, 0⟩)
noncomputable def X_LPq2_1 (x1_0 : Int) (r : Unit) : Ex × XSt := match r with
 | _ => (.exit 0, (sT 66 [(0, (Value.slice none 0 0)), (1, (i6 x1_0)), (5, (i6 (0 : Int)))], [], ⟨sB [], 0, 0⟩))
noncomputable abbrev Q_LPq2_1 (rnd : Option Nat) (x1_0 : Int) (st : Unit) (c : Ex × XSt) : Prop := CG P rnd (fnN P 21) 0 (codeOf P 21 [false, false, true, false, true, true]) (S_LPq2_1 x1_0 st) c
noncomputable abbrev U_LPq2_1 (rd : Option Nat) (x1_0 : Int) (st : Unit) (r : Unit) : Prop := CG P rd (fnN P 21) 0 (codeOf P 21 [false, true, false, true, true]) (S_LPq2_1 x1_0 st) (X_LPq2_1 x1_0 r)
def B_LPq2_1 (n : Nat) (x1_0 : Int) (st : Unit) : Option ((Unit) ⊕ (Unit)) := match st with
 | _ =>
  some (.inr ())
def m_LPq2_1 (n : Nat) (x1_0 : Int) (st : Unit) : Option (Unit) := iterM (B_LPq2_1 n x1_0) n st
theorem q_LPq2_1_0 (n : Nat) {rnd : Option Nat} (x1_0 : Int) : Q_LPq2_1 rnd x1_0 () (X_LPq2_1 x1_0 ()) :=
 runC2 hm (L := lT []) ⟨[0, 1, 5], [], 0, 0, [], false, []⟩ (ee) (by kernel_rfl)
theorem m_LPq2_1_ok (n : Nat) {rnd : Option Nat} (x1_0 : Int) (st : Unit) (r : Unit) (h : m_LPq2_1 n x1_0 st = some r) : CG P rnd (fnN P 21) 0 (codeOf P 21 [false, true, false, true, true]) (S_LPq2_1 x1_0 st) (X_LPq2_1 x1_0 r) :=
 CG.iter (b := codeOf P 21 [false, false, true, false, true, true]) (by kernel_rfl) (body := B_LPq2_1 n x1_0) (S := S_LPq2_1 x1_0) (X := X_LPq2_1 x1_0)
  (fun s s' h => by
  unfold B_LPq2_1 at h
  dsimp only at h
  cases h)
  (fun s r h => by
  unfold B_LPq2_1 at h
  dsimp only at h
  obtain rfl := Sum.inr.inj (oI h); exact q_LPq2_1_0 n x1_0)
  (fun r => by intro hx; cases hx) h
def m_LPq2 (n : Nat) (a0 : Int) : Option (Bool) :=
 (m_LPq2_1 n a0 ()).bind fun _ =>
 if (0 : Int) ≤ a0 then
  if (0 : Int) ≤ (w64 ((2 : Int) * a0)) then
   some true
  else
   some false
 else
  some false
theorem p_LPq2_0 (n : Nat) (a0 : Int) (hc1 : m_LPq2_1 n a0 () = some ()) (hc2 : (0 : Int) ≤ a0) (hc3 : (0 : Int) ≤ (w64 ((2 : Int) * a0))) : G_LPq2 a0 true :=
 runF2 hm (L := lT [(8, ⟨⟨[0, 1, 5, 6], [], 0, 0, [], false, []⟩, (X_LPq2_1 a0 ()).1, (X_LPq2_1 a0 ()).2⟩)]) ⟨[4], [], 0, 0, [], false, []⟩ (ww (p := U_LPq2_1 none a0 () ()) (m_LPq2_1_ok n a0 () () hc1) <|
zz 13 (xdT hc2) <|
zz 18 (xdT hc3) <|
ee) (by kernel_rfl)
theorem p_LPq2_1 (n : Nat) (a0 : Int) (hc1 : m_LPq2_1 n a0 () = some ()) (hc2 : (0 : Int) ≤ a0) (hc3 : ¬ ((0 : Int) ≤ (w64 ((2 : Int) * a0)))) : G_LPq2 a0 false :=
 runF2 hm (L := lT [(8, ⟨⟨[0, 1, 5, 6], [], 0, 0, [], false, []⟩, (X_LPq2_1 a0 ()).1, (X_LPq2_1 a0 ()).2⟩)]) ⟨[4], [], 0, 0, [], false, []⟩ (ww (p := U_LPq2_1 none a0 () ()) (m_LPq2_1_ok n a0 () () hc1) <|
zz 13 (xdT hc2) <|
zz 18 (xdF hc3) <|
ee) (by kernel_rfl)
theorem p_LPq2_2 (n : Nat) (a0 : Int) (hc1 : m_LPq2_1 n a0 () = some ()) (hc2 : ¬ ((0 : Int) ≤ a0)) : G_LPq2 a0 false :=
 runF2 hm (L := lT [(8, ⟨⟨[0, 1, 5, 6], [], 0, 0, [], false, []⟩, (X_LPq2_1 a0 ()).1, (X_LPq2_1 a0 ()).2⟩)]) ⟨[4], [], 0, 0, [], false, []⟩ (ww (p := U_LPq2_1 none a0 () ()) (m_LPq2_1_ok n a0 () () hc1) <|
zz 13 (xdF hc2) <|
ee) (by kernel_rfl)
theorem m_LPq2_ok (n : Nat) (a0 : Int) (r : Bool) (h : m_LPq2 n a0 = some r) : Gv P (.func 21) (A_LPq2 a0) (H_LPq2 a0) (V_LPq2 a0 r) (R_LPq2 a0 r) := by
 unfold m_LPq2 at h
 obtain ⟨_, hc1, h⟩ := Option.bind_eq_some_iff.1 h
 by_cases hc2 : (0 : Int) ≤ a0
 ·rw [if_pos hc2] at h
  by_cases hc3 : (0 : Int) ≤ (w64 ((2 : Int) * a0))
  ·rw [if_pos hc3] at h
   obtain rfl := oI h; exact p_LPq2_0 n a0 hc1 hc2 hc3
  ·rw [if_neg hc3] at h
   obtain rfl := oI h; exact p_LPq2_1 n a0 hc1 hc2 hc3
 ·rw [if_neg hc2] at h
  obtain rfl := oI h; exact p_LPq2_2 n a0 hc1 hc2

noncomputable def A_Vlightq1 : List Value := [(sW 0 0 (Args.A).length Args.cA), (Value.slice none 0 0), (Value.slice none 0 0)]
noncomputable def H_Vlightq1 : AH := ⟨sB [], 0, 0⟩
noncomputable def V_Vlightq1 (r : Bool) : Value := match r with
 | o0 => (bO o0)
noncomputable def R_Vlightq1 (r : Bool) : AH := match r with
 | o0 => ⟨sB [], 0, 0⟩
noncomputable abbrev G_Vlightq1 (r : Bool) : Prop := Gv P (.func 7) A_Vlightq1 H_Vlightq1 (V_Vlightq1  r) (R_Vlightq1  r)
noncomputable abbrev C_Vlightq1 (r : Bool) (ins outs : BL) : CallA := ⟨0, ins, V_Vlightq1  r, R_Vlightq1  r, outs⟩
def m_Vlightq1 (n : Nat) : Option (Bool) :=
 (m_LPq1 n 100).bind fun c1_ =>
 if c1_ = true then
  (m_LPq2 n 100).bind fun c3_ =>
  if c3_ = true then
   some true
  else
   some false
 else
  some false
theorem p_Vlightq1_0 (n : Nat) (c1_ : Bool) (hc1 : m_LPq1 n 100 = some c1_) (hc2 : c1_ = true) (c3_ : Bool) (hc3 : m_LPq2 n 100 = some c3_) (hc4 : c3_ = true) : G_Vlightq1  true :=
 runF2 hm (L := lT []) ⟨[6], [], 0, 0, [], false, []⟩ (yy 4 (.call (C_LPq1 100 c1_ [] [])) <|
ww (m_LPq1_ok n 100 c1_ hc1) <|
zz 5 (xbT hc2) <|
yy 7 (.call (C_LPq2 100 c3_ [] [])) <|
ww (m_LPq2_ok n 100 c3_ hc3) <|
zz 9 (xbT hc4) <|
ee) (by kernel_rfl)
theorem p_Vlightq1_1 (n : Nat) (c1_ : Bool) (hc1 : m_LPq1 n 100 = some c1_) (hc2 : c1_ = true) (c3_ : Bool) (hc3 : m_LPq2 n 100 = some c3_) (hc4 : ¬ (c3_ = true)) : G_Vlightq1  false :=
 runF2 hm (L := lT []) ⟨[6], [], 0, 0, [], false, []⟩ (yy 4 (.call (C_LPq1 100 c1_ [] [])) <|
ww (m_LPq1_ok n 100 c1_ hc1) <|
zz 5 (xbT hc2) <|
yy 7 (.call (C_LPq2 100 c3_ [] [])) <|
ww (m_LPq2_ok n 100 c3_ hc3) <|
zz 9 (xbF hc4) <|
ee) (by kernel_rfl)
theorem p_Vlightq1_2 (n : Nat) (c1_ : Bool) (hc1 : m_LPq1 n 100 = some c1_) (hc2 : ¬ (c1_ = true)) : G_Vlightq1  false :=
 runF2 hm (L := lT []) ⟨[6], [], 0, 0, [], false, []⟩ (yy 4 (.call (C_LPq1 100 c1_ [] [])) <|
ww (m_LPq1_ok n 100 c1_ hc1) <|
zz 5 (xbF hc2) <|
ee) (by kernel_rfl)
theorem m_Vlightq1_ok (n : Nat) (r : Bool) (h : m_Vlightq1 n = some r) : Gv P (.func 7) A_Vlightq1 H_Vlightq1 (V_Vlightq1  r) (R_Vlightq1  r) := by
 unfold m_Vlightq1 at h
 obtain ⟨c1_, hc1, h⟩ := Option.bind_eq_some_iff.1 h
 by_cases hc2 : c1_ = true
 ·rw [if_pos hc2] at h
  obtain ⟨c3_, hc3, h⟩ := Option.bind_eq_some_iff.1 h
  by_cases hc4 : c3_ = true
  ·rw [if_pos hc4] at h
   obtain rfl := oI h; exact p_Vlightq1_0 n c1_ hc1 hc2 c3_ hc3 hc4
  ·rw [if_neg hc4] at h
   obtain rfl := oI h; exact p_Vlightq1_1 n c1_ hc1 hc2 c3_ hc3 hc4
 ·rw [if_neg hc2] at h
  obtain rfl := oI h; exact p_Vlightq1_2 n c1_ hc1 hc2

noncomputable def A_Rleafq1 (a0 : Int) : List Value := [(i6 a0)]
noncomputable def H_Rleafq1 (a0 : Int) : AH := ⟨sB [], 0, 0⟩
noncomputable def V_Rleafq1 (a0 : Int) (r : Bool) : Value := match r with
 | o0 => (bO o0)
noncomputable def R_Rleafq1 (a0 : Int) (r : Bool) : AH := match r with
 | o0 => ⟨sB [], 0, 0⟩
noncomputable abbrev G_Rleafq1 (a0 : Int) (r : Bool) : Prop := Gv P (.func 37) (A_Rleafq1 a0) (H_Rleafq1 a0) (V_Rleafq1 a0 r) (R_Rleafq1 a0 r)
noncomputable abbrev C_Rleafq1 (a0 : Int) (r : Bool) (ins outs : BL) : CallA := ⟨0, ins, V_Rleafq1 a0 r, R_Rleafq1 a0 r, outs⟩
def m_Rleafq1 (n : Nat) (a0 : Int) : Option (Bool) :=
 if a0 = (1 : Int) then
  some false
 else
  if a0 = (2 : Int) then
   some false
  else
   some true
theorem p_Rleafq1_0 (n : Nat) (a0 : Int) (hc1 : a0 = (1 : Int)) : G_Rleafq1 a0 false :=
 runF2 hm (L := lT []) ⟨[2], [], 0, 0, [], false, []⟩ (zz 4 (xnF hc1) <|
ee) (by kernel_rfl)
theorem p_Rleafq1_1 (n : Nat) (a0 : Int) (hc1 : ¬ (a0 = (1 : Int))) (hc2 : a0 = (2 : Int)) : G_Rleafq1 a0 false :=
 runF2 hm (L := lT []) ⟨[2], [], 0, 0, [], false, []⟩ (zz 4 (xnT hc1) <|
zz 7 (xnF hc2) <|
ee) (by kernel_rfl)
theorem p_Rleafq1_2 (n : Nat) (a0 : Int) (hc1 : ¬ (a0 = (1 : Int))) (hc2 : ¬ (a0 = (2 : Int))) : G_Rleafq1 a0 true :=
 runF2 hm (L := lT []) ⟨[2], [], 0, 0, [], false, []⟩ (zz 4 (xnT hc1) <|
zz 7 (xnT hc2) <|
ee) (by kernel_rfl)
theorem m_Rleafq1_ok (n : Nat) (a0 : Int) (r : Bool) (h : m_Rleafq1 n a0 = some r) : Gv P (.func 37) (A_Rleafq1 a0) (H_Rleafq1 a0) (V_Rleafq1 a0 r) (R_Rleafq1 a0 r) := by
 unfold m_Rleafq1 at h
 by_cases hc1 : a0 = (1 : Int)
 ·rw [if_pos hc1] at h
  obtain rfl := oI h; exact p_Rleafq1_0 n a0 hc1
 ·rw [if_neg hc1] at h
  by_cases hc2 : a0 = (2 : Int)
  ·rw [if_pos hc2] at h
   obtain rfl := oI h; exact p_Rleafq1_1 n a0 hc1 hc2
  ·rw [if_neg hc2] at h
   obtain rfl := oI h; exact p_Rleafq1_2 n a0 hc1 hc2

noncomputable def A_Rbareq1 (a0 : Int) (a1 : Int) (a2 : Int) (a3 : Int) (a4 : Int) (a5 : Int) (a6 : NL) (a7 : Int) : List Value := [(Value.agg #[(i6 a0), (i6 a1), (i6 a2), (i6 a3), (i6 a4), (i6 a5), (nlV a6), (Value.int .u64 a7)])]
noncomputable def H_Rbareq1 (a0 : Int) (a1 : Int) (a2 : Int) (a3 : Int) (a4 : Int) (a5 : Int) (a6 : NL) (a7 : Int) : AH := ⟨sB [], 0, 0⟩
noncomputable def V_Rbareq1 (a0 : Int) (a1 : Int) (a2 : Int) (a3 : Int) (a4 : Int) (a5 : Int) (a6 : NL) (a7 : Int) (r : Bool) : Value := match r with
 | o0 => (bO o0)
noncomputable def R_Rbareq1 (a0 : Int) (a1 : Int) (a2 : Int) (a3 : Int) (a4 : Int) (a5 : Int) (a6 : NL) (a7 : Int) (r : Bool) : AH := match r with
 | o0 => ⟨sB [], 0, 0⟩
noncomputable abbrev G_Rbareq1 (a0 : Int) (a1 : Int) (a2 : Int) (a3 : Int) (a4 : Int) (a5 : Int) (a6 : NL) (a7 : Int) (r : Bool) : Prop := Gv P (.func 22) (A_Rbareq1 a0 a1 a2 a3 a4 a5 a6 a7) (H_Rbareq1 a0 a1 a2 a3 a4 a5 a6 a7) (V_Rbareq1 a0 a1 a2 a3 a4 a5 a6 a7 r) (R_Rbareq1 a0 a1 a2 a3 a4 a5 a6 a7 r)
noncomputable abbrev C_Rbareq1 (a0 : Int) (a1 : Int) (a2 : Int) (a3 : Int) (a4 : Int) (a5 : Int) (a6 : NL) (a7 : Int) (r : Bool) (ins outs : BL) : CallA := ⟨0, ins, V_Rbareq1 a0 a1 a2 a3 a4 a5 a6 a7 r, R_Rbareq1 a0 a1 a2 a3 a4 a5 a6 a7 r, outs⟩
def m_Rbareq1 (n : Nat) (a0 : Int) (a1 : Int) (a2 : Int) (a3 : Int) (a4 : Int) (a5 : Int) (a6 : NL) (a7 : Int) : Option (Bool) :=
 if a1 < (1 : Int) then
  some false
 else
  if a1 > (6 : Int) then
   some false
  else
   if a2 < (0 : Int) then
    some false
   else
    if a2 > a4 then
     some false
    else
     if a5 ≤ a2 then
      some false
     else
      if a1 = (3 : Int) then
       if a3 < a2 then
        some false
       else
        if a3 > a4 then
         some false
        else
         if a1 = (4 : Int) then
          if a2 = a4 then
           (m_Rleafq1 n a1).bind fun c11_ =>
           if c11_ = true then
            if (((a6).l.length : Nat) : Int) = (0 : Int) then
             some true
            else
             some false
           else
            some true
          else
           some false
         else
          (m_Rleafq1 n a1).bind fun c10_ =>
          if c10_ = true then
           if (((a6).l.length : Nat) : Int) = (0 : Int) then
            some true
           else
            some false
          else
           some true
      else
       if a1 = (5 : Int) then
        if a3 < a2 then
         some false
        else
         if a3 > a4 then
          some false
         else
          if a1 = (4 : Int) then
           if a2 = a4 then
            (m_Rleafq1 n a1).bind fun c12_ =>
            if c12_ = true then
             if (((a6).l.length : Nat) : Int) = (0 : Int) then
              some true
             else
              some false
            else
             some true
           else
            some false
          else
           (m_Rleafq1 n a1).bind fun c11_ =>
           if c11_ = true then
            if (((a6).l.length : Nat) : Int) = (0 : Int) then
             some true
            else
             some false
           else
            some true
       else
        if a1 = (6 : Int) then
         if a3 < a2 then
          some false
         else
          if a3 > a4 then
           some false
          else
           if a1 = (4 : Int) then
            if a2 = a4 then
             (m_Rleafq1 n a1).bind fun c13_ =>
             if c13_ = true then
              if (((a6).l.length : Nat) : Int) = (0 : Int) then
               some true
              else
               some false
             else
              some true
            else
             some false
           else
            (m_Rleafq1 n a1).bind fun c12_ =>
            if c12_ = true then
             if (((a6).l.length : Nat) : Int) = (0 : Int) then
              some true
             else
              some false
            else
             some true
        else
         if a3 = a2 then
          if a1 = (4 : Int) then
           if a2 = a4 then
            (m_Rleafq1 n a1).bind fun c12_ =>
            if c12_ = true then
             if (((a6).l.length : Nat) : Int) = (0 : Int) then
              some true
             else
              some false
            else
             some true
           else
            some false
          else
           (m_Rleafq1 n a1).bind fun c11_ =>
           if c11_ = true then
            if (((a6).l.length : Nat) : Int) = (0 : Int) then
             some true
            else
             some false
           else
            some true
         else
          some false
theorem p_Rbareq1_0 (n : Nat) (a0 a1 a2 a3 a4 a5 : Int) (a6 : NL) (a7 : Int) (hc1 : a1 < (1 : Int)) : G_Rbareq1 a0 a1 a2 a3 a4 a5 a6 a7 false :=
 runF2 hm (L := lT []) ⟨[2], [], 0, 0, [], false, []⟩ (zz 7 (xdT hc1) <|
ee) (by kernel_rfl)
theorem p_Rbareq1_1 (n : Nat) (a0 a1 a2 a3 a4 a5 : Int) (a6 : NL) (a7 : Int) (hc1 : ¬ (a1 < (1 : Int))) (hc2 : a1 > (6 : Int)) : G_Rbareq1 a0 a1 a2 a3 a4 a5 a6 a7 false :=
 runF2 hm (L := lT []) ⟨[2], [], 0, 0, [], false, []⟩ (zz 7 (xdF hc1) <|
zz 11 (xdT hc2) <|
ee) (by kernel_rfl)
theorem p_Rbareq1_2 (n : Nat) (a0 a1 a2 a3 a4 a5 : Int) (a6 : NL) (a7 : Int) (hc1 : ¬ (a1 < (1 : Int))) (hc2 : ¬ (a1 > (6 : Int))) (hc3 : a2 < (0 : Int)) : G_Rbareq1 a0 a1 a2 a3 a4 a5 a6 a7 false :=
 runF2 hm (L := lT []) ⟨[2], [], 0, 0, [], false, []⟩ (zz 7 (xdF hc1) <|
zz 11 (xdF hc2) <|
zz 16 (xdT hc3) <|
ee) (by kernel_rfl)
theorem p_Rbareq1_3 (n : Nat) (a0 a1 a2 a3 a4 a5 : Int) (a6 : NL) (a7 : Int) (hc1 : ¬ (a1 < (1 : Int))) (hc2 : ¬ (a1 > (6 : Int))) (hc3 : ¬ (a2 < (0 : Int))) (hc4 : a2 > a4) : G_Rbareq1 a0 a1 a2 a3 a4 a5 a6 a7 false :=
 runF2 hm (L := lT []) ⟨[2], [], 0, 0, [], false, []⟩ (zz 7 (xdF hc1) <|
zz 11 (xdF hc2) <|
zz 16 (xdF hc3) <|
zz 23 (xdT hc4) <|
ee) (by kernel_rfl)
theorem p_Rbareq1_4 (n : Nat) (a0 a1 a2 a3 a4 a5 : Int) (a6 : NL) (a7 : Int) (hc1 : ¬ (a1 < (1 : Int))) (hc2 : ¬ (a1 > (6 : Int))) (hc3 : ¬ (a2 < (0 : Int))) (hc4 : ¬ (a2 > a4)) (hc5 : a5 ≤ a2) : G_Rbareq1 a0 a1 a2 a3 a4 a5 a6 a7 false :=
 runF2 hm (L := lT []) ⟨[2], [], 0, 0, [], false, []⟩ (zz 7 (xdF hc1) <|
zz 11 (xdF hc2) <|
zz 16 (xdF hc3) <|
zz 23 (xdF hc4) <|
zz 30 (xdT hc5) <|
ee) (by kernel_rfl)
theorem p_Rbareq1_5 (n : Nat) (a0 a1 a2 a3 a4 a5 : Int) (a6 : NL) (a7 : Int) (hc1 : ¬ (a1 < (1 : Int))) (hc2 : ¬ (a1 > (6 : Int))) (hc3 : ¬ (a2 < (0 : Int))) (hc4 : ¬ (a2 > a4)) (hc5 : ¬ (a5 ≤ a2)) (hc6 : a1 = (3 : Int)) (hc7 : a3 < a2) : G_Rbareq1 a0 a1 a2 a3 a4 a5 a6 a7 false :=
 runF2 hm (L := lT []) ⟨[2], [], 0, 0, [], false, []⟩ (zz 7 (xdF hc1) <|
zz 11 (xdF hc2) <|
zz 16 (xdF hc3) <|
zz 23 (xdF hc4) <|
zz 30 (xdF hc5) <|
zz 36 (xeT hc6) <|
zz 56 (xdT hc7) <|
ee) (by kernel_rfl)
theorem p_Rbareq1_6 (n : Nat) (a0 a1 a2 a3 a4 a5 : Int) (a6 : NL) (a7 : Int) (hc1 : ¬ (a1 < (1 : Int))) (hc2 : ¬ (a1 > (6 : Int))) (hc3 : ¬ (a2 < (0 : Int))) (hc4 : ¬ (a2 > a4)) (hc5 : ¬ (a5 ≤ a2)) (hc6 : a1 = (3 : Int)) (hc7 : ¬ (a3 < a2)) (hc8 : a3 > a4) : G_Rbareq1 a0 a1 a2 a3 a4 a5 a6 a7 false :=
 runF2 hm (L := lT []) ⟨[2], [], 0, 0, [], false, []⟩ (zz 7 (xdF hc1) <|
zz 11 (xdF hc2) <|
zz 16 (xdF hc3) <|
zz 23 (xdF hc4) <|
zz 30 (xdF hc5) <|
zz 36 (xeT hc6) <|
zz 56 (xdF hc7) <|
zz 62 (xdT hc8) <|
ee) (by kernel_rfl)
theorem p_Rbareq1_7 (n : Nat) (a0 a1 a2 a3 a4 a5 : Int) (a6 : NL) (a7 : Int) (hc1 : ¬ (a1 < (1 : Int))) (hc2 : ¬ (a1 > (6 : Int))) (hc3 : ¬ (a2 < (0 : Int))) (hc4 : ¬ (a2 > a4)) (hc5 : ¬ (a5 ≤ a2)) (hc6 : a1 = (3 : Int)) (hc7 : ¬ (a3 < a2)) (hc8 : ¬ (a3 > a4)) (hc9 : a1 = (4 : Int)) (hc10 : a2 = a4) (c11_ : Bool) (hc11 : m_Rleafq1 n a1 = some c11_) (hc12 : c11_ = true) (hc13 : (((a6).l.length : Nat) : Int) = (0 : Int)) : G_Rbareq1 a0 a1 a2 a3 a4 a5 a6 a7 true :=
 runF2 hm (L := lT []) ⟨[2], [], 0, 0, [], false, []⟩ (zz 7 (xdF hc1) <|
zz 11 (xdF hc2) <|
zz 16 (xdF hc3) <|
zz 23 (xdF hc4) <|
zz 30 (xdF hc5) <|
zz 36 (xeT hc6) <|
zz 56 (xdF hc7) <|
zz 62 (xdF hc8) <|
zz 80 (xnF hc9) <|
zz 86 (xeT hc10) <|
yy 91 (.call (C_Rleafq1 a1 c11_ [] [])) <|
ww (m_Rleafq1_ok n a1 c11_ hc11) <|
yy 92 (vf) <|
ww (p := (Value.bool (!c11_)) = (Value.bool false)) (vBn hc12) <|
zz 97 (xeT hc13) <|
ee) (by kernel_rfl)
theorem p_Rbareq1_8 (n : Nat) (a0 a1 a2 a3 a4 a5 : Int) (a6 : NL) (a7 : Int) (hc1 : ¬ (a1 < (1 : Int))) (hc2 : ¬ (a1 > (6 : Int))) (hc3 : ¬ (a2 < (0 : Int))) (hc4 : ¬ (a2 > a4)) (hc5 : ¬ (a5 ≤ a2)) (hc6 : a1 = (3 : Int)) (hc7 : ¬ (a3 < a2)) (hc8 : ¬ (a3 > a4)) (hc9 : a1 = (4 : Int)) (hc10 : a2 = a4) (c11_ : Bool) (hc11 : m_Rleafq1 n a1 = some c11_) (hc12 : c11_ = true) (hc13 : ¬ ((((a6).l.length : Nat) : Int) = (0 : Int))) : G_Rbareq1 a0 a1 a2 a3 a4 a5 a6 a7 false :=
 runF2 hm (L := lT []) ⟨[2], [], 0, 0, [], false, []⟩ (zz 7 (xdF hc1) <|
zz 11 (xdF hc2) <|
zz 16 (xdF hc3) <|
zz 23 (xdF hc4) <|
zz 30 (xdF hc5) <|
zz 36 (xeT hc6) <|
zz 56 (xdF hc7) <|
zz 62 (xdF hc8) <|
zz 80 (xnF hc9) <|
zz 86 (xeT hc10) <|
yy 91 (.call (C_Rleafq1 a1 c11_ [] [])) <|
ww (m_Rleafq1_ok n a1 c11_ hc11) <|
yy 92 (vf) <|
ww (p := (Value.bool (!c11_)) = (Value.bool false)) (vBn hc12) <|
zz 97 (xeF hc13) <|
ee) (by kernel_rfl)
theorem p_Rbareq1_9 (n : Nat) (a0 a1 a2 a3 a4 a5 : Int) (a6 : NL) (a7 : Int) (hc1 : ¬ (a1 < (1 : Int))) (hc2 : ¬ (a1 > (6 : Int))) (hc3 : ¬ (a2 < (0 : Int))) (hc4 : ¬ (a2 > a4)) (hc5 : ¬ (a5 ≤ a2)) (hc6 : a1 = (3 : Int)) (hc7 : ¬ (a3 < a2)) (hc8 : ¬ (a3 > a4)) (hc9 : a1 = (4 : Int)) (hc10 : a2 = a4) (c11_ : Bool) (hc11 : m_Rleafq1 n a1 = some c11_) (hc12 : ¬ (c11_ = true)) : G_Rbareq1 a0 a1 a2 a3 a4 a5 a6 a7 true :=
 runF2 hm (L := lT []) ⟨[2], [], 0, 0, [], false, []⟩ (zz 7 (xdF hc1) <|
zz 11 (xdF hc2) <|
zz 16 (xdF hc3) <|
zz 23 (xdF hc4) <|
zz 30 (xdF hc5) <|
zz 36 (xeT hc6) <|
zz 56 (xdF hc7) <|
zz 62 (xdF hc8) <|
zz 80 (xnF hc9) <|
zz 86 (xeT hc10) <|
yy 91 (.call (C_Rleafq1 a1 c11_ [] [])) <|
ww (m_Rleafq1_ok n a1 c11_ hc11) <|
yy 92 (vt) <|
ww (p := (Value.bool (!c11_)) = (Value.bool true)) (vBn (Bool.eq_false_iff.2 hc12)) <|
ee) (by kernel_rfl)
theorem p_Rbareq1_10 (n : Nat) (a0 a1 a2 a3 a4 a5 : Int) (a6 : NL) (a7 : Int) (hc1 : ¬ (a1 < (1 : Int))) (hc2 : ¬ (a1 > (6 : Int))) (hc3 : ¬ (a2 < (0 : Int))) (hc4 : ¬ (a2 > a4)) (hc5 : ¬ (a5 ≤ a2)) (hc6 : a1 = (3 : Int)) (hc7 : ¬ (a3 < a2)) (hc8 : ¬ (a3 > a4)) (hc9 : a1 = (4 : Int)) (hc10 : ¬ (a2 = a4)) : G_Rbareq1 a0 a1 a2 a3 a4 a5 a6 a7 false :=
 runF2 hm (L := lT []) ⟨[2], [], 0, 0, [], false, []⟩ (zz 7 (xdF hc1) <|
zz 11 (xdF hc2) <|
zz 16 (xdF hc3) <|
zz 23 (xdF hc4) <|
zz 30 (xdF hc5) <|
zz 36 (xeT hc6) <|
zz 56 (xdF hc7) <|
zz 62 (xdF hc8) <|
zz 80 (xnF hc9) <|
zz 86 (xeF hc10) <|
ee) (by kernel_rfl)
theorem p_Rbareq1_11 (n : Nat) (a0 a1 a2 a3 a4 a5 : Int) (a6 : NL) (a7 : Int) (hc1 : ¬ (a1 < (1 : Int))) (hc2 : ¬ (a1 > (6 : Int))) (hc3 : ¬ (a2 < (0 : Int))) (hc4 : ¬ (a2 > a4)) (hc5 : ¬ (a5 ≤ a2)) (hc6 : a1 = (3 : Int)) (hc7 : ¬ (a3 < a2)) (hc8 : ¬ (a3 > a4)) (hc9 : ¬ (a1 = (4 : Int))) (c10_ : Bool) (hc10 : m_Rleafq1 n a1 = some c10_) (hc11 : c10_ = true) (hc12 : (((a6).l.length : Nat) : Int) = (0 : Int)) : G_Rbareq1 a0 a1 a2 a3 a4 a5 a6 a7 true :=
 runF2 hm (L := lT []) ⟨[2], [], 0, 0, [], false, []⟩ (zz 7 (xdF hc1) <|
zz 11 (xdF hc2) <|
zz 16 (xdF hc3) <|
zz 23 (xdF hc4) <|
zz 30 (xdF hc5) <|
zz 36 (xeT hc6) <|
zz 56 (xdF hc7) <|
zz 62 (xdF hc8) <|
zz 80 (xnT hc9) <|
yy 91 (.call (C_Rleafq1 a1 c10_ [] [])) <|
ww (m_Rleafq1_ok n a1 c10_ hc10) <|
yy 92 (vf) <|
ww (p := (Value.bool (!c10_)) = (Value.bool false)) (vBn hc11) <|
zz 97 (xeT hc12) <|
ee) (by kernel_rfl)
theorem p_Rbareq1_12 (n : Nat) (a0 a1 a2 a3 a4 a5 : Int) (a6 : NL) (a7 : Int) (hc1 : ¬ (a1 < (1 : Int))) (hc2 : ¬ (a1 > (6 : Int))) (hc3 : ¬ (a2 < (0 : Int))) (hc4 : ¬ (a2 > a4)) (hc5 : ¬ (a5 ≤ a2)) (hc6 : a1 = (3 : Int)) (hc7 : ¬ (a3 < a2)) (hc8 : ¬ (a3 > a4)) (hc9 : ¬ (a1 = (4 : Int))) (c10_ : Bool) (hc10 : m_Rleafq1 n a1 = some c10_) (hc11 : c10_ = true) (hc12 : ¬ ((((a6).l.length : Nat) : Int) = (0 : Int))) : G_Rbareq1 a0 a1 a2 a3 a4 a5 a6 a7 false :=
 runF2 hm (L := lT []) ⟨[2], [], 0, 0, [], false, []⟩ (zz 7 (xdF hc1) <|
zz 11 (xdF hc2) <|
zz 16 (xdF hc3) <|
zz 23 (xdF hc4) <|
zz 30 (xdF hc5) <|
zz 36 (xeT hc6) <|
zz 56 (xdF hc7) <|
zz 62 (xdF hc8) <|
zz 80 (xnT hc9) <|
yy 91 (.call (C_Rleafq1 a1 c10_ [] [])) <|
ww (m_Rleafq1_ok n a1 c10_ hc10) <|
yy 92 (vf) <|
ww (p := (Value.bool (!c10_)) = (Value.bool false)) (vBn hc11) <|
zz 97 (xeF hc12) <|
ee) (by kernel_rfl)
theorem p_Rbareq1_13 (n : Nat) (a0 a1 a2 a3 a4 a5 : Int) (a6 : NL) (a7 : Int) (hc1 : ¬ (a1 < (1 : Int))) (hc2 : ¬ (a1 > (6 : Int))) (hc3 : ¬ (a2 < (0 : Int))) (hc4 : ¬ (a2 > a4)) (hc5 : ¬ (a5 ≤ a2)) (hc6 : a1 = (3 : Int)) (hc7 : ¬ (a3 < a2)) (hc8 : ¬ (a3 > a4)) (hc9 : ¬ (a1 = (4 : Int))) (c10_ : Bool) (hc10 : m_Rleafq1 n a1 = some c10_) (hc11 : ¬ (c10_ = true)) : G_Rbareq1 a0 a1 a2 a3 a4 a5 a6 a7 true :=
 runF2 hm (L := lT []) ⟨[2], [], 0, 0, [], false, []⟩ (zz 7 (xdF hc1) <|
zz 11 (xdF hc2) <|
zz 16 (xdF hc3) <|
zz 23 (xdF hc4) <|
zz 30 (xdF hc5) <|
zz 36 (xeT hc6) <|
zz 56 (xdF hc7) <|
zz 62 (xdF hc8) <|
zz 80 (xnT hc9) <|
yy 91 (.call (C_Rleafq1 a1 c10_ [] [])) <|
ww (m_Rleafq1_ok n a1 c10_ hc10) <|
yy 92 (vt) <|
ww (p := (Value.bool (!c10_)) = (Value.bool true)) (vBn (Bool.eq_false_iff.2 hc11)) <|
ee) (by kernel_rfl)
theorem p_Rbareq1_14 (n : Nat) (a0 a1 a2 a3 a4 a5 : Int) (a6 : NL) (a7 : Int) (hc1 : ¬ (a1 < (1 : Int))) (hc2 : ¬ (a1 > (6 : Int))) (hc3 : ¬ (a2 < (0 : Int))) (hc4 : ¬ (a2 > a4)) (hc5 : ¬ (a5 ≤ a2)) (hc6 : ¬ (a1 = (3 : Int))) (hc7 : a1 = (5 : Int)) (hc8 : a3 < a2) : G_Rbareq1 a0 a1 a2 a3 a4 a5 a6 a7 false :=
 runF2 hm (L := lT []) ⟨[2], [], 0, 0, [], false, []⟩ (zz 7 (xdF hc1) <|
zz 11 (xdF hc2) <|
zz 16 (xdF hc3) <|
zz 23 (xdF hc4) <|
zz 30 (xdF hc5) <|
zz 36 (xeF hc6) <|
zz 40 (xeT hc7) <|
zz 56 (xdT hc8) <|
ee) (by kernel_rfl)
theorem p_Rbareq1_15 (n : Nat) (a0 a1 a2 a3 a4 a5 : Int) (a6 : NL) (a7 : Int) (hc1 : ¬ (a1 < (1 : Int))) (hc2 : ¬ (a1 > (6 : Int))) (hc3 : ¬ (a2 < (0 : Int))) (hc4 : ¬ (a2 > a4)) (hc5 : ¬ (a5 ≤ a2)) (hc6 : ¬ (a1 = (3 : Int))) (hc7 : a1 = (5 : Int)) (hc8 : ¬ (a3 < a2)) (hc9 : a3 > a4) : G_Rbareq1 a0 a1 a2 a3 a4 a5 a6 a7 false :=
 runF2 hm (L := lT []) ⟨[2], [], 0, 0, [], false, []⟩ (zz 7 (xdF hc1) <|
zz 11 (xdF hc2) <|
zz 16 (xdF hc3) <|
zz 23 (xdF hc4) <|
zz 30 (xdF hc5) <|
zz 36 (xeF hc6) <|
zz 40 (xeT hc7) <|
zz 56 (xdF hc8) <|
zz 62 (xdT hc9) <|
ee) (by kernel_rfl)
theorem p_Rbareq1_16 (n : Nat) (a0 a1 a2 a3 a4 a5 : Int) (a6 : NL) (a7 : Int) (hc1 : ¬ (a1 < (1 : Int))) (hc2 : ¬ (a1 > (6 : Int))) (hc3 : ¬ (a2 < (0 : Int))) (hc4 : ¬ (a2 > a4)) (hc5 : ¬ (a5 ≤ a2)) (hc6 : ¬ (a1 = (3 : Int))) (hc7 : a1 = (5 : Int)) (hc8 : ¬ (a3 < a2)) (hc9 : ¬ (a3 > a4)) (hc10 : a1 = (4 : Int)) (hc11 : a2 = a4) (c12_ : Bool) (hc12 : m_Rleafq1 n a1 = some c12_) (hc13 : c12_ = true) (hc14 : (((a6).l.length : Nat) : Int) = (0 : Int)) : G_Rbareq1 a0 a1 a2 a3 a4 a5 a6 a7 true :=
 runF2 hm (L := lT []) ⟨[2], [], 0, 0, [], false, []⟩ (zz 7 (xdF hc1) <|
zz 11 (xdF hc2) <|
zz 16 (xdF hc3) <|
zz 23 (xdF hc4) <|
zz 30 (xdF hc5) <|
zz 36 (xeF hc6) <|
zz 40 (xeT hc7) <|
zz 56 (xdF hc8) <|
zz 62 (xdF hc9) <|
zz 80 (xnF hc10) <|
zz 86 (xeT hc11) <|
yy 91 (.call (C_Rleafq1 a1 c12_ [] [])) <|
ww (m_Rleafq1_ok n a1 c12_ hc12) <|
yy 92 (vf) <|
ww (p := (Value.bool (!c12_)) = (Value.bool false)) (vBn hc13) <|
zz 97 (xeT hc14) <|
ee) (by kernel_rfl)
theorem p_Rbareq1_17 (n : Nat) (a0 a1 a2 a3 a4 a5 : Int) (a6 : NL) (a7 : Int) (hc1 : ¬ (a1 < (1 : Int))) (hc2 : ¬ (a1 > (6 : Int))) (hc3 : ¬ (a2 < (0 : Int))) (hc4 : ¬ (a2 > a4)) (hc5 : ¬ (a5 ≤ a2)) (hc6 : ¬ (a1 = (3 : Int))) (hc7 : a1 = (5 : Int)) (hc8 : ¬ (a3 < a2)) (hc9 : ¬ (a3 > a4)) (hc10 : a1 = (4 : Int)) (hc11 : a2 = a4) (c12_ : Bool) (hc12 : m_Rleafq1 n a1 = some c12_) (hc13 : c12_ = true) (hc14 : ¬ ((((a6).l.length : Nat) : Int) = (0 : Int))) : G_Rbareq1 a0 a1 a2 a3 a4 a5 a6 a7 false :=
 runF2 hm (L := lT []) ⟨[2], [], 0, 0, [], false, []⟩ (zz 7 (xdF hc1) <|
zz 11 (xdF hc2) <|
zz 16 (xdF hc3) <|
zz 23 (xdF hc4) <|
zz 30 (xdF hc5) <|
zz 36 (xeF hc6) <|
zz 40 (xeT hc7) <|
zz 56 (xdF hc8) <|
zz 62 (xdF hc9) <|
zz 80 (xnF hc10) <|
zz 86 (xeT hc11) <|
yy 91 (.call (C_Rleafq1 a1 c12_ [] [])) <|
ww (m_Rleafq1_ok n a1 c12_ hc12) <|
yy 92 (vf) <|
ww (p := (Value.bool (!c12_)) = (Value.bool false)) (vBn hc13) <|
zz 97 (xeF hc14) <|
ee) (by kernel_rfl)
theorem p_Rbareq1_18 (n : Nat) (a0 a1 a2 a3 a4 a5 : Int) (a6 : NL) (a7 : Int) (hc1 : ¬ (a1 < (1 : Int))) (hc2 : ¬ (a1 > (6 : Int))) (hc3 : ¬ (a2 < (0 : Int))) (hc4 : ¬ (a2 > a4)) (hc5 : ¬ (a5 ≤ a2)) (hc6 : ¬ (a1 = (3 : Int))) (hc7 : a1 = (5 : Int)) (hc8 : ¬ (a3 < a2)) (hc9 : ¬ (a3 > a4)) (hc10 : a1 = (4 : Int)) (hc11 : a2 = a4) (c12_ : Bool) (hc12 : m_Rleafq1 n a1 = some c12_) (hc13 : ¬ (c12_ = true)) : G_Rbareq1 a0 a1 a2 a3 a4 a5 a6 a7 true :=
 runF2 hm (L := lT []) ⟨[2], [], 0, 0, [], false, []⟩ (zz 7 (xdF hc1) <|
zz 11 (xdF hc2) <|
zz 16 (xdF hc3) <|
zz 23 (xdF hc4) <|
zz 30 (xdF hc5) <|
zz 36 (xeF hc6) <|
zz 40 (xeT hc7) <|
zz 56 (xdF hc8) <|
zz 62 (xdF hc9) <|
zz 80 (xnF hc10) <|
zz 86 (xeT hc11) <|
yy 91 (.call (C_Rleafq1 a1 c12_ [] [])) <|
ww (m_Rleafq1_ok n a1 c12_ hc12) <|
yy 92 (vt) <|
ww (p := (Value.bool (!c12_)) = (Value.bool true)) (vBn (Bool.eq_false_iff.2 hc13)) <|
ee) (by kernel_rfl)
theorem p_Rbareq1_19 (n : Nat) (a0 a1 a2 a3 a4 a5 : Int) (a6 : NL) (a7 : Int) (hc1 : ¬ (a1 < (1 : Int))) (hc2 : ¬ (a1 > (6 : Int))) (hc3 : ¬ (a2 < (0 : Int))) (hc4 : ¬ (a2 > a4)) (hc5 : ¬ (a5 ≤ a2)) (hc6 : ¬ (a1 = (3 : Int))) (hc7 : a1 = (5 : Int)) (hc8 : ¬ (a3 < a2)) (hc9 : ¬ (a3 > a4)) (hc10 : a1 = (4 : Int)) (hc11 : ¬ (a2 = a4)) : G_Rbareq1 a0 a1 a2 a3 a4 a5 a6 a7 false :=
 runF2 hm (L := lT []) ⟨[2], [], 0, 0, [], false, []⟩ (zz 7 (xdF hc1) <|
zz 11 (xdF hc2) <|
zz 16 (xdF hc3) <|
zz 23 (xdF hc4) <|
zz 30 (xdF hc5) <|
zz 36 (xeF hc6) <|
zz 40 (xeT hc7) <|
zz 56 (xdF hc8) <|
zz 62 (xdF hc9) <|
zz 80 (xnF hc10) <|
zz 86 (xeF hc11) <|
ee) (by kernel_rfl)
theorem p_Rbareq1_20 (n : Nat) (a0 a1 a2 a3 a4 a5 : Int) (a6 : NL) (a7 : Int) (hc1 : ¬ (a1 < (1 : Int))) (hc2 : ¬ (a1 > (6 : Int))) (hc3 : ¬ (a2 < (0 : Int))) (hc4 : ¬ (a2 > a4)) (hc5 : ¬ (a5 ≤ a2)) (hc6 : ¬ (a1 = (3 : Int))) (hc7 : a1 = (5 : Int)) (hc8 : ¬ (a3 < a2)) (hc9 : ¬ (a3 > a4)) (hc10 : ¬ (a1 = (4 : Int))) (c11_ : Bool) (hc11 : m_Rleafq1 n a1 = some c11_) (hc12 : c11_ = true) (hc13 : (((a6).l.length : Nat) : Int) = (0 : Int)) : G_Rbareq1 a0 a1 a2 a3 a4 a5 a6 a7 true :=
 runF2 hm (L := lT []) ⟨[2], [], 0, 0, [], false, []⟩ (zz 7 (xdF hc1) <|
zz 11 (xdF hc2) <|
zz 16 (xdF hc3) <|
zz 23 (xdF hc4) <|
zz 30 (xdF hc5) <|
zz 36 (xeF hc6) <|
zz 40 (xeT hc7) <|
zz 56 (xdF hc8) <|
zz 62 (xdF hc9) <|
zz 80 (xnT hc10) <|
yy 91 (.call (C_Rleafq1 a1 c11_ [] [])) <|
ww (m_Rleafq1_ok n a1 c11_ hc11) <|
yy 92 (vf) <|
ww (p := (Value.bool (!c11_)) = (Value.bool false)) (vBn hc12) <|
zz 97 (xeT hc13) <|
ee) (by kernel_rfl)
theorem p_Rbareq1_21 (n : Nat) (a0 a1 a2 a3 a4 a5 : Int) (a6 : NL) (a7 : Int) (hc1 : ¬ (a1 < (1 : Int))) (hc2 : ¬ (a1 > (6 : Int))) (hc3 : ¬ (a2 < (0 : Int))) (hc4 : ¬ (a2 > a4)) (hc5 : ¬ (a5 ≤ a2)) (hc6 : ¬ (a1 = (3 : Int))) (hc7 : a1 = (5 : Int)) (hc8 : ¬ (a3 < a2)) (hc9 : ¬ (a3 > a4)) (hc10 : ¬ (a1 = (4 : Int))) (c11_ : Bool) (hc11 : m_Rleafq1 n a1 = some c11_) (hc12 : c11_ = true) (hc13 : ¬ ((((a6).l.length : Nat) : Int) = (0 : Int))) : G_Rbareq1 a0 a1 a2 a3 a4 a5 a6 a7 false :=
 runF2 hm (L := lT []) ⟨[2], [], 0, 0, [], false, []⟩ (zz 7 (xdF hc1) <|
zz 11 (xdF hc2) <|
zz 16 (xdF hc3) <|
zz 23 (xdF hc4) <|
zz 30 (xdF hc5) <|
zz 36 (xeF hc6) <|
zz 40 (xeT hc7) <|
zz 56 (xdF hc8) <|
zz 62 (xdF hc9) <|
zz 80 (xnT hc10) <|
yy 91 (.call (C_Rleafq1 a1 c11_ [] [])) <|
ww (m_Rleafq1_ok n a1 c11_ hc11) <|
yy 92 (vf) <|
ww (p := (Value.bool (!c11_)) = (Value.bool false)) (vBn hc12) <|
zz 97 (xeF hc13) <|
ee) (by kernel_rfl)
theorem p_Rbareq1_22 (n : Nat) (a0 a1 a2 a3 a4 a5 : Int) (a6 : NL) (a7 : Int) (hc1 : ¬ (a1 < (1 : Int))) (hc2 : ¬ (a1 > (6 : Int))) (hc3 : ¬ (a2 < (0 : Int))) (hc4 : ¬ (a2 > a4)) (hc5 : ¬ (a5 ≤ a2)) (hc6 : ¬ (a1 = (3 : Int))) (hc7 : a1 = (5 : Int)) (hc8 : ¬ (a3 < a2)) (hc9 : ¬ (a3 > a4)) (hc10 : ¬ (a1 = (4 : Int))) (c11_ : Bool) (hc11 : m_Rleafq1 n a1 = some c11_) (hc12 : ¬ (c11_ = true)) : G_Rbareq1 a0 a1 a2 a3 a4 a5 a6 a7 true :=
 runF2 hm (L := lT []) ⟨[2], [], 0, 0, [], false, []⟩ (zz 7 (xdF hc1) <|
zz 11 (xdF hc2) <|
zz 16 (xdF hc3) <|
zz 23 (xdF hc4) <|
zz 30 (xdF hc5) <|
zz 36 (xeF hc6) <|
zz 40 (xeT hc7) <|
zz 56 (xdF hc8) <|
zz 62 (xdF hc9) <|
zz 80 (xnT hc10) <|
yy 91 (.call (C_Rleafq1 a1 c11_ [] [])) <|
ww (m_Rleafq1_ok n a1 c11_ hc11) <|
yy 92 (vt) <|
ww (p := (Value.bool (!c11_)) = (Value.bool true)) (vBn (Bool.eq_false_iff.2 hc12)) <|
ee) (by kernel_rfl)
theorem p_Rbareq1_23 (n : Nat) (a0 a1 a2 a3 a4 a5 : Int) (a6 : NL) (a7 : Int) (hc1 : ¬ (a1 < (1 : Int))) (hc2 : ¬ (a1 > (6 : Int))) (hc3 : ¬ (a2 < (0 : Int))) (hc4 : ¬ (a2 > a4)) (hc5 : ¬ (a5 ≤ a2)) (hc6 : ¬ (a1 = (3 : Int))) (hc7 : ¬ (a1 = (5 : Int))) (hc8 : a1 = (6 : Int)) (hc9 : a3 < a2) : G_Rbareq1 a0 a1 a2 a3 a4 a5 a6 a7 false :=
 runF2 hm (L := lT []) ⟨[2], [], 0, 0, [], false, []⟩ (zz 7 (xdF hc1) <|
zz 11 (xdF hc2) <|
zz 16 (xdF hc3) <|
zz 23 (xdF hc4) <|
zz 30 (xdF hc5) <|
zz 36 (xeF hc6) <|
zz 40 (xeF hc7) <|
zz 45 (xeT hc8) <|
zz 56 (xdT hc9) <|
ee) (by kernel_rfl)
theorem p_Rbareq1_24 (n : Nat) (a0 a1 a2 a3 a4 a5 : Int) (a6 : NL) (a7 : Int) (hc1 : ¬ (a1 < (1 : Int))) (hc2 : ¬ (a1 > (6 : Int))) (hc3 : ¬ (a2 < (0 : Int))) (hc4 : ¬ (a2 > a4)) (hc5 : ¬ (a5 ≤ a2)) (hc6 : ¬ (a1 = (3 : Int))) (hc7 : ¬ (a1 = (5 : Int))) (hc8 : a1 = (6 : Int)) (hc9 : ¬ (a3 < a2)) (hc10 : a3 > a4) : G_Rbareq1 a0 a1 a2 a3 a4 a5 a6 a7 false :=
 runF2 hm (L := lT []) ⟨[2], [], 0, 0, [], false, []⟩ (zz 7 (xdF hc1) <|
zz 11 (xdF hc2) <|
zz 16 (xdF hc3) <|
zz 23 (xdF hc4) <|
zz 30 (xdF hc5) <|
zz 36 (xeF hc6) <|
zz 40 (xeF hc7) <|
zz 45 (xeT hc8) <|
zz 56 (xdF hc9) <|
zz 62 (xdT hc10) <|
ee) (by kernel_rfl)
theorem p_Rbareq1_25 (n : Nat) (a0 a1 a2 a3 a4 a5 : Int) (a6 : NL) (a7 : Int) (hc1 : ¬ (a1 < (1 : Int))) (hc2 : ¬ (a1 > (6 : Int))) (hc3 : ¬ (a2 < (0 : Int))) (hc4 : ¬ (a2 > a4)) (hc5 : ¬ (a5 ≤ a2)) (hc6 : ¬ (a1 = (3 : Int))) (hc7 : ¬ (a1 = (5 : Int))) (hc8 : a1 = (6 : Int)) (hc9 : ¬ (a3 < a2)) (hc10 : ¬ (a3 > a4)) (hc11 : a1 = (4 : Int)) (hc12 : a2 = a4) (c13_ : Bool) (hc13 : m_Rleafq1 n a1 = some c13_) (hc14 : c13_ = true) (hc15 : (((a6).l.length : Nat) : Int) = (0 : Int)) : G_Rbareq1 a0 a1 a2 a3 a4 a5 a6 a7 true :=
 runF2 hm (L := lT []) ⟨[2], [], 0, 0, [], false, []⟩ (zz 7 (xdF hc1) <|
zz 11 (xdF hc2) <|
zz 16 (xdF hc3) <|
zz 23 (xdF hc4) <|
zz 30 (xdF hc5) <|
zz 36 (xeF hc6) <|
zz 40 (xeF hc7) <|
zz 45 (xeT hc8) <|
zz 56 (xdF hc9) <|
zz 62 (xdF hc10) <|
zz 80 (xnF hc11) <|
zz 86 (xeT hc12) <|
yy 91 (.call (C_Rleafq1 a1 c13_ [] [])) <|
ww (m_Rleafq1_ok n a1 c13_ hc13) <|
yy 92 (vf) <|
ww (p := (Value.bool (!c13_)) = (Value.bool false)) (vBn hc14) <|
zz 97 (xeT hc15) <|
ee) (by kernel_rfl)
theorem p_Rbareq1_26 (n : Nat) (a0 a1 a2 a3 a4 a5 : Int) (a6 : NL) (a7 : Int) (hc1 : ¬ (a1 < (1 : Int))) (hc2 : ¬ (a1 > (6 : Int))) (hc3 : ¬ (a2 < (0 : Int))) (hc4 : ¬ (a2 > a4)) (hc5 : ¬ (a5 ≤ a2)) (hc6 : ¬ (a1 = (3 : Int))) (hc7 : ¬ (a1 = (5 : Int))) (hc8 : a1 = (6 : Int)) (hc9 : ¬ (a3 < a2)) (hc10 : ¬ (a3 > a4)) (hc11 : a1 = (4 : Int)) (hc12 : a2 = a4) (c13_ : Bool) (hc13 : m_Rleafq1 n a1 = some c13_) (hc14 : c13_ = true) (hc15 : ¬ ((((a6).l.length : Nat) : Int) = (0 : Int))) : G_Rbareq1 a0 a1 a2 a3 a4 a5 a6 a7 false :=
 runF2 hm (L := lT []) ⟨[2], [], 0, 0, [], false, []⟩ (zz 7 (xdF hc1) <|
zz 11 (xdF hc2) <|
zz 16 (xdF hc3) <|
zz 23 (xdF hc4) <|
zz 30 (xdF hc5) <|
zz 36 (xeF hc6) <|
zz 40 (xeF hc7) <|
zz 45 (xeT hc8) <|
zz 56 (xdF hc9) <|
zz 62 (xdF hc10) <|
zz 80 (xnF hc11) <|
zz 86 (xeT hc12) <|
yy 91 (.call (C_Rleafq1 a1 c13_ [] [])) <|
ww (m_Rleafq1_ok n a1 c13_ hc13) <|
yy 92 (vf) <|
ww (p := (Value.bool (!c13_)) = (Value.bool false)) (vBn hc14) <|
zz 97 (xeF hc15) <|
ee) (by kernel_rfl)
theorem p_Rbareq1_27 (n : Nat) (a0 a1 a2 a3 a4 a5 : Int) (a6 : NL) (a7 : Int) (hc1 : ¬ (a1 < (1 : Int))) (hc2 : ¬ (a1 > (6 : Int))) (hc3 : ¬ (a2 < (0 : Int))) (hc4 : ¬ (a2 > a4)) (hc5 : ¬ (a5 ≤ a2)) (hc6 : ¬ (a1 = (3 : Int))) (hc7 : ¬ (a1 = (5 : Int))) (hc8 : a1 = (6 : Int)) (hc9 : ¬ (a3 < a2)) (hc10 : ¬ (a3 > a4)) (hc11 : a1 = (4 : Int)) (hc12 : a2 = a4) (c13_ : Bool) (hc13 : m_Rleafq1 n a1 = some c13_) (hc14 : ¬ (c13_ = true)) : G_Rbareq1 a0 a1 a2 a3 a4 a5 a6 a7 true :=
 runF2 hm (L := lT []) ⟨[2], [], 0, 0, [], false, []⟩ (zz 7 (xdF hc1) <|
zz 11 (xdF hc2) <|
zz 16 (xdF hc3) <|
zz 23 (xdF hc4) <|
zz 30 (xdF hc5) <|
zz 36 (xeF hc6) <|
zz 40 (xeF hc7) <|
zz 45 (xeT hc8) <|
zz 56 (xdF hc9) <|
zz 62 (xdF hc10) <|
zz 80 (xnF hc11) <|
zz 86 (xeT hc12) <|
yy 91 (.call (C_Rleafq1 a1 c13_ [] [])) <|
ww (m_Rleafq1_ok n a1 c13_ hc13) <|
yy 92 (vt) <|
ww (p := (Value.bool (!c13_)) = (Value.bool true)) (vBn (Bool.eq_false_iff.2 hc14)) <|
ee) (by kernel_rfl)
theorem p_Rbareq1_28 (n : Nat) (a0 a1 a2 a3 a4 a5 : Int) (a6 : NL) (a7 : Int) (hc1 : ¬ (a1 < (1 : Int))) (hc2 : ¬ (a1 > (6 : Int))) (hc3 : ¬ (a2 < (0 : Int))) (hc4 : ¬ (a2 > a4)) (hc5 : ¬ (a5 ≤ a2)) (hc6 : ¬ (a1 = (3 : Int))) (hc7 : ¬ (a1 = (5 : Int))) (hc8 : a1 = (6 : Int)) (hc9 : ¬ (a3 < a2)) (hc10 : ¬ (a3 > a4)) (hc11 : a1 = (4 : Int)) (hc12 : ¬ (a2 = a4)) : G_Rbareq1 a0 a1 a2 a3 a4 a5 a6 a7 false :=
 runF2 hm (L := lT []) ⟨[2], [], 0, 0, [], false, []⟩ (zz 7 (xdF hc1) <|
zz 11 (xdF hc2) <|
zz 16 (xdF hc3) <|
zz 23 (xdF hc4) <|
zz 30 (xdF hc5) <|
zz 36 (xeF hc6) <|
zz 40 (xeF hc7) <|
zz 45 (xeT hc8) <|
zz 56 (xdF hc9) <|
zz 62 (xdF hc10) <|
zz 80 (xnF hc11) <|
zz 86 (xeF hc12) <|
ee) (by kernel_rfl)
theorem p_Rbareq1_29 (n : Nat) (a0 a1 a2 a3 a4 a5 : Int) (a6 : NL) (a7 : Int) (hc1 : ¬ (a1 < (1 : Int))) (hc2 : ¬ (a1 > (6 : Int))) (hc3 : ¬ (a2 < (0 : Int))) (hc4 : ¬ (a2 > a4)) (hc5 : ¬ (a5 ≤ a2)) (hc6 : ¬ (a1 = (3 : Int))) (hc7 : ¬ (a1 = (5 : Int))) (hc8 : a1 = (6 : Int)) (hc9 : ¬ (a3 < a2)) (hc10 : ¬ (a3 > a4)) (hc11 : ¬ (a1 = (4 : Int))) (c12_ : Bool) (hc12 : m_Rleafq1 n a1 = some c12_) (hc13 : c12_ = true) (hc14 : (((a6).l.length : Nat) : Int) = (0 : Int)) : G_Rbareq1 a0 a1 a2 a3 a4 a5 a6 a7 true :=
 runF2 hm (L := lT []) ⟨[2], [], 0, 0, [], false, []⟩ (zz 7 (xdF hc1) <|
zz 11 (xdF hc2) <|
zz 16 (xdF hc3) <|
zz 23 (xdF hc4) <|
zz 30 (xdF hc5) <|
zz 36 (xeF hc6) <|
zz 40 (xeF hc7) <|
zz 45 (xeT hc8) <|
zz 56 (xdF hc9) <|
zz 62 (xdF hc10) <|
zz 80 (xnT hc11) <|
yy 91 (.call (C_Rleafq1 a1 c12_ [] [])) <|
ww (m_Rleafq1_ok n a1 c12_ hc12) <|
yy 92 (vf) <|
ww (p := (Value.bool (!c12_)) = (Value.bool false)) (vBn hc13) <|
zz 97 (xeT hc14) <|
ee) (by kernel_rfl)
theorem p_Rbareq1_30 (n : Nat) (a0 a1 a2 a3 a4 a5 : Int) (a6 : NL) (a7 : Int) (hc1 : ¬ (a1 < (1 : Int))) (hc2 : ¬ (a1 > (6 : Int))) (hc3 : ¬ (a2 < (0 : Int))) (hc4 : ¬ (a2 > a4)) (hc5 : ¬ (a5 ≤ a2)) (hc6 : ¬ (a1 = (3 : Int))) (hc7 : ¬ (a1 = (5 : Int))) (hc8 : a1 = (6 : Int)) (hc9 : ¬ (a3 < a2)) (hc10 : ¬ (a3 > a4)) (hc11 : ¬ (a1 = (4 : Int))) (c12_ : Bool) (hc12 : m_Rleafq1 n a1 = some c12_) (hc13 : c12_ = true) (hc14 : ¬ ((((a6).l.length : Nat) : Int) = (0 : Int))) : G_Rbareq1 a0 a1 a2 a3 a4 a5 a6 a7 false :=
 runF2 hm (L := lT []) ⟨[2], [], 0, 0, [], false, []⟩ (zz 7 (xdF hc1) <|
zz 11 (xdF hc2) <|
zz 16 (xdF hc3) <|
zz 23 (xdF hc4) <|
zz 30 (xdF hc5) <|
zz 36 (xeF hc6) <|
zz 40 (xeF hc7) <|
zz 45 (xeT hc8) <|
zz 56 (xdF hc9) <|
zz 62 (xdF hc10) <|
zz 80 (xnT hc11) <|
yy 91 (.call (C_Rleafq1 a1 c12_ [] [])) <|
ww (m_Rleafq1_ok n a1 c12_ hc12) <|
yy 92 (vf) <|
ww (p := (Value.bool (!c12_)) = (Value.bool false)) (vBn hc13) <|
zz 97 (xeF hc14) <|
ee) (by kernel_rfl)
theorem p_Rbareq1_31 (n : Nat) (a0 a1 a2 a3 a4 a5 : Int) (a6 : NL) (a7 : Int) (hc1 : ¬ (a1 < (1 : Int))) (hc2 : ¬ (a1 > (6 : Int))) (hc3 : ¬ (a2 < (0 : Int))) (hc4 : ¬ (a2 > a4)) (hc5 : ¬ (a5 ≤ a2)) (hc6 : ¬ (a1 = (3 : Int))) (hc7 : ¬ (a1 = (5 : Int))) (hc8 : a1 = (6 : Int)) (hc9 : ¬ (a3 < a2)) (hc10 : ¬ (a3 > a4)) (hc11 : ¬ (a1 = (4 : Int))) (c12_ : Bool) (hc12 : m_Rleafq1 n a1 = some c12_) (hc13 : ¬ (c12_ = true)) : G_Rbareq1 a0 a1 a2 a3 a4 a5 a6 a7 true :=
 runF2 hm (L := lT []) ⟨[2], [], 0, 0, [], false, []⟩ (zz 7 (xdF hc1) <|
zz 11 (xdF hc2) <|
zz 16 (xdF hc3) <|
zz 23 (xdF hc4) <|
zz 30 (xdF hc5) <|
zz 36 (xeF hc6) <|
zz 40 (xeF hc7) <|
zz 45 (xeT hc8) <|
zz 56 (xdF hc9) <|
zz 62 (xdF hc10) <|
zz 80 (xnT hc11) <|
yy 91 (.call (C_Rleafq1 a1 c12_ [] [])) <|
ww (m_Rleafq1_ok n a1 c12_ hc12) <|
yy 92 (vt) <|
ww (p := (Value.bool (!c12_)) = (Value.bool true)) (vBn (Bool.eq_false_iff.2 hc13)) <|
ee) (by kernel_rfl)
theorem p_Rbareq1_32 (n : Nat) (a0 a1 a2 a3 a4 a5 : Int) (a6 : NL) (a7 : Int) (hc1 : ¬ (a1 < (1 : Int))) (hc2 : ¬ (a1 > (6 : Int))) (hc3 : ¬ (a2 < (0 : Int))) (hc4 : ¬ (a2 > a4)) (hc5 : ¬ (a5 ≤ a2)) (hc6 : ¬ (a1 = (3 : Int))) (hc7 : ¬ (a1 = (5 : Int))) (hc8 : ¬ (a1 = (6 : Int))) (hc9 : a3 = a2) (hc10 : a1 = (4 : Int)) (hc11 : a2 = a4) (c12_ : Bool) (hc12 : m_Rleafq1 n a1 = some c12_) (hc13 : c12_ = true) (hc14 : (((a6).l.length : Nat) : Int) = (0 : Int)) : G_Rbareq1 a0 a1 a2 a3 a4 a5 a6 a7 true :=
 runF2 hm (L := lT []) ⟨[2], [], 0, 0, [], false, []⟩ (zz 7 (xdF hc1) <|
zz 11 (xdF hc2) <|
zz 16 (xdF hc3) <|
zz 23 (xdF hc4) <|
zz 30 (xdF hc5) <|
zz 36 (xeF hc6) <|
zz 40 (xeF hc7) <|
zz 45 (xeF hc8) <|
zz 73 (xnF hc9) <|
zz 80 (xnF hc10) <|
zz 86 (xeT hc11) <|
yy 91 (.call (C_Rleafq1 a1 c12_ [] [])) <|
ww (m_Rleafq1_ok n a1 c12_ hc12) <|
yy 92 (vf) <|
ww (p := (Value.bool (!c12_)) = (Value.bool false)) (vBn hc13) <|
zz 97 (xeT hc14) <|
ee) (by kernel_rfl)
theorem p_Rbareq1_33 (n : Nat) (a0 a1 a2 a3 a4 a5 : Int) (a6 : NL) (a7 : Int) (hc1 : ¬ (a1 < (1 : Int))) (hc2 : ¬ (a1 > (6 : Int))) (hc3 : ¬ (a2 < (0 : Int))) (hc4 : ¬ (a2 > a4)) (hc5 : ¬ (a5 ≤ a2)) (hc6 : ¬ (a1 = (3 : Int))) (hc7 : ¬ (a1 = (5 : Int))) (hc8 : ¬ (a1 = (6 : Int))) (hc9 : a3 = a2) (hc10 : a1 = (4 : Int)) (hc11 : a2 = a4) (c12_ : Bool) (hc12 : m_Rleafq1 n a1 = some c12_) (hc13 : c12_ = true) (hc14 : ¬ ((((a6).l.length : Nat) : Int) = (0 : Int))) : G_Rbareq1 a0 a1 a2 a3 a4 a5 a6 a7 false :=
 runF2 hm (L := lT []) ⟨[2], [], 0, 0, [], false, []⟩ (zz 7 (xdF hc1) <|
zz 11 (xdF hc2) <|
zz 16 (xdF hc3) <|
zz 23 (xdF hc4) <|
zz 30 (xdF hc5) <|
zz 36 (xeF hc6) <|
zz 40 (xeF hc7) <|
zz 45 (xeF hc8) <|
zz 73 (xnF hc9) <|
zz 80 (xnF hc10) <|
zz 86 (xeT hc11) <|
yy 91 (.call (C_Rleafq1 a1 c12_ [] [])) <|
ww (m_Rleafq1_ok n a1 c12_ hc12) <|
yy 92 (vf) <|
ww (p := (Value.bool (!c12_)) = (Value.bool false)) (vBn hc13) <|
zz 97 (xeF hc14) <|
ee) (by kernel_rfl)
theorem p_Rbareq1_34 (n : Nat) (a0 a1 a2 a3 a4 a5 : Int) (a6 : NL) (a7 : Int) (hc1 : ¬ (a1 < (1 : Int))) (hc2 : ¬ (a1 > (6 : Int))) (hc3 : ¬ (a2 < (0 : Int))) (hc4 : ¬ (a2 > a4)) (hc5 : ¬ (a5 ≤ a2)) (hc6 : ¬ (a1 = (3 : Int))) (hc7 : ¬ (a1 = (5 : Int))) (hc8 : ¬ (a1 = (6 : Int))) (hc9 : a3 = a2) (hc10 : a1 = (4 : Int)) (hc11 : a2 = a4) (c12_ : Bool) (hc12 : m_Rleafq1 n a1 = some c12_) (hc13 : ¬ (c12_ = true)) : G_Rbareq1 a0 a1 a2 a3 a4 a5 a6 a7 true :=
 runF2 hm (L := lT []) ⟨[2], [], 0, 0, [], false, []⟩ (zz 7 (xdF hc1) <|
zz 11 (xdF hc2) <|
zz 16 (xdF hc3) <|
zz 23 (xdF hc4) <|
zz 30 (xdF hc5) <|
zz 36 (xeF hc6) <|
zz 40 (xeF hc7) <|
zz 45 (xeF hc8) <|
zz 73 (xnF hc9) <|
zz 80 (xnF hc10) <|
zz 86 (xeT hc11) <|
yy 91 (.call (C_Rleafq1 a1 c12_ [] [])) <|
ww (m_Rleafq1_ok n a1 c12_ hc12) <|
yy 92 (vt) <|
ww (p := (Value.bool (!c12_)) = (Value.bool true)) (vBn (Bool.eq_false_iff.2 hc13)) <|
ee) (by kernel_rfl)
theorem p_Rbareq1_35 (n : Nat) (a0 a1 a2 a3 a4 a5 : Int) (a6 : NL) (a7 : Int) (hc1 : ¬ (a1 < (1 : Int))) (hc2 : ¬ (a1 > (6 : Int))) (hc3 : ¬ (a2 < (0 : Int))) (hc4 : ¬ (a2 > a4)) (hc5 : ¬ (a5 ≤ a2)) (hc6 : ¬ (a1 = (3 : Int))) (hc7 : ¬ (a1 = (5 : Int))) (hc8 : ¬ (a1 = (6 : Int))) (hc9 : a3 = a2) (hc10 : a1 = (4 : Int)) (hc11 : ¬ (a2 = a4)) : G_Rbareq1 a0 a1 a2 a3 a4 a5 a6 a7 false :=
 runF2 hm (L := lT []) ⟨[2], [], 0, 0, [], false, []⟩ (zz 7 (xdF hc1) <|
zz 11 (xdF hc2) <|
zz 16 (xdF hc3) <|
zz 23 (xdF hc4) <|
zz 30 (xdF hc5) <|
zz 36 (xeF hc6) <|
zz 40 (xeF hc7) <|
zz 45 (xeF hc8) <|
zz 73 (xnF hc9) <|
zz 80 (xnF hc10) <|
zz 86 (xeF hc11) <|
ee) (by kernel_rfl)
theorem p_Rbareq1_36 (n : Nat) (a0 a1 a2 a3 a4 a5 : Int) (a6 : NL) (a7 : Int) (hc1 : ¬ (a1 < (1 : Int))) (hc2 : ¬ (a1 > (6 : Int))) (hc3 : ¬ (a2 < (0 : Int))) (hc4 : ¬ (a2 > a4)) (hc5 : ¬ (a5 ≤ a2)) (hc6 : ¬ (a1 = (3 : Int))) (hc7 : ¬ (a1 = (5 : Int))) (hc8 : ¬ (a1 = (6 : Int))) (hc9 : a3 = a2) (hc10 : ¬ (a1 = (4 : Int))) (c11_ : Bool) (hc11 : m_Rleafq1 n a1 = some c11_) (hc12 : c11_ = true) (hc13 : (((a6).l.length : Nat) : Int) = (0 : Int)) : G_Rbareq1 a0 a1 a2 a3 a4 a5 a6 a7 true :=
 runF2 hm (L := lT []) ⟨[2], [], 0, 0, [], false, []⟩ (zz 7 (xdF hc1) <|
zz 11 (xdF hc2) <|
zz 16 (xdF hc3) <|
zz 23 (xdF hc4) <|
zz 30 (xdF hc5) <|
zz 36 (xeF hc6) <|
zz 40 (xeF hc7) <|
zz 45 (xeF hc8) <|
zz 73 (xnF hc9) <|
zz 80 (xnT hc10) <|
yy 91 (.call (C_Rleafq1 a1 c11_ [] [])) <|
ww (m_Rleafq1_ok n a1 c11_ hc11) <|
yy 92 (vf) <|
ww (p := (Value.bool (!c11_)) = (Value.bool false)) (vBn hc12) <|
zz 97 (xeT hc13) <|
ee) (by kernel_rfl)
theorem p_Rbareq1_37 (n : Nat) (a0 a1 a2 a3 a4 a5 : Int) (a6 : NL) (a7 : Int) (hc1 : ¬ (a1 < (1 : Int))) (hc2 : ¬ (a1 > (6 : Int))) (hc3 : ¬ (a2 < (0 : Int))) (hc4 : ¬ (a2 > a4)) (hc5 : ¬ (a5 ≤ a2)) (hc6 : ¬ (a1 = (3 : Int))) (hc7 : ¬ (a1 = (5 : Int))) (hc8 : ¬ (a1 = (6 : Int))) (hc9 : a3 = a2) (hc10 : ¬ (a1 = (4 : Int))) (c11_ : Bool) (hc11 : m_Rleafq1 n a1 = some c11_) (hc12 : c11_ = true) (hc13 : ¬ ((((a6).l.length : Nat) : Int) = (0 : Int))) : G_Rbareq1 a0 a1 a2 a3 a4 a5 a6 a7 false :=
 runF2 hm (L := lT []) ⟨[2], [], 0, 0, [], false, []⟩ (zz 7 (xdF hc1) <|
zz 11 (xdF hc2) <|
zz 16 (xdF hc3) <|
zz 23 (xdF hc4) <|
zz 30 (xdF hc5) <|
zz 36 (xeF hc6) <|
zz 40 (xeF hc7) <|
zz 45 (xeF hc8) <|
zz 73 (xnF hc9) <|
zz 80 (xnT hc10) <|
yy 91 (.call (C_Rleafq1 a1 c11_ [] [])) <|
ww (m_Rleafq1_ok n a1 c11_ hc11) <|
yy 92 (vf) <|
ww (p := (Value.bool (!c11_)) = (Value.bool false)) (vBn hc12) <|
zz 97 (xeF hc13) <|
ee) (by kernel_rfl)
theorem p_Rbareq1_38 (n : Nat) (a0 a1 a2 a3 a4 a5 : Int) (a6 : NL) (a7 : Int) (hc1 : ¬ (a1 < (1 : Int))) (hc2 : ¬ (a1 > (6 : Int))) (hc3 : ¬ (a2 < (0 : Int))) (hc4 : ¬ (a2 > a4)) (hc5 : ¬ (a5 ≤ a2)) (hc6 : ¬ (a1 = (3 : Int))) (hc7 : ¬ (a1 = (5 : Int))) (hc8 : ¬ (a1 = (6 : Int))) (hc9 : a3 = a2) (hc10 : ¬ (a1 = (4 : Int))) (c11_ : Bool) (hc11 : m_Rleafq1 n a1 = some c11_) (hc12 : ¬ (c11_ = true)) : G_Rbareq1 a0 a1 a2 a3 a4 a5 a6 a7 true :=
 runF2 hm (L := lT []) ⟨[2], [], 0, 0, [], false, []⟩ (zz 7 (xdF hc1) <|
zz 11 (xdF hc2) <|
zz 16 (xdF hc3) <|
zz 23 (xdF hc4) <|
zz 30 (xdF hc5) <|
zz 36 (xeF hc6) <|
zz 40 (xeF hc7) <|
zz 45 (xeF hc8) <|
zz 73 (xnF hc9) <|
zz 80 (xnT hc10) <|
yy 91 (.call (C_Rleafq1 a1 c11_ [] [])) <|
ww (m_Rleafq1_ok n a1 c11_ hc11) <|
yy 92 (vt) <|
ww (p := (Value.bool (!c11_)) = (Value.bool true)) (vBn (Bool.eq_false_iff.2 hc12)) <|
ee) (by kernel_rfl)
theorem p_Rbareq1_39 (n : Nat) (a0 a1 a2 a3 a4 a5 : Int) (a6 : NL) (a7 : Int) (hc1 : ¬ (a1 < (1 : Int))) (hc2 : ¬ (a1 > (6 : Int))) (hc3 : ¬ (a2 < (0 : Int))) (hc4 : ¬ (a2 > a4)) (hc5 : ¬ (a5 ≤ a2)) (hc6 : ¬ (a1 = (3 : Int))) (hc7 : ¬ (a1 = (5 : Int))) (hc8 : ¬ (a1 = (6 : Int))) (hc9 : ¬ (a3 = a2)) : G_Rbareq1 a0 a1 a2 a3 a4 a5 a6 a7 false :=
 runF2 hm (L := lT []) ⟨[2], [], 0, 0, [], false, []⟩ (zz 7 (xdF hc1) <|
zz 11 (xdF hc2) <|
zz 16 (xdF hc3) <|
zz 23 (xdF hc4) <|
zz 30 (xdF hc5) <|
zz 36 (xeF hc6) <|
zz 40 (xeF hc7) <|
zz 45 (xeF hc8) <|
zz 73 (xnT hc9) <|
ee) (by kernel_rfl)
theorem m_Rbareq1_ok (n : Nat) (a0 : Int) (a1 : Int) (a2 : Int) (a3 : Int) (a4 : Int) (a5 : Int) (a6 : NL) (a7 : Int) (r : Bool) (h : m_Rbareq1 n a0 a1 a2 a3 a4 a5 a6 a7 = some r) : Gv P (.func 22) (A_Rbareq1 a0 a1 a2 a3 a4 a5 a6 a7) (H_Rbareq1 a0 a1 a2 a3 a4 a5 a6 a7) (V_Rbareq1 a0 a1 a2 a3 a4 a5 a6 a7 r) (R_Rbareq1 a0 a1 a2 a3 a4 a5 a6 a7 r) := by
 unfold m_Rbareq1 at h
 by_cases hc1 : a1 < (1 : Int)
 ·rw [if_pos hc1] at h
  obtain rfl := oI h; exact p_Rbareq1_0 n a0 a1 a2 a3 a4 a5 a6 a7 hc1
 ·rw [if_neg hc1] at h
  by_cases hc2 : a1 > (6 : Int)
  ·rw [if_pos hc2] at h
   obtain rfl := oI h; exact p_Rbareq1_1 n a0 a1 a2 a3 a4 a5 a6 a7 hc1 hc2
  ·rw [if_neg hc2] at h
   by_cases hc3 : a2 < (0 : Int)
   ·rw [if_pos hc3] at h
    obtain rfl := oI h; exact p_Rbareq1_2 n a0 a1 a2 a3 a4 a5 a6 a7 hc1 hc2 hc3
   ·rw [if_neg hc3] at h
    by_cases hc4 : a2 > a4
    ·rw [if_pos hc4] at h
     obtain rfl := oI h; exact p_Rbareq1_3 n a0 a1 a2 a3 a4 a5 a6 a7 hc1 hc2 hc3 hc4
    ·rw [if_neg hc4] at h
     by_cases hc5 : a5 ≤ a2
     ·rw [if_pos hc5] at h
      obtain rfl := oI h; exact p_Rbareq1_4 n a0 a1 a2 a3 a4 a5 a6 a7 hc1 hc2 hc3 hc4 hc5
     ·rw [if_neg hc5] at h
      by_cases hc6 : a1 = (3 : Int)
      ·rw [if_pos hc6] at h
       by_cases hc7 : a3 < a2
       ·rw [if_pos hc7] at h
        obtain rfl := oI h; exact p_Rbareq1_5 n a0 a1 a2 a3 a4 a5 a6 a7 hc1 hc2 hc3 hc4 hc5 hc6 hc7
       ·rw [if_neg hc7] at h
        by_cases hc8 : a3 > a4
        ·rw [if_pos hc8] at h
         obtain rfl := oI h; exact p_Rbareq1_6 n a0 a1 a2 a3 a4 a5 a6 a7 hc1 hc2 hc3 hc4 hc5 hc6 hc7 hc8
        ·rw [if_neg hc8] at h
         by_cases hc9 : a1 = (4 : Int)
         ·rw [if_pos hc9] at h
          by_cases hc10 : a2 = a4
          ·rw [if_pos hc10] at h
           obtain ⟨c11_, hc11, h⟩ := Option.bind_eq_some_iff.1 h
           by_cases hc12 : c11_ = true
           ·rw [if_pos hc12] at h
            by_cases hc13 : (((a6).l.length : Nat) : Int) = (0 : Int)
            ·rw [if_pos hc13] at h
             obtain rfl := oI h; exact p_Rbareq1_7 n a0 a1 a2 a3 a4 a5 a6 a7 hc1 hc2 hc3 hc4 hc5 hc6 hc7 hc8 hc9 hc10 c11_ hc11 hc12 hc13
            ·rw [if_neg hc13] at h
             obtain rfl := oI h; exact p_Rbareq1_8 n a0 a1 a2 a3 a4 a5 a6 a7 hc1 hc2 hc3 hc4 hc5 hc6 hc7 hc8 hc9 hc10 c11_ hc11 hc12 hc13
           ·rw [if_neg hc12] at h
            obtain rfl := oI h; exact p_Rbareq1_9 n a0 a1 a2 a3 a4 a5 a6 a7 hc1 hc2 hc3 hc4 hc5 hc6 hc7 hc8 hc9 hc10 c11_ hc11 hc12
          ·rw [if_neg hc10] at h
           obtain rfl := oI h; exact p_Rbareq1_10 n a0 a1 a2 a3 a4 a5 a6 a7 hc1 hc2 hc3 hc4 hc5 hc6 hc7 hc8 hc9 hc10
         ·rw [if_neg hc9] at h
          obtain ⟨c10_, hc10, h⟩ := Option.bind_eq_some_iff.1 h
          by_cases hc11 : c10_ = true
          ·rw [if_pos hc11] at h
           by_cases hc12 : (((a6).l.length : Nat) : Int) = (0 : Int)
           ·rw [if_pos hc12] at h
            obtain rfl := oI h; exact p_Rbareq1_11 n a0 a1 a2 a3 a4 a5 a6 a7 hc1 hc2 hc3 hc4 hc5 hc6 hc7 hc8 hc9 c10_ hc10 hc11 hc12
           ·rw [if_neg hc12] at h
            obtain rfl := oI h; exact p_Rbareq1_12 n a0 a1 a2 a3 a4 a5 a6 a7 hc1 hc2 hc3 hc4 hc5 hc6 hc7 hc8 hc9 c10_ hc10 hc11 hc12
          ·rw [if_neg hc11] at h
           obtain rfl := oI h; exact p_Rbareq1_13 n a0 a1 a2 a3 a4 a5 a6 a7 hc1 hc2 hc3 hc4 hc5 hc6 hc7 hc8 hc9 c10_ hc10 hc11
      ·rw [if_neg hc6] at h
       by_cases hc7 : a1 = (5 : Int)
       ·rw [if_pos hc7] at h
        by_cases hc8 : a3 < a2
        ·rw [if_pos hc8] at h
         obtain rfl := oI h; exact p_Rbareq1_14 n a0 a1 a2 a3 a4 a5 a6 a7 hc1 hc2 hc3 hc4 hc5 hc6 hc7 hc8
        ·rw [if_neg hc8] at h
         by_cases hc9 : a3 > a4
         ·rw [if_pos hc9] at h
          obtain rfl := oI h; exact p_Rbareq1_15 n a0 a1 a2 a3 a4 a5 a6 a7 hc1 hc2 hc3 hc4 hc5 hc6 hc7 hc8 hc9
         ·rw [if_neg hc9] at h
          by_cases hc10 : a1 = (4 : Int)
          ·rw [if_pos hc10] at h
           by_cases hc11 : a2 = a4
           ·rw [if_pos hc11] at h
            obtain ⟨c12_, hc12, h⟩ := Option.bind_eq_some_iff.1 h
            by_cases hc13 : c12_ = true
            ·rw [if_pos hc13] at h
             by_cases hc14 : (((a6).l.length : Nat) : Int) = (0 : Int)
             ·rw [if_pos hc14] at h
              obtain rfl := oI h; exact p_Rbareq1_16 n a0 a1 a2 a3 a4 a5 a6 a7 hc1 hc2 hc3 hc4 hc5 hc6 hc7 hc8 hc9 hc10 hc11 c12_ hc12 hc13 hc14
             ·rw [if_neg hc14] at h
              obtain rfl := oI h; exact p_Rbareq1_17 n a0 a1 a2 a3 a4 a5 a6 a7 hc1 hc2 hc3 hc4 hc5 hc6 hc7 hc8 hc9 hc10 hc11 c12_ hc12 hc13 hc14
            ·rw [if_neg hc13] at h
             obtain rfl := oI h; exact p_Rbareq1_18 n a0 a1 a2 a3 a4 a5 a6 a7 hc1 hc2 hc3 hc4 hc5 hc6 hc7 hc8 hc9 hc10 hc11 c12_ hc12 hc13
           ·rw [if_neg hc11] at h
            obtain rfl := oI h; exact p_Rbareq1_19 n a0 a1 a2 a3 a4 a5 a6 a7 hc1 hc2 hc3 hc4 hc5 hc6 hc7 hc8 hc9 hc10 hc11
          ·rw [if_neg hc10] at h
           obtain ⟨c11_, hc11, h⟩ := Option.bind_eq_some_iff.1 h
           by_cases hc12 : c11_ = true
           ·rw [if_pos hc12] at h
            by_cases hc13 : (((a6).l.length : Nat) : Int) = (0 : Int)
            ·rw [if_pos hc13] at h
             obtain rfl := oI h; exact p_Rbareq1_20 n a0 a1 a2 a3 a4 a5 a6 a7 hc1 hc2 hc3 hc4 hc5 hc6 hc7 hc8 hc9 hc10 c11_ hc11 hc12 hc13
            ·rw [if_neg hc13] at h
             obtain rfl := oI h; exact p_Rbareq1_21 n a0 a1 a2 a3 a4 a5 a6 a7 hc1 hc2 hc3 hc4 hc5 hc6 hc7 hc8 hc9 hc10 c11_ hc11 hc12 hc13
           ·rw [if_neg hc12] at h
            obtain rfl := oI h; exact p_Rbareq1_22 n a0 a1 a2 a3 a4 a5 a6 a7 hc1 hc2 hc3 hc4 hc5 hc6 hc7 hc8 hc9 hc10 c11_ hc11 hc12
       ·rw [if_neg hc7] at h
        by_cases hc8 : a1 = (6 : Int)
        ·rw [if_pos hc8] at h
         by_cases hc9 : a3 < a2
         ·rw [if_pos hc9] at h
          obtain rfl := oI h; exact p_Rbareq1_23 n a0 a1 a2 a3 a4 a5 a6 a7 hc1 hc2 hc3 hc4 hc5 hc6 hc7 hc8 hc9
         ·rw [if_neg hc9] at h
          by_cases hc10 : a3 > a4
          ·rw [if_pos hc10] at h
           obtain rfl := oI h; exact p_Rbareq1_24 n a0 a1 a2 a3 a4 a5 a6 a7 hc1 hc2 hc3 hc4 hc5 hc6 hc7 hc8 hc9 hc10
          ·rw [if_neg hc10] at h
           by_cases hc11 : a1 = (4 : Int)
           ·rw [if_pos hc11] at h
            by_cases hc12 : a2 = a4
            ·rw [if_pos hc12] at h
             obtain ⟨c13_, hc13, h⟩ := Option.bind_eq_some_iff.1 h
             by_cases hc14 : c13_ = true
             ·rw [if_pos hc14] at h
              by_cases hc15 : (((a6).l.length : Nat) : Int) = (0 : Int)
              ·rw [if_pos hc15] at h
               obtain rfl := oI h; exact p_Rbareq1_25 n a0 a1 a2 a3 a4 a5 a6 a7 hc1 hc2 hc3 hc4 hc5 hc6 hc7 hc8 hc9 hc10 hc11 hc12 c13_ hc13 hc14 hc15
              ·rw [if_neg hc15] at h
               obtain rfl := oI h; exact p_Rbareq1_26 n a0 a1 a2 a3 a4 a5 a6 a7 hc1 hc2 hc3 hc4 hc5 hc6 hc7 hc8 hc9 hc10 hc11 hc12 c13_ hc13 hc14 hc15
             ·rw [if_neg hc14] at h
              obtain rfl := oI h; exact p_Rbareq1_27 n a0 a1 a2 a3 a4 a5 a6 a7 hc1 hc2 hc3 hc4 hc5 hc6 hc7 hc8 hc9 hc10 hc11 hc12 c13_ hc13 hc14
            ·rw [if_neg hc12] at h
             obtain rfl := oI h; exact p_Rbareq1_28 n a0 a1 a2 a3 a4 a5 a6 a7 hc1 hc2 hc3 hc4 hc5 hc6 hc7 hc8 hc9 hc10 hc11 hc12
           ·rw [if_neg hc11] at h
            obtain ⟨c12_, hc12, h⟩ := Option.bind_eq_some_iff.1 h
            by_cases hc13 : c12_ = true
            ·rw [if_pos hc13] at h
             by_cases hc14 : (((a6).l.length : Nat) : Int) = (0 : Int)
             ·rw [if_pos hc14] at h
              obtain rfl := oI h; exact p_Rbareq1_29 n a0 a1 a2 a3 a4 a5 a6 a7 hc1 hc2 hc3 hc4 hc5 hc6 hc7 hc8 hc9 hc10 hc11 c12_ hc12 hc13 hc14
             ·rw [if_neg hc14] at h
              obtain rfl := oI h; exact p_Rbareq1_30 n a0 a1 a2 a3 a4 a5 a6 a7 hc1 hc2 hc3 hc4 hc5 hc6 hc7 hc8 hc9 hc10 hc11 c12_ hc12 hc13 hc14
            ·rw [if_neg hc13] at h
             obtain rfl := oI h; exact p_Rbareq1_31 n a0 a1 a2 a3 a4 a5 a6 a7 hc1 hc2 hc3 hc4 hc5 hc6 hc7 hc8 hc9 hc10 hc11 c12_ hc12 hc13
        ·rw [if_neg hc8] at h
         by_cases hc9 : a3 = a2
         ·rw [if_pos hc9] at h
          by_cases hc10 : a1 = (4 : Int)
          ·rw [if_pos hc10] at h
           by_cases hc11 : a2 = a4
           ·rw [if_pos hc11] at h
            obtain ⟨c12_, hc12, h⟩ := Option.bind_eq_some_iff.1 h
            by_cases hc13 : c12_ = true
            ·rw [if_pos hc13] at h
             by_cases hc14 : (((a6).l.length : Nat) : Int) = (0 : Int)
             ·rw [if_pos hc14] at h
              obtain rfl := oI h; exact p_Rbareq1_32 n a0 a1 a2 a3 a4 a5 a6 a7 hc1 hc2 hc3 hc4 hc5 hc6 hc7 hc8 hc9 hc10 hc11 c12_ hc12 hc13 hc14
             ·rw [if_neg hc14] at h
              obtain rfl := oI h; exact p_Rbareq1_33 n a0 a1 a2 a3 a4 a5 a6 a7 hc1 hc2 hc3 hc4 hc5 hc6 hc7 hc8 hc9 hc10 hc11 c12_ hc12 hc13 hc14
            ·rw [if_neg hc13] at h
             obtain rfl := oI h; exact p_Rbareq1_34 n a0 a1 a2 a3 a4 a5 a6 a7 hc1 hc2 hc3 hc4 hc5 hc6 hc7 hc8 hc9 hc10 hc11 c12_ hc12 hc13
           ·rw [if_neg hc11] at h
            obtain rfl := oI h; exact p_Rbareq1_35 n a0 a1 a2 a3 a4 a5 a6 a7 hc1 hc2 hc3 hc4 hc5 hc6 hc7 hc8 hc9 hc10 hc11
          ·rw [if_neg hc10] at h
           obtain ⟨c11_, hc11, h⟩ := Option.bind_eq_some_iff.1 h
           by_cases hc12 : c11_ = true
           ·rw [if_pos hc12] at h
            by_cases hc13 : (((a6).l.length : Nat) : Int) = (0 : Int)
            ·rw [if_pos hc13] at h
             obtain rfl := oI h; exact p_Rbareq1_36 n a0 a1 a2 a3 a4 a5 a6 a7 hc1 hc2 hc3 hc4 hc5 hc6 hc7 hc8 hc9 hc10 c11_ hc11 hc12 hc13
            ·rw [if_neg hc13] at h
             obtain rfl := oI h; exact p_Rbareq1_37 n a0 a1 a2 a3 a4 a5 a6 a7 hc1 hc2 hc3 hc4 hc5 hc6 hc7 hc8 hc9 hc10 c11_ hc11 hc12 hc13
           ·rw [if_neg hc12] at h
            obtain rfl := oI h; exact p_Rbareq1_38 n a0 a1 a2 a3 a4 a5 a6 a7 hc1 hc2 hc3 hc4 hc5 hc6 hc7 hc8 hc9 hc10 c11_ hc11 hc12
         ·rw [if_neg hc9] at h
          obtain rfl := oI h; exact p_Rbareq1_39 n a0 a1 a2 a3 a4 a5 a6 a7 hc1 hc2 hc3 hc4 hc5 hc6 hc7 hc8 hc9

noncomputable def A_Rendq1 (a0 : Int) : List Value := [(sW 0 0 (Args.A).length Args.cA), (i6 a0)]
noncomputable def H_Rendq1 (a0 : Int) : AH := ⟨sB [], 0, 0⟩
noncomputable def V_Rendq1 (a0 : Int) (r : Int) : Value := match r with
 | o0 => (i6 o0)
noncomputable def R_Rendq1 (a0 : Int) (r : Int) : AH := match r with
 | o0 => ⟨sB [], 0, 0⟩
noncomputable abbrev G_Rendq1 (a0 : Int) (r : Int) : Prop := Gv P (.func 23) (A_Rendq1 a0) (H_Rendq1 a0) (V_Rendq1 a0 r) (R_Rendq1 a0 r)
noncomputable abbrev C_Rendq1 (a0 : Int) (r : Int) (ins outs : BL) : CallA := ⟨0, ins, V_Rendq1 a0 r, R_Rendq1 a0 r, outs⟩
noncomputable def S_Rendq1_1 (x1_0 : Int) (st : Int × Int × Int) : XSt := match st with
 | (x1_1, x1_2, x1_3) => (sT 68 [(0, (sW 0 0 (Args.A).length Args.cA)), (1, (i6 x1_0)), (5, (i6 x1_1)), (6, (i6 x1_2)), (7, (i6 x1_3))], [], ⟨sB [], 0, 0⟩)
noncomputable def X_Rendq1_1 (x1_0 : Int) (r : (Unit) ⊕ (Int × Int)) : Ex × XSt := match r with
 | .inl _ => (.ret, (sT 68 [(4, (i6 (-1 : Int)))], [], ⟨sB [], 0, 0⟩))
 | .inr (z1_0, z1_1) => (.exit 0, (sT 68 [(0, (sW 0 0 (Args.A).length Args.cA)), (1, (i6 x1_0)), (5, (i6 z1_0)), (6, (i6 z1_1))], [], ⟨sB [], 0, 0⟩))
noncomputable abbrev Q_Rendq1_1 (rnd : Option Nat) (x1_0 : Int) (st : Int × Int × Int) (c : Ex × XSt) : Prop := CG P rnd (fnN P 23) 0 (codeOf P 23 [false, false, true, false, true, true]) (S_Rendq1_1 x1_0 st) c
noncomputable abbrev U_Rendq1_1 (rd : Option Nat) (x1_0 : Int) (st : Int × Int × Int) (r : (Unit) ⊕ (Int × Int)) : Prop := CG P rd (fnN P 23) 0 (codeOf P 23 [false, true, false, true, true]) (S_Rendq1_1 x1_0 st) (X_Rendq1_1 x1_0 r)
def B_Rendq1_1 (rec_Rendq1 : (Int) → Option (Int)) (n : Nat) (x1_0 : Int) (st : Int × Int × Int) : Option ((Int × Int × Int) ⊕ ((Unit) ⊕ (Int × Int))) := match st with
 | (x1_1, x1_2, x1_3) =>
  if 0 ≤ x1_0 ∧ x1_0 < (((Args.A).length : Nat) : Int) then
   ((some ((Args.A).getD (x1_0).toNat (0, 0, 0, 0, 0, 0, nl0, 0)))).bind fun y1_2_ =>
   if x1_3 < ((((y1_2_.2.2.2.2.2.2.1)).l.length : Nat) : Int) then
    if 0 ≤ x1_3 ∧ x1_3 < ((((y1_2_.2.2.2.2.2.2.1)).l.length : Nat) : Int) then
     if (x1_3).toNat < (((y1_2_.2.2.2.2.2.2.1)).l).length then
      ((some ((((y1_2_.2.2.2.2.2.2.1)).l).getD (x1_3).toNat 0))).bind fun y1_6_ =>
      if y1_6_ = x1_1 then
       if x1_1 ≥ (((Args.A).length : Nat) : Int) then
        some (.inr (.inl ()))
       else
        if 0 ≤ x1_1 ∧ x1_1 < (((Args.A).length : Nat) : Int) then
         ((some ((Args.A).getD (x1_1).toNat (0, 0, 0, 0, 0, 0, nl0, 0)))).bind fun y1_10_ =>
         if (y1_10_.2.2.1) < x1_2 then
          some (.inr (.inl ()))
         else
          (rec_Rendq1 x1_1).bind fun y1_12_ =>
          if y1_12_ < (0 : Int) then
           some (.inr (.inl ()))
          else
           some (.inl (y1_12_, (y1_10_.2.2.2.2.1), (w64 (x1_3 + (1 : Int)))))
        else none
      else
       some (.inr (.inl ()))
     else none
    else none
   else
    some (.inr (.inr (x1_1, x1_2)))
  else none
def m_Rendq1_1 (rec_Rendq1 : (Int) → Option (Int)) (n : Nat) (x1_0 : Int) (st : Int × Int × Int) : Option ((Unit) ⊕ (Int × Int)) := iterM (B_Rendq1_1 rec_Rendq1 n x1_0) n st
theorem q_Rendq1_1_0 (rec_Rendq1 : (Int) → Option (Int)) (hrec_Rendq1 : ∀ (a0 : Int) (r : Int), rec_Rendq1 a0 = some r → Gv P (.func 23) (A_Rendq1 a0) (H_Rendq1 a0) (V_Rendq1 a0 r) (R_Rendq1 a0 r)) (n : Nat) {rnd : Option Nat} (x1_0 x1_1 x1_2 x1_3 : Int) (hy1_1 : 0 ≤ x1_0 ∧ x1_0 < (((Args.A).length : Nat) : Int)) (y1_2_ : R8) (hy1_2 : (some ((Args.A).getD (x1_0).toNat (0, 0, 0, 0, 0, 0, nl0, 0))) = some y1_2_) (hy1_3 : x1_3 < ((((y1_2_.2.2.2.2.2.2.1)).l.length : Nat) : Int)) (hy1_4 : 0 ≤ x1_3 ∧ x1_3 < ((((y1_2_.2.2.2.2.2.2.1)).l.length : Nat) : Int)) (hy1_5 : (x1_3).toNat < (((y1_2_.2.2.2.2.2.2.1)).l).length) (y1_6_ : Int) (hy1_6 : (some ((((y1_2_.2.2.2.2.2.2.1)).l).getD (x1_3).toNat 0)) = some y1_6_) (hy1_7 : y1_6_ = x1_1) (hy1_8 : x1_1 ≥ (((Args.A).length : Nat) : Int)) : Q_Rendq1_1 rnd x1_0 (x1_1, x1_2, x1_3) (X_Rendq1_1 x1_0 (.inl ())) :=
 runC2 hm (L := lT []) ⟨[4], [], 0, 0, [], false, []⟩ (zz 5 (xk1 0 Args.cA hy1_1) <|
zz 6 (fk7 ((x1_0).toNat * 8)) <|
zz 7 (lk8 hy1_2 (toNatLt hy1_1)) <|
zz 9 (xdT hy1_3) <|
zz 17 (xk1 0 Args.cA hy1_1) <|
zz 18 (fk7 ((x1_0).toNat * 8)) <|
zz 19 (lk8 hy1_2 (toNatLt hy1_1)) <|
zz 21 (xk9 (Nat.add ((y1_2_.2.2.2.2.2.2.1)).num 64) ((y1_2_.2.2.2.2.2.2.1)).cap hy1_4) <|
zz 22 (nk10 hy1_6 hy1_5) <|
zz 24 (xnF hy1_7) <|
zz 29 (xdT hy1_8) <|
ee) (by kernel_rfl)
theorem q_Rendq1_1_1 (rec_Rendq1 : (Int) → Option (Int)) (hrec_Rendq1 : ∀ (a0 : Int) (r : Int), rec_Rendq1 a0 = some r → Gv P (.func 23) (A_Rendq1 a0) (H_Rendq1 a0) (V_Rendq1 a0 r) (R_Rendq1 a0 r)) (n : Nat) {rnd : Option Nat} (x1_0 x1_1 x1_2 x1_3 : Int) (hy1_1 : 0 ≤ x1_0 ∧ x1_0 < (((Args.A).length : Nat) : Int)) (y1_2_ : R8) (hy1_2 : (some ((Args.A).getD (x1_0).toNat (0, 0, 0, 0, 0, 0, nl0, 0))) = some y1_2_) (hy1_3 : x1_3 < ((((y1_2_.2.2.2.2.2.2.1)).l.length : Nat) : Int)) (hy1_4 : 0 ≤ x1_3 ∧ x1_3 < ((((y1_2_.2.2.2.2.2.2.1)).l.length : Nat) : Int)) (hy1_5 : (x1_3).toNat < (((y1_2_.2.2.2.2.2.2.1)).l).length) (y1_6_ : Int) (hy1_6 : (some ((((y1_2_.2.2.2.2.2.2.1)).l).getD (x1_3).toNat 0)) = some y1_6_) (hy1_7 : y1_6_ = x1_1) (hy1_8 : ¬ (x1_1 ≥ (((Args.A).length : Nat) : Int))) (hy1_9 : 0 ≤ x1_1 ∧ x1_1 < (((Args.A).length : Nat) : Int)) (y1_10_ : R8) (hy1_10 : (some ((Args.A).getD (x1_1).toNat (0, 0, 0, 0, 0, 0, nl0, 0))) = some y1_10_) (hy1_11 : (y1_10_.2.2.1) < x1_2) : Q_Rendq1_1 rnd x1_0 (x1_1, x1_2, x1_3) (X_Rendq1_1 x1_0 (.inl ())) :=
 runC2 hm (L := lT []) ⟨[4], [], 0, 0, [], false, []⟩ (zz 5 (xk1 0 Args.cA hy1_1) <|
zz 6 (fk7 ((x1_0).toNat * 8)) <|
zz 7 (lk8 hy1_2 (toNatLt hy1_1)) <|
zz 9 (xdT hy1_3) <|
zz 17 (xk1 0 Args.cA hy1_1) <|
zz 18 (fk7 ((x1_0).toNat * 8)) <|
zz 19 (lk8 hy1_2 (toNatLt hy1_1)) <|
zz 21 (xk9 (Nat.add ((y1_2_.2.2.2.2.2.2.1)).num 64) ((y1_2_.2.2.2.2.2.2.1)).cap hy1_4) <|
zz 22 (nk10 hy1_6 hy1_5) <|
zz 24 (xnF hy1_7) <|
zz 29 (xdF hy1_8) <|
zz 34 (xk1 0 Args.cA hy1_9) <|
zz 35 (fk5 ((x1_1).toNat * 8)) <|
zz 36 (lk6 hy1_10 (toNatLt hy1_9)) <|
zz 38 (xdT hy1_11) <|
ee) (by kernel_rfl)
theorem q_Rendq1_1_2 (rec_Rendq1 : (Int) → Option (Int)) (hrec_Rendq1 : ∀ (a0 : Int) (r : Int), rec_Rendq1 a0 = some r → Gv P (.func 23) (A_Rendq1 a0) (H_Rendq1 a0) (V_Rendq1 a0 r) (R_Rendq1 a0 r)) (n : Nat) {rnd : Option Nat} (x1_0 x1_1 x1_2 x1_3 : Int) (hy1_1 : 0 ≤ x1_0 ∧ x1_0 < (((Args.A).length : Nat) : Int)) (y1_2_ : R8) (hy1_2 : (some ((Args.A).getD (x1_0).toNat (0, 0, 0, 0, 0, 0, nl0, 0))) = some y1_2_) (hy1_3 : x1_3 < ((((y1_2_.2.2.2.2.2.2.1)).l.length : Nat) : Int)) (hy1_4 : 0 ≤ x1_3 ∧ x1_3 < ((((y1_2_.2.2.2.2.2.2.1)).l.length : Nat) : Int)) (hy1_5 : (x1_3).toNat < (((y1_2_.2.2.2.2.2.2.1)).l).length) (y1_6_ : Int) (hy1_6 : (some ((((y1_2_.2.2.2.2.2.2.1)).l).getD (x1_3).toNat 0)) = some y1_6_) (hy1_7 : y1_6_ = x1_1) (hy1_8 : ¬ (x1_1 ≥ (((Args.A).length : Nat) : Int))) (hy1_9 : 0 ≤ x1_1 ∧ x1_1 < (((Args.A).length : Nat) : Int)) (y1_10_ : R8) (hy1_10 : (some ((Args.A).getD (x1_1).toNat (0, 0, 0, 0, 0, 0, nl0, 0))) = some y1_10_) (hy1_11 : ¬ ((y1_10_.2.2.1) < x1_2)) (y1_12_ : Int) (hy1_12 : rec_Rendq1 x1_1 = some y1_12_) (hy1_13 : y1_12_ < (0 : Int)) : Q_Rendq1_1 rnd x1_0 (x1_1, x1_2, x1_3) (X_Rendq1_1 x1_0 (.inl ())) :=
 runC2 hm (L := lT []) ⟨[4], [], 0, 0, [], false, []⟩ (zz 5 (xk1 0 Args.cA hy1_1) <|
zz 6 (fk7 ((x1_0).toNat * 8)) <|
zz 7 (lk8 hy1_2 (toNatLt hy1_1)) <|
zz 9 (xdT hy1_3) <|
zz 17 (xk1 0 Args.cA hy1_1) <|
zz 18 (fk7 ((x1_0).toNat * 8)) <|
zz 19 (lk8 hy1_2 (toNatLt hy1_1)) <|
zz 21 (xk9 (Nat.add ((y1_2_.2.2.2.2.2.2.1)).num 64) ((y1_2_.2.2.2.2.2.2.1)).cap hy1_4) <|
zz 22 (nk10 hy1_6 hy1_5) <|
zz 24 (xnF hy1_7) <|
zz 29 (xdF hy1_8) <|
zz 34 (xk1 0 Args.cA hy1_9) <|
zz 35 (fk5 ((x1_1).toNat * 8)) <|
zz 36 (lk6 hy1_10 (toNatLt hy1_9)) <|
zz 38 (xdF hy1_11) <|
zz 44 (xk1 0 Args.cA hy1_9) <|
zz 45 (fk11 ((x1_1).toNat * 8)) <|
zz 46 (lk12 hy1_10 (toNatLt hy1_9)) <|
yy 51 (.call (C_Rendq1 x1_1 y1_12_ [] [])) <|
ww (hrec_Rendq1 x1_1 y1_12_ hy1_12) <|
zz 55 (xdT hy1_13) <|
ee) (by kernel_rfl)
theorem q_Rendq1_1_3 (rec_Rendq1 : (Int) → Option (Int)) (hrec_Rendq1 : ∀ (a0 : Int) (r : Int), rec_Rendq1 a0 = some r → Gv P (.func 23) (A_Rendq1 a0) (H_Rendq1 a0) (V_Rendq1 a0 r) (R_Rendq1 a0 r)) (n : Nat) {rnd : Option Nat} (x1_0 x1_1 x1_2 x1_3 : Int) (hy1_1 : 0 ≤ x1_0 ∧ x1_0 < (((Args.A).length : Nat) : Int)) (y1_2_ : R8) (hy1_2 : (some ((Args.A).getD (x1_0).toNat (0, 0, 0, 0, 0, 0, nl0, 0))) = some y1_2_) (hy1_3 : x1_3 < ((((y1_2_.2.2.2.2.2.2.1)).l.length : Nat) : Int)) (hy1_4 : 0 ≤ x1_3 ∧ x1_3 < ((((y1_2_.2.2.2.2.2.2.1)).l.length : Nat) : Int)) (hy1_5 : (x1_3).toNat < (((y1_2_.2.2.2.2.2.2.1)).l).length) (y1_6_ : Int) (hy1_6 : (some ((((y1_2_.2.2.2.2.2.2.1)).l).getD (x1_3).toNat 0)) = some y1_6_) (hy1_7 : y1_6_ = x1_1) (hy1_8 : ¬ (x1_1 ≥ (((Args.A).length : Nat) : Int))) (hy1_9 : 0 ≤ x1_1 ∧ x1_1 < (((Args.A).length : Nat) : Int)) (y1_10_ : R8) (hy1_10 : (some ((Args.A).getD (x1_1).toNat (0, 0, 0, 0, 0, 0, nl0, 0))) = some y1_10_) (hy1_11 : ¬ ((y1_10_.2.2.1) < x1_2)) (y1_12_ : Int) (hy1_12 : rec_Rendq1 x1_1 = some y1_12_) (hy1_13 : ¬ (y1_12_ < (0 : Int))) : Q_Rendq1_1 rnd x1_0 (x1_1, x1_2, x1_3) (.normal, S_Rendq1_1 x1_0 (y1_12_, (y1_10_.2.2.2.2.1), (w64 (x1_3 + (1 : Int))))) :=
 runC2 hm (L := lT []) ⟨[0, 1, 5, 6, 7], [], 0, 0, [], false, []⟩ (zz 5 (xk1 0 Args.cA hy1_1) <|
zz 6 (fk7 ((x1_0).toNat * 8)) <|
zz 7 (lk8 hy1_2 (toNatLt hy1_1)) <|
zz 9 (xdT hy1_3) <|
zz 17 (xk1 0 Args.cA hy1_1) <|
zz 18 (fk7 ((x1_0).toNat * 8)) <|
zz 19 (lk8 hy1_2 (toNatLt hy1_1)) <|
zz 21 (xk9 (Nat.add ((y1_2_.2.2.2.2.2.2.1)).num 64) ((y1_2_.2.2.2.2.2.2.1)).cap hy1_4) <|
zz 22 (nk10 hy1_6 hy1_5) <|
zz 24 (xnF hy1_7) <|
zz 29 (xdF hy1_8) <|
zz 34 (xk1 0 Args.cA hy1_9) <|
zz 35 (fk5 ((x1_1).toNat * 8)) <|
zz 36 (lk6 hy1_10 (toNatLt hy1_9)) <|
zz 38 (xdF hy1_11) <|
zz 44 (xk1 0 Args.cA hy1_9) <|
zz 45 (fk11 ((x1_1).toNat * 8)) <|
zz 46 (lk12 hy1_10 (toNatLt hy1_9)) <|
yy 51 (.call (C_Rendq1 x1_1 y1_12_ [] [])) <|
ww (hrec_Rendq1 x1_1 y1_12_ hy1_12) <|
zz 55 (xdF hy1_13) <|
ee) (by kernel_rfl)
theorem q_Rendq1_1_4 (rec_Rendq1 : (Int) → Option (Int)) (hrec_Rendq1 : ∀ (a0 : Int) (r : Int), rec_Rendq1 a0 = some r → Gv P (.func 23) (A_Rendq1 a0) (H_Rendq1 a0) (V_Rendq1 a0 r) (R_Rendq1 a0 r)) (n : Nat) {rnd : Option Nat} (x1_0 x1_1 x1_2 x1_3 : Int) (hy1_1 : 0 ≤ x1_0 ∧ x1_0 < (((Args.A).length : Nat) : Int)) (y1_2_ : R8) (hy1_2 : (some ((Args.A).getD (x1_0).toNat (0, 0, 0, 0, 0, 0, nl0, 0))) = some y1_2_) (hy1_3 : x1_3 < ((((y1_2_.2.2.2.2.2.2.1)).l.length : Nat) : Int)) (hy1_4 : 0 ≤ x1_3 ∧ x1_3 < ((((y1_2_.2.2.2.2.2.2.1)).l.length : Nat) : Int)) (hy1_5 : (x1_3).toNat < (((y1_2_.2.2.2.2.2.2.1)).l).length) (y1_6_ : Int) (hy1_6 : (some ((((y1_2_.2.2.2.2.2.2.1)).l).getD (x1_3).toNat 0)) = some y1_6_) (hy1_7 : ¬ (y1_6_ = x1_1)) : Q_Rendq1_1 rnd x1_0 (x1_1, x1_2, x1_3) (X_Rendq1_1 x1_0 (.inl ())) :=
 runC2 hm (L := lT []) ⟨[4], [], 0, 0, [], false, []⟩ (zz 5 (xk1 0 Args.cA hy1_1) <|
zz 6 (fk7 ((x1_0).toNat * 8)) <|
zz 7 (lk8 hy1_2 (toNatLt hy1_1)) <|
zz 9 (xdT hy1_3) <|
zz 17 (xk1 0 Args.cA hy1_1) <|
zz 18 (fk7 ((x1_0).toNat * 8)) <|
zz 19 (lk8 hy1_2 (toNatLt hy1_1)) <|
zz 21 (xk9 (Nat.add ((y1_2_.2.2.2.2.2.2.1)).num 64) ((y1_2_.2.2.2.2.2.2.1)).cap hy1_4) <|
zz 22 (nk10 hy1_6 hy1_5) <|
zz 24 (xnT hy1_7) <|
ee) (by kernel_rfl)
theorem q_Rendq1_1_5 (rec_Rendq1 : (Int) → Option (Int)) (hrec_Rendq1 : ∀ (a0 : Int) (r : Int), rec_Rendq1 a0 = some r → Gv P (.func 23) (A_Rendq1 a0) (H_Rendq1 a0) (V_Rendq1 a0 r) (R_Rendq1 a0 r)) (n : Nat) {rnd : Option Nat} (x1_0 x1_1 x1_2 x1_3 : Int) (hy1_1 : 0 ≤ x1_0 ∧ x1_0 < (((Args.A).length : Nat) : Int)) (y1_2_ : R8) (hy1_2 : (some ((Args.A).getD (x1_0).toNat (0, 0, 0, 0, 0, 0, nl0, 0))) = some y1_2_) (hy1_3 : ¬ (x1_3 < ((((y1_2_.2.2.2.2.2.2.1)).l.length : Nat) : Int))) : Q_Rendq1_1 rnd x1_0 (x1_1, x1_2, x1_3) (X_Rendq1_1 x1_0 (.inr (x1_1, x1_2))) :=
 runC2 hm (L := lT []) ⟨[0, 1, 5, 6], [], 0, 0, [], false, []⟩ (zz 5 (xk1 0 Args.cA hy1_1) <|
zz 6 (fk7 ((x1_0).toNat * 8)) <|
zz 7 (lk8 hy1_2 (toNatLt hy1_1)) <|
zz 9 (xdF hy1_3) <|
ee) (by kernel_rfl)
theorem m_Rendq1_1_ok (rec_Rendq1 : (Int) → Option (Int)) (hrec_Rendq1 : ∀ (a0 : Int) (r : Int), rec_Rendq1 a0 = some r → Gv P (.func 23) (A_Rendq1 a0) (H_Rendq1 a0) (V_Rendq1 a0 r) (R_Rendq1 a0 r)) (n : Nat) {rnd : Option Nat} (x1_0 : Int) (st : Int × Int × Int) (r : (Unit) ⊕ (Int × Int)) (h : m_Rendq1_1 rec_Rendq1 n x1_0 st = some r) : CG P rnd (fnN P 23) 0 (codeOf P 23 [false, true, false, true, true]) (S_Rendq1_1 x1_0 st) (X_Rendq1_1 x1_0 r) :=
 CG.iter (b := codeOf P 23 [false, false, true, false, true, true]) (by kernel_rfl) (body := B_Rendq1_1 rec_Rendq1 n x1_0) (S := S_Rendq1_1 x1_0) (X := X_Rendq1_1 x1_0)
  (fun s s' h => by
  obtain ⟨x1_1, x1_2, x1_3⟩ := s
  unfold B_Rendq1_1 at h
  dsimp only at h
  by_cases hy1_1 : 0 ≤ x1_0 ∧ x1_0 < (((Args.A).length : Nat) : Int)
  ·rw [if_pos hy1_1] at h
   obtain ⟨y1_2_, hy1_2, h⟩ := Option.bind_eq_some_iff.1 h
   by_cases hy1_3 : x1_3 < ((((y1_2_.2.2.2.2.2.2.1)).l.length : Nat) : Int)
   ·rw [if_pos hy1_3] at h
    by_cases hy1_4 : 0 ≤ x1_3 ∧ x1_3 < ((((y1_2_.2.2.2.2.2.2.1)).l.length : Nat) : Int)
    ·rw [if_pos hy1_4] at h
     by_cases hy1_5 : (x1_3).toNat < (((y1_2_.2.2.2.2.2.2.1)).l).length
     ·rw [if_pos hy1_5] at h
      obtain ⟨y1_6_, hy1_6, h⟩ := Option.bind_eq_some_iff.1 h
      by_cases hy1_7 : y1_6_ = x1_1
      ·rw [if_pos hy1_7] at h
       by_cases hy1_8 : x1_1 ≥ (((Args.A).length : Nat) : Int)
       ·rw [if_pos hy1_8] at h
        cases h
       ·rw [if_neg hy1_8] at h
        by_cases hy1_9 : 0 ≤ x1_1 ∧ x1_1 < (((Args.A).length : Nat) : Int)
        ·rw [if_pos hy1_9] at h
         obtain ⟨y1_10_, hy1_10, h⟩ := Option.bind_eq_some_iff.1 h
         by_cases hy1_11 : (y1_10_.2.2.1) < x1_2
         ·rw [if_pos hy1_11] at h
          cases h
         ·rw [if_neg hy1_11] at h
          obtain ⟨y1_12_, hy1_12, h⟩ := Option.bind_eq_some_iff.1 h
          by_cases hy1_13 : y1_12_ < (0 : Int)
          ·rw [if_pos hy1_13] at h
           cases h
          ·rw [if_neg hy1_13] at h
           obtain rfl := Sum.inl.inj (oI h); exact q_Rendq1_1_3 rec_Rendq1 hrec_Rendq1 n x1_0 x1_1 x1_2 x1_3 hy1_1 y1_2_ hy1_2 hy1_3 hy1_4 hy1_5 y1_6_ hy1_6 hy1_7 hy1_8 hy1_9 y1_10_ hy1_10 hy1_11 y1_12_ hy1_12 hy1_13
        ·rw [if_neg hy1_9] at h; cases h
      ·rw [if_neg hy1_7] at h
       cases h
     ·rw [if_neg hy1_5] at h; cases h
    ·rw [if_neg hy1_4] at h; cases h
   ·rw [if_neg hy1_3] at h
    cases h
  ·rw [if_neg hy1_1] at h; cases h)
  (fun s r h => by
  obtain ⟨x1_1, x1_2, x1_3⟩ := s
  unfold B_Rendq1_1 at h
  dsimp only at h
  by_cases hy1_1 : 0 ≤ x1_0 ∧ x1_0 < (((Args.A).length : Nat) : Int)
  ·rw [if_pos hy1_1] at h
   obtain ⟨y1_2_, hy1_2, h⟩ := Option.bind_eq_some_iff.1 h
   by_cases hy1_3 : x1_3 < ((((y1_2_.2.2.2.2.2.2.1)).l.length : Nat) : Int)
   ·rw [if_pos hy1_3] at h
    by_cases hy1_4 : 0 ≤ x1_3 ∧ x1_3 < ((((y1_2_.2.2.2.2.2.2.1)).l.length : Nat) : Int)
    ·rw [if_pos hy1_4] at h
     by_cases hy1_5 : (x1_3).toNat < (((y1_2_.2.2.2.2.2.2.1)).l).length
     ·rw [if_pos hy1_5] at h
      obtain ⟨y1_6_, hy1_6, h⟩ := Option.bind_eq_some_iff.1 h
      by_cases hy1_7 : y1_6_ = x1_1
      ·rw [if_pos hy1_7] at h
       by_cases hy1_8 : x1_1 ≥ (((Args.A).length : Nat) : Int)
       ·rw [if_pos hy1_8] at h
        obtain rfl := Sum.inr.inj (oI h); exact q_Rendq1_1_0 rec_Rendq1 hrec_Rendq1 n x1_0 x1_1 x1_2 x1_3 hy1_1 y1_2_ hy1_2 hy1_3 hy1_4 hy1_5 y1_6_ hy1_6 hy1_7 hy1_8
       ·rw [if_neg hy1_8] at h
        by_cases hy1_9 : 0 ≤ x1_1 ∧ x1_1 < (((Args.A).length : Nat) : Int)
        ·rw [if_pos hy1_9] at h
         obtain ⟨y1_10_, hy1_10, h⟩ := Option.bind_eq_some_iff.1 h
         by_cases hy1_11 : (y1_10_.2.2.1) < x1_2
         ·rw [if_pos hy1_11] at h
          obtain rfl := Sum.inr.inj (oI h); exact q_Rendq1_1_1 rec_Rendq1 hrec_Rendq1 n x1_0 x1_1 x1_2 x1_3 hy1_1 y1_2_ hy1_2 hy1_3 hy1_4 hy1_5 y1_6_ hy1_6 hy1_7 hy1_8 hy1_9 y1_10_ hy1_10 hy1_11
         ·rw [if_neg hy1_11] at h
          obtain ⟨y1_12_, hy1_12, h⟩ := Option.bind_eq_some_iff.1 h
          by_cases hy1_13 : y1_12_ < (0 : Int)
          ·rw [if_pos hy1_13] at h
           obtain rfl := Sum.inr.inj (oI h); exact q_Rendq1_1_2 rec_Rendq1 hrec_Rendq1 n x1_0 x1_1 x1_2 x1_3 hy1_1 y1_2_ hy1_2 hy1_3 hy1_4 hy1_5 y1_6_ hy1_6 hy1_7 hy1_8 hy1_9 y1_10_ hy1_10 hy1_11 y1_12_ hy1_12 hy1_13
          ·rw [if_neg hy1_13] at h
           cases h
        ·rw [if_neg hy1_9] at h; cases h
      ·rw [if_neg hy1_7] at h
       obtain rfl := Sum.inr.inj (oI h); exact q_Rendq1_1_4 rec_Rendq1 hrec_Rendq1 n x1_0 x1_1 x1_2 x1_3 hy1_1 y1_2_ hy1_2 hy1_3 hy1_4 hy1_5 y1_6_ hy1_6 hy1_7
     ·rw [if_neg hy1_5] at h; cases h
    ·rw [if_neg hy1_4] at h; cases h
   ·rw [if_neg hy1_3] at h
    obtain rfl := Sum.inr.inj (oI h); exact q_Rendq1_1_5 rec_Rendq1 hrec_Rendq1 n x1_0 x1_1 x1_2 x1_3 hy1_1 y1_2_ hy1_2 hy1_3
  ·rw [if_neg hy1_1] at h; cases h)
  (fun r => by intro hx; rcases r with _ | _ <;> cases hx) h
def s_Rendq1 (rec_Rendq1 : (Int) → Option (Int)) (n : Nat) (a0 : Int) : Option (Int) :=
 if 0 ≤ a0 ∧ a0 < (((Args.A).length : Nat) : Int) then
  ((some ((Args.A).getD (a0).toNat (0, 0, 0, 0, 0, 0, nl0, 0)))).bind fun c2_ =>
  match m_Rendq1_1 rec_Rendq1 n a0 ((w64 (a0 + (1 : Int))), (c2_.2.2.1), 0) with
  | none => none
  | some (.inl _) =>
   some (-1)
  | some (.inr (c3_0, c3_1)) =>
   if c3_1 > (c2_.2.2.2.2.1) then
    some (-1)
   else
    some c3_0
 else none
theorem p_Rendq1_0 (rec_Rendq1 : (Int) → Option (Int)) (hrec_Rendq1 : ∀ (a0 : Int) (r : Int), rec_Rendq1 a0 = some r → Gv P (.func 23) (A_Rendq1 a0) (H_Rendq1 a0) (V_Rendq1 a0 r) (R_Rendq1 a0 r)) (n : Nat) (a0 : Int) (hc1 : 0 ≤ a0 ∧ a0 < (((Args.A).length : Nat) : Int)) (c2_ : R8) (hc2 : (some ((Args.A).getD (a0).toNat (0, 0, 0, 0, 0, 0, nl0, 0))) = some c2_) (hc3 : m_Rendq1_1 rec_Rendq1 n a0 ((w64 (a0 + (1 : Int))), (c2_.2.2.1), 0) = some (.inl ())) : G_Rendq1 a0 (-1) :=
 runF2 hm (L := lT [(16, ⟨⟨[0, 1, 5, 6, 7], [], 0, 0, [], false, []⟩, (X_Rendq1_1 a0 (.inl ())).1, (X_Rendq1_1 a0 (.inl ())).2⟩)]) ⟨[4], [], 0, 0, [], false, []⟩ (zz 7 (xk1 0 Args.cA hc1) <|
zz 8 (fk5 ((a0).toNat * 8)) <|
zz 9 (lk6 hc2 (toNatLt hc1)) <|
ww (p := U_Rendq1_1 none a0 ((w64 (a0 + (1 : Int))), (c2_.2.2.1), 0) (.inl ())) (m_Rendq1_1_ok rec_Rendq1 hrec_Rendq1 n a0 ((w64 (a0 + (1 : Int))), (c2_.2.2.1), 0) (.inl ()) hc3) <|
ee) (by kernel_rfl)
theorem p_Rendq1_1 (rec_Rendq1 : (Int) → Option (Int)) (hrec_Rendq1 : ∀ (a0 : Int) (r : Int), rec_Rendq1 a0 = some r → Gv P (.func 23) (A_Rendq1 a0) (H_Rendq1 a0) (V_Rendq1 a0 r) (R_Rendq1 a0 r)) (n : Nat) (a0 : Int) (hc1 : 0 ≤ a0 ∧ a0 < (((Args.A).length : Nat) : Int)) (c2_ : R8) (hc2 : (some ((Args.A).getD (a0).toNat (0, 0, 0, 0, 0, 0, nl0, 0))) = some c2_) (c3_0 c3_1 : Int) (hc3 : m_Rendq1_1 rec_Rendq1 n a0 ((w64 (a0 + (1 : Int))), (c2_.2.2.1), 0) = some (.inr (c3_0, c3_1))) (hc4 : c3_1 > (c2_.2.2.2.2.1)) : G_Rendq1 a0 (-1) :=
 runF2 hm (L := lT [(16, ⟨⟨[0, 1, 5, 6, 7], [], 0, 0, [], false, []⟩, (X_Rendq1_1 a0 (.inr (c3_0, c3_1))).1, (X_Rendq1_1 a0 (.inr (c3_0, c3_1))).2⟩)]) ⟨[4], [], 0, 0, [], false, []⟩ (zz 7 (xk1 0 Args.cA hc1) <|
zz 8 (fk5 ((a0).toNat * 8)) <|
zz 9 (lk6 hc2 (toNatLt hc1)) <|
ww (p := U_Rendq1_1 none a0 ((w64 (a0 + (1 : Int))), (c2_.2.2.1), 0) (.inr (c3_0, c3_1))) (m_Rendq1_1_ok rec_Rendq1 hrec_Rendq1 n a0 ((w64 (a0 + (1 : Int))), (c2_.2.2.1), 0) (.inr (c3_0, c3_1)) hc3) <|
zz 22 (xk1 0 Args.cA hc1) <|
zz 23 (fk11 ((a0).toNat * 8)) <|
zz 24 (lk12 hc2 (toNatLt hc1)) <|
zz 25 (xdT hc4) <|
ee) (by kernel_rfl)
theorem p_Rendq1_2 (rec_Rendq1 : (Int) → Option (Int)) (hrec_Rendq1 : ∀ (a0 : Int) (r : Int), rec_Rendq1 a0 = some r → Gv P (.func 23) (A_Rendq1 a0) (H_Rendq1 a0) (V_Rendq1 a0 r) (R_Rendq1 a0 r)) (n : Nat) (a0 : Int) (hc1 : 0 ≤ a0 ∧ a0 < (((Args.A).length : Nat) : Int)) (c2_ : R8) (hc2 : (some ((Args.A).getD (a0).toNat (0, 0, 0, 0, 0, 0, nl0, 0))) = some c2_) (c3_0 c3_1 : Int) (hc3 : m_Rendq1_1 rec_Rendq1 n a0 ((w64 (a0 + (1 : Int))), (c2_.2.2.1), 0) = some (.inr (c3_0, c3_1))) (hc4 : ¬ (c3_1 > (c2_.2.2.2.2.1))) : G_Rendq1 a0 c3_0 :=
 runF2 hm (L := lT [(16, ⟨⟨[0, 1, 5, 6, 7], [], 0, 0, [], false, []⟩, (X_Rendq1_1 a0 (.inr (c3_0, c3_1))).1, (X_Rendq1_1 a0 (.inr (c3_0, c3_1))).2⟩)]) ⟨[4], [], 0, 0, [], false, []⟩ (zz 7 (xk1 0 Args.cA hc1) <|
zz 8 (fk5 ((a0).toNat * 8)) <|
zz 9 (lk6 hc2 (toNatLt hc1)) <|
ww (p := U_Rendq1_1 none a0 ((w64 (a0 + (1 : Int))), (c2_.2.2.1), 0) (.inr (c3_0, c3_1))) (m_Rendq1_1_ok rec_Rendq1 hrec_Rendq1 n a0 ((w64 (a0 + (1 : Int))), (c2_.2.2.1), 0) (.inr (c3_0, c3_1)) hc3) <|
zz 22 (xk1 0 Args.cA hc1) <|
zz 23 (fk11 ((a0).toNat * 8)) <|
zz 24 (lk12 hc2 (toNatLt hc1)) <|
zz 25 (xdF hc4) <|
ee) (by kernel_rfl)
theorem s_Rendq1_ok (rec_Rendq1 : (Int) → Option (Int)) (hrec_Rendq1 : ∀ (a0 : Int) (r : Int), rec_Rendq1 a0 = some r → Gv P (.func 23) (A_Rendq1 a0) (H_Rendq1 a0) (V_Rendq1 a0 r) (R_Rendq1 a0 r)) (n : Nat) (a0 : Int) (r : Int) (h : s_Rendq1 rec_Rendq1 n a0 = some r) : Gv P (.func 23) (A_Rendq1 a0) (H_Rendq1 a0) (V_Rendq1 a0 r) (R_Rendq1 a0 r) := by
 unfold s_Rendq1 at h
 by_cases hc1 : 0 ≤ a0 ∧ a0 < (((Args.A).length : Nat) : Int)
 ·rw [if_pos hc1] at h
  obtain ⟨c2_, hc2, h⟩ := Option.bind_eq_some_iff.1 h
  rcases hc3 : m_Rendq1_1 rec_Rendq1 n a0 ((w64 (a0 + (1 : Int))), (c2_.2.2.1), 0) with _ | (⟨⟩ | ⟨c3_0, c3_1⟩)
  ·rw [hc3] at h; cases h
  ·rw [hc3] at h
   dsimp only at h
   obtain rfl := oI h; exact p_Rendq1_0 rec_Rendq1 hrec_Rendq1 n a0 hc1 c2_ hc2 hc3
  ·rw [hc3] at h
   dsimp only at h
   by_cases hc4 : c3_1 > (c2_.2.2.2.2.1)
   ·rw [if_pos hc4] at h
    obtain rfl := oI h; exact p_Rendq1_1 rec_Rendq1 hrec_Rendq1 n a0 hc1 c2_ hc2 c3_0 c3_1 hc3 hc4
   ·rw [if_neg hc4] at h
    obtain rfl := oI h; exact p_Rendq1_2 rec_Rendq1 hrec_Rendq1 n a0 hc1 c2_ hc2 c3_0 c3_1 hc3 hc4
 ·rw [if_neg hc1] at h; cases h
def m_Rendq1 : Nat → (Int) → Option (Int)
 | 0 => fun _ => none
 | n + 1 => fun a0 => s_Rendq1 (m_Rendq1 n) n a0
theorem m_Rendq1_ok : ∀ (n : Nat) (a0 : Int) (r : Int) (h : m_Rendq1 n a0 = some r), Gv P (.func 23) (A_Rendq1 a0) (H_Rendq1 a0) (V_Rendq1 a0 r) (R_Rendq1 a0 r)
 | 0, _, _, h => nomatch h
 | n + 1, a0, r, h => s_Rendq1_ok (m_Rendq1 n) (m_Rendq1_ok n) n a0 r h

noncomputable def A_RCheckq1 : List Value := [(sW 0 0 (Args.A).length Args.cA)]
noncomputable def H_RCheckq1 : AH := ⟨sB [], 0, 0⟩
noncomputable def V_RCheckq1 (r : Int) : Value := match r with
 | o0 => (i6 o0)
noncomputable def R_RCheckq1 (r : Int) : AH := match r with
 | o0 => ⟨sB [], 0, 0⟩
noncomputable abbrev G_RCheckq1 (r : Int) : Prop := Gv P (.func 8) A_RCheckq1 H_RCheckq1 (V_RCheckq1  r) (R_RCheckq1  r)
noncomputable abbrev C_RCheckq1 (r : Int) (ins outs : BL) : CallA := ⟨0, ins, V_RCheckq1  r, R_RCheckq1  r, outs⟩
noncomputable def S_RCheckq1_1 (st : Int) : XSt := match st with
 | x1_0 => (sT 41 [(0, (sW 0 0 (Args.A).length Args.cA)), (3, (i6 x1_0))], [], ⟨sB [], 0, 0⟩)
noncomputable def X_RCheckq1_1 (r : (Unit) ⊕ (Unit)) : Ex × XSt := match r with
 | .inl _ => (.ret, (sT 41 [(2, (i6 (2 : Int)))], [], ⟨sB [], 0, 0⟩))
 | .inr _ => (.exit 0, (sT 41 [(0, (sW 0 0 (Args.A).length Args.cA))], [], ⟨sB [], 0, 0⟩))
noncomputable abbrev Q_RCheckq1_1 (rnd : Option Nat) (st : Int) (c : Ex × XSt) : Prop := CG P rnd (fnN P 8) 0 (codeOf P 8 [false, false, true, false, true, true]) (S_RCheckq1_1 st) c
noncomputable abbrev U_RCheckq1_1 (rd : Option Nat) (st : Int) (r : (Unit) ⊕ (Unit)) : Prop := CG P rd (fnN P 8) 0 (codeOf P 8 [false, true, false, true, true]) (S_RCheckq1_1 st) (X_RCheckq1_1 r)
def B_RCheckq1_1 (n : Nat) (st : Int) : Option ((Int) ⊕ ((Unit) ⊕ (Unit))) := match st with
 | x1_0 =>
  if x1_0 < (((Args.A).length : Nat) : Int) then
   if 0 ≤ x1_0 ∧ x1_0 < (((Args.A).length : Nat) : Int) then
    ((some ((Args.A).getD (x1_0).toNat (0, 0, 0, 0, 0, 0, nl0, 0)))).bind fun y1_3_ =>
    (m_Rbareq1 n (y1_3_.1) (y1_3_.2.1) (y1_3_.2.2.1) (y1_3_.2.2.2.1) (y1_3_.2.2.2.2.1) (y1_3_.2.2.2.2.2.1) (y1_3_.2.2.2.2.2.2.1) (y1_3_.2.2.2.2.2.2.2)).bind fun y1_4_ =>
    if y1_4_ = true then
     if x1_0 > (0 : Int) then
      if (y1_3_.2.1) = (1 : Int) then
       some (.inr (.inl ()))
      else
       some (.inl (w64 (x1_0 + (1 : Int))))
     else
      some (.inl (w64 (x1_0 + (1 : Int))))
    else
     some (.inr (.inl ()))
   else none
  else
   some (.inr (.inr ()))
def m_RCheckq1_1 (n : Nat) (st : Int) : Option ((Unit) ⊕ (Unit)) := iterM (B_RCheckq1_1 n) n st
theorem q_RCheckq1_1_0 (n : Nat) {rnd : Option Nat} (x1_0 : Int) (hy1_1 : x1_0 < (((Args.A).length : Nat) : Int)) (hy1_2 : 0 ≤ x1_0 ∧ x1_0 < (((Args.A).length : Nat) : Int)) (y1_3_ : R8) (hy1_3 : (some ((Args.A).getD (x1_0).toNat (0, 0, 0, 0, 0, 0, nl0, 0))) = some y1_3_) (y1_4_ : Bool) (hy1_4 : m_Rbareq1 n (y1_3_.1) (y1_3_.2.1) (y1_3_.2.2.1) (y1_3_.2.2.2.1) (y1_3_.2.2.2.2.1) (y1_3_.2.2.2.2.2.1) (y1_3_.2.2.2.2.2.2.1) (y1_3_.2.2.2.2.2.2.2) = some y1_4_) (hy1_5 : y1_4_ = true) (hy1_6 : x1_0 > (0 : Int)) (hy1_7 : (y1_3_.2.1) = (1 : Int)) : Q_RCheckq1_1 rnd x1_0 (X_RCheckq1_1 (.inl ())) :=
 runC2 hm (L := lT []) ⟨[2], [], 0, 0, [], false, []⟩ (zz 5 (xdT hy1_1) <|
zz 12 (xk1 0 Args.cA hy1_2) <|
zz 13 (lk2 hy1_3 (toNatLt hy1_2)) <|
yy 14 (.call (C_Rbareq1 (y1_3_.1) (y1_3_.2.1) (y1_3_.2.2.1) (y1_3_.2.2.2.1) (y1_3_.2.2.2.2.1) (y1_3_.2.2.2.2.2.1) (y1_3_.2.2.2.2.2.2.1) (y1_3_.2.2.2.2.2.2.2) y1_4_ [] [])) <|
ww (m_Rbareq1_ok n (y1_3_.1) (y1_3_.2.1) (y1_3_.2.2.1) (y1_3_.2.2.2.1) (y1_3_.2.2.2.2.1) (y1_3_.2.2.2.2.2.1) (y1_3_.2.2.2.2.2.2.1) (y1_3_.2.2.2.2.2.2.2) y1_4_ hy1_4) <|
yy 15 (vf) <|
ww (p := (Value.bool (!y1_4_)) = (Value.bool false)) (vBn hy1_5) <|
zz 18 (xdT hy1_6) <|
zz 22 (xk1 0 Args.cA hy1_2) <|
zz 23 (fk3 ((x1_0).toNat * 8)) <|
zz 24 (lk4 hy1_3 (toNatLt hy1_2)) <|
zz 25 (xeT hy1_7) <|
ee) (by kernel_rfl)
theorem q_RCheckq1_1_1 (n : Nat) {rnd : Option Nat} (x1_0 : Int) (hy1_1 : x1_0 < (((Args.A).length : Nat) : Int)) (hy1_2 : 0 ≤ x1_0 ∧ x1_0 < (((Args.A).length : Nat) : Int)) (y1_3_ : R8) (hy1_3 : (some ((Args.A).getD (x1_0).toNat (0, 0, 0, 0, 0, 0, nl0, 0))) = some y1_3_) (y1_4_ : Bool) (hy1_4 : m_Rbareq1 n (y1_3_.1) (y1_3_.2.1) (y1_3_.2.2.1) (y1_3_.2.2.2.1) (y1_3_.2.2.2.2.1) (y1_3_.2.2.2.2.2.1) (y1_3_.2.2.2.2.2.2.1) (y1_3_.2.2.2.2.2.2.2) = some y1_4_) (hy1_5 : y1_4_ = true) (hy1_6 : x1_0 > (0 : Int)) (hy1_7 : ¬ ((y1_3_.2.1) = (1 : Int))) : Q_RCheckq1_1 rnd x1_0 (.normal, S_RCheckq1_1 (w64 (x1_0 + (1 : Int)))) :=
 runC2 hm (L := lT []) ⟨[0, 3], [], 0, 0, [], false, []⟩ (zz 5 (xdT hy1_1) <|
zz 12 (xk1 0 Args.cA hy1_2) <|
zz 13 (lk2 hy1_3 (toNatLt hy1_2)) <|
yy 14 (.call (C_Rbareq1 (y1_3_.1) (y1_3_.2.1) (y1_3_.2.2.1) (y1_3_.2.2.2.1) (y1_3_.2.2.2.2.1) (y1_3_.2.2.2.2.2.1) (y1_3_.2.2.2.2.2.2.1) (y1_3_.2.2.2.2.2.2.2) y1_4_ [] [])) <|
ww (m_Rbareq1_ok n (y1_3_.1) (y1_3_.2.1) (y1_3_.2.2.1) (y1_3_.2.2.2.1) (y1_3_.2.2.2.2.1) (y1_3_.2.2.2.2.2.1) (y1_3_.2.2.2.2.2.2.1) (y1_3_.2.2.2.2.2.2.2) y1_4_ hy1_4) <|
yy 15 (vf) <|
ww (p := (Value.bool (!y1_4_)) = (Value.bool false)) (vBn hy1_5) <|
zz 18 (xdT hy1_6) <|
zz 22 (xk1 0 Args.cA hy1_2) <|
zz 23 (fk3 ((x1_0).toNat * 8)) <|
zz 24 (lk4 hy1_3 (toNatLt hy1_2)) <|
zz 25 (xeF hy1_7) <|
ee) (by kernel_rfl)
theorem q_RCheckq1_1_2 (n : Nat) {rnd : Option Nat} (x1_0 : Int) (hy1_1 : x1_0 < (((Args.A).length : Nat) : Int)) (hy1_2 : 0 ≤ x1_0 ∧ x1_0 < (((Args.A).length : Nat) : Int)) (y1_3_ : R8) (hy1_3 : (some ((Args.A).getD (x1_0).toNat (0, 0, 0, 0, 0, 0, nl0, 0))) = some y1_3_) (y1_4_ : Bool) (hy1_4 : m_Rbareq1 n (y1_3_.1) (y1_3_.2.1) (y1_3_.2.2.1) (y1_3_.2.2.2.1) (y1_3_.2.2.2.2.1) (y1_3_.2.2.2.2.2.1) (y1_3_.2.2.2.2.2.2.1) (y1_3_.2.2.2.2.2.2.2) = some y1_4_) (hy1_5 : y1_4_ = true) (hy1_6 : ¬ (x1_0 > (0 : Int))) : Q_RCheckq1_1 rnd x1_0 (.normal, S_RCheckq1_1 (w64 (x1_0 + (1 : Int)))) :=
 runC2 hm (L := lT []) ⟨[0, 3], [], 0, 0, [], false, []⟩ (zz 5 (xdT hy1_1) <|
zz 12 (xk1 0 Args.cA hy1_2) <|
zz 13 (lk2 hy1_3 (toNatLt hy1_2)) <|
yy 14 (.call (C_Rbareq1 (y1_3_.1) (y1_3_.2.1) (y1_3_.2.2.1) (y1_3_.2.2.2.1) (y1_3_.2.2.2.2.1) (y1_3_.2.2.2.2.2.1) (y1_3_.2.2.2.2.2.2.1) (y1_3_.2.2.2.2.2.2.2) y1_4_ [] [])) <|
ww (m_Rbareq1_ok n (y1_3_.1) (y1_3_.2.1) (y1_3_.2.2.1) (y1_3_.2.2.2.1) (y1_3_.2.2.2.2.1) (y1_3_.2.2.2.2.2.1) (y1_3_.2.2.2.2.2.2.1) (y1_3_.2.2.2.2.2.2.2) y1_4_ hy1_4) <|
yy 15 (vf) <|
ww (p := (Value.bool (!y1_4_)) = (Value.bool false)) (vBn hy1_5) <|
zz 18 (xdF hy1_6) <|
ee) (by kernel_rfl)
theorem q_RCheckq1_1_3 (n : Nat) {rnd : Option Nat} (x1_0 : Int) (hy1_1 : x1_0 < (((Args.A).length : Nat) : Int)) (hy1_2 : 0 ≤ x1_0 ∧ x1_0 < (((Args.A).length : Nat) : Int)) (y1_3_ : R8) (hy1_3 : (some ((Args.A).getD (x1_0).toNat (0, 0, 0, 0, 0, 0, nl0, 0))) = some y1_3_) (y1_4_ : Bool) (hy1_4 : m_Rbareq1 n (y1_3_.1) (y1_3_.2.1) (y1_3_.2.2.1) (y1_3_.2.2.2.1) (y1_3_.2.2.2.2.1) (y1_3_.2.2.2.2.2.1) (y1_3_.2.2.2.2.2.2.1) (y1_3_.2.2.2.2.2.2.2) = some y1_4_) (hy1_5 : ¬ (y1_4_ = true)) : Q_RCheckq1_1 rnd x1_0 (X_RCheckq1_1 (.inl ())) :=
 runC2 hm (L := lT []) ⟨[2], [], 0, 0, [], false, []⟩ (zz 5 (xdT hy1_1) <|
zz 12 (xk1 0 Args.cA hy1_2) <|
zz 13 (lk2 hy1_3 (toNatLt hy1_2)) <|
yy 14 (.call (C_Rbareq1 (y1_3_.1) (y1_3_.2.1) (y1_3_.2.2.1) (y1_3_.2.2.2.1) (y1_3_.2.2.2.2.1) (y1_3_.2.2.2.2.2.1) (y1_3_.2.2.2.2.2.2.1) (y1_3_.2.2.2.2.2.2.2) y1_4_ [] [])) <|
ww (m_Rbareq1_ok n (y1_3_.1) (y1_3_.2.1) (y1_3_.2.2.1) (y1_3_.2.2.2.1) (y1_3_.2.2.2.2.1) (y1_3_.2.2.2.2.2.1) (y1_3_.2.2.2.2.2.2.1) (y1_3_.2.2.2.2.2.2.2) y1_4_ hy1_4) <|
yy 15 (vt) <|
ww (p := (Value.bool (!y1_4_)) = (Value.bool true)) (vBn (Bool.eq_false_iff.2 hy1_5)) <|
ee) (by kernel_rfl)
theorem q_RCheckq1_1_4 (n : Nat) {rnd : Option Nat} (x1_0 : Int) (hy1_1 : ¬ (x1_0 < (((Args.A).length : Nat) : Int))) : Q_RCheckq1_1 rnd x1_0 (X_RCheckq1_1 (.inr ())) :=
 runC2 hm (L := lT []) ⟨[0], [], 0, 0, [], false, []⟩ (zz 5 (xdF hy1_1) <|
ee) (by kernel_rfl)
theorem m_RCheckq1_1_ok (n : Nat) {rnd : Option Nat} (st : Int) (r : (Unit) ⊕ (Unit)) (h : m_RCheckq1_1 n st = some r) : CG P rnd (fnN P 8) 0 (codeOf P 8 [false, true, false, true, true]) (S_RCheckq1_1 st) (X_RCheckq1_1 r) :=
 CG.iter (b := codeOf P 8 [false, false, true, false, true, true]) (by kernel_rfl) (body := B_RCheckq1_1 n) (S := S_RCheckq1_1) (X := X_RCheckq1_1)
  (fun x1_0 s' h => by
  unfold B_RCheckq1_1 at h
  dsimp only at h
  by_cases hy1_1 : x1_0 < (((Args.A).length : Nat) : Int)
  ·rw [if_pos hy1_1] at h
   by_cases hy1_2 : 0 ≤ x1_0 ∧ x1_0 < (((Args.A).length : Nat) : Int)
   ·rw [if_pos hy1_2] at h
    obtain ⟨y1_3_, hy1_3, h⟩ := Option.bind_eq_some_iff.1 h
    obtain ⟨y1_4_, hy1_4, h⟩ := Option.bind_eq_some_iff.1 h
    by_cases hy1_5 : y1_4_ = true
    ·rw [if_pos hy1_5] at h
     by_cases hy1_6 : x1_0 > (0 : Int)
     ·rw [if_pos hy1_6] at h
      by_cases hy1_7 : (y1_3_.2.1) = (1 : Int)
      ·rw [if_pos hy1_7] at h
       cases h
      ·rw [if_neg hy1_7] at h
       obtain rfl := Sum.inl.inj (oI h); exact q_RCheckq1_1_1 n x1_0 hy1_1 hy1_2 y1_3_ hy1_3 y1_4_ hy1_4 hy1_5 hy1_6 hy1_7
     ·rw [if_neg hy1_6] at h
      obtain rfl := Sum.inl.inj (oI h); exact q_RCheckq1_1_2 n x1_0 hy1_1 hy1_2 y1_3_ hy1_3 y1_4_ hy1_4 hy1_5 hy1_6
    ·rw [if_neg hy1_5] at h
     cases h
   ·rw [if_neg hy1_2] at h; cases h
  ·rw [if_neg hy1_1] at h
   cases h)
  (fun x1_0 r h => by
  unfold B_RCheckq1_1 at h
  dsimp only at h
  by_cases hy1_1 : x1_0 < (((Args.A).length : Nat) : Int)
  ·rw [if_pos hy1_1] at h
   by_cases hy1_2 : 0 ≤ x1_0 ∧ x1_0 < (((Args.A).length : Nat) : Int)
   ·rw [if_pos hy1_2] at h
    obtain ⟨y1_3_, hy1_3, h⟩ := Option.bind_eq_some_iff.1 h
    obtain ⟨y1_4_, hy1_4, h⟩ := Option.bind_eq_some_iff.1 h
    by_cases hy1_5 : y1_4_ = true
    ·rw [if_pos hy1_5] at h
     by_cases hy1_6 : x1_0 > (0 : Int)
     ·rw [if_pos hy1_6] at h
      by_cases hy1_7 : (y1_3_.2.1) = (1 : Int)
      ·rw [if_pos hy1_7] at h
       obtain rfl := Sum.inr.inj (oI h); exact q_RCheckq1_1_0 n x1_0 hy1_1 hy1_2 y1_3_ hy1_3 y1_4_ hy1_4 hy1_5 hy1_6 hy1_7
      ·rw [if_neg hy1_7] at h
       cases h
     ·rw [if_neg hy1_6] at h
      cases h
    ·rw [if_neg hy1_5] at h
     obtain rfl := Sum.inr.inj (oI h); exact q_RCheckq1_1_3 n x1_0 hy1_1 hy1_2 y1_3_ hy1_3 y1_4_ hy1_4 hy1_5
   ·rw [if_neg hy1_2] at h; cases h
  ·rw [if_neg hy1_1] at h
   obtain rfl := Sum.inr.inj (oI h); exact q_RCheckq1_1_4 n x1_0 hy1_1)
  (fun r => by intro hx; rcases r with _ | _ <;> cases hx) h
def m_RCheckq1 (n : Nat) : Option (Int) :=
 if (((Args.A).length : Nat) : Int) > (524288 : Int) then
  some 3
 else
  match m_RCheckq1_1 n 0 with
  | none => none
  | some (.inl _) =>
   some 2
  | some (.inr _) =>
   if (((Args.A).length : Nat) : Int) = (0 : Int) then
    some 2
   else
    (m_Rendq1 n 0).bind fun c4_ =>
    if c4_ = (((Args.A).length : Nat) : Int) then
     some 0
    else
     some 2
theorem p_RCheckq1_0 (n : Nat) (hc1 : (((Args.A).length : Nat) : Int) > (524288 : Int)) : G_RCheckq1  3 :=
 runF2 hm (L := lT []) ⟨[2], [], 0, 0, [], false, []⟩ (zz 6 (xdT hc1) <|
ee) (by kernel_rfl)
theorem p_RCheckq1_1 (n : Nat) (hc1 : ¬ ((((Args.A).length : Nat) : Int) > (524288 : Int))) (hc2 : m_RCheckq1_1 n 0 = some (.inl ())) : G_RCheckq1  2 :=
 runF2 hm (L := lT [(12, ⟨⟨[0, 3], [], 0, 0, [], false, []⟩, (X_RCheckq1_1 (.inl ())).1, (X_RCheckq1_1 (.inl ())).2⟩)]) ⟨[2], [], 0, 0, [], false, []⟩ (zz 6 (xdF hc1) <|
ww (p := U_RCheckq1_1 none 0 (.inl ())) (m_RCheckq1_1_ok n 0 (.inl ()) hc2) <|
ee) (by kernel_rfl)
theorem p_RCheckq1_2 (n : Nat) (hc1 : ¬ ((((Args.A).length : Nat) : Int) > (524288 : Int))) (hc2 : m_RCheckq1_1 n 0 = some (.inr ())) (hc3 : (((Args.A).length : Nat) : Int) = (0 : Int)) : G_RCheckq1  2 :=
 runF2 hm (L := lT [(12, ⟨⟨[0, 3], [], 0, 0, [], false, []⟩, (X_RCheckq1_1 (.inr ())).1, (X_RCheckq1_1 (.inr ())).2⟩)]) ⟨[2], [], 0, 0, [], false, []⟩ (zz 6 (xdF hc1) <|
ww (p := U_RCheckq1_1 none 0 (.inr ())) (m_RCheckq1_1_ok n 0 (.inr ()) hc2) <|
zz 17 (xeT hc3) <|
ee) (by kernel_rfl)
theorem p_RCheckq1_3 (n : Nat) (hc1 : ¬ ((((Args.A).length : Nat) : Int) > (524288 : Int))) (hc2 : m_RCheckq1_1 n 0 = some (.inr ())) (hc3 : ¬ ((((Args.A).length : Nat) : Int) = (0 : Int))) (c4_ : Int) (hc4 : m_Rendq1 n 0 = some c4_) (hc5 : c4_ = (((Args.A).length : Nat) : Int)) : G_RCheckq1  0 :=
 runF2 hm (L := lT [(12, ⟨⟨[0, 3], [], 0, 0, [], false, []⟩, (X_RCheckq1_1 (.inr ())).1, (X_RCheckq1_1 (.inr ())).2⟩)]) ⟨[2], [], 0, 0, [], false, []⟩ (zz 6 (xdF hc1) <|
ww (p := U_RCheckq1_1 none 0 (.inr ())) (m_RCheckq1_1_ok n 0 (.inr ()) hc2) <|
zz 17 (xeF hc3) <|
yy 20 (.call (C_Rendq1 0 c4_ [] [])) <|
ww (m_Rendq1_ok n 0 c4_ hc4) <|
zz 23 (xnF hc5) <|
ee) (by kernel_rfl)
theorem p_RCheckq1_4 (n : Nat) (hc1 : ¬ ((((Args.A).length : Nat) : Int) > (524288 : Int))) (hc2 : m_RCheckq1_1 n 0 = some (.inr ())) (hc3 : ¬ ((((Args.A).length : Nat) : Int) = (0 : Int))) (c4_ : Int) (hc4 : m_Rendq1 n 0 = some c4_) (hc5 : ¬ (c4_ = (((Args.A).length : Nat) : Int))) : G_RCheckq1  2 :=
 runF2 hm (L := lT [(12, ⟨⟨[0, 3], [], 0, 0, [], false, []⟩, (X_RCheckq1_1 (.inr ())).1, (X_RCheckq1_1 (.inr ())).2⟩)]) ⟨[2], [], 0, 0, [], false, []⟩ (zz 6 (xdF hc1) <|
ww (p := U_RCheckq1_1 none 0 (.inr ())) (m_RCheckq1_1_ok n 0 (.inr ()) hc2) <|
zz 17 (xeF hc3) <|
yy 20 (.call (C_Rendq1 0 c4_ [] [])) <|
ww (m_Rendq1_ok n 0 c4_ hc4) <|
zz 23 (xnT hc5) <|
ee) (by kernel_rfl)
theorem m_RCheckq1_ok (n : Nat) (r : Int) (h : m_RCheckq1 n = some r) : Gv P (.func 8) A_RCheckq1 H_RCheckq1 (V_RCheckq1  r) (R_RCheckq1  r) := by
 unfold m_RCheckq1 at h
 by_cases hc1 : (((Args.A).length : Nat) : Int) > (524288 : Int)
 ·rw [if_pos hc1] at h
  obtain rfl := oI h; exact p_RCheckq1_0 n hc1
 ·rw [if_neg hc1] at h
  rcases hc2 : m_RCheckq1_1 n 0 with _ | (⟨⟩ | ⟨⟩)
  ·rw [hc2] at h; cases h
  ·rw [hc2] at h
   dsimp only at h
   obtain rfl := oI h; exact p_RCheckq1_1 n hc1 hc2
  ·rw [hc2] at h
   dsimp only at h
   by_cases hc3 : (((Args.A).length : Nat) : Int) = (0 : Int)
   ·rw [if_pos hc3] at h
    obtain rfl := oI h; exact p_RCheckq1_2 n hc1 hc2 hc3
   ·rw [if_neg hc3] at h
    obtain ⟨c4_, hc4, h⟩ := Option.bind_eq_some_iff.1 h
    by_cases hc5 : c4_ = (((Args.A).length : Nat) : Int)
    ·rw [if_pos hc5] at h
     obtain rfl := oI h; exact p_RCheckq1_3 n hc1 hc2 hc3 c4_ hc4 hc5
    ·rw [if_neg hc5] at h
     obtain rfl := oI h; exact p_RCheckq1_4 n hc1 hc2 hc3 c4_ hc4 hc5

noncomputable def A_viewportkitPickq1 (a0 : Int) (a1 : Int) : List Value := [(i6 a0), (i6 a1)]
noncomputable def H_viewportkitPickq1 (a0 : Int) (a1 : Int) : AH := ⟨sB [], 0, 0⟩
noncomputable def V_viewportkitPickq1 (a0 : Int) (a1 : Int) (r : Int) : Value := match r with
 | o0 => (i6 o0)
noncomputable def R_viewportkitPickq1 (a0 : Int) (a1 : Int) (r : Int) : AH := match r with
 | o0 => ⟨sB [], 0, 0⟩
noncomputable abbrev G_viewportkitPickq1 (a0 : Int) (a1 : Int) (r : Int) : Prop := Gv P (.func 9) (A_viewportkitPickq1 a0 a1) (H_viewportkitPickq1 a0 a1) (V_viewportkitPickq1 a0 a1 r) (R_viewportkitPickq1 a0 a1 r)
noncomputable abbrev C_viewportkitPickq1 (a0 : Int) (a1 : Int) (r : Int) (ins outs : BL) : CallA := ⟨0, ins, V_viewportkitPickq1 a0 a1 r, R_viewportkitPickq1 a0 a1 r, outs⟩
def m_viewportkitPickq1 (n : Nat) (a0 : Int) (a1 : Int) : Option (Int) :=
 if a1 < (1 : Int) then
  some 0
 else
  if ¬ (a1 = 0) then
   if (Int.tmod a0 a1) < (0 : Int) then
    some (w64 ((Int.tmod a0 a1) + a1))
   else
    some (Int.tmod a0 a1)
  else none
theorem p_viewportkitPickq1_0 (n : Nat) (a0 a1 : Int) (hc1 : a1 < (1 : Int)) : G_viewportkitPickq1 a0 a1 0 :=
 runF2 hm (L := lT []) ⟨[4], [], 0, 0, [], false, []⟩ (zz 5 (xdT hc1) <|
ee) (by kernel_rfl)
theorem p_viewportkitPickq1_1 (n : Nat) (a0 a1 : Int) (hc1 : ¬ (a1 < (1 : Int))) (hc2 : ¬ (a1 = 0)) (hc3 : (Int.tmod a0 a1) < (0 : Int)) : G_viewportkitPickq1 a0 a1 (w64 ((Int.tmod a0 a1) + a1)) :=
 runF2 hm (L := lT []) ⟨[4], [], 0, 0, [], false, []⟩ (zz 5 (xdF hc1) <|
yy 10 (.pur (i6 (Int.tmod a0 a1))) <|
ww (p := opBin P .rem 3 (.tmp 8) (.tmp 9) (i6 a0) (i6 a1) Ax.h0 = some ((i6 (Int.tmod a0 a1)), Ax.h0)) (remI hc2) <|
zz 15 (xdT hc3) <|
ee) (by kernel_rfl)
theorem p_viewportkitPickq1_2 (n : Nat) (a0 a1 : Int) (hc1 : ¬ (a1 < (1 : Int))) (hc2 : ¬ (a1 = 0)) (hc3 : ¬ ((Int.tmod a0 a1) < (0 : Int))) : G_viewportkitPickq1 a0 a1 (Int.tmod a0 a1) :=
 runF2 hm (L := lT []) ⟨[4], [], 0, 0, [], false, []⟩ (zz 5 (xdF hc1) <|
yy 10 (.pur (i6 (Int.tmod a0 a1))) <|
ww (p := opBin P .rem 3 (.tmp 8) (.tmp 9) (i6 a0) (i6 a1) Ax.h0 = some ((i6 (Int.tmod a0 a1)), Ax.h0)) (remI hc2) <|
zz 15 (xdF hc3) <|
ee) (by kernel_rfl)
theorem m_viewportkitPickq1_ok (n : Nat) (a0 : Int) (a1 : Int) (r : Int) (h : m_viewportkitPickq1 n a0 a1 = some r) : Gv P (.func 9) (A_viewportkitPickq1 a0 a1) (H_viewportkitPickq1 a0 a1) (V_viewportkitPickq1 a0 a1 r) (R_viewportkitPickq1 a0 a1 r) := by
 unfold m_viewportkitPickq1 at h
 by_cases hc1 : a1 < (1 : Int)
 ·rw [if_pos hc1] at h
  obtain rfl := oI h; exact p_viewportkitPickq1_0 n a0 a1 hc1
 ·rw [if_neg hc1] at h
  by_cases hc2 : ¬ (a1 = 0)
  ·rw [if_pos hc2] at h
   by_cases hc3 : (Int.tmod a0 a1) < (0 : Int)
   ·rw [if_pos hc3] at h
    obtain rfl := oI h; exact p_viewportkitPickq1_1 n a0 a1 hc1 hc2 hc3
   ·rw [if_neg hc3] at h
    obtain rfl := oI h; exact p_viewportkitPickq1_2 n a0 a1 hc1 hc2 hc3
  ·rw [if_neg hc2] at h; cases h

noncomputable def A_treeCopy11q1 (a0 : Int) : List Value := [(i6 a0)]
noncomputable def H_treeCopy11q1 (a0 : Int) : AH := ⟨sB [], 0, 0⟩
noncomputable def V_treeCopy11q1 (a0 : Int) (r : Unit) : Value := match r with
 | _ => (i6 a0)
noncomputable def R_treeCopy11q1 (a0 : Int) (r : Unit) : AH := match r with
 | _ => ⟨sB [], 0, 0⟩
noncomputable abbrev G_treeCopy11q1 (a0 : Int) (r : Unit) : Prop := Gv P (.func 51) (A_treeCopy11q1 a0) (H_treeCopy11q1 a0) (V_treeCopy11q1 a0 r) (R_treeCopy11q1 a0 r)
noncomputable abbrev C_treeCopy11q1 (a0 : Int) (r : Unit) (ins outs : BL) : CallA := ⟨0, ins, V_treeCopy11q1 a0 r, R_treeCopy11q1 a0 r, outs⟩
def m_treeCopy11q1 (n : Nat) (a0 : Int) : Option (Unit) :=
 some ()
theorem p_treeCopy11q1_0 (n : Nat) (a0 : Int) : G_treeCopy11q1 a0 () :=
 runF2 hm (L := lT []) ⟨[2], [], 0, 0, [], false, []⟩ (ee) (by kernel_rfl)
theorem m_treeCopy11q1_ok (n : Nat) (a0 : Int) (r : Unit) (h : m_treeCopy11q1 n a0 = some r) : Gv P (.func 51) (A_treeCopy11q1 a0) (H_treeCopy11q1 a0) (V_treeCopy11q1 a0 r) (R_treeCopy11q1 a0 r) := by
 unfold m_treeCopy11q1 at h
 obtain rfl := oI h; exact p_treeCopy11q1_0 n a0

noncomputable def A_eIq1 (a0 : NL) : List Value := [(nlV a0), (Value.func (.func 51) #[] #[])]
noncomputable def H_eIq1 (a0 : NL) : AH := ⟨sB [], 0, 0⟩
noncomputable def V_eIq1 (a0 : NL) (r : (Unit) ⊕ (List Int × Nat)) : Value := match r with
 | .inl _ => (Value.slice none 0 0)
 | .inr (o0, o1) => (sN 0 0 o1 o1)
noncomputable def R_eIq1 (a0 : NL) (r : (Unit) ⊕ (List Int × Nat)) : AH := match r with
 | .inl _ => ⟨sB [], 0, 0⟩
 | .inr (o0, o1) => ⟨sB [(0, (some (.cells (layT (iv o0)) 3)))], 1, 0⟩
noncomputable abbrev G_eIq1 (a0 : NL) (r : (Unit) ⊕ (List Int × Nat)) : Prop := Gv P (.func 52) (A_eIq1 a0) (H_eIq1 a0) (V_eIq1 a0 r) (R_eIq1 a0 r)
noncomputable abbrev C_eIq1 (a0 : NL) (r : (Unit) ⊕ (List Int × Nat)) (ins outs : BL) : CallA := ⟨0, ins, V_eIq1 a0 r, R_eIq1 a0 r, outs⟩
noncomputable def S_eIq1_1 (x1_1 : Nat) (x1_2 : NL) (x1_3 : Int) (st : List Int × Int) : XSt := match st with
 | (x1_0, x1_4) => (sT 29 [(1, (Value.func (.func 51) #[] #[])), (5, (sN 0 0 x1_1 x1_1)), (14, (nlV x1_2)), (15, (i6 x1_3)), (16, (i6 x1_4))], [], ⟨sB [(0, (some (.cells (layT (iv x1_0)) 3)))], 1, 0⟩)
noncomputable def X_eIq1_1 (x1_1 : Nat) (x1_2 : NL) (x1_3 : Int) (r : List Int) : Ex × XSt := match r with
 | z1_0 => (.exit 0, (sT 29 [(5, (sN 0 0 x1_1 x1_1))], [], ⟨sB [(0, (some (.cells (layT (iv z1_0)) 3)))], 1, 0⟩))
noncomputable abbrev Q_eIq1_1 (rnd : Option Nat) (x1_1 : Nat) (x1_2 : NL) (x1_3 : Int) (st : List Int × Int) (c : Ex × XSt) : Prop := CG P rnd (fnN P 52) 0 (codeOf P 52 [false, false, true, false, true, true, true]) (S_eIq1_1 x1_1 x1_2 x1_3 st) c
noncomputable abbrev U_eIq1_1 (rd : Option Nat) (x1_1 : Nat) (x1_2 : NL) (x1_3 : Int) (st : List Int × Int) (r : List Int) : Prop := CG P rd (fnN P 52) 0 (codeOf P 52 [false, true, false, true, true, true]) (S_eIq1_1 x1_1 x1_2 x1_3 st) (X_eIq1_1 x1_1 x1_2 x1_3 r)
def B_eIq1_1 (n : Nat) (x1_1 : Nat) (x1_2 : NL) (x1_3 : Int) (st : List Int × Int) : Option ((List Int × Int) ⊕ (List Int)) := match st with
 | (x1_0, x1_4) =>
  if x1_4 < x1_3 then
   if 0 ≤ x1_4 ∧ x1_4 < (((x1_2).l.length : Nat) : Int) then
    if (x1_4).toNat < ((x1_2).l).length then
     ((some (((x1_2).l).getD (x1_4).toNat 0))).bind fun y1_4_ =>
     (m_treeCopy11q1 n y1_4_).bind fun _ =>
     if 0 ≤ x1_4 ∧ x1_4 < ((x1_1 : Nat) : Int) then
      if (x1_4).toNat < (x1_0).length then
       some (.inl (((x1_0).set (x1_4).toNat y1_4_), (w64 (x1_4 + (1 : Int)))))
      else none
     else none
    else none
   else none
  else
   some (.inr x1_0)
def m_eIq1_1 (n : Nat) (x1_1 : Nat) (x1_2 : NL) (x1_3 : Int) (st : List Int × Int) : Option (List Int) := iterM (B_eIq1_1 n x1_1 x1_2 x1_3) n st
theorem q_eIq1_1_0 (n : Nat) {rnd : Option Nat} (x1_0 : List Int) (x1_1 : Nat) (x1_2 : NL) (x1_3 x1_4 : Int) (hy1_1 : x1_4 < x1_3) (hy1_2 : 0 ≤ x1_4 ∧ x1_4 < (((x1_2).l.length : Nat) : Int)) (hy1_3 : (x1_4).toNat < ((x1_2).l).length) (y1_4_ : Int) (hy1_4 : (some (((x1_2).l).getD (x1_4).toNat 0)) = some y1_4_) (hy1_5 : m_treeCopy11q1 n y1_4_ = some ()) (hy1_6 : 0 ≤ x1_4 ∧ x1_4 < ((x1_1 : Nat) : Int)) (hy1_7 : (x1_4).toNat < (x1_0).length) : Q_eIq1_1 rnd x1_1 x1_2 x1_3 (x1_0, x1_4) (.normal, S_eIq1_1 x1_1 x1_2 x1_3 (((x1_0).set (x1_4).toNat y1_4_), (w64 (x1_4 + (1 : Int))))) :=
 runC2 hm (L := lT []) ⟨[1, 5, 14, 15, 16], [(0, 0, true)], 1, 0, [], false, []⟩ (zz 1 (xdT hy1_1) <|
zz 8 (xk9 (Nat.add (x1_2).num 64) (x1_2).cap hy1_2) <|
zz 9 (nk10 hy1_4 hy1_3) <|
yy 16 (.call (C_treeCopy11q1 y1_4_ () [] [])) <|
ww (m_treeCopy11q1_ok n y1_4_ () hy1_5) <|
zz 17 (xk13 0 x1_1 hy1_6) <|
yy 18 (.sto (layT (iv ((x1_0).set (x1_4).toNat y1_4_)))) <|
ww (p := ∃ old, rdT (layT (iv x1_0)) 1 (x1_4).toNat = some old) (Exists.elim (iv_st (x1_0) ((x1_4).toNat) (y1_4_) hy1_7) fun o h => ⟨o, h.1⟩) <|
ww (p := layL [(i6 y1_4_)] (x1_4).toNat (layT (iv x1_0)) = layT (iv ((x1_0).set (x1_4).toNat y1_4_))) (Exists.elim (iv_st (x1_0) ((x1_4).toNat) (y1_4_) hy1_7) fun o h => h.2) <|
ww (iv_flat ((x1_0).set (x1_4).toNat y1_4_) 3) <|
ee) (by kernel_rfl)
theorem q_eIq1_1_1 (n : Nat) {rnd : Option Nat} (x1_0 : List Int) (x1_1 : Nat) (x1_2 : NL) (x1_3 x1_4 : Int) (hy1_1 : ¬ (x1_4 < x1_3)) : Q_eIq1_1 rnd x1_1 x1_2 x1_3 (x1_0, x1_4) (X_eIq1_1 x1_1 x1_2 x1_3 x1_0) :=
 runC2 hm (L := lT []) ⟨[5], [(0, 0, true)], 1, 0, [], false, []⟩ (zz 1 (xdF hy1_1) <|
ww (iv_flat x1_0 3) <|
ee) (by kernel_rfl)
theorem m_eIq1_1_ok (n : Nat) {rnd : Option Nat} (x1_1 : Nat) (x1_2 : NL) (x1_3 : Int) (st : List Int × Int) (r : List Int) (h : m_eIq1_1 n x1_1 x1_2 x1_3 st = some r) : CG P rnd (fnN P 52) 0 (codeOf P 52 [false, true, false, true, true, true]) (S_eIq1_1 x1_1 x1_2 x1_3 st) (X_eIq1_1 x1_1 x1_2 x1_3 r) :=
 CG.iter (b := codeOf P 52 [false, false, true, false, true, true, true]) (by kernel_rfl) (body := B_eIq1_1 n x1_1 x1_2 x1_3) (S := S_eIq1_1 x1_1 x1_2 x1_3) (X := X_eIq1_1 x1_1 x1_2 x1_3)
  (fun s s' h => by
  obtain ⟨x1_0, x1_4⟩ := s
  unfold B_eIq1_1 at h
  dsimp only at h
  by_cases hy1_1 : x1_4 < x1_3
  ·rw [if_pos hy1_1] at h
   by_cases hy1_2 : 0 ≤ x1_4 ∧ x1_4 < (((x1_2).l.length : Nat) : Int)
   ·rw [if_pos hy1_2] at h
    by_cases hy1_3 : (x1_4).toNat < ((x1_2).l).length
    ·rw [if_pos hy1_3] at h
     obtain ⟨y1_4_, hy1_4, h⟩ := Option.bind_eq_some_iff.1 h
     obtain ⟨_, hy1_5, h⟩ := Option.bind_eq_some_iff.1 h
     by_cases hy1_6 : 0 ≤ x1_4 ∧ x1_4 < ((x1_1 : Nat) : Int)
     ·rw [if_pos hy1_6] at h
      by_cases hy1_7 : (x1_4).toNat < (x1_0).length
      ·rw [if_pos hy1_7] at h
       obtain rfl := Sum.inl.inj (oI h); exact q_eIq1_1_0 n x1_0 x1_1 x1_2 x1_3 x1_4 hy1_1 hy1_2 hy1_3 y1_4_ hy1_4 hy1_5 hy1_6 hy1_7
      ·rw [if_neg hy1_7] at h; cases h
     ·rw [if_neg hy1_6] at h; cases h
    ·rw [if_neg hy1_3] at h; cases h
   ·rw [if_neg hy1_2] at h; cases h
  ·rw [if_neg hy1_1] at h
   cases h)
  (fun s r h => by
  obtain ⟨x1_0, x1_4⟩ := s
  unfold B_eIq1_1 at h
  dsimp only at h
  by_cases hy1_1 : x1_4 < x1_3
  ·rw [if_pos hy1_1] at h
   by_cases hy1_2 : 0 ≤ x1_4 ∧ x1_4 < (((x1_2).l.length : Nat) : Int)
   ·rw [if_pos hy1_2] at h
    by_cases hy1_3 : (x1_4).toNat < ((x1_2).l).length
    ·rw [if_pos hy1_3] at h
     obtain ⟨y1_4_, hy1_4, h⟩ := Option.bind_eq_some_iff.1 h
     obtain ⟨_, hy1_5, h⟩ := Option.bind_eq_some_iff.1 h
     by_cases hy1_6 : 0 ≤ x1_4 ∧ x1_4 < ((x1_1 : Nat) : Int)
     ·rw [if_pos hy1_6] at h
      by_cases hy1_7 : (x1_4).toNat < (x1_0).length
      ·rw [if_pos hy1_7] at h
       cases h
      ·rw [if_neg hy1_7] at h; cases h
     ·rw [if_neg hy1_6] at h; cases h
    ·rw [if_neg hy1_3] at h; cases h
   ·rw [if_neg hy1_2] at h; cases h
  ·rw [if_neg hy1_1] at h
   obtain rfl := Sum.inr.inj (oI h); exact q_eIq1_1_1 n x1_0 x1_1 x1_2 x1_3 x1_4 hy1_1)
  (fun r => by intro hx; cases hx) h
def m_eIq1 (n : Nat) (a0 : NL) : Option ((Unit) ⊕ (List Int × Nat)) :=
 if (((a0).l.length : Nat) : Int) = (0 : Int) then
  some (.inl ())
 else
  if 0 ≤ (((a0).l.length : Nat) : Int) then
   if ((((a0).l.length : Nat) : Int)).toNat * 8 ≤ 140737488355328 then
    (m_eIq1_1 n (((((a0).l.length : Nat) : Int)).toNat) a0 (((a0).l.length : Nat) : Int) ((List.replicate ((((a0).l.length : Nat) : Int)).toNat (0 : Int)), 0)).bind fun c4_ =>
    some (.inr (c4_, (((((a0).l.length : Nat) : Int)).toNat)))
   else none
  else none
theorem p_eIq1_0 (n : Nat) (a0 : NL) (hc1 : (((a0).l.length : Nat) : Int) = (0 : Int)) : G_eIq1 a0 (.inl ()) :=
 runF2 hm (L := lT []) ⟨[4], [], 0, 0, [], false, []⟩ (zz 6 (xeT hc1) <|
ee) (by kernel_rfl)
theorem p_eIq1_1 (n : Nat) (a0 : NL) (hc1 : ¬ ((((a0).l.length : Nat) : Int) = (0 : Int))) (hc2 : 0 ≤ (((a0).l.length : Nat) : Int)) (hc3 : ((((a0).l.length : Nat) : Int)).toNat * 8 ≤ 140737488355328) (c4_ : List Int) (hc4 : m_eIq1_1 n (((((a0).l.length : Nat) : Int)).toNat) a0 (((a0).l.length : Nat) : Int) ((List.replicate ((((a0).l.length : Nat) : Int)).toNat (0 : Int)), 0) = some c4_) : G_eIq1 a0 (.inr (c4_, (((((a0).l.length : Nat) : Int)).toNat))) :=
 runF2 hm (L := lT [(19, ⟨⟨[1, 5, 14, 15, 16], [(0, 0, true)], 1, 0, [], false, []⟩, (X_eIq1_1 (((((a0).l.length : Nat) : Int)).toNat) a0 (((a0).l.length : Nat) : Int) c4_).1, (X_eIq1_1 (((((a0).l.length : Nat) : Int)).toNat) a0 (((a0).l.length : Nat) : Int) c4_).2⟩)]) ⟨[4], [(0, 0, true)], 1, 0, [], false, []⟩ (zz 6 (xeF hc1) <|
yy 11 (.mk ((((a0).l.length : Nat) : Int)).toNat (iv (List.replicate ((((a0).l.length : Nat) : Int)).toNat (0 : Int)))) <|
ww (p := natOf (i6 (((a0).l.length : Nat) : Int)) = some ((((a0).l.length : Nat) : Int)).toNat) (natOf_toNat hc2) <|
ww (p := natOf (i6 (((a0).l.length : Nat) : Int)) = some ((((a0).l.length : Nat) : Int)).toNat) (natOf_toNat hc2) <|
ww (p := fits ((((a0).l.length : Nat) : Int)).toNat 8 = true) (fits_ok hc3 (by omega)) <|
ww (p := isZ8 [(i6 (0 : Int))] = false) (rfl) <|
ww (p := reps [(i6 (0 : Int))] ((((a0).l.length : Nat) : Int)).toNat = (iv (List.replicate ((((a0).l.length : Nat) : Int)).toNat (0 : Int)))) (reps_iv _) <|
ww (p := U_eIq1_1 none (((((a0).l.length : Nat) : Int)).toNat) a0 (((a0).l.length : Nat) : Int) ((List.replicate ((((a0).l.length : Nat) : Int)).toNat (0 : Int)), 0) c4_) (m_eIq1_1_ok n (((((a0).l.length : Nat) : Int)).toNat) a0 (((a0).l.length : Nat) : Int) ((List.replicate ((((a0).l.length : Nat) : Int)).toNat (0 : Int)), 0) c4_ hc4) <|
ww (iv_flat (List.replicate ((((a0).l.length : Nat) : Int)).toNat (0 : Int)) 3) <|
ww (iv_flat c4_ 3) <|
ee) (by kernel_rfl)
theorem m_eIq1_ok (n : Nat) (a0 : NL) (r : (Unit) ⊕ (List Int × Nat)) (h : m_eIq1 n a0 = some r) : Gv P (.func 52) (A_eIq1 a0) (H_eIq1 a0) (V_eIq1 a0 r) (R_eIq1 a0 r) := by
 unfold m_eIq1 at h
 by_cases hc1 : (((a0).l.length : Nat) : Int) = (0 : Int)
 ·rw [if_pos hc1] at h
  obtain rfl := oI h; exact p_eIq1_0 n a0 hc1
 ·rw [if_neg hc1] at h
  by_cases hc2 : 0 ≤ (((a0).l.length : Nat) : Int)
  ·rw [if_pos hc2] at h
   by_cases hc3 : ((((a0).l.length : Nat) : Int)).toNat * 8 ≤ 140737488355328
   ·rw [if_pos hc3] at h
    obtain ⟨c4_, hc4, h⟩ := Option.bind_eq_some_iff.1 h
    obtain rfl := oI h; exact p_eIq1_1 n a0 hc1 hc2 hc3 c4_ hc4
   ·rw [if_neg hc3] at h; cases h
  ·rw [if_neg hc2] at h; cases h

noncomputable def A_treemovedq1 (a0 : Int) (a1 : Int) (a2 : Int) (a3 : Int) (a4 : Int) (a5 : Int) (a6 : NL) (a7 : Int) : List Value := [(Value.agg #[(i6 a0), (i6 a1), (i6 a2), (i6 a3), (i6 a4), (i6 a5), (nlV a6), (Value.int .u64 a7)]), (Value.func (.func 51) #[] #[])]
noncomputable def H_treemovedq1 (a0 : Int) (a1 : Int) (a2 : Int) (a3 : Int) (a4 : Int) (a5 : Int) (a6 : NL) (a7 : Int) : AH := ⟨sB [], 0, 0⟩
noncomputable def V_treemovedq1 (a0 : Int) (a1 : Int) (a2 : Int) (a3 : Int) (a4 : Int) (a5 : Int) (a6 : NL) (a7 : Int) (r : NL) : Value := match r with
 | o0 => (Value.agg #[(i6 a0), (i6 a1), (i6 a2), (i6 a3), (i6 a4), (i6 a5), (nlV o0), (Value.int .u64 a7)])
noncomputable def R_treemovedq1 (a0 : Int) (a1 : Int) (a2 : Int) (a3 : Int) (a4 : Int) (a5 : Int) (a6 : NL) (a7 : Int) (r : NL) : AH := match r with
 | o0 => ⟨sB [(0, (some (.cells (layT [(i6 a0), (i6 a1), (i6 a2), (i6 a3), (i6 a4), (i6 a5), (nlV o0), (Value.int .u64 a7)]) 41)))], 1, 0⟩
noncomputable abbrev G_treemovedq1 (a0 : Int) (a1 : Int) (a2 : Int) (a3 : Int) (a4 : Int) (a5 : Int) (a6 : NL) (a7 : Int) (r : NL) : Prop := Gv P (.func 44) (A_treemovedq1 a0 a1 a2 a3 a4 a5 a6 a7) (H_treemovedq1 a0 a1 a2 a3 a4 a5 a6 a7) (V_treemovedq1 a0 a1 a2 a3 a4 a5 a6 a7 r) (R_treemovedq1 a0 a1 a2 a3 a4 a5 a6 a7 r)
noncomputable abbrev C_treemovedq1 (a0 : Int) (a1 : Int) (a2 : Int) (a3 : Int) (a4 : Int) (a5 : Int) (a6 : NL) (a7 : Int) (r : NL) (ins outs : BL) : CallA := ⟨0, ins, V_treemovedq1 a0 a1 a2 a3 a4 a5 a6 a7 r, R_treemovedq1 a0 a1 a2 a3 a4 a5 a6 a7 r, outs⟩
def m_treemovedq1 (n : Nat) (a0 : Int) (a1 : Int) (a2 : Int) (a3 : Int) (a4 : Int) (a5 : Int) (a6 : NL) (a7 : Int) : Option (NL) :=
 match m_eIq1 n a6 with
 | none => none
 | some (.inl _) =>
  some nl0
 | some (.inr (c1_0, c1_1)) =>
  if c1_1 = c1_0.length then
   if hc3 : c1_0.length ≤ 9223372036854775807 then
    some (frzL c1_0 hc3)
   else none
  else none
theorem p_treemovedq1_0 (n : Nat) (a0 a1 a2 a3 a4 a5 : Int) (a6 : NL) (a7 : Int) (hc1 : m_eIq1 n a6 = some (.inl ())) : G_treemovedq1 a0 a1 a2 a3 a4 a5 a6 a7 nl0 :=
 runF2 hm (L := lT []) ⟨[4], [(0, 1, false)], 1, 0, [], true, [41]⟩ (yy 7 (.call (C_eIq1 a6 (.inl ()) [] [])) <|
ww (m_eIq1_ok n a6 (.inl ()) hc1) <|
ee) (by kernel_rfl)
theorem p_treemovedq1_1 (n : Nat) (a0 a1 a2 a3 a4 a5 : Int) (a6 : NL) (a7 : Int) (c1_0 : List Int) (c1_1 : Nat) (hc1 : m_eIq1 n a6 = some (.inr (c1_0, c1_1))) (hc2 : c1_1 = c1_0.length) (hc3 : c1_0.length ≤ 9223372036854775807) : G_treemovedq1 a0 a1 a2 a3 a4 a5 a6 a7 (frzL c1_0 hc3) :=
 by
 subst hc2
 exact runF2 hm (L := lT []) ⟨[4], [(0, 1, false)], 1, 0, [(2, Nat.add (2 * cod c1_0 + 1) 64)], true, []⟩ (yy 7 (.call (C_eIq1 a6 (.inr (c1_0, ((c1_0).length))) [] [(2, 0, true)])) <|
ww (m_eIq1_ok n a6 (.inr (c1_0, ((c1_0).length))) hc1) <|
ww (iv_flat c1_0 3) <|
ww (frz_ok wins_nest wins_odd c1_0) <|
ee) (by kernel_rfl)
theorem m_treemovedq1_ok (n : Nat) (a0 : Int) (a1 : Int) (a2 : Int) (a3 : Int) (a4 : Int) (a5 : Int) (a6 : NL) (a7 : Int) (r : NL) (h : m_treemovedq1 n a0 a1 a2 a3 a4 a5 a6 a7 = some r) : Gv P (.func 44) (A_treemovedq1 a0 a1 a2 a3 a4 a5 a6 a7) (H_treemovedq1 a0 a1 a2 a3 a4 a5 a6 a7) (V_treemovedq1 a0 a1 a2 a3 a4 a5 a6 a7 r) (R_treemovedq1 a0 a1 a2 a3 a4 a5 a6 a7 r) := by
 unfold m_treemovedq1 at h
 rcases hc1 : m_eIq1 n a6 with _ | (⟨⟩ | ⟨c1_0, c1_1⟩)
 ·rw [hc1] at h; cases h
 ·rw [hc1] at h
  dsimp only at h
  obtain rfl := oI h; exact p_treemovedq1_0 n a0 a1 a2 a3 a4 a5 a6 a7 hc1
 ·rw [hc1] at h
  dsimp only at h
  by_cases hc2 : c1_1 = c1_0.length
  ·rw [if_pos hc2] at h
   by_cases hc3 : c1_0.length ≤ 9223372036854775807
   ·rw [dif_pos hc3] at h
    obtain rfl := oI h; exact p_treemovedq1_1 n a0 a1 a2 a3 a4 a5 a6 a7 c1_0 c1_1 hc1 hc2 hc3
   ·rw [dif_neg hc3] at h; cases h
  ·rw [if_neg hc2] at h; cases h

noncomputable def A_treeCopy1q1 (a0 : Int) (a1 : Int) (a2 : Int) (a3 : Int) (a4 : Int) (a5 : Int) (a6 : NL) (a7 : Int) : List Value := [(Value.agg #[(i6 a0), (i6 a1), (i6 a2), (i6 a3), (i6 a4), (i6 a5), (nlV a6), (Value.int .u64 a7)])]
noncomputable def H_treeCopy1q1 (a0 : Int) (a1 : Int) (a2 : Int) (a3 : Int) (a4 : Int) (a5 : Int) (a6 : NL) (a7 : Int) : AH := ⟨sB [], 0, 0⟩
noncomputable def V_treeCopy1q1 (a0 : Int) (a1 : Int) (a2 : Int) (a3 : Int) (a4 : Int) (a5 : Int) (a6 : NL) (a7 : Int) (r : NL) : Value := match r with
 | o0 => (Value.agg #[(i6 a0), (i6 a1), (i6 a2), (i6 a3), (i6 a4), (i6 a5), (nlV o0), (Value.int .u64 a7)])
noncomputable def R_treeCopy1q1 (a0 : Int) (a1 : Int) (a2 : Int) (a3 : Int) (a4 : Int) (a5 : Int) (a6 : NL) (a7 : Int) (r : NL) : AH := match r with
 | o0 => ⟨sB [(0, (some (.cells (layT [(i6 a0), (i6 a1), (i6 a2), (i6 a3), (i6 a4), (i6 a5), (nlV o0), (Value.int .u64 a7)]) 41)))], 1, 0⟩
noncomputable abbrev G_treeCopy1q1 (a0 : Int) (a1 : Int) (a2 : Int) (a3 : Int) (a4 : Int) (a5 : Int) (a6 : NL) (a7 : Int) (r : NL) : Prop := Gv P (.func 50) (A_treeCopy1q1 a0 a1 a2 a3 a4 a5 a6 a7) (H_treeCopy1q1 a0 a1 a2 a3 a4 a5 a6 a7) (V_treeCopy1q1 a0 a1 a2 a3 a4 a5 a6 a7 r) (R_treeCopy1q1 a0 a1 a2 a3 a4 a5 a6 a7 r)
noncomputable abbrev C_treeCopy1q1 (a0 : Int) (a1 : Int) (a2 : Int) (a3 : Int) (a4 : Int) (a5 : Int) (a6 : NL) (a7 : Int) (r : NL) (ins outs : BL) : CallA := ⟨0, ins, V_treeCopy1q1 a0 a1 a2 a3 a4 a5 a6 a7 r, R_treeCopy1q1 a0 a1 a2 a3 a4 a5 a6 a7 r, outs⟩
def m_treeCopy1q1 (n : Nat) (a0 : Int) (a1 : Int) (a2 : Int) (a3 : Int) (a4 : Int) (a5 : Int) (a6 : NL) (a7 : Int) : Option (NL) :=
 (m_treemovedq1 n a0 a1 a2 a3 a4 a5 a6 a7).bind fun c1_ =>
 some c1_
theorem p_treeCopy1q1_0 (n : Nat) (a0 a1 a2 a3 a4 a5 : Int) (a6 : NL) (a7 : Int) (c1_ : NL) (hc1 : m_treemovedq1 n a0 a1 a2 a3 a4 a5 a6 a7 = some c1_) : G_treeCopy1q1 a0 a1 a2 a3 a4 a5 a6 a7 c1_ :=
 runF2 hm (L := lT []) ⟨[2], [(0, 1, false)], 1, 0, [], false, []⟩ (yy 5 (.call (C_treemovedq1 a0 a1 a2 a3 a4 a5 a6 a7 c1_ [] [(2, 0, false)])) <|
ww (m_treemovedq1_ok n a0 a1 a2 a3 a4 a5 a6 a7 c1_ hc1) <|
ee) (by kernel_rfl)
theorem m_treeCopy1q1_ok (n : Nat) (a0 : Int) (a1 : Int) (a2 : Int) (a3 : Int) (a4 : Int) (a5 : Int) (a6 : NL) (a7 : Int) (r : NL) (h : m_treeCopy1q1 n a0 a1 a2 a3 a4 a5 a6 a7 = some r) : Gv P (.func 50) (A_treeCopy1q1 a0 a1 a2 a3 a4 a5 a6 a7) (H_treeCopy1q1 a0 a1 a2 a3 a4 a5 a6 a7) (V_treeCopy1q1 a0 a1 a2 a3 a4 a5 a6 a7 r) (R_treeCopy1q1 a0 a1 a2 a3 a4 a5 a6 a7 r) := by
 unfold m_treeCopy1q1 at h
 obtain ⟨c1_, hc1, h⟩ := Option.bind_eq_some_iff.1 h
 obtain rfl := oI h; exact p_treeCopy1q1_0 n a0 a1 a2 a3 a4 a5 a6 a7 c1_ hc1

noncomputable def A_ePq1 : List Value := [(sW 0 0 (Args.A).length Args.cA), (Value.func (.func 50) #[] #[])]
noncomputable def H_ePq1 : AH := ⟨sB [], 0, 0⟩
noncomputable def V_ePq1 (r : (Unit) ⊕ (List R8 × Nat)) : Value := match r with
 | .inl _ => (Value.slice none 0 0)
 | .inr (o0, o1) => (sN 0 0 o1 o1)
noncomputable def R_ePq1 (r : (Unit) ⊕ (List R8 × Nat)) : AH := match r with
 | .inl _ => ⟨sB [], 0, 0⟩
 | .inr (o0, o1) => ⟨sB [(0, (some (.cells (layT (rows rw_iiiiiiLu o0)) 41)))], 1, 0⟩
noncomputable abbrev G_ePq1 (r : (Unit) ⊕ (List R8 × Nat)) : Prop := Gv P (.func 49) A_ePq1 H_ePq1 (V_ePq1  r) (R_ePq1  r)
noncomputable abbrev C_ePq1 (r : (Unit) ⊕ (List R8 × Nat)) (ins outs : BL) : CallA := ⟨0, ins, V_ePq1  r, R_ePq1  r, outs⟩
noncomputable def S_ePq1_1 (x1_1 : Nat) (x1_2 : Int) (st : List R8 × Int) : XSt := match st with
 | (x1_0, x1_3) => (sT 29 [(1, (Value.func (.func 50) #[] #[])), (5, (sN 0 0 x1_1 x1_1)), (14, (sW 0 0 (Args.A).length Args.cA)), (15, (i6 x1_2)), (16, (i6 x1_3))], [], ⟨sB [(0, (some (.cells (layT (rows rw_iiiiiiLu x1_0)) 41)))], 1, 0⟩)
noncomputable def X_ePq1_1 (x1_1 : Nat) (x1_2 : Int) (r : List R8) : Ex × XSt := match r with
 | z1_0 => (.exit 0, (sT 29 [(5, (sN 0 0 x1_1 x1_1))], [], ⟨sB [(0, (some (.cells (layT (rows rw_iiiiiiLu z1_0)) 41)))], 1, 0⟩))
noncomputable abbrev Q_ePq1_1 (rnd : Option Nat) (x1_1 : Nat) (x1_2 : Int) (st : List R8 × Int) (c : Ex × XSt) : Prop := CG P rnd (fnN P 49) 0 (codeOf P 49 [false, false, true, false, true, true, true]) (S_ePq1_1 x1_1 x1_2 st) c
noncomputable abbrev U_ePq1_1 (rd : Option Nat) (x1_1 : Nat) (x1_2 : Int) (st : List R8 × Int) (r : List R8) : Prop := CG P rd (fnN P 49) 0 (codeOf P 49 [false, true, false, true, true, true]) (S_ePq1_1 x1_1 x1_2 st) (X_ePq1_1 x1_1 x1_2 r)
def B_ePq1_1 (n : Nat) (x1_1 : Nat) (x1_2 : Int) (st : List R8 × Int) : Option ((List R8 × Int) ⊕ (List R8)) := match st with
 | (x1_0, x1_3) =>
  if x1_3 < x1_2 then
   if 0 ≤ x1_3 ∧ x1_3 < (((Args.A).length : Nat) : Int) then
    ((some ((Args.A).getD (x1_3).toNat (0, 0, 0, 0, 0, 0, nl0, 0)))).bind fun y1_3_ =>
    (m_treeCopy1q1 n (y1_3_.1) (y1_3_.2.1) (y1_3_.2.2.1) (y1_3_.2.2.2.1) (y1_3_.2.2.2.2.1) (y1_3_.2.2.2.2.2.1) (y1_3_.2.2.2.2.2.2.1) (y1_3_.2.2.2.2.2.2.2)).bind fun y1_4_ =>
    if 0 ≤ x1_3 ∧ x1_3 < ((x1_1 : Nat) : Int) then
     if (x1_3).toNat < (x1_0).length then
      some (.inl (((x1_0).set (x1_3).toNat ((y1_3_.1), (y1_3_.2.1), (y1_3_.2.2.1), (y1_3_.2.2.2.1), (y1_3_.2.2.2.2.1), (y1_3_.2.2.2.2.2.1), y1_4_, (y1_3_.2.2.2.2.2.2.2))), (w64 (x1_3 + (1 : Int)))))
     else none
    else none
   else none
  else
   some (.inr x1_0)
def m_ePq1_1 (n : Nat) (x1_1 : Nat) (x1_2 : Int) (st : List R8 × Int) : Option (List R8) := iterM (B_ePq1_1 n x1_1 x1_2) n st
theorem q_ePq1_1_0 (n : Nat) {rnd : Option Nat} (x1_0 : List R8) (x1_1 : Nat) (x1_2 x1_3 : Int) (hy1_1 : x1_3 < x1_2) (hy1_2 : 0 ≤ x1_3 ∧ x1_3 < (((Args.A).length : Nat) : Int)) (y1_3_ : R8) (hy1_3 : (some ((Args.A).getD (x1_3).toNat (0, 0, 0, 0, 0, 0, nl0, 0))) = some y1_3_) (y1_4_ : NL) (hy1_4 : m_treeCopy1q1 n (y1_3_.1) (y1_3_.2.1) (y1_3_.2.2.1) (y1_3_.2.2.2.1) (y1_3_.2.2.2.2.1) (y1_3_.2.2.2.2.2.1) (y1_3_.2.2.2.2.2.2.1) (y1_3_.2.2.2.2.2.2.2) = some y1_4_) (hy1_5 : 0 ≤ x1_3 ∧ x1_3 < ((x1_1 : Nat) : Int)) (hy1_6 : (x1_3).toNat < (x1_0).length) : Q_ePq1_1 rnd x1_1 x1_2 (x1_0, x1_3) (.normal, S_ePq1_1 x1_1 x1_2 (((x1_0).set (x1_3).toNat ((y1_3_.1), (y1_3_.2.1), (y1_3_.2.2.1), (y1_3_.2.2.2.1), (y1_3_.2.2.2.2.1), (y1_3_.2.2.2.2.2.1), y1_4_, (y1_3_.2.2.2.2.2.2.2))), (w64 (x1_3 + (1 : Int))))) :=
 runC2 hm (L := lT []) ⟨[1, 5, 14, 15, 16], [(0, 0, true)], 1, 0, [], false, []⟩ (zz 1 (xdT hy1_1) <|
zz 8 (xk1 0 Args.cA hy1_2) <|
zz 9 (lk2 hy1_3 (toNatLt hy1_2)) <|
yy 17 (.call (C_treeCopy1q1 (y1_3_.1) (y1_3_.2.1) (y1_3_.2.2.1) (y1_3_.2.2.2.1) (y1_3_.2.2.2.2.1) (y1_3_.2.2.2.2.2.1) (y1_3_.2.2.2.2.2.2.1) (y1_3_.2.2.2.2.2.2.2) y1_4_ [] [(2, 0, false)])) <|
ww (m_treeCopy1q1_ok n (y1_3_.1) (y1_3_.2.1) (y1_3_.2.2.1) (y1_3_.2.2.2.1) (y1_3_.2.2.2.2.1) (y1_3_.2.2.2.2.2.1) (y1_3_.2.2.2.2.2.2.1) (y1_3_.2.2.2.2.2.2.2) y1_4_ hy1_4) <|
zz 18 (xk14 0 x1_1 hy1_5) <|
yy 19 (.sto (layT (rows rw_iiiiiiLu ((x1_0).set (x1_3).toNat ((y1_3_.1), (y1_3_.2.1), (y1_3_.2.2.1), (y1_3_.2.2.2.1), (y1_3_.2.2.2.2.1), (y1_3_.2.2.2.2.2.1), y1_4_, (y1_3_.2.2.2.2.2.2.2)))))) <|
ww (p := ∃ old, rdT (layT (rows rw_iiiiiiLu x1_0)) 8 ((x1_3).toNat * 8) = some old) (Exists.elim (rows_st rwf_iiiiiiLu (0, 0, 0, 0, 0, 0, nl0, 0) (i := (x1_3).toNat) (j := 0) (l := [(i6 (y1_3_.1)), (i6 (y1_3_.2.1)), (i6 (y1_3_.2.2.1)), (i6 (y1_3_.2.2.2.1)), (i6 (y1_3_.2.2.2.2.1)), (i6 (y1_3_.2.2.2.2.2.1)), (nlV y1_4_), (Value.int .u64 (y1_3_.2.2.2.2.2.2.2))]) ((y1_3_.1), (y1_3_.2.1), (y1_3_.2.2.1), (y1_3_.2.2.2.1), (y1_3_.2.2.2.2.1), (y1_3_.2.2.2.2.2.1), y1_4_, (y1_3_.2.2.2.2.2.2.2)) ((x1_3).toNat * 8) rfl (hy1_6) (Nat.le_of_ble_eq_true rfl) rfl) fun o h => ⟨o, h.1⟩) <|
ww (p := layL [(i6 (y1_3_.1)), (i6 (y1_3_.2.1)), (i6 (y1_3_.2.2.1)), (i6 (y1_3_.2.2.2.1)), (i6 (y1_3_.2.2.2.2.1)), (i6 (y1_3_.2.2.2.2.2.1)), (nlV y1_4_), (Value.int .u64 (y1_3_.2.2.2.2.2.2.2))] ((x1_3).toNat * 8) (layT (rows rw_iiiiiiLu x1_0)) = layT (rows rw_iiiiiiLu ((x1_0).set (x1_3).toNat ((y1_3_.1), (y1_3_.2.1), (y1_3_.2.2.1), (y1_3_.2.2.2.1), (y1_3_.2.2.2.2.1), (y1_3_.2.2.2.2.2.1), y1_4_, (y1_3_.2.2.2.2.2.2.2))))) (Exists.elim (rows_st rwf_iiiiiiLu (0, 0, 0, 0, 0, 0, nl0, 0) (i := (x1_3).toNat) (j := 0) (l := [(i6 (y1_3_.1)), (i6 (y1_3_.2.1)), (i6 (y1_3_.2.2.1)), (i6 (y1_3_.2.2.2.1)), (i6 (y1_3_.2.2.2.2.1)), (i6 (y1_3_.2.2.2.2.2.1)), (nlV y1_4_), (Value.int .u64 (y1_3_.2.2.2.2.2.2.2))]) ((y1_3_.1), (y1_3_.2.1), (y1_3_.2.2.1), (y1_3_.2.2.2.1), (y1_3_.2.2.2.2.1), (y1_3_.2.2.2.2.2.1), y1_4_, (y1_3_.2.2.2.2.2.2.2)) ((x1_3).toNat * 8) rfl (hy1_6) (Nat.le_of_ble_eq_true rfl) rfl) fun o h => h.2) <|
ww (rows_flat rwf_iiiiiiLu ((x1_0).set (x1_3).toNat ((y1_3_.1), (y1_3_.2.1), (y1_3_.2.2.1), (y1_3_.2.2.2.1), (y1_3_.2.2.2.2.1), (y1_3_.2.2.2.2.2.1), y1_4_, (y1_3_.2.2.2.2.2.2.2))) 41) <|
ee) (by kernel_rfl)
theorem q_ePq1_1_1 (n : Nat) {rnd : Option Nat} (x1_0 : List R8) (x1_1 : Nat) (x1_2 x1_3 : Int) (hy1_1 : ¬ (x1_3 < x1_2)) : Q_ePq1_1 rnd x1_1 x1_2 (x1_0, x1_3) (X_ePq1_1 x1_1 x1_2 x1_0) :=
 runC2 hm (L := lT []) ⟨[5], [(0, 0, true)], 1, 0, [], false, []⟩ (zz 1 (xdF hy1_1) <|
ww (rows_flat rwf_iiiiiiLu x1_0 41) <|
ee) (by kernel_rfl)
theorem m_ePq1_1_ok (n : Nat) {rnd : Option Nat} (x1_1 : Nat) (x1_2 : Int) (st : List R8 × Int) (r : List R8) (h : m_ePq1_1 n x1_1 x1_2 st = some r) : CG P rnd (fnN P 49) 0 (codeOf P 49 [false, true, false, true, true, true]) (S_ePq1_1 x1_1 x1_2 st) (X_ePq1_1 x1_1 x1_2 r) :=
 CG.iter (b := codeOf P 49 [false, false, true, false, true, true, true]) (by kernel_rfl) (body := B_ePq1_1 n x1_1 x1_2) (S := S_ePq1_1 x1_1 x1_2) (X := X_ePq1_1 x1_1 x1_2)
  (fun s s' h => by
  obtain ⟨x1_0, x1_3⟩ := s
  unfold B_ePq1_1 at h
  dsimp only at h
  by_cases hy1_1 : x1_3 < x1_2
  ·rw [if_pos hy1_1] at h
   by_cases hy1_2 : 0 ≤ x1_3 ∧ x1_3 < (((Args.A).length : Nat) : Int)
   ·rw [if_pos hy1_2] at h
    obtain ⟨y1_3_, hy1_3, h⟩ := Option.bind_eq_some_iff.1 h
    obtain ⟨y1_4_, hy1_4, h⟩ := Option.bind_eq_some_iff.1 h
    by_cases hy1_5 : 0 ≤ x1_3 ∧ x1_3 < ((x1_1 : Nat) : Int)
    ·rw [if_pos hy1_5] at h
     by_cases hy1_6 : (x1_3).toNat < (x1_0).length
     ·rw [if_pos hy1_6] at h
      obtain rfl := Sum.inl.inj (oI h); exact q_ePq1_1_0 n x1_0 x1_1 x1_2 x1_3 hy1_1 hy1_2 y1_3_ hy1_3 y1_4_ hy1_4 hy1_5 hy1_6
     ·rw [if_neg hy1_6] at h; cases h
    ·rw [if_neg hy1_5] at h; cases h
   ·rw [if_neg hy1_2] at h; cases h
  ·rw [if_neg hy1_1] at h
   cases h)
  (fun s r h => by
  obtain ⟨x1_0, x1_3⟩ := s
  unfold B_ePq1_1 at h
  dsimp only at h
  by_cases hy1_1 : x1_3 < x1_2
  ·rw [if_pos hy1_1] at h
   by_cases hy1_2 : 0 ≤ x1_3 ∧ x1_3 < (((Args.A).length : Nat) : Int)
   ·rw [if_pos hy1_2] at h
    obtain ⟨y1_3_, hy1_3, h⟩ := Option.bind_eq_some_iff.1 h
    obtain ⟨y1_4_, hy1_4, h⟩ := Option.bind_eq_some_iff.1 h
    by_cases hy1_5 : 0 ≤ x1_3 ∧ x1_3 < ((x1_1 : Nat) : Int)
    ·rw [if_pos hy1_5] at h
     by_cases hy1_6 : (x1_3).toNat < (x1_0).length
     ·rw [if_pos hy1_6] at h
      cases h
     ·rw [if_neg hy1_6] at h; cases h
    ·rw [if_neg hy1_5] at h; cases h
   ·rw [if_neg hy1_2] at h; cases h
  ·rw [if_neg hy1_1] at h
   obtain rfl := Sum.inr.inj (oI h); exact q_ePq1_1_1 n x1_0 x1_1 x1_2 x1_3 hy1_1)
  (fun r => by intro hx; cases hx) h
def m_ePq1 (n : Nat) : Option ((Unit) ⊕ (List R8 × Nat)) :=
 if (((Args.A).length : Nat) : Int) = (0 : Int) then
  some (.inl ())
 else
  if 0 ≤ (((Args.A).length : Nat) : Int) then
   if ((((Args.A).length : Nat) : Int)).toNat * 80 ≤ 140737488355328 then
    (m_ePq1_1 n (((((Args.A).length : Nat) : Int)).toNat) (((Args.A).length : Nat) : Int) ((List.replicate ((((Args.A).length : Nat) : Int)).toNat (0, 0, 0, 0, 0, 0, nl0, 0)), 0)).bind fun c4_ =>
    some (.inr (c4_, (((((Args.A).length : Nat) : Int)).toNat)))
   else none
  else none
theorem p_ePq1_0 (n : Nat) (hc1 : (((Args.A).length : Nat) : Int) = (0 : Int)) : G_ePq1  (.inl ()) :=
 runF2 hm (L := lT []) ⟨[4], [], 0, 0, [], false, []⟩ (zz 6 (xeT hc1) <|
ee) (by kernel_rfl)
theorem p_ePq1_1 (n : Nat) (hc1 : ¬ ((((Args.A).length : Nat) : Int) = (0 : Int))) (hc2 : 0 ≤ (((Args.A).length : Nat) : Int)) (hc3 : ((((Args.A).length : Nat) : Int)).toNat * 80 ≤ 140737488355328) (c4_ : List R8) (hc4 : m_ePq1_1 n (((((Args.A).length : Nat) : Int)).toNat) (((Args.A).length : Nat) : Int) ((List.replicate ((((Args.A).length : Nat) : Int)).toNat (0, 0, 0, 0, 0, 0, nl0, 0)), 0) = some c4_) : G_ePq1  (.inr (c4_, (((((Args.A).length : Nat) : Int)).toNat))) :=
 runF2 hm (L := lT [(19, ⟨⟨[1, 5, 14, 15, 16], [(0, 0, true)], 1, 0, [], false, []⟩, (X_ePq1_1 (((((Args.A).length : Nat) : Int)).toNat) (((Args.A).length : Nat) : Int) c4_).1, (X_ePq1_1 (((((Args.A).length : Nat) : Int)).toNat) (((Args.A).length : Nat) : Int) c4_).2⟩)]) ⟨[4], [(0, 0, true)], 1, 0, [], false, []⟩ (zz 6 (xeF hc1) <|
yy 11 (.mk ((((Args.A).length : Nat) : Int)).toNat (rows rw_iiiiiiLu (List.replicate ((((Args.A).length : Nat) : Int)).toNat (0, 0, 0, 0, 0, 0, nl0, 0)))) <|
ww (p := natOf (i6 (((Args.A).length : Nat) : Int)) = some ((((Args.A).length : Nat) : Int)).toNat) (natOf_toNat hc2) <|
ww (p := natOf (i6 (((Args.A).length : Nat) : Int)) = some ((((Args.A).length : Nat) : Int)).toNat) (natOf_toNat hc2) <|
ww (p := fits ((((Args.A).length : Nat) : Int)).toNat 80 = true) (fits_ok hc3 (by omega)) <|
ww (p := isZ8 [(i6 (0 : Int)), (i6 (0 : Int)), (i6 (0 : Int)), (i6 (0 : Int)), (i6 (0 : Int)), (i6 (0 : Int)), (nlV nl0), (Value.int .u64 (0 : Int))] = false) (rfl) <|
ww (p := reps [(i6 (0 : Int)), (i6 (0 : Int)), (i6 (0 : Int)), (i6 (0 : Int)), (i6 (0 : Int)), (i6 (0 : Int)), (nlV nl0), (Value.int .u64 (0 : Int))] ((((Args.A).length : Nat) : Int)).toNat = (rows rw_iiiiiiLu (List.replicate ((((Args.A).length : Nat) : Int)).toNat (0, 0, 0, 0, 0, 0, nl0, 0)))) (reps_rows rw_iiiiiiLu (0, 0, 0, 0, 0, 0, nl0, 0) _ rfl _) <|
ww (p := U_ePq1_1 none (((((Args.A).length : Nat) : Int)).toNat) (((Args.A).length : Nat) : Int) ((List.replicate ((((Args.A).length : Nat) : Int)).toNat (0, 0, 0, 0, 0, 0, nl0, 0)), 0) c4_) (m_ePq1_1_ok n (((((Args.A).length : Nat) : Int)).toNat) (((Args.A).length : Nat) : Int) ((List.replicate ((((Args.A).length : Nat) : Int)).toNat (0, 0, 0, 0, 0, 0, nl0, 0)), 0) c4_ hc4) <|
ww (rows_flat rwf_iiiiiiLu (List.replicate ((((Args.A).length : Nat) : Int)).toNat (0, 0, 0, 0, 0, 0, nl0, 0)) 41) <|
ww (rows_flat rwf_iiiiiiLu c4_ 41) <|
ee) (by kernel_rfl)
theorem m_ePq1_ok (n : Nat) (r : (Unit) ⊕ (List R8 × Nat)) (h : m_ePq1 n = some r) : Gv P (.func 49) A_ePq1 H_ePq1 (V_ePq1  r) (R_ePq1  r) := by
 unfold m_ePq1 at h
 by_cases hc1 : (((Args.A).length : Nat) : Int) = (0 : Int)
 ·rw [if_pos hc1] at h
  obtain rfl := oI h; exact p_ePq1_0 n hc1
 ·rw [if_neg hc1] at h
  by_cases hc2 : 0 ≤ (((Args.A).length : Nat) : Int)
  ·rw [if_pos hc2] at h
   by_cases hc3 : ((((Args.A).length : Nat) : Int)).toNat * 80 ≤ 140737488355328
   ·rw [if_pos hc3] at h
    obtain ⟨c4_, hc4, h⟩ := Option.bind_eq_some_iff.1 h
    obtain rfl := oI h; exact p_ePq1_1 n hc1 hc2 hc3 c4_ hc4
   ·rw [if_neg hc3] at h; cases h
  ·rw [if_neg hc2] at h; cases h

noncomputable def A_treeCopyq1 : List Value := [(sW 0 0 (Args.A).length Args.cA)]
noncomputable def H_treeCopyq1 : AH := ⟨sB [], 0, 0⟩
noncomputable def V_treeCopyq1 (r : List R8 × Nat) : Value := match r with
 | (o0, o1) => (sN 0 0 o1 o1)
noncomputable def R_treeCopyq1 (r : List R8 × Nat) : AH := match r with
 | (o0, o1) => ⟨sB [(0, (some (.cells (layT (rows rw_iiiiiiLu o0)) 41)))], 1, 0⟩
noncomputable abbrev G_treeCopyq1 (r : List R8 × Nat) : Prop := Gv P (.func 35) A_treeCopyq1 H_treeCopyq1 (V_treeCopyq1  r) (R_treeCopyq1  r)
noncomputable abbrev C_treeCopyq1 (r : List R8 × Nat) (ins outs : BL) : CallA := ⟨0, ins, V_treeCopyq1  r, R_treeCopyq1  r, outs⟩
def m_treeCopyq1 (n : Nat) : Option (List R8 × Nat) :=
 match m_ePq1 n with
 | none => none
 | some (.inl _) =>
  none
 | some (.inr (c1_0, c1_1)) =>
  some (c1_0, c1_1)
theorem p_treeCopyq1_0 (n : Nat) (c1_0 : List R8) (c1_1 : Nat) (hc1 : m_ePq1 n = some (.inr (c1_0, c1_1))) : G_treeCopyq1  (c1_0, c1_1) :=
 runF2 hm (L := lT []) ⟨[2], [(0, 0, true)], 1, 0, [], false, []⟩ (yy 4 (.call (C_ePq1  (.inr (c1_0, c1_1)) [] [(0, 0, true)])) <|
ww (m_ePq1_ok n  (.inr (c1_0, c1_1)) hc1) <|
ww (rows_flat rwf_iiiiiiLu c1_0 41) <|
ww (rows_flat rwf_iiiiiiLu c1_0 41) <|
ee) (by kernel_rfl)
theorem m_treeCopyq1_ok (n : Nat) (r : List R8 × Nat) (h : m_treeCopyq1 n = some r) : Gv P (.func 35) A_treeCopyq1 H_treeCopyq1 (V_treeCopyq1  r) (R_treeCopyq1  r) := by
 unfold m_treeCopyq1 at h
 rcases hc1 : m_ePq1 n with _ | (⟨⟩ | ⟨c1_0, c1_1⟩)
 ·rw [hc1] at h; cases h
 ·rw [hc1] at h
  dsimp only at h
  cases h
 ·rw [hc1] at h
  dsimp only at h
  obtain rfl := oI h; exact p_treeCopyq1_0 n c1_0 c1_1 hc1

noncomputable def A_spliceexistsq1 (a0 : Int) : List Value := [(i6 a0)]
noncomputable def H_spliceexistsq1 (a0 : Int) : AH := ⟨sB [], 0, 0⟩
noncomputable def V_spliceexistsq1 (a0 : Int) (r : Bool) : Value := match r with
 | o0 => (bO o0)
noncomputable def R_spliceexistsq1 (a0 : Int) (r : Bool) : AH := match r with
 | o0 => ⟨sB [], 0, 0⟩
noncomputable abbrev G_spliceexistsq1 (a0 : Int) (r : Bool) : Prop := Gv P (.func 36) (A_spliceexistsq1 a0) (H_spliceexistsq1 a0) (V_spliceexistsq1 a0 r) (R_spliceexistsq1 a0 r)
noncomputable abbrev C_spliceexistsq1 (a0 : Int) (r : Bool) (ins outs : BL) : CallA := ⟨0, ins, V_spliceexistsq1 a0 r, R_spliceexistsq1 a0 r, outs⟩
def m_spliceexistsq1 (n : Nat) (a0 : Int) : Option (Bool) :=
 if a0 ≥ (0 : Int) then
  if a0 < (64 : Int) then
   some true
  else
   some false
 else
  some false
theorem p_spliceexistsq1_0 (n : Nat) (a0 : Int) (hc1 : a0 ≥ (0 : Int)) (hc2 : a0 < (64 : Int)) : G_spliceexistsq1 a0 true :=
 runF2 hm (L := lT []) ⟨[2], [], 0, 0, [], false, []⟩ (zz 4 (xdT hc1) <|
zz 7 (xdT hc2) <|
ee) (by kernel_rfl)
theorem p_spliceexistsq1_1 (n : Nat) (a0 : Int) (hc1 : a0 ≥ (0 : Int)) (hc2 : ¬ (a0 < (64 : Int))) : G_spliceexistsq1 a0 false :=
 runF2 hm (L := lT []) ⟨[2], [], 0, 0, [], false, []⟩ (zz 4 (xdT hc1) <|
zz 7 (xdF hc2) <|
ee) (by kernel_rfl)
theorem p_spliceexistsq1_2 (n : Nat) (a0 : Int) (hc1 : ¬ (a0 ≥ (0 : Int))) : G_spliceexistsq1 a0 false :=
 runF2 hm (L := lT []) ⟨[2], [], 0, 0, [], false, []⟩ (zz 4 (xdF hc1) <|
ee) (by kernel_rfl)
theorem m_spliceexistsq1_ok (n : Nat) (a0 : Int) (r : Bool) (h : m_spliceexistsq1 n a0 = some r) : Gv P (.func 36) (A_spliceexistsq1 a0) (H_spliceexistsq1 a0) (V_spliceexistsq1 a0 r) (R_spliceexistsq1 a0 r) := by
 unfold m_spliceexistsq1 at h
 by_cases hc1 : a0 ≥ (0 : Int)
 ·rw [if_pos hc1] at h
  by_cases hc2 : a0 < (64 : Int)
  ·rw [if_pos hc2] at h
   obtain rfl := oI h; exact p_spliceexistsq1_0 n a0 hc1 hc2
  ·rw [if_neg hc2] at h
   obtain rfl := oI h; exact p_spliceexistsq1_1 n a0 hc1 hc2
 ·rw [if_neg hc1] at h
  obtain rfl := oI h; exact p_spliceexistsq1_2 n a0 hc1

noncomputable def A_spliceGiveq1 (a0 : Int) (a1 : Int) : List Value := [(sW 0 0 (Args.A).length Args.cA), (i6 a0), (i6 a1)]
noncomputable def H_spliceGiveq1 (a0 : Int) (a1 : Int) : AH := ⟨sB [], 0, 0⟩
noncomputable def V_spliceGiveq1 (a0 : Int) (a1 : Int) (r : List R8 × Nat) : Value := match r with
 | (o0, o1) => (sN 0 0 o1 o1)
noncomputable def R_spliceGiveq1 (a0 : Int) (a1 : Int) (r : List R8 × Nat) : AH := match r with
 | (o0, o1) => ⟨sB [(0, (some (.cells (layT (rows rw_iiiiiiLu o0)) 41)))], 1, 0⟩
noncomputable abbrev G_spliceGiveq1 (a0 : Int) (a1 : Int) (r : List R8 × Nat) : Prop := Gv P (.func 15) (A_spliceGiveq1 a0 a1) (H_spliceGiveq1 a0 a1) (V_spliceGiveq1 a0 a1 r) (R_spliceGiveq1 a0 a1 r)
noncomputable abbrev C_spliceGiveq1 (a0 : Int) (a1 : Int) (r : List R8 × Nat) (ins outs : BL) : CallA := ⟨0, ins, V_spliceGiveq1 a0 a1 r, R_spliceGiveq1 a0 a1 r, outs⟩
noncomputable def S_spliceGiveq1_1 (x1_0 : Int) (x1_1 : Int) (x1_3 : Nat) (x1_4 : Int) (st : List R8 × Int) : XSt := match st with
 | (x1_2, x1_5) => (sT 57 [(1, (i6 x1_0)), (2, (i6 x1_1)), (7, (sN 0 0 x1_3 x1_3)), (22, (i6 x1_4)), (23, (i6 x1_5))], [], ⟨sB [(0, (some (.cells (layT (rows rw_iiiiiiLu x1_2)) 41)))], 1, 0⟩)
noncomputable def X_spliceGiveq1_1 (x1_0 : Int) (x1_1 : Int) (x1_3 : Nat) (x1_4 : Int) (r : List R8) : Ex × XSt := match r with
 | z1_0 => (.exit 0, (sT 57 [(7, (sN 0 0 x1_3 x1_3))], [], ⟨sB [(0, (some (.cells (layT (rows rw_iiiiiiLu z1_0)) 41)))], 1, 0⟩))
noncomputable abbrev Q_spliceGiveq1_1 (rnd : Option Nat) (x1_0 : Int) (x1_1 : Int) (x1_3 : Nat) (x1_4 : Int) (st : List R8 × Int) (c : Ex × XSt) : Prop := CG P rnd (fnN P 15) 0 (codeOf P 15 [false, false, true, false, true, true, true]) (S_spliceGiveq1_1 x1_0 x1_1 x1_3 x1_4 st) c
noncomputable abbrev U_spliceGiveq1_1 (rd : Option Nat) (x1_0 : Int) (x1_1 : Int) (x1_3 : Nat) (x1_4 : Int) (st : List R8 × Int) (r : List R8) : Prop := CG P rd (fnN P 15) 0 (codeOf P 15 [false, true, false, true, true, true]) (S_spliceGiveq1_1 x1_0 x1_1 x1_3 x1_4 st) (X_spliceGiveq1_1 x1_0 x1_1 x1_3 x1_4 r)
def B_spliceGiveq1_1 (n : Nat) (x1_0 : Int) (x1_1 : Int) (x1_3 : Nat) (x1_4 : Int) (st : List R8 × Int) : Option ((List R8 × Int) ⊕ (List R8)) := match st with
 | (x1_2, x1_5) =>
  if x1_5 < x1_4 then
   if 0 ≤ x1_5 ∧ x1_5 < ((x1_3 : Nat) : Int) then
    if (x1_5).toNat < (x1_2).length then
     ((some ((x1_2).getD (x1_5).toNat (0, 0, 0, 0, 0, 0, nl0, 0)))).bind fun y1_4_ =>
     if 0 ≤ x1_0 then
      if (bAnd .u64 (shrV .u64 (y1_4_.2.2.2.2.2.2.2) x1_0) (1 : Int)) = (1 : Int) then
       if 0 ≤ x1_1 then
        some (.inl (((x1_2).set (x1_5).toNat ((y1_4_.1), (y1_4_.2.1), (y1_4_.2.2.1), (y1_4_.2.2.2.1), (y1_4_.2.2.2.2.1), (y1_4_.2.2.2.2.2.1), (y1_4_.2.2.2.2.2.2.1), (bOr .u64 (bAndNot .u64 (y1_4_.2.2.2.2.2.2.2) (shlV .u64 (1 : Int) x1_0)) (shlV .u64 (1 : Int) x1_1)))), (w64 (x1_5 + (1 : Int)))))
       else none
      else
       some (.inl (x1_2, (w64 (x1_5 + (1 : Int)))))
     else none
    else none
   else none
  else
   some (.inr x1_2)
def m_spliceGiveq1_1 (n : Nat) (x1_0 : Int) (x1_1 : Int) (x1_3 : Nat) (x1_4 : Int) (st : List R8 × Int) : Option (List R8) := iterM (B_spliceGiveq1_1 n x1_0 x1_1 x1_3 x1_4) n st
theorem q_spliceGiveq1_1_0 (n : Nat) {rnd : Option Nat} (x1_0 x1_1 : Int) (x1_2 : List R8) (x1_3 : Nat) (x1_4 x1_5 : Int) (hy1_1 : x1_5 < x1_4) (hy1_2 : 0 ≤ x1_5 ∧ x1_5 < ((x1_3 : Nat) : Int)) (hy1_3 : (x1_5).toNat < (x1_2).length) (y1_4_ : R8) (hy1_4 : (some ((x1_2).getD (x1_5).toNat (0, 0, 0, 0, 0, 0, nl0, 0))) = some y1_4_) (hy1_5 : 0 ≤ x1_0) (hy1_6 : (bAnd .u64 (shrV .u64 (y1_4_.2.2.2.2.2.2.2) x1_0) (1 : Int)) = (1 : Int)) (hy1_7 : 0 ≤ x1_1) : Q_spliceGiveq1_1 rnd x1_0 x1_1 x1_3 x1_4 (x1_2, x1_5) (.normal, S_spliceGiveq1_1 x1_0 x1_1 x1_3 x1_4 (((x1_2).set (x1_5).toNat ((y1_4_.1), (y1_4_.2.1), (y1_4_.2.2.1), (y1_4_.2.2.2.1), (y1_4_.2.2.2.2.1), (y1_4_.2.2.2.2.2.1), (y1_4_.2.2.2.2.2.2.1), (bOr .u64 (bAndNot .u64 (y1_4_.2.2.2.2.2.2.2) (shlV .u64 (1 : Int) x1_0)) (shlV .u64 (1 : Int) x1_1)))), (w64 (x1_5 + (1 : Int))))) :=
 runC2 hm (L := lT []) ⟨[1, 2, 7, 22, 23], [(0, 0, true)], 1, 0, [], false, []⟩ (zz 1 (xdT hy1_1) <|
zz 12 (xk14 0 x1_3 hy1_2) <|
zz 18 (ok15 hy1_4 (hy1_3)) <|
yy 20 (.pur (Value.int .u64 (shrV .u64 (y1_4_.2.2.2.2.2.2.2) x1_0))) <|
ww (p := opBin P .shr 35 (.tmp 32) (.tmp 33) (Value.int .u64 (y1_4_.2.2.2.2.2.2.2)) (i6 x1_0) Ax.h0 = some ((Value.int .u64 (shrV .u64 (y1_4_.2.2.2.2.2.2.2) x1_0)), Ax.h0)) (shr_u64_i64 hy1_5) <|
zz 22 (xeT hy1_6) <|
zz 28 (ok15 hy1_4 (hy1_3)) <|
yy 30 (.pur (Value.int .u64 (shlV .u64 (1 : Int) x1_0))) <|
ww (p := opBin P .shl 35 (.const (Value.int .u64 (1 : Int))) (.tmp 41) (Value.int .u64 (1 : Int)) (i6 x1_0) Ax.h0 = some ((Value.int .u64 (shlV .u64 (1 : Int) x1_0)), Ax.h0)) (shl_u64_i64 hy1_5) <|
yy 34 (.sto (layT (rows rw_iiiiiiLu ((x1_2).set (x1_5).toNat ((y1_4_.1), (y1_4_.2.1), (y1_4_.2.2.1), (y1_4_.2.2.2.1), (y1_4_.2.2.2.2.1), (y1_4_.2.2.2.2.2.1), (y1_4_.2.2.2.2.2.2.1), (bAndNot .u64 (y1_4_.2.2.2.2.2.2.2) (shlV .u64 (1 : Int) x1_0))))))) <|
ww (p := ∃ old, rdT (layT (rows rw_iiiiiiLu x1_2)) 1 (Nat.add ((x1_5).toNat * 8) 7) = some old) (Exists.elim (rows_stN rwf_iiiiiiLu (0, 0, 0, 0, 0, 0, nl0, 0) (hr := hy1_4) (i := (x1_5).toNat) (j := 7) (l := [(Value.int .u64 (bAndNot .u64 (y1_4_.2.2.2.2.2.2.2) (shlV .u64 (1 : Int) x1_0)))]) ((y1_4_.1), (y1_4_.2.1), (y1_4_.2.2.1), (y1_4_.2.2.2.1), (y1_4_.2.2.2.2.1), (y1_4_.2.2.2.2.2.1), (y1_4_.2.2.2.2.2.2.1), (bAndNot .u64 (y1_4_.2.2.2.2.2.2.2) (shlV .u64 (1 : Int) x1_0))) (Nat.add ((x1_5).toNat * 8) 7) rfl (hy1_3) (Nat.le_of_ble_eq_true rfl) rfl) fun o h => ⟨o, h.1⟩) <|
ww (p := layL [(Value.int .u64 (bAndNot .u64 (y1_4_.2.2.2.2.2.2.2) (shlV .u64 (1 : Int) x1_0)))] (Nat.add ((x1_5).toNat * 8) 7) (layT (rows rw_iiiiiiLu x1_2)) = layT (rows rw_iiiiiiLu ((x1_2).set (x1_5).toNat ((y1_4_.1), (y1_4_.2.1), (y1_4_.2.2.1), (y1_4_.2.2.2.1), (y1_4_.2.2.2.2.1), (y1_4_.2.2.2.2.2.1), (y1_4_.2.2.2.2.2.2.1), (bAndNot .u64 (y1_4_.2.2.2.2.2.2.2) (shlV .u64 (1 : Int) x1_0)))))) (Exists.elim (rows_stN rwf_iiiiiiLu (0, 0, 0, 0, 0, 0, nl0, 0) (hr := hy1_4) (i := (x1_5).toNat) (j := 7) (l := [(Value.int .u64 (bAndNot .u64 (y1_4_.2.2.2.2.2.2.2) (shlV .u64 (1 : Int) x1_0)))]) ((y1_4_.1), (y1_4_.2.1), (y1_4_.2.2.1), (y1_4_.2.2.2.1), (y1_4_.2.2.2.2.1), (y1_4_.2.2.2.2.2.1), (y1_4_.2.2.2.2.2.2.1), (bAndNot .u64 (y1_4_.2.2.2.2.2.2.2) (shlV .u64 (1 : Int) x1_0))) (Nat.add ((x1_5).toNat * 8) 7) rfl (hy1_3) (Nat.le_of_ble_eq_true rfl) rfl) fun o h => h.2) <|
yy 38 (.ld (Value.int .u64 (bAndNot .u64 (y1_4_.2.2.2.2.2.2.2) (shlV .u64 (1 : Int) x1_0)))) <|
ww (p := (layT (rows rw_iiiiiiLu ((x1_2).set (x1_5).toNat ((y1_4_.1), (y1_4_.2.1), (y1_4_.2.2.1), (y1_4_.2.2.2.1), (y1_4_.2.2.2.2.1), (y1_4_.2.2.2.2.2.1), (y1_4_.2.2.2.2.2.2.1), (bAndNot .u64 (y1_4_.2.2.2.2.2.2.2) (shlV .u64 (1 : Int) x1_0)))))).get (Nat.add ((x1_5).toNat * 8) 7) = some (Value.int .u64 (bAndNot .u64 (y1_4_.2.2.2.2.2.2.2) (shlV .u64 (1 : Int) x1_0)))) (rows_ldS rwf_iiiiiiLu (i := (x1_5).toNat) (j := 7) ((y1_4_.1), (y1_4_.2.1), (y1_4_.2.2.1), (y1_4_.2.2.2.1), (y1_4_.2.2.2.2.1), (y1_4_.2.2.2.2.2.1), (y1_4_.2.2.2.2.2.2.1), (bAndNot .u64 (y1_4_.2.2.2.2.2.2.2) (shlV .u64 (1 : Int) x1_0))) (Nat.add ((x1_5).toNat * 8) 7) rfl (hy1_3) (by decide) rfl) <|
yy 40 (.pur (Value.int .u64 (shlV .u64 (1 : Int) x1_1))) <|
ww (p := opBin P .shl 35 (.const (Value.int .u64 (1 : Int))) (.tmp 50) (Value.int .u64 (1 : Int)) (i6 x1_1) Ax.h0 = some ((Value.int .u64 (shlV .u64 (1 : Int) x1_1)), Ax.h0)) (shl_u64_i64 hy1_7) <|
yy 44 (.sto (layT (rows rw_iiiiiiLu ((x1_2).set (x1_5).toNat ((y1_4_.1), (y1_4_.2.1), (y1_4_.2.2.1), (y1_4_.2.2.2.1), (y1_4_.2.2.2.2.1), (y1_4_.2.2.2.2.2.1), (y1_4_.2.2.2.2.2.2.1), (bOr .u64 (bAndNot .u64 (y1_4_.2.2.2.2.2.2.2) (shlV .u64 (1 : Int) x1_0)) (shlV .u64 (1 : Int) x1_1))))))) <|
ww (p := ∃ old, rdT (layT (rows rw_iiiiiiLu ((x1_2).set (x1_5).toNat ((y1_4_.1), (y1_4_.2.1), (y1_4_.2.2.1), (y1_4_.2.2.2.1), (y1_4_.2.2.2.2.1), (y1_4_.2.2.2.2.2.1), (y1_4_.2.2.2.2.2.2.1), (bAndNot .u64 (y1_4_.2.2.2.2.2.2.2) (shlV .u64 (1 : Int) x1_0)))))) 1 (Nat.add ((x1_5).toNat * 8) 7) = some old) (Exists.elim (rows_stS rwf_iiiiiiLu (i := (x1_5).toNat) (j := 7) (l := [(Value.int .u64 (bOr .u64 (bAndNot .u64 (y1_4_.2.2.2.2.2.2.2) (shlV .u64 (1 : Int) x1_0)) (shlV .u64 (1 : Int) x1_1)))]) ((y1_4_.1), (y1_4_.2.1), (y1_4_.2.2.1), (y1_4_.2.2.2.1), (y1_4_.2.2.2.2.1), (y1_4_.2.2.2.2.2.1), (y1_4_.2.2.2.2.2.2.1), (bAndNot .u64 (y1_4_.2.2.2.2.2.2.2) (shlV .u64 (1 : Int) x1_0))) ((y1_4_.1), (y1_4_.2.1), (y1_4_.2.2.1), (y1_4_.2.2.2.1), (y1_4_.2.2.2.2.1), (y1_4_.2.2.2.2.2.1), (y1_4_.2.2.2.2.2.2.1), (bOr .u64 (bAndNot .u64 (y1_4_.2.2.2.2.2.2.2) (shlV .u64 (1 : Int) x1_0)) (shlV .u64 (1 : Int) x1_1))) (Nat.add ((x1_5).toNat * 8) 7) rfl (hy1_3) (Nat.le_of_ble_eq_true rfl) rfl) fun o h => ⟨o, h.1⟩) <|
ww (p := layL [(Value.int .u64 (bOr .u64 (bAndNot .u64 (y1_4_.2.2.2.2.2.2.2) (shlV .u64 (1 : Int) x1_0)) (shlV .u64 (1 : Int) x1_1)))] (Nat.add ((x1_5).toNat * 8) 7) (layT (rows rw_iiiiiiLu ((x1_2).set (x1_5).toNat ((y1_4_.1), (y1_4_.2.1), (y1_4_.2.2.1), (y1_4_.2.2.2.1), (y1_4_.2.2.2.2.1), (y1_4_.2.2.2.2.2.1), (y1_4_.2.2.2.2.2.2.1), (bAndNot .u64 (y1_4_.2.2.2.2.2.2.2) (shlV .u64 (1 : Int) x1_0)))))) = layT (rows rw_iiiiiiLu ((x1_2).set (x1_5).toNat ((y1_4_.1), (y1_4_.2.1), (y1_4_.2.2.1), (y1_4_.2.2.2.1), (y1_4_.2.2.2.2.1), (y1_4_.2.2.2.2.2.1), (y1_4_.2.2.2.2.2.2.1), (bOr .u64 (bAndNot .u64 (y1_4_.2.2.2.2.2.2.2) (shlV .u64 (1 : Int) x1_0)) (shlV .u64 (1 : Int) x1_1)))))) (Exists.elim (rows_stS rwf_iiiiiiLu (i := (x1_5).toNat) (j := 7) (l := [(Value.int .u64 (bOr .u64 (bAndNot .u64 (y1_4_.2.2.2.2.2.2.2) (shlV .u64 (1 : Int) x1_0)) (shlV .u64 (1 : Int) x1_1)))]) ((y1_4_.1), (y1_4_.2.1), (y1_4_.2.2.1), (y1_4_.2.2.2.1), (y1_4_.2.2.2.2.1), (y1_4_.2.2.2.2.2.1), (y1_4_.2.2.2.2.2.2.1), (bAndNot .u64 (y1_4_.2.2.2.2.2.2.2) (shlV .u64 (1 : Int) x1_0))) ((y1_4_.1), (y1_4_.2.1), (y1_4_.2.2.1), (y1_4_.2.2.2.1), (y1_4_.2.2.2.2.1), (y1_4_.2.2.2.2.2.1), (y1_4_.2.2.2.2.2.2.1), (bOr .u64 (bAndNot .u64 (y1_4_.2.2.2.2.2.2.2) (shlV .u64 (1 : Int) x1_0)) (shlV .u64 (1 : Int) x1_1))) (Nat.add ((x1_5).toNat * 8) 7) rfl (hy1_3) (Nat.le_of_ble_eq_true rfl) rfl) fun o h => h.2) <|
ww (rows_flat rwf_iiiiiiLu ((x1_2).set (x1_5).toNat ((y1_4_.1), (y1_4_.2.1), (y1_4_.2.2.1), (y1_4_.2.2.2.1), (y1_4_.2.2.2.2.1), (y1_4_.2.2.2.2.2.1), (y1_4_.2.2.2.2.2.2.1), (bOr .u64 (bAndNot .u64 (y1_4_.2.2.2.2.2.2.2) (shlV .u64 (1 : Int) x1_0)) (shlV .u64 (1 : Int) x1_1)))) 41) <|
ee) (by kernel_rfl)
theorem q_spliceGiveq1_1_1 (n : Nat) {rnd : Option Nat} (x1_0 x1_1 : Int) (x1_2 : List R8) (x1_3 : Nat) (x1_4 x1_5 : Int) (hy1_1 : x1_5 < x1_4) (hy1_2 : 0 ≤ x1_5 ∧ x1_5 < ((x1_3 : Nat) : Int)) (hy1_3 : (x1_5).toNat < (x1_2).length) (y1_4_ : R8) (hy1_4 : (some ((x1_2).getD (x1_5).toNat (0, 0, 0, 0, 0, 0, nl0, 0))) = some y1_4_) (hy1_5 : 0 ≤ x1_0) (hy1_6 : ¬ ((bAnd .u64 (shrV .u64 (y1_4_.2.2.2.2.2.2.2) x1_0) (1 : Int)) = (1 : Int))) : Q_spliceGiveq1_1 rnd x1_0 x1_1 x1_3 x1_4 (x1_2, x1_5) (.normal, S_spliceGiveq1_1 x1_0 x1_1 x1_3 x1_4 (x1_2, (w64 (x1_5 + (1 : Int))))) :=
 runC2 hm (L := lT []) ⟨[1, 2, 7, 22, 23], [(0, 0, true)], 1, 0, [], false, []⟩ (zz 1 (xdT hy1_1) <|
zz 12 (xk14 0 x1_3 hy1_2) <|
zz 18 (ok15 hy1_4 (hy1_3)) <|
yy 20 (.pur (Value.int .u64 (shrV .u64 (y1_4_.2.2.2.2.2.2.2) x1_0))) <|
ww (p := opBin P .shr 35 (.tmp 32) (.tmp 33) (Value.int .u64 (y1_4_.2.2.2.2.2.2.2)) (i6 x1_0) Ax.h0 = some ((Value.int .u64 (shrV .u64 (y1_4_.2.2.2.2.2.2.2) x1_0)), Ax.h0)) (shr_u64_i64 hy1_5) <|
zz 22 (xeF hy1_6) <|
ww (rows_flat rwf_iiiiiiLu x1_2 41) <|
ee) (by kernel_rfl)
theorem q_spliceGiveq1_1_2 (n : Nat) {rnd : Option Nat} (x1_0 x1_1 : Int) (x1_2 : List R8) (x1_3 : Nat) (x1_4 x1_5 : Int) (hy1_1 : ¬ (x1_5 < x1_4)) : Q_spliceGiveq1_1 rnd x1_0 x1_1 x1_3 x1_4 (x1_2, x1_5) (X_spliceGiveq1_1 x1_0 x1_1 x1_3 x1_4 x1_2) :=
 runC2 hm (L := lT []) ⟨[7], [(0, 0, true)], 1, 0, [], false, []⟩ (zz 1 (xdF hy1_1) <|
ww (rows_flat rwf_iiiiiiLu x1_2 41) <|
ee) (by kernel_rfl)
theorem m_spliceGiveq1_1_ok (n : Nat) {rnd : Option Nat} (x1_0 : Int) (x1_1 : Int) (x1_3 : Nat) (x1_4 : Int) (st : List R8 × Int) (r : List R8) (h : m_spliceGiveq1_1 n x1_0 x1_1 x1_3 x1_4 st = some r) : CG P rnd (fnN P 15) 0 (codeOf P 15 [false, true, false, true, true, true]) (S_spliceGiveq1_1 x1_0 x1_1 x1_3 x1_4 st) (X_spliceGiveq1_1 x1_0 x1_1 x1_3 x1_4 r) :=
 CG.iter (b := codeOf P 15 [false, false, true, false, true, true, true]) (by kernel_rfl) (body := B_spliceGiveq1_1 n x1_0 x1_1 x1_3 x1_4) (S := S_spliceGiveq1_1 x1_0 x1_1 x1_3 x1_4) (X := X_spliceGiveq1_1 x1_0 x1_1 x1_3 x1_4)
  (fun s s' h => by
  obtain ⟨x1_2, x1_5⟩ := s
  unfold B_spliceGiveq1_1 at h
  dsimp only at h
  by_cases hy1_1 : x1_5 < x1_4
  ·rw [if_pos hy1_1] at h
   by_cases hy1_2 : 0 ≤ x1_5 ∧ x1_5 < ((x1_3 : Nat) : Int)
   ·rw [if_pos hy1_2] at h
    by_cases hy1_3 : (x1_5).toNat < (x1_2).length
    ·rw [if_pos hy1_3] at h
     obtain ⟨y1_4_, hy1_4, h⟩ := Option.bind_eq_some_iff.1 h
     by_cases hy1_5 : 0 ≤ x1_0
     ·rw [if_pos hy1_5] at h
      by_cases hy1_6 : (bAnd .u64 (shrV .u64 (y1_4_.2.2.2.2.2.2.2) x1_0) (1 : Int)) = (1 : Int)
      ·rw [if_pos hy1_6] at h
       by_cases hy1_7 : 0 ≤ x1_1
       ·rw [if_pos hy1_7] at h
        obtain rfl := Sum.inl.inj (oI h); exact q_spliceGiveq1_1_0 n x1_0 x1_1 x1_2 x1_3 x1_4 x1_5 hy1_1 hy1_2 hy1_3 y1_4_ hy1_4 hy1_5 hy1_6 hy1_7
       ·rw [if_neg hy1_7] at h; cases h
      ·rw [if_neg hy1_6] at h
       obtain rfl := Sum.inl.inj (oI h); exact q_spliceGiveq1_1_1 n x1_0 x1_1 x1_2 x1_3 x1_4 x1_5 hy1_1 hy1_2 hy1_3 y1_4_ hy1_4 hy1_5 hy1_6
     ·rw [if_neg hy1_5] at h; cases h
    ·rw [if_neg hy1_3] at h; cases h
   ·rw [if_neg hy1_2] at h; cases h
  ·rw [if_neg hy1_1] at h
   cases h)
  (fun s r h => by
  obtain ⟨x1_2, x1_5⟩ := s
  unfold B_spliceGiveq1_1 at h
  dsimp only at h
  by_cases hy1_1 : x1_5 < x1_4
  ·rw [if_pos hy1_1] at h
   by_cases hy1_2 : 0 ≤ x1_5 ∧ x1_5 < ((x1_3 : Nat) : Int)
   ·rw [if_pos hy1_2] at h
    by_cases hy1_3 : (x1_5).toNat < (x1_2).length
    ·rw [if_pos hy1_3] at h
     obtain ⟨y1_4_, hy1_4, h⟩ := Option.bind_eq_some_iff.1 h
     by_cases hy1_5 : 0 ≤ x1_0
     ·rw [if_pos hy1_5] at h
      by_cases hy1_6 : (bAnd .u64 (shrV .u64 (y1_4_.2.2.2.2.2.2.2) x1_0) (1 : Int)) = (1 : Int)
      ·rw [if_pos hy1_6] at h
       by_cases hy1_7 : 0 ≤ x1_1
       ·rw [if_pos hy1_7] at h
        cases h
       ·rw [if_neg hy1_7] at h; cases h
      ·rw [if_neg hy1_6] at h
       cases h
     ·rw [if_neg hy1_5] at h; cases h
    ·rw [if_neg hy1_3] at h; cases h
   ·rw [if_neg hy1_2] at h; cases h
  ·rw [if_neg hy1_1] at h
   obtain rfl := Sum.inr.inj (oI h); exact q_spliceGiveq1_1_2 n x1_0 x1_1 x1_2 x1_3 x1_4 x1_5 hy1_1)
  (fun r => by intro hx; cases hx) h
def m_spliceGiveq1 (n : Nat) (a0 : Int) (a1 : Int) : Option (List R8 × Nat) :=
 (m_treeCopyq1 n).bind fun t => match t with
 | (c1_0, c1_1) =>
  (m_spliceexistsq1 n a0).bind fun c2_ =>
  if c2_ = true then
   (m_spliceexistsq1 n a1).bind fun c4_ =>
   if c4_ = true then
    (m_spliceGiveq1_1 n a0 a1 c1_1 ((c1_1 : Nat) : Int) (c1_0, 0)).bind fun c6_ =>
    some (c6_, c1_1)
   else
    some (c1_0, c1_1)
  else
   some (c1_0, c1_1)
theorem p_spliceGiveq1_0 (n : Nat) (a0 a1 : Int) (c1_0 : List R8) (c1_1 : Nat) (hc1 : m_treeCopyq1 n = some (c1_0, c1_1)) (c2_ : Bool) (hc2 : m_spliceexistsq1 n a0 = some c2_) (hc3 : c2_ = true) (c4_ : Bool) (hc4 : m_spliceexistsq1 n a1 = some c4_) (hc5 : c4_ = true) (c6_ : List R8) (hc6 : m_spliceGiveq1_1 n a0 a1 c1_1 ((c1_1 : Nat) : Int) (c1_0, 0) = some c6_) : G_spliceGiveq1 a0 a1 (c6_, c1_1) :=
 runF2 hm (L := lT [(23, ⟨⟨[1, 2, 7, 22, 23], [(0, 0, true)], 1, 0, [], false, []⟩, (X_spliceGiveq1_1 a0 a1 c1_1 ((c1_1 : Nat) : Int) c6_).1, (X_spliceGiveq1_1 a0 a1 c1_1 ((c1_1 : Nat) : Int) c6_).2⟩)]) ⟨[6], [(0, 0, true)], 1, 0, [], false, []⟩ (yy 4 (.call (C_treeCopyq1  (c1_0, c1_1) [] [(0, 0, true)])) <|
ww (m_treeCopyq1_ok n  (c1_0, c1_1) hc1) <|
ww (rows_flat rwf_iiiiiiLu c1_0 41) <|
yy 9 (.call (C_spliceexistsq1 a0 c2_ [] [])) <|
ww (m_spliceexistsq1_ok n a0 c2_ hc2) <|
yy 10 (vf) <|
ww (p := (Value.bool (!c2_)) = (Value.bool false)) (vBn hc3) <|
yy 13 (.call (C_spliceexistsq1 a1 c4_ [] [])) <|
ww (m_spliceexistsq1_ok n a1 c4_ hc4) <|
yy 14 (vf) <|
ww (p := (Value.bool (!c4_)) = (Value.bool false)) (vBn hc5) <|
ww (p := U_spliceGiveq1_1 none a0 a1 c1_1 ((c1_1 : Nat) : Int) (c1_0, 0) c6_) (m_spliceGiveq1_1_ok n a0 a1 c1_1 ((c1_1 : Nat) : Int) (c1_0, 0) c6_ hc6) <|
ww (rows_flat rwf_iiiiiiLu c1_0 41) <|
ww (rows_flat rwf_iiiiiiLu c6_ 41) <|
ee) (by kernel_rfl)
theorem p_spliceGiveq1_1 (n : Nat) (a0 a1 : Int) (c1_0 : List R8) (c1_1 : Nat) (hc1 : m_treeCopyq1 n = some (c1_0, c1_1)) (c2_ : Bool) (hc2 : m_spliceexistsq1 n a0 = some c2_) (hc3 : c2_ = true) (c4_ : Bool) (hc4 : m_spliceexistsq1 n a1 = some c4_) (hc5 : ¬ (c4_ = true)) : G_spliceGiveq1 a0 a1 (c1_0, c1_1) :=
 runF2 hm (L := lT []) ⟨[6], [(0, 0, true)], 1, 0, [], false, []⟩ (yy 4 (.call (C_treeCopyq1  (c1_0, c1_1) [] [(0, 0, true)])) <|
ww (m_treeCopyq1_ok n  (c1_0, c1_1) hc1) <|
ww (rows_flat rwf_iiiiiiLu c1_0 41) <|
yy 9 (.call (C_spliceexistsq1 a0 c2_ [] [])) <|
ww (m_spliceexistsq1_ok n a0 c2_ hc2) <|
yy 10 (vf) <|
ww (p := (Value.bool (!c2_)) = (Value.bool false)) (vBn hc3) <|
yy 13 (.call (C_spliceexistsq1 a1 c4_ [] [])) <|
ww (m_spliceexistsq1_ok n a1 c4_ hc4) <|
yy 14 (vt) <|
ww (p := (Value.bool (!c4_)) = (Value.bool true)) (vBn (Bool.eq_false_iff.2 hc5)) <|
ww (rows_flat rwf_iiiiiiLu c1_0 41) <|
ee) (by kernel_rfl)
theorem p_spliceGiveq1_2 (n : Nat) (a0 a1 : Int) (c1_0 : List R8) (c1_1 : Nat) (hc1 : m_treeCopyq1 n = some (c1_0, c1_1)) (c2_ : Bool) (hc2 : m_spliceexistsq1 n a0 = some c2_) (hc3 : ¬ (c2_ = true)) : G_spliceGiveq1 a0 a1 (c1_0, c1_1) :=
 runF2 hm (L := lT []) ⟨[6], [(0, 0, true)], 1, 0, [], false, []⟩ (yy 4 (.call (C_treeCopyq1  (c1_0, c1_1) [] [(0, 0, true)])) <|
ww (m_treeCopyq1_ok n  (c1_0, c1_1) hc1) <|
ww (rows_flat rwf_iiiiiiLu c1_0 41) <|
yy 9 (.call (C_spliceexistsq1 a0 c2_ [] [])) <|
ww (m_spliceexistsq1_ok n a0 c2_ hc2) <|
yy 10 (vt) <|
ww (p := (Value.bool (!c2_)) = (Value.bool true)) (vBn (Bool.eq_false_iff.2 hc3)) <|
ww (rows_flat rwf_iiiiiiLu c1_0 41) <|
ee) (by kernel_rfl)
theorem m_spliceGiveq1_ok (n : Nat) (a0 : Int) (a1 : Int) (r : List R8 × Nat) (h : m_spliceGiveq1 n a0 a1 = some r) : Gv P (.func 15) (A_spliceGiveq1 a0 a1) (H_spliceGiveq1 a0 a1) (V_spliceGiveq1 a0 a1 r) (R_spliceGiveq1 a0 a1 r) := by
 unfold m_spliceGiveq1 at h
 obtain ⟨⟨c1_0, c1_1⟩, hc1, h⟩ := Option.bind_eq_some_iff.1 h
 dsimp only at h
 obtain ⟨c2_, hc2, h⟩ := Option.bind_eq_some_iff.1 h
 by_cases hc3 : c2_ = true
 ·rw [if_pos hc3] at h
  obtain ⟨c4_, hc4, h⟩ := Option.bind_eq_some_iff.1 h
  by_cases hc5 : c4_ = true
  ·rw [if_pos hc5] at h
   obtain ⟨c6_, hc6, h⟩ := Option.bind_eq_some_iff.1 h
   obtain rfl := oI h; exact p_spliceGiveq1_0 n a0 a1 c1_0 c1_1 hc1 c2_ hc2 hc3 c4_ hc4 hc5 c6_ hc6
  ·rw [if_neg hc5] at h
   obtain rfl := oI h; exact p_spliceGiveq1_1 n a0 a1 c1_0 c1_1 hc1 c2_ hc2 hc3 c4_ hc4 hc5
 ·rw [if_neg hc3] at h
  obtain rfl := oI h; exact p_spliceGiveq1_2 n a0 a1 c1_0 c1_1 hc1 c2_ hc2 hc3

noncomputable def A_spliceClearq1 (a0 : Int) : List Value := [(sW 0 0 (Args.A).length Args.cA), (i6 a0)]
noncomputable def H_spliceClearq1 (a0 : Int) : AH := ⟨sB [], 0, 0⟩
noncomputable def V_spliceClearq1 (a0 : Int) (r : List R8 × Nat) : Value := match r with
 | (o0, o1) => (sN 0 0 o1 o1)
noncomputable def R_spliceClearq1 (a0 : Int) (r : List R8 × Nat) : AH := match r with
 | (o0, o1) => ⟨sB [(0, (some (.cells (layT (rows rw_iiiiiiLu o0)) 41)))], 1, 0⟩
noncomputable abbrev G_spliceClearq1 (a0 : Int) (r : List R8 × Nat) : Prop := Gv P (.func 16) (A_spliceClearq1 a0) (H_spliceClearq1 a0) (V_spliceClearq1 a0 r) (R_spliceClearq1 a0 r)
noncomputable abbrev C_spliceClearq1 (a0 : Int) (r : List R8 × Nat) (ins outs : BL) : CallA := ⟨0, ins, V_spliceClearq1 a0 r, R_spliceClearq1 a0 r, outs⟩
noncomputable def S_spliceClearq1_1 (x1_0 : Int) (x1_2 : Nat) (x1_3 : Int) (st : List R8 × Int) : XSt := match st with
 | (x1_1, x1_4) => (sT 30 [(1, (i6 x1_0)), (5, (sN 0 0 x1_2 x1_2)), (14, (i6 x1_3)), (15, (i6 x1_4))], [], ⟨sB [(0, (some (.cells (layT (rows rw_iiiiiiLu x1_1)) 41)))], 1, 0⟩)
noncomputable def X_spliceClearq1_1 (x1_0 : Int) (x1_2 : Nat) (x1_3 : Int) (r : List R8) : Ex × XSt := match r with
 | z1_0 => (.exit 0, (sT 30 [(5, (sN 0 0 x1_2 x1_2))], [], ⟨sB [(0, (some (.cells (layT (rows rw_iiiiiiLu z1_0)) 41)))], 1, 0⟩))
noncomputable abbrev Q_spliceClearq1_1 (rnd : Option Nat) (x1_0 : Int) (x1_2 : Nat) (x1_3 : Int) (st : List R8 × Int) (c : Ex × XSt) : Prop := CG P rnd (fnN P 16) 0 (codeOf P 16 [false, false, true, false, true, true, true]) (S_spliceClearq1_1 x1_0 x1_2 x1_3 st) c
noncomputable abbrev U_spliceClearq1_1 (rd : Option Nat) (x1_0 : Int) (x1_2 : Nat) (x1_3 : Int) (st : List R8 × Int) (r : List R8) : Prop := CG P rd (fnN P 16) 0 (codeOf P 16 [false, true, false, true, true, true]) (S_spliceClearq1_1 x1_0 x1_2 x1_3 st) (X_spliceClearq1_1 x1_0 x1_2 x1_3 r)
def B_spliceClearq1_1 (n : Nat) (x1_0 : Int) (x1_2 : Nat) (x1_3 : Int) (st : List R8 × Int) : Option ((List R8 × Int) ⊕ (List R8)) := match st with
 | (x1_1, x1_4) =>
  if x1_4 < x1_3 then
   if 0 ≤ x1_4 ∧ x1_4 < ((x1_2 : Nat) : Int) then
    if (x1_4).toNat < (x1_1).length then
     ((some ((x1_1).getD (x1_4).toNat (0, 0, 0, 0, 0, 0, nl0, 0)))).bind fun y1_4_ =>
     if 0 ≤ x1_0 then
      some (.inl (((x1_1).set (x1_4).toNat ((y1_4_.1), (y1_4_.2.1), (y1_4_.2.2.1), (y1_4_.2.2.2.1), (y1_4_.2.2.2.2.1), (y1_4_.2.2.2.2.2.1), (y1_4_.2.2.2.2.2.2.1), (bAndNot .u64 (y1_4_.2.2.2.2.2.2.2) (shlV .u64 (1 : Int) x1_0)))), (w64 (x1_4 + (1 : Int)))))
     else none
    else none
   else none
  else
   some (.inr x1_1)
def m_spliceClearq1_1 (n : Nat) (x1_0 : Int) (x1_2 : Nat) (x1_3 : Int) (st : List R8 × Int) : Option (List R8) := iterM (B_spliceClearq1_1 n x1_0 x1_2 x1_3) n st
theorem q_spliceClearq1_1_0 (n : Nat) {rnd : Option Nat} (x1_0 : Int) (x1_1 : List R8) (x1_2 : Nat) (x1_3 x1_4 : Int) (hy1_1 : x1_4 < x1_3) (hy1_2 : 0 ≤ x1_4 ∧ x1_4 < ((x1_2 : Nat) : Int)) (hy1_3 : (x1_4).toNat < (x1_1).length) (y1_4_ : R8) (hy1_4 : (some ((x1_1).getD (x1_4).toNat (0, 0, 0, 0, 0, 0, nl0, 0))) = some y1_4_) (hy1_5 : 0 ≤ x1_0) : Q_spliceClearq1_1 rnd x1_0 x1_2 x1_3 (x1_1, x1_4) (.normal, S_spliceClearq1_1 x1_0 x1_2 x1_3 (((x1_1).set (x1_4).toNat ((y1_4_.1), (y1_4_.2.1), (y1_4_.2.2.1), (y1_4_.2.2.2.1), (y1_4_.2.2.2.2.1), (y1_4_.2.2.2.2.2.1), (y1_4_.2.2.2.2.2.2.1), (bAndNot .u64 (y1_4_.2.2.2.2.2.2.2) (shlV .u64 (1 : Int) x1_0)))), (w64 (x1_4 + (1 : Int))))) :=
 runC2 hm (L := lT []) ⟨[1, 5, 14, 15], [(0, 0, true)], 1, 0, [], false, []⟩ (zz 1 (xdT hy1_1) <|
zz 11 (xk14 0 x1_2 hy1_2) <|
zz 13 (ok15 hy1_4 (hy1_3)) <|
yy 15 (.pur (Value.int .u64 (shlV .u64 (1 : Int) x1_0))) <|
ww (p := opBin P .shl 35 (.const (Value.int .u64 (1 : Int))) (.tmp 23) (Value.int .u64 (1 : Int)) (i6 x1_0) Ax.h0 = some ((Value.int .u64 (shlV .u64 (1 : Int) x1_0)), Ax.h0)) (shl_u64_i64 hy1_5) <|
zz 17 (xk14 0 x1_2 hy1_2) <|
yy 19 (.sto (layT (rows rw_iiiiiiLu ((x1_1).set (x1_4).toNat ((y1_4_.1), (y1_4_.2.1), (y1_4_.2.2.1), (y1_4_.2.2.2.1), (y1_4_.2.2.2.2.1), (y1_4_.2.2.2.2.2.1), (y1_4_.2.2.2.2.2.2.1), (bAndNot .u64 (y1_4_.2.2.2.2.2.2.2) (shlV .u64 (1 : Int) x1_0))))))) <|
ww (p := ∃ old, rdT (layT (rows rw_iiiiiiLu x1_1)) 1 (Nat.add ((x1_4).toNat * 8) 7) = some old) (Exists.elim (rows_stN rwf_iiiiiiLu (0, 0, 0, 0, 0, 0, nl0, 0) (hr := hy1_4) (i := (x1_4).toNat) (j := 7) (l := [(Value.int .u64 (bAndNot .u64 (y1_4_.2.2.2.2.2.2.2) (shlV .u64 (1 : Int) x1_0)))]) ((y1_4_.1), (y1_4_.2.1), (y1_4_.2.2.1), (y1_4_.2.2.2.1), (y1_4_.2.2.2.2.1), (y1_4_.2.2.2.2.2.1), (y1_4_.2.2.2.2.2.2.1), (bAndNot .u64 (y1_4_.2.2.2.2.2.2.2) (shlV .u64 (1 : Int) x1_0))) (Nat.add ((x1_4).toNat * 8) 7) rfl (hy1_3) (Nat.le_of_ble_eq_true rfl) rfl) fun o h => ⟨o, h.1⟩) <|
ww (p := layL [(Value.int .u64 (bAndNot .u64 (y1_4_.2.2.2.2.2.2.2) (shlV .u64 (1 : Int) x1_0)))] (Nat.add ((x1_4).toNat * 8) 7) (layT (rows rw_iiiiiiLu x1_1)) = layT (rows rw_iiiiiiLu ((x1_1).set (x1_4).toNat ((y1_4_.1), (y1_4_.2.1), (y1_4_.2.2.1), (y1_4_.2.2.2.1), (y1_4_.2.2.2.2.1), (y1_4_.2.2.2.2.2.1), (y1_4_.2.2.2.2.2.2.1), (bAndNot .u64 (y1_4_.2.2.2.2.2.2.2) (shlV .u64 (1 : Int) x1_0)))))) (Exists.elim (rows_stN rwf_iiiiiiLu (0, 0, 0, 0, 0, 0, nl0, 0) (hr := hy1_4) (i := (x1_4).toNat) (j := 7) (l := [(Value.int .u64 (bAndNot .u64 (y1_4_.2.2.2.2.2.2.2) (shlV .u64 (1 : Int) x1_0)))]) ((y1_4_.1), (y1_4_.2.1), (y1_4_.2.2.1), (y1_4_.2.2.2.1), (y1_4_.2.2.2.2.1), (y1_4_.2.2.2.2.2.1), (y1_4_.2.2.2.2.2.2.1), (bAndNot .u64 (y1_4_.2.2.2.2.2.2.2) (shlV .u64 (1 : Int) x1_0))) (Nat.add ((x1_4).toNat * 8) 7) rfl (hy1_3) (Nat.le_of_ble_eq_true rfl) rfl) fun o h => h.2) <|
ww (rows_flat rwf_iiiiiiLu ((x1_1).set (x1_4).toNat ((y1_4_.1), (y1_4_.2.1), (y1_4_.2.2.1), (y1_4_.2.2.2.1), (y1_4_.2.2.2.2.1), (y1_4_.2.2.2.2.2.1), (y1_4_.2.2.2.2.2.2.1), (bAndNot .u64 (y1_4_.2.2.2.2.2.2.2) (shlV .u64 (1 : Int) x1_0)))) 41) <|
ee) (by kernel_rfl)
theorem q_spliceClearq1_1_1 (n : Nat) {rnd : Option Nat} (x1_0 : Int) (x1_1 : List R8) (x1_2 : Nat) (x1_3 x1_4 : Int) (hy1_1 : ¬ (x1_4 < x1_3)) : Q_spliceClearq1_1 rnd x1_0 x1_2 x1_3 (x1_1, x1_4) (X_spliceClearq1_1 x1_0 x1_2 x1_3 x1_1) :=
 runC2 hm (L := lT []) ⟨[5], [(0, 0, true)], 1, 0, [], false, []⟩ (zz 1 (xdF hy1_1) <|
ww (rows_flat rwf_iiiiiiLu x1_1 41) <|
ee) (by kernel_rfl)
theorem m_spliceClearq1_1_ok (n : Nat) {rnd : Option Nat} (x1_0 : Int) (x1_2 : Nat) (x1_3 : Int) (st : List R8 × Int) (r : List R8) (h : m_spliceClearq1_1 n x1_0 x1_2 x1_3 st = some r) : CG P rnd (fnN P 16) 0 (codeOf P 16 [false, true, false, true, true, true]) (S_spliceClearq1_1 x1_0 x1_2 x1_3 st) (X_spliceClearq1_1 x1_0 x1_2 x1_3 r) :=
 CG.iter (b := codeOf P 16 [false, false, true, false, true, true, true]) (by kernel_rfl) (body := B_spliceClearq1_1 n x1_0 x1_2 x1_3) (S := S_spliceClearq1_1 x1_0 x1_2 x1_3) (X := X_spliceClearq1_1 x1_0 x1_2 x1_3)
  (fun s s' h => by
  obtain ⟨x1_1, x1_4⟩ := s
  unfold B_spliceClearq1_1 at h
  dsimp only at h
  by_cases hy1_1 : x1_4 < x1_3
  ·rw [if_pos hy1_1] at h
   by_cases hy1_2 : 0 ≤ x1_4 ∧ x1_4 < ((x1_2 : Nat) : Int)
   ·rw [if_pos hy1_2] at h
    by_cases hy1_3 : (x1_4).toNat < (x1_1).length
    ·rw [if_pos hy1_3] at h
     obtain ⟨y1_4_, hy1_4, h⟩ := Option.bind_eq_some_iff.1 h
     by_cases hy1_5 : 0 ≤ x1_0
     ·rw [if_pos hy1_5] at h
      obtain rfl := Sum.inl.inj (oI h); exact q_spliceClearq1_1_0 n x1_0 x1_1 x1_2 x1_3 x1_4 hy1_1 hy1_2 hy1_3 y1_4_ hy1_4 hy1_5
     ·rw [if_neg hy1_5] at h; cases h
    ·rw [if_neg hy1_3] at h; cases h
   ·rw [if_neg hy1_2] at h; cases h
  ·rw [if_neg hy1_1] at h
   cases h)
  (fun s r h => by
  obtain ⟨x1_1, x1_4⟩ := s
  unfold B_spliceClearq1_1 at h
  dsimp only at h
  by_cases hy1_1 : x1_4 < x1_3
  ·rw [if_pos hy1_1] at h
   by_cases hy1_2 : 0 ≤ x1_4 ∧ x1_4 < ((x1_2 : Nat) : Int)
   ·rw [if_pos hy1_2] at h
    by_cases hy1_3 : (x1_4).toNat < (x1_1).length
    ·rw [if_pos hy1_3] at h
     obtain ⟨y1_4_, hy1_4, h⟩ := Option.bind_eq_some_iff.1 h
     by_cases hy1_5 : 0 ≤ x1_0
     ·rw [if_pos hy1_5] at h
      cases h
     ·rw [if_neg hy1_5] at h; cases h
    ·rw [if_neg hy1_3] at h; cases h
   ·rw [if_neg hy1_2] at h; cases h
  ·rw [if_neg hy1_1] at h
   obtain rfl := Sum.inr.inj (oI h); exact q_spliceClearq1_1_1 n x1_0 x1_1 x1_2 x1_3 x1_4 hy1_1)
  (fun r => by intro hx; cases hx) h
def m_spliceClearq1 (n : Nat) (a0 : Int) : Option (List R8 × Nat) :=
 (m_treeCopyq1 n).bind fun t => match t with
 | (c1_0, c1_1) =>
  (m_spliceexistsq1 n a0).bind fun c2_ =>
  if c2_ = true then
   (m_spliceClearq1_1 n a0 c1_1 ((c1_1 : Nat) : Int) (c1_0, 0)).bind fun c4_ =>
   some (c4_, c1_1)
  else
   some (c1_0, c1_1)
theorem p_spliceClearq1_0 (n : Nat) (a0 : Int) (c1_0 : List R8) (c1_1 : Nat) (hc1 : m_treeCopyq1 n = some (c1_0, c1_1)) (c2_ : Bool) (hc2 : m_spliceexistsq1 n a0 = some c2_) (hc3 : c2_ = true) (c4_ : List R8) (hc4 : m_spliceClearq1_1 n a0 c1_1 ((c1_1 : Nat) : Int) (c1_0, 0) = some c4_) : G_spliceClearq1 a0 (c4_, c1_1) :=
 runF2 hm (L := lT [(18, ⟨⟨[1, 5, 14, 15], [(0, 0, true)], 1, 0, [], false, []⟩, (X_spliceClearq1_1 a0 c1_1 ((c1_1 : Nat) : Int) c4_).1, (X_spliceClearq1_1 a0 c1_1 ((c1_1 : Nat) : Int) c4_).2⟩)]) ⟨[4], [(0, 0, true)], 1, 0, [], false, []⟩ (yy 4 (.call (C_treeCopyq1  (c1_0, c1_1) [] [(0, 0, true)])) <|
ww (m_treeCopyq1_ok n  (c1_0, c1_1) hc1) <|
ww (rows_flat rwf_iiiiiiLu c1_0 41) <|
yy 9 (.call (C_spliceexistsq1 a0 c2_ [] [])) <|
ww (m_spliceexistsq1_ok n a0 c2_ hc2) <|
yy 10 (vf) <|
ww (p := (Value.bool (!c2_)) = (Value.bool false)) (vBn hc3) <|
ww (p := U_spliceClearq1_1 none a0 c1_1 ((c1_1 : Nat) : Int) (c1_0, 0) c4_) (m_spliceClearq1_1_ok n a0 c1_1 ((c1_1 : Nat) : Int) (c1_0, 0) c4_ hc4) <|
ww (rows_flat rwf_iiiiiiLu c1_0 41) <|
ww (rows_flat rwf_iiiiiiLu c4_ 41) <|
ee) (by kernel_rfl)
theorem p_spliceClearq1_1 (n : Nat) (a0 : Int) (c1_0 : List R8) (c1_1 : Nat) (hc1 : m_treeCopyq1 n = some (c1_0, c1_1)) (c2_ : Bool) (hc2 : m_spliceexistsq1 n a0 = some c2_) (hc3 : ¬ (c2_ = true)) : G_spliceClearq1 a0 (c1_0, c1_1) :=
 runF2 hm (L := lT []) ⟨[4], [(0, 0, true)], 1, 0, [], false, []⟩ (yy 4 (.call (C_treeCopyq1  (c1_0, c1_1) [] [(0, 0, true)])) <|
ww (m_treeCopyq1_ok n  (c1_0, c1_1) hc1) <|
ww (rows_flat rwf_iiiiiiLu c1_0 41) <|
yy 9 (.call (C_spliceexistsq1 a0 c2_ [] [])) <|
ww (m_spliceexistsq1_ok n a0 c2_ hc2) <|
yy 10 (vt) <|
ww (p := (Value.bool (!c2_)) = (Value.bool true)) (vBn (Bool.eq_false_iff.2 hc3)) <|
ww (rows_flat rwf_iiiiiiLu c1_0 41) <|
ee) (by kernel_rfl)
theorem m_spliceClearq1_ok (n : Nat) (a0 : Int) (r : List R8 × Nat) (h : m_spliceClearq1 n a0 = some r) : Gv P (.func 16) (A_spliceClearq1 a0) (H_spliceClearq1 a0) (V_spliceClearq1 a0 r) (R_spliceClearq1 a0 r) := by
 unfold m_spliceClearq1 at h
 obtain ⟨⟨c1_0, c1_1⟩, hc1, h⟩ := Option.bind_eq_some_iff.1 h
 dsimp only at h
 obtain ⟨c2_, hc2, h⟩ := Option.bind_eq_some_iff.1 h
 by_cases hc3 : c2_ = true
 ·rw [if_pos hc3] at h
  obtain ⟨c4_, hc4, h⟩ := Option.bind_eq_some_iff.1 h
  obtain rfl := oI h; exact p_spliceClearq1_0 n a0 c1_0 c1_1 hc1 c2_ hc2 hc3 c4_ hc4
 ·rw [if_neg hc3] at h
  obtain rfl := oI h; exact p_spliceClearq1_1 n a0 c1_0 c1_1 hc1 c2_ hc2 hc3

noncomputable def A_Rendq2 (a0 : List R8) (a1 : Nat) (a2 : Nat) (a3 : Int) : List Value := [(sN 0 0 a1 a2), (i6 a3)]
noncomputable def H_Rendq2 (a0 : List R8) (a1 : Nat) (a2 : Nat) (a3 : Int) : AH := ⟨sB [(0, (some (.cells (layT (rows rw_iiiiiiLu a0)) 41)))], 1, 1⟩
noncomputable def V_Rendq2 (a0 : List R8) (a1 : Nat) (a2 : Nat) (a3 : Int) (r : Int) : Value := match r with
 | o0 => (i6 o0)
noncomputable def R_Rendq2 (a0 : List R8) (a1 : Nat) (a2 : Nat) (a3 : Int) (r : Int) : AH := match r with
 | o0 => ⟨sB [], 1, 1⟩
noncomputable abbrev G_Rendq2 (a0 : List R8) (a1 : Nat) (a2 : Nat) (a3 : Int) (r : Int) : Prop := Gv P (.func 23) (A_Rendq2 a0 a1 a2 a3) (H_Rendq2 a0 a1 a2 a3) (V_Rendq2 a0 a1 a2 a3 r) (R_Rendq2 a0 a1 a2 a3 r)
noncomputable abbrev C_Rendq2 (a0 : List R8) (a1 : Nat) (a2 : Nat) (a3 : Int) (r : Int) (ins outs : BL) : CallA := ⟨1, ins, V_Rendq2 a0 a1 a2 a3 r, R_Rendq2 a0 a1 a2 a3 r, outs⟩
noncomputable def S_Rendq2_1 (x1_0 : List R8) (x1_1 : Nat) (x1_2 : Nat) (x1_3 : Int) (st : Int × Int × Int) : XSt := match st with
 | (x1_4, x1_5, x1_6) => (sT 68 [(0, (sN 0 0 x1_1 x1_2)), (1, (i6 x1_3)), (5, (i6 x1_4)), (6, (i6 x1_5)), (7, (i6 x1_6))], [], ⟨sB [(0, (some (.cells (layT (rows rw_iiiiiiLu x1_0)) 41)))], 1, 1⟩)
noncomputable def X_Rendq2_1 (x1_0 : List R8) (x1_1 : Nat) (x1_2 : Nat) (x1_3 : Int) (r : (Unit) ⊕ (Int × Int)) : Ex × XSt := match r with
 | .inl _ => (.ret, (sT 68 [(4, (i6 (-1 : Int)))], [], ⟨sB [(0, (some (.cells (layT (rows rw_iiiiiiLu x1_0)) 41)))], 1, 1⟩))
 | .inr (z1_0, z1_1) => (.exit 0, (sT 68 [(0, (sN 0 0 x1_1 x1_2)), (1, (i6 x1_3)), (5, (i6 z1_0)), (6, (i6 z1_1))], [], ⟨sB [(0, (some (.cells (layT (rows rw_iiiiiiLu x1_0)) 41)))], 1, 1⟩))
noncomputable abbrev Q_Rendq2_1 (rnd : Option Nat) (x1_0 : List R8) (x1_1 : Nat) (x1_2 : Nat) (x1_3 : Int) (st : Int × Int × Int) (c : Ex × XSt) : Prop := CG P rnd (fnN P 23) 1 (codeOf P 23 [false, false, true, false, true, true]) (S_Rendq2_1 x1_0 x1_1 x1_2 x1_3 st) c
noncomputable abbrev U_Rendq2_1 (rd : Option Nat) (x1_0 : List R8) (x1_1 : Nat) (x1_2 : Nat) (x1_3 : Int) (st : Int × Int × Int) (r : (Unit) ⊕ (Int × Int)) : Prop := CG P rd (fnN P 23) 1 (codeOf P 23 [false, true, false, true, true]) (S_Rendq2_1 x1_0 x1_1 x1_2 x1_3 st) (X_Rendq2_1 x1_0 x1_1 x1_2 x1_3 r)
def B_Rendq2_1 (rec_Rendq2 : (List R8) → (Nat) → (Nat) → (Int) → Option (Int)) (n : Nat) (x1_0 : List R8) (x1_1 : Nat) (x1_2 : Nat) (x1_3 : Int) (st : Int × Int × Int) : Option ((Int × Int × Int) ⊕ ((Unit) ⊕ (Int × Int))) := match st with
 | (x1_4, x1_5, x1_6) =>
  if 0 ≤ x1_3 ∧ x1_3 < ((x1_1 : Nat) : Int) then
   if (x1_3).toNat < (x1_0).length then
    ((some ((x1_0).getD (x1_3).toNat (0, 0, 0, 0, 0, 0, nl0, 0)))).bind fun y1_3_ =>
    if x1_6 < ((((y1_3_.2.2.2.2.2.2.1)).l.length : Nat) : Int) then
     if 0 ≤ x1_6 ∧ x1_6 < ((((y1_3_.2.2.2.2.2.2.1)).l.length : Nat) : Int) then
      if (x1_6).toNat < (((y1_3_.2.2.2.2.2.2.1)).l).length then
       ((some ((((y1_3_.2.2.2.2.2.2.1)).l).getD (x1_6).toNat 0))).bind fun y1_7_ =>
       if y1_7_ = x1_4 then
        if x1_4 ≥ ((x1_1 : Nat) : Int) then
         some (.inr (.inl ()))
        else
         if 0 ≤ x1_4 ∧ x1_4 < ((x1_1 : Nat) : Int) then
          if (x1_4).toNat < (x1_0).length then
           ((some ((x1_0).getD (x1_4).toNat (0, 0, 0, 0, 0, 0, nl0, 0)))).bind fun y1_12_ =>
           if (y1_12_.2.2.1) < x1_5 then
            some (.inr (.inl ()))
           else
            (rec_Rendq2 x1_0 x1_1 x1_2 x1_4).bind fun y1_14_ =>
            if y1_14_ < (0 : Int) then
             some (.inr (.inl ()))
            else
             some (.inl (y1_14_, (y1_12_.2.2.2.2.1), (w64 (x1_6 + (1 : Int)))))
          else none
         else none
       else
        some (.inr (.inl ()))
      else none
     else none
    else
     some (.inr (.inr (x1_4, x1_5)))
   else none
  else none
def m_Rendq2_1 (rec_Rendq2 : (List R8) → (Nat) → (Nat) → (Int) → Option (Int)) (n : Nat) (x1_0 : List R8) (x1_1 : Nat) (x1_2 : Nat) (x1_3 : Int) (st : Int × Int × Int) : Option ((Unit) ⊕ (Int × Int)) := iterM (B_Rendq2_1 rec_Rendq2 n x1_0 x1_1 x1_2 x1_3) n st
theorem q_Rendq2_1_0 (rec_Rendq2 : (List R8) → (Nat) → (Nat) → (Int) → Option (Int)) (hrec_Rendq2 : ∀ (a0 : List R8) (a1 : Nat) (a2 : Nat) (a3 : Int) (r : Int), rec_Rendq2 a0 a1 a2 a3 = some r → Gv P (.func 23) (A_Rendq2 a0 a1 a2 a3) (H_Rendq2 a0 a1 a2 a3) (V_Rendq2 a0 a1 a2 a3 r) (R_Rendq2 a0 a1 a2 a3 r)) (n : Nat) {rnd : Option Nat} (x1_0 : List R8) (x1_1 x1_2 : Nat) (x1_3 x1_4 x1_5 x1_6 : Int) (hy1_1 : 0 ≤ x1_3 ∧ x1_3 < ((x1_1 : Nat) : Int)) (hy1_2 : (x1_3).toNat < (x1_0).length) (y1_3_ : R8) (hy1_3 : (some ((x1_0).getD (x1_3).toNat (0, 0, 0, 0, 0, 0, nl0, 0))) = some y1_3_) (hy1_4 : x1_6 < ((((y1_3_.2.2.2.2.2.2.1)).l.length : Nat) : Int)) (hy1_5 : 0 ≤ x1_6 ∧ x1_6 < ((((y1_3_.2.2.2.2.2.2.1)).l.length : Nat) : Int)) (hy1_6 : (x1_6).toNat < (((y1_3_.2.2.2.2.2.2.1)).l).length) (y1_7_ : Int) (hy1_7 : (some ((((y1_3_.2.2.2.2.2.2.1)).l).getD (x1_6).toNat 0)) = some y1_7_) (hy1_8 : y1_7_ = x1_4) (hy1_9 : x1_4 ≥ ((x1_1 : Nat) : Int)) : Q_Rendq2_1 rnd x1_0 x1_1 x1_2 x1_3 (x1_4, x1_5, x1_6) (X_Rendq2_1 x1_0 x1_1 x1_2 x1_3 (.inl ())) :=
 runC2 hm (L := lT []) ⟨[4], [(0, 0, true)], 1, 1, [], false, []⟩ (zz 5 (xk14 0 x1_2 hy1_1) <|
zz 7 (ok20 hy1_3 (hy1_2)) <|
zz 9 (xdT hy1_4) <|
zz 17 (xk14 0 x1_2 hy1_1) <|
zz 19 (ok20 hy1_3 (hy1_2)) <|
zz 21 (xk9 (Nat.add ((y1_3_.2.2.2.2.2.2.1)).num 64) ((y1_3_.2.2.2.2.2.2.1)).cap hy1_5) <|
zz 22 (nk10 hy1_7 hy1_6) <|
zz 24 (xnF hy1_8) <|
zz 29 (xdT hy1_9) <|
ww (rows_flat rwf_iiiiiiLu x1_0 41) <|
ee) (by kernel_rfl)
theorem q_Rendq2_1_1 (rec_Rendq2 : (List R8) → (Nat) → (Nat) → (Int) → Option (Int)) (hrec_Rendq2 : ∀ (a0 : List R8) (a1 : Nat) (a2 : Nat) (a3 : Int) (r : Int), rec_Rendq2 a0 a1 a2 a3 = some r → Gv P (.func 23) (A_Rendq2 a0 a1 a2 a3) (H_Rendq2 a0 a1 a2 a3) (V_Rendq2 a0 a1 a2 a3 r) (R_Rendq2 a0 a1 a2 a3 r)) (n : Nat) {rnd : Option Nat} (x1_0 : List R8) (x1_1 x1_2 : Nat) (x1_3 x1_4 x1_5 x1_6 : Int) (hy1_1 : 0 ≤ x1_3 ∧ x1_3 < ((x1_1 : Nat) : Int)) (hy1_2 : (x1_3).toNat < (x1_0).length) (y1_3_ : R8) (hy1_3 : (some ((x1_0).getD (x1_3).toNat (0, 0, 0, 0, 0, 0, nl0, 0))) = some y1_3_) (hy1_4 : x1_6 < ((((y1_3_.2.2.2.2.2.2.1)).l.length : Nat) : Int)) (hy1_5 : 0 ≤ x1_6 ∧ x1_6 < ((((y1_3_.2.2.2.2.2.2.1)).l.length : Nat) : Int)) (hy1_6 : (x1_6).toNat < (((y1_3_.2.2.2.2.2.2.1)).l).length) (y1_7_ : Int) (hy1_7 : (some ((((y1_3_.2.2.2.2.2.2.1)).l).getD (x1_6).toNat 0)) = some y1_7_) (hy1_8 : y1_7_ = x1_4) (hy1_9 : ¬ (x1_4 ≥ ((x1_1 : Nat) : Int))) (hy1_10 : 0 ≤ x1_4 ∧ x1_4 < ((x1_1 : Nat) : Int)) (hy1_11 : (x1_4).toNat < (x1_0).length) (y1_12_ : R8) (hy1_12 : (some ((x1_0).getD (x1_4).toNat (0, 0, 0, 0, 0, 0, nl0, 0))) = some y1_12_) (hy1_13 : (y1_12_.2.2.1) < x1_5) : Q_Rendq2_1 rnd x1_0 x1_1 x1_2 x1_3 (x1_4, x1_5, x1_6) (X_Rendq2_1 x1_0 x1_1 x1_2 x1_3 (.inl ())) :=
 runC2 hm (L := lT []) ⟨[4], [(0, 0, true)], 1, 1, [], false, []⟩ (zz 5 (xk14 0 x1_2 hy1_1) <|
zz 7 (ok20 hy1_3 (hy1_2)) <|
zz 9 (xdT hy1_4) <|
zz 17 (xk14 0 x1_2 hy1_1) <|
zz 19 (ok20 hy1_3 (hy1_2)) <|
zz 21 (xk9 (Nat.add ((y1_3_.2.2.2.2.2.2.1)).num 64) ((y1_3_.2.2.2.2.2.2.1)).cap hy1_5) <|
zz 22 (nk10 hy1_7 hy1_6) <|
zz 24 (xnF hy1_8) <|
zz 29 (xdF hy1_9) <|
zz 34 (xk14 0 x1_2 hy1_10) <|
zz 36 (ok19 hy1_12 (hy1_11)) <|
zz 38 (xdT hy1_13) <|
ww (rows_flat rwf_iiiiiiLu x1_0 41) <|
ee) (by kernel_rfl)
theorem q_Rendq2_1_2 (rec_Rendq2 : (List R8) → (Nat) → (Nat) → (Int) → Option (Int)) (hrec_Rendq2 : ∀ (a0 : List R8) (a1 : Nat) (a2 : Nat) (a3 : Int) (r : Int), rec_Rendq2 a0 a1 a2 a3 = some r → Gv P (.func 23) (A_Rendq2 a0 a1 a2 a3) (H_Rendq2 a0 a1 a2 a3) (V_Rendq2 a0 a1 a2 a3 r) (R_Rendq2 a0 a1 a2 a3 r)) (n : Nat) {rnd : Option Nat} (x1_0 : List R8) (x1_1 x1_2 : Nat) (x1_3 x1_4 x1_5 x1_6 : Int) (hy1_1 : 0 ≤ x1_3 ∧ x1_3 < ((x1_1 : Nat) : Int)) (hy1_2 : (x1_3).toNat < (x1_0).length) (y1_3_ : R8) (hy1_3 : (some ((x1_0).getD (x1_3).toNat (0, 0, 0, 0, 0, 0, nl0, 0))) = some y1_3_) (hy1_4 : x1_6 < ((((y1_3_.2.2.2.2.2.2.1)).l.length : Nat) : Int)) (hy1_5 : 0 ≤ x1_6 ∧ x1_6 < ((((y1_3_.2.2.2.2.2.2.1)).l.length : Nat) : Int)) (hy1_6 : (x1_6).toNat < (((y1_3_.2.2.2.2.2.2.1)).l).length) (y1_7_ : Int) (hy1_7 : (some ((((y1_3_.2.2.2.2.2.2.1)).l).getD (x1_6).toNat 0)) = some y1_7_) (hy1_8 : y1_7_ = x1_4) (hy1_9 : ¬ (x1_4 ≥ ((x1_1 : Nat) : Int))) (hy1_10 : 0 ≤ x1_4 ∧ x1_4 < ((x1_1 : Nat) : Int)) (hy1_11 : (x1_4).toNat < (x1_0).length) (y1_12_ : R8) (hy1_12 : (some ((x1_0).getD (x1_4).toNat (0, 0, 0, 0, 0, 0, nl0, 0))) = some y1_12_) (hy1_13 : ¬ ((y1_12_.2.2.1) < x1_5)) (y1_14_ : Int) (hy1_14 : rec_Rendq2 x1_0 x1_1 x1_2 x1_4 = some y1_14_) (hy1_15 : y1_14_ < (0 : Int)) : Q_Rendq2_1 rnd x1_0 x1_1 x1_2 x1_3 (x1_4, x1_5, x1_6) (X_Rendq2_1 x1_0 x1_1 x1_2 x1_3 (.inl ())) :=
 runC2 hm (L := lT []) ⟨[4], [(0, 0, true)], 1, 1, [], false, []⟩ (zz 5 (xk14 0 x1_2 hy1_1) <|
zz 7 (ok20 hy1_3 (hy1_2)) <|
zz 9 (xdT hy1_4) <|
zz 17 (xk14 0 x1_2 hy1_1) <|
zz 19 (ok20 hy1_3 (hy1_2)) <|
zz 21 (xk9 (Nat.add ((y1_3_.2.2.2.2.2.2.1)).num 64) ((y1_3_.2.2.2.2.2.2.1)).cap hy1_5) <|
zz 22 (nk10 hy1_7 hy1_6) <|
zz 24 (xnF hy1_8) <|
zz 29 (xdF hy1_9) <|
zz 34 (xk14 0 x1_2 hy1_10) <|
zz 36 (ok19 hy1_12 (hy1_11)) <|
zz 38 (xdF hy1_13) <|
zz 44 (xk14 0 x1_2 hy1_10) <|
zz 46 (ok21 hy1_12 (hy1_11)) <|
yy 51 (.call (C_Rendq2 x1_0 x1_1 x1_2 x1_4 y1_14_ [(0, 0, true)] [])) <|
ww (hrec_Rendq2 x1_0 x1_1 x1_2 x1_4 y1_14_ hy1_14) <|
ww (rows_flat rwf_iiiiiiLu x1_0 41) <|
zz 55 (xdT hy1_15) <|
ww (rows_flat rwf_iiiiiiLu x1_0 41) <|
ee) (by kernel_rfl)
theorem q_Rendq2_1_3 (rec_Rendq2 : (List R8) → (Nat) → (Nat) → (Int) → Option (Int)) (hrec_Rendq2 : ∀ (a0 : List R8) (a1 : Nat) (a2 : Nat) (a3 : Int) (r : Int), rec_Rendq2 a0 a1 a2 a3 = some r → Gv P (.func 23) (A_Rendq2 a0 a1 a2 a3) (H_Rendq2 a0 a1 a2 a3) (V_Rendq2 a0 a1 a2 a3 r) (R_Rendq2 a0 a1 a2 a3 r)) (n : Nat) {rnd : Option Nat} (x1_0 : List R8) (x1_1 x1_2 : Nat) (x1_3 x1_4 x1_5 x1_6 : Int) (hy1_1 : 0 ≤ x1_3 ∧ x1_3 < ((x1_1 : Nat) : Int)) (hy1_2 : (x1_3).toNat < (x1_0).length) (y1_3_ : R8) (hy1_3 : (some ((x1_0).getD (x1_3).toNat (0, 0, 0, 0, 0, 0, nl0, 0))) = some y1_3_) (hy1_4 : x1_6 < ((((y1_3_.2.2.2.2.2.2.1)).l.length : Nat) : Int)) (hy1_5 : 0 ≤ x1_6 ∧ x1_6 < ((((y1_3_.2.2.2.2.2.2.1)).l.length : Nat) : Int)) (hy1_6 : (x1_6).toNat < (((y1_3_.2.2.2.2.2.2.1)).l).length) (y1_7_ : Int) (hy1_7 : (some ((((y1_3_.2.2.2.2.2.2.1)).l).getD (x1_6).toNat 0)) = some y1_7_) (hy1_8 : y1_7_ = x1_4) (hy1_9 : ¬ (x1_4 ≥ ((x1_1 : Nat) : Int))) (hy1_10 : 0 ≤ x1_4 ∧ x1_4 < ((x1_1 : Nat) : Int)) (hy1_11 : (x1_4).toNat < (x1_0).length) (y1_12_ : R8) (hy1_12 : (some ((x1_0).getD (x1_4).toNat (0, 0, 0, 0, 0, 0, nl0, 0))) = some y1_12_) (hy1_13 : ¬ ((y1_12_.2.2.1) < x1_5)) (y1_14_ : Int) (hy1_14 : rec_Rendq2 x1_0 x1_1 x1_2 x1_4 = some y1_14_) (hy1_15 : ¬ (y1_14_ < (0 : Int))) : Q_Rendq2_1 rnd x1_0 x1_1 x1_2 x1_3 (x1_4, x1_5, x1_6) (.normal, S_Rendq2_1 x1_0 x1_1 x1_2 x1_3 (y1_14_, (y1_12_.2.2.2.2.1), (w64 (x1_6 + (1 : Int))))) :=
 runC2 hm (L := lT []) ⟨[0, 1, 5, 6, 7], [(0, 0, true)], 1, 1, [], false, []⟩ (zz 5 (xk14 0 x1_2 hy1_1) <|
zz 7 (ok20 hy1_3 (hy1_2)) <|
zz 9 (xdT hy1_4) <|
zz 17 (xk14 0 x1_2 hy1_1) <|
zz 19 (ok20 hy1_3 (hy1_2)) <|
zz 21 (xk9 (Nat.add ((y1_3_.2.2.2.2.2.2.1)).num 64) ((y1_3_.2.2.2.2.2.2.1)).cap hy1_5) <|
zz 22 (nk10 hy1_7 hy1_6) <|
zz 24 (xnF hy1_8) <|
zz 29 (xdF hy1_9) <|
zz 34 (xk14 0 x1_2 hy1_10) <|
zz 36 (ok19 hy1_12 (hy1_11)) <|
zz 38 (xdF hy1_13) <|
zz 44 (xk14 0 x1_2 hy1_10) <|
zz 46 (ok21 hy1_12 (hy1_11)) <|
yy 51 (.call (C_Rendq2 x1_0 x1_1 x1_2 x1_4 y1_14_ [(0, 0, true)] [])) <|
ww (hrec_Rendq2 x1_0 x1_1 x1_2 x1_4 y1_14_ hy1_14) <|
ww (rows_flat rwf_iiiiiiLu x1_0 41) <|
zz 55 (xdF hy1_15) <|
ww (rows_flat rwf_iiiiiiLu x1_0 41) <|
ee) (by kernel_rfl)
theorem q_Rendq2_1_4 (rec_Rendq2 : (List R8) → (Nat) → (Nat) → (Int) → Option (Int)) (hrec_Rendq2 : ∀ (a0 : List R8) (a1 : Nat) (a2 : Nat) (a3 : Int) (r : Int), rec_Rendq2 a0 a1 a2 a3 = some r → Gv P (.func 23) (A_Rendq2 a0 a1 a2 a3) (H_Rendq2 a0 a1 a2 a3) (V_Rendq2 a0 a1 a2 a3 r) (R_Rendq2 a0 a1 a2 a3 r)) (n : Nat) {rnd : Option Nat} (x1_0 : List R8) (x1_1 x1_2 : Nat) (x1_3 x1_4 x1_5 x1_6 : Int) (hy1_1 : 0 ≤ x1_3 ∧ x1_3 < ((x1_1 : Nat) : Int)) (hy1_2 : (x1_3).toNat < (x1_0).length) (y1_3_ : R8) (hy1_3 : (some ((x1_0).getD (x1_3).toNat (0, 0, 0, 0, 0, 0, nl0, 0))) = some y1_3_) (hy1_4 : x1_6 < ((((y1_3_.2.2.2.2.2.2.1)).l.length : Nat) : Int)) (hy1_5 : 0 ≤ x1_6 ∧ x1_6 < ((((y1_3_.2.2.2.2.2.2.1)).l.length : Nat) : Int)) (hy1_6 : (x1_6).toNat < (((y1_3_.2.2.2.2.2.2.1)).l).length) (y1_7_ : Int) (hy1_7 : (some ((((y1_3_.2.2.2.2.2.2.1)).l).getD (x1_6).toNat 0)) = some y1_7_) (hy1_8 : ¬ (y1_7_ = x1_4)) : Q_Rendq2_1 rnd x1_0 x1_1 x1_2 x1_3 (x1_4, x1_5, x1_6) (X_Rendq2_1 x1_0 x1_1 x1_2 x1_3 (.inl ())) :=
 runC2 hm (L := lT []) ⟨[4], [(0, 0, true)], 1, 1, [], false, []⟩ (zz 5 (xk14 0 x1_2 hy1_1) <|
zz 7 (ok20 hy1_3 (hy1_2)) <|
zz 9 (xdT hy1_4) <|
zz 17 (xk14 0 x1_2 hy1_1) <|
zz 19 (ok20 hy1_3 (hy1_2)) <|
zz 21 (xk9 (Nat.add ((y1_3_.2.2.2.2.2.2.1)).num 64) ((y1_3_.2.2.2.2.2.2.1)).cap hy1_5) <|
zz 22 (nk10 hy1_7 hy1_6) <|
zz 24 (xnT hy1_8) <|
ww (rows_flat rwf_iiiiiiLu x1_0 41) <|
ee) (by kernel_rfl)
theorem q_Rendq2_1_5 (rec_Rendq2 : (List R8) → (Nat) → (Nat) → (Int) → Option (Int)) (hrec_Rendq2 : ∀ (a0 : List R8) (a1 : Nat) (a2 : Nat) (a3 : Int) (r : Int), rec_Rendq2 a0 a1 a2 a3 = some r → Gv P (.func 23) (A_Rendq2 a0 a1 a2 a3) (H_Rendq2 a0 a1 a2 a3) (V_Rendq2 a0 a1 a2 a3 r) (R_Rendq2 a0 a1 a2 a3 r)) (n : Nat) {rnd : Option Nat} (x1_0 : List R8) (x1_1 x1_2 : Nat) (x1_3 x1_4 x1_5 x1_6 : Int) (hy1_1 : 0 ≤ x1_3 ∧ x1_3 < ((x1_1 : Nat) : Int)) (hy1_2 : (x1_3).toNat < (x1_0).length) (y1_3_ : R8) (hy1_3 : (some ((x1_0).getD (x1_3).toNat (0, 0, 0, 0, 0, 0, nl0, 0))) = some y1_3_) (hy1_4 : ¬ (x1_6 < ((((y1_3_.2.2.2.2.2.2.1)).l.length : Nat) : Int))) : Q_Rendq2_1 rnd x1_0 x1_1 x1_2 x1_3 (x1_4, x1_5, x1_6) (X_Rendq2_1 x1_0 x1_1 x1_2 x1_3 (.inr (x1_4, x1_5))) :=
 runC2 hm (L := lT []) ⟨[0, 1, 5, 6], [(0, 0, true)], 1, 1, [], false, []⟩ (zz 5 (xk14 0 x1_2 hy1_1) <|
zz 7 (ok20 hy1_3 (hy1_2)) <|
zz 9 (xdF hy1_4) <|
ww (rows_flat rwf_iiiiiiLu x1_0 41) <|
ee) (by kernel_rfl)
theorem m_Rendq2_1_ok (rec_Rendq2 : (List R8) → (Nat) → (Nat) → (Int) → Option (Int)) (hrec_Rendq2 : ∀ (a0 : List R8) (a1 : Nat) (a2 : Nat) (a3 : Int) (r : Int), rec_Rendq2 a0 a1 a2 a3 = some r → Gv P (.func 23) (A_Rendq2 a0 a1 a2 a3) (H_Rendq2 a0 a1 a2 a3) (V_Rendq2 a0 a1 a2 a3 r) (R_Rendq2 a0 a1 a2 a3 r)) (n : Nat) {rnd : Option Nat} (x1_0 : List R8) (x1_1 : Nat) (x1_2 : Nat) (x1_3 : Int) (st : Int × Int × Int) (r : (Unit) ⊕ (Int × Int)) (h : m_Rendq2_1 rec_Rendq2 n x1_0 x1_1 x1_2 x1_3 st = some r) : CG P rnd (fnN P 23) 1 (codeOf P 23 [false, true, false, true, true]) (S_Rendq2_1 x1_0 x1_1 x1_2 x1_3 st) (X_Rendq2_1 x1_0 x1_1 x1_2 x1_3 r) :=
 CG.iter (b := codeOf P 23 [false, false, true, false, true, true]) (by kernel_rfl) (body := B_Rendq2_1 rec_Rendq2 n x1_0 x1_1 x1_2 x1_3) (S := S_Rendq2_1 x1_0 x1_1 x1_2 x1_3) (X := X_Rendq2_1 x1_0 x1_1 x1_2 x1_3)
  (fun s s' h => by
  obtain ⟨x1_4, x1_5, x1_6⟩ := s
  unfold B_Rendq2_1 at h
  dsimp only at h
  by_cases hy1_1 : 0 ≤ x1_3 ∧ x1_3 < ((x1_1 : Nat) : Int)
  ·rw [if_pos hy1_1] at h
   by_cases hy1_2 : (x1_3).toNat < (x1_0).length
   ·rw [if_pos hy1_2] at h
    obtain ⟨y1_3_, hy1_3, h⟩ := Option.bind_eq_some_iff.1 h
    by_cases hy1_4 : x1_6 < ((((y1_3_.2.2.2.2.2.2.1)).l.length : Nat) : Int)
    ·rw [if_pos hy1_4] at h
     by_cases hy1_5 : 0 ≤ x1_6 ∧ x1_6 < ((((y1_3_.2.2.2.2.2.2.1)).l.length : Nat) : Int)
     ·rw [if_pos hy1_5] at h
      by_cases hy1_6 : (x1_6).toNat < (((y1_3_.2.2.2.2.2.2.1)).l).length
      ·rw [if_pos hy1_6] at h
       obtain ⟨y1_7_, hy1_7, h⟩ := Option.bind_eq_some_iff.1 h
       by_cases hy1_8 : y1_7_ = x1_4
       ·rw [if_pos hy1_8] at h
        by_cases hy1_9 : x1_4 ≥ ((x1_1 : Nat) : Int)
        ·rw [if_pos hy1_9] at h
         cases h
        ·rw [if_neg hy1_9] at h
         by_cases hy1_10 : 0 ≤ x1_4 ∧ x1_4 < ((x1_1 : Nat) : Int)
         ·rw [if_pos hy1_10] at h
          by_cases hy1_11 : (x1_4).toNat < (x1_0).length
          ·rw [if_pos hy1_11] at h
           obtain ⟨y1_12_, hy1_12, h⟩ := Option.bind_eq_some_iff.1 h
           by_cases hy1_13 : (y1_12_.2.2.1) < x1_5
           ·rw [if_pos hy1_13] at h
            cases h
           ·rw [if_neg hy1_13] at h
            obtain ⟨y1_14_, hy1_14, h⟩ := Option.bind_eq_some_iff.1 h
            by_cases hy1_15 : y1_14_ < (0 : Int)
            ·rw [if_pos hy1_15] at h
             cases h
            ·rw [if_neg hy1_15] at h
             obtain rfl := Sum.inl.inj (oI h); exact q_Rendq2_1_3 rec_Rendq2 hrec_Rendq2 n x1_0 x1_1 x1_2 x1_3 x1_4 x1_5 x1_6 hy1_1 hy1_2 y1_3_ hy1_3 hy1_4 hy1_5 hy1_6 y1_7_ hy1_7 hy1_8 hy1_9 hy1_10 hy1_11 y1_12_ hy1_12 hy1_13 y1_14_ hy1_14 hy1_15
          ·rw [if_neg hy1_11] at h; cases h
         ·rw [if_neg hy1_10] at h; cases h
       ·rw [if_neg hy1_8] at h
        cases h
      ·rw [if_neg hy1_6] at h; cases h
     ·rw [if_neg hy1_5] at h; cases h
    ·rw [if_neg hy1_4] at h
     cases h
   ·rw [if_neg hy1_2] at h; cases h
  ·rw [if_neg hy1_1] at h; cases h)
  (fun s r h => by
  obtain ⟨x1_4, x1_5, x1_6⟩ := s
  unfold B_Rendq2_1 at h
  dsimp only at h
  by_cases hy1_1 : 0 ≤ x1_3 ∧ x1_3 < ((x1_1 : Nat) : Int)
  ·rw [if_pos hy1_1] at h
   by_cases hy1_2 : (x1_3).toNat < (x1_0).length
   ·rw [if_pos hy1_2] at h
    obtain ⟨y1_3_, hy1_3, h⟩ := Option.bind_eq_some_iff.1 h
    by_cases hy1_4 : x1_6 < ((((y1_3_.2.2.2.2.2.2.1)).l.length : Nat) : Int)
    ·rw [if_pos hy1_4] at h
     by_cases hy1_5 : 0 ≤ x1_6 ∧ x1_6 < ((((y1_3_.2.2.2.2.2.2.1)).l.length : Nat) : Int)
     ·rw [if_pos hy1_5] at h
      by_cases hy1_6 : (x1_6).toNat < (((y1_3_.2.2.2.2.2.2.1)).l).length
      ·rw [if_pos hy1_6] at h
       obtain ⟨y1_7_, hy1_7, h⟩ := Option.bind_eq_some_iff.1 h
       by_cases hy1_8 : y1_7_ = x1_4
       ·rw [if_pos hy1_8] at h
        by_cases hy1_9 : x1_4 ≥ ((x1_1 : Nat) : Int)
        ·rw [if_pos hy1_9] at h
         obtain rfl := Sum.inr.inj (oI h); exact q_Rendq2_1_0 rec_Rendq2 hrec_Rendq2 n x1_0 x1_1 x1_2 x1_3 x1_4 x1_5 x1_6 hy1_1 hy1_2 y1_3_ hy1_3 hy1_4 hy1_5 hy1_6 y1_7_ hy1_7 hy1_8 hy1_9
        ·rw [if_neg hy1_9] at h
         by_cases hy1_10 : 0 ≤ x1_4 ∧ x1_4 < ((x1_1 : Nat) : Int)
         ·rw [if_pos hy1_10] at h
          by_cases hy1_11 : (x1_4).toNat < (x1_0).length
          ·rw [if_pos hy1_11] at h
           obtain ⟨y1_12_, hy1_12, h⟩ := Option.bind_eq_some_iff.1 h
           by_cases hy1_13 : (y1_12_.2.2.1) < x1_5
           ·rw [if_pos hy1_13] at h
            obtain rfl := Sum.inr.inj (oI h); exact q_Rendq2_1_1 rec_Rendq2 hrec_Rendq2 n x1_0 x1_1 x1_2 x1_3 x1_4 x1_5 x1_6 hy1_1 hy1_2 y1_3_ hy1_3 hy1_4 hy1_5 hy1_6 y1_7_ hy1_7 hy1_8 hy1_9 hy1_10 hy1_11 y1_12_ hy1_12 hy1_13
           ·rw [if_neg hy1_13] at h
            obtain ⟨y1_14_, hy1_14, h⟩ := Option.bind_eq_some_iff.1 h
            by_cases hy1_15 : y1_14_ < (0 : Int)
            ·rw [if_pos hy1_15] at h
             obtain rfl := Sum.inr.inj (oI h); exact q_Rendq2_1_2 rec_Rendq2 hrec_Rendq2 n x1_0 x1_1 x1_2 x1_3 x1_4 x1_5 x1_6 hy1_1 hy1_2 y1_3_ hy1_3 hy1_4 hy1_5 hy1_6 y1_7_ hy1_7 hy1_8 hy1_9 hy1_10 hy1_11 y1_12_ hy1_12 hy1_13 y1_14_ hy1_14 hy1_15
            ·rw [if_neg hy1_15] at h
             cases h
          ·rw [if_neg hy1_11] at h; cases h
         ·rw [if_neg hy1_10] at h; cases h
       ·rw [if_neg hy1_8] at h
        obtain rfl := Sum.inr.inj (oI h); exact q_Rendq2_1_4 rec_Rendq2 hrec_Rendq2 n x1_0 x1_1 x1_2 x1_3 x1_4 x1_5 x1_6 hy1_1 hy1_2 y1_3_ hy1_3 hy1_4 hy1_5 hy1_6 y1_7_ hy1_7 hy1_8
      ·rw [if_neg hy1_6] at h; cases h
     ·rw [if_neg hy1_5] at h; cases h
    ·rw [if_neg hy1_4] at h
     obtain rfl := Sum.inr.inj (oI h); exact q_Rendq2_1_5 rec_Rendq2 hrec_Rendq2 n x1_0 x1_1 x1_2 x1_3 x1_4 x1_5 x1_6 hy1_1 hy1_2 y1_3_ hy1_3 hy1_4
   ·rw [if_neg hy1_2] at h; cases h
  ·rw [if_neg hy1_1] at h; cases h)
  (fun r => by intro hx; rcases r with _ | _ <;> cases hx) h
def s_Rendq2 (rec_Rendq2 : (List R8) → (Nat) → (Nat) → (Int) → Option (Int)) (n : Nat) (a0 : List R8) (a1 : Nat) (a2 : Nat) (a3 : Int) : Option (Int) :=
 if 0 ≤ a3 ∧ a3 < ((a1 : Nat) : Int) then
  if (a3).toNat < (a0).length then
   ((some ((a0).getD (a3).toNat (0, 0, 0, 0, 0, 0, nl0, 0)))).bind fun c3_ =>
   match m_Rendq2_1 rec_Rendq2 n a0 a1 a2 a3 ((w64 (a3 + (1 : Int))), (c3_.2.2.1), 0) with
   | none => none
   | some (.inl _) =>
    some (-1)
   | some (.inr (c4_0, c4_1)) =>
    if c4_1 > (c3_.2.2.2.2.1) then
     some (-1)
    else
     some c4_0
  else none
 else none
theorem p_Rendq2_0 (rec_Rendq2 : (List R8) → (Nat) → (Nat) → (Int) → Option (Int)) (hrec_Rendq2 : ∀ (a0 : List R8) (a1 : Nat) (a2 : Nat) (a3 : Int) (r : Int), rec_Rendq2 a0 a1 a2 a3 = some r → Gv P (.func 23) (A_Rendq2 a0 a1 a2 a3) (H_Rendq2 a0 a1 a2 a3) (V_Rendq2 a0 a1 a2 a3 r) (R_Rendq2 a0 a1 a2 a3 r)) (n : Nat) (a0 : List R8) (a1 a2 : Nat) (a3 : Int) (hc1 : 0 ≤ a3 ∧ a3 < ((a1 : Nat) : Int)) (hc2 : (a3).toNat < (a0).length) (c3_ : R8) (hc3 : (some ((a0).getD (a3).toNat (0, 0, 0, 0, 0, 0, nl0, 0))) = some c3_) (hc4 : m_Rendq2_1 rec_Rendq2 n a0 a1 a2 a3 ((w64 (a3 + (1 : Int))), (c3_.2.2.1), 0) = some (.inl ())) : G_Rendq2 a0 a1 a2 a3 (-1) :=
 runF2 hm (L := lT [(16, ⟨⟨[0, 1, 5, 6, 7], [(0, 0, true)], 1, 1, [], false, []⟩, (X_Rendq2_1 a0 a1 a2 a3 (.inl ())).1, (X_Rendq2_1 a0 a1 a2 a3 (.inl ())).2⟩)]) ⟨[4], [], 1, 1, [], false, []⟩ (zz 7 (xk14 0 a2 hc1) <|
zz 9 (ok19 hc3 (hc2)) <|
ww (p := U_Rendq2_1 none a0 a1 a2 a3 ((w64 (a3 + (1 : Int))), (c3_.2.2.1), 0) (.inl ())) (m_Rendq2_1_ok rec_Rendq2 hrec_Rendq2 n a0 a1 a2 a3 ((w64 (a3 + (1 : Int))), (c3_.2.2.1), 0) (.inl ()) hc4) <|
ww (rows_flat rwf_iiiiiiLu a0 41) <|
ee) (by kernel_rfl)
theorem p_Rendq2_1 (rec_Rendq2 : (List R8) → (Nat) → (Nat) → (Int) → Option (Int)) (hrec_Rendq2 : ∀ (a0 : List R8) (a1 : Nat) (a2 : Nat) (a3 : Int) (r : Int), rec_Rendq2 a0 a1 a2 a3 = some r → Gv P (.func 23) (A_Rendq2 a0 a1 a2 a3) (H_Rendq2 a0 a1 a2 a3) (V_Rendq2 a0 a1 a2 a3 r) (R_Rendq2 a0 a1 a2 a3 r)) (n : Nat) (a0 : List R8) (a1 a2 : Nat) (a3 : Int) (hc1 : 0 ≤ a3 ∧ a3 < ((a1 : Nat) : Int)) (hc2 : (a3).toNat < (a0).length) (c3_ : R8) (hc3 : (some ((a0).getD (a3).toNat (0, 0, 0, 0, 0, 0, nl0, 0))) = some c3_) (c4_0 c4_1 : Int) (hc4 : m_Rendq2_1 rec_Rendq2 n a0 a1 a2 a3 ((w64 (a3 + (1 : Int))), (c3_.2.2.1), 0) = some (.inr (c4_0, c4_1))) (hc5 : c4_1 > (c3_.2.2.2.2.1)) : G_Rendq2 a0 a1 a2 a3 (-1) :=
 runF2 hm (L := lT [(16, ⟨⟨[0, 1, 5, 6, 7], [(0, 0, true)], 1, 1, [], false, []⟩, (X_Rendq2_1 a0 a1 a2 a3 (.inr (c4_0, c4_1))).1, (X_Rendq2_1 a0 a1 a2 a3 (.inr (c4_0, c4_1))).2⟩)]) ⟨[4], [], 1, 1, [], false, []⟩ (zz 7 (xk14 0 a2 hc1) <|
zz 9 (ok19 hc3 (hc2)) <|
ww (p := U_Rendq2_1 none a0 a1 a2 a3 ((w64 (a3 + (1 : Int))), (c3_.2.2.1), 0) (.inr (c4_0, c4_1))) (m_Rendq2_1_ok rec_Rendq2 hrec_Rendq2 n a0 a1 a2 a3 ((w64 (a3 + (1 : Int))), (c3_.2.2.1), 0) (.inr (c4_0, c4_1)) hc4) <|
ww (rows_flat rwf_iiiiiiLu a0 41) <|
zz 22 (xk14 0 a2 hc1) <|
zz 24 (ok21 hc3 (hc2)) <|
zz 25 (xdT hc5) <|
ee) (by kernel_rfl)
theorem p_Rendq2_2 (rec_Rendq2 : (List R8) → (Nat) → (Nat) → (Int) → Option (Int)) (hrec_Rendq2 : ∀ (a0 : List R8) (a1 : Nat) (a2 : Nat) (a3 : Int) (r : Int), rec_Rendq2 a0 a1 a2 a3 = some r → Gv P (.func 23) (A_Rendq2 a0 a1 a2 a3) (H_Rendq2 a0 a1 a2 a3) (V_Rendq2 a0 a1 a2 a3 r) (R_Rendq2 a0 a1 a2 a3 r)) (n : Nat) (a0 : List R8) (a1 a2 : Nat) (a3 : Int) (hc1 : 0 ≤ a3 ∧ a3 < ((a1 : Nat) : Int)) (hc2 : (a3).toNat < (a0).length) (c3_ : R8) (hc3 : (some ((a0).getD (a3).toNat (0, 0, 0, 0, 0, 0, nl0, 0))) = some c3_) (c4_0 c4_1 : Int) (hc4 : m_Rendq2_1 rec_Rendq2 n a0 a1 a2 a3 ((w64 (a3 + (1 : Int))), (c3_.2.2.1), 0) = some (.inr (c4_0, c4_1))) (hc5 : ¬ (c4_1 > (c3_.2.2.2.2.1))) : G_Rendq2 a0 a1 a2 a3 c4_0 :=
 runF2 hm (L := lT [(16, ⟨⟨[0, 1, 5, 6, 7], [(0, 0, true)], 1, 1, [], false, []⟩, (X_Rendq2_1 a0 a1 a2 a3 (.inr (c4_0, c4_1))).1, (X_Rendq2_1 a0 a1 a2 a3 (.inr (c4_0, c4_1))).2⟩)]) ⟨[4], [], 1, 1, [], false, []⟩ (zz 7 (xk14 0 a2 hc1) <|
zz 9 (ok19 hc3 (hc2)) <|
ww (p := U_Rendq2_1 none a0 a1 a2 a3 ((w64 (a3 + (1 : Int))), (c3_.2.2.1), 0) (.inr (c4_0, c4_1))) (m_Rendq2_1_ok rec_Rendq2 hrec_Rendq2 n a0 a1 a2 a3 ((w64 (a3 + (1 : Int))), (c3_.2.2.1), 0) (.inr (c4_0, c4_1)) hc4) <|
ww (rows_flat rwf_iiiiiiLu a0 41) <|
zz 22 (xk14 0 a2 hc1) <|
zz 24 (ok21 hc3 (hc2)) <|
zz 25 (xdF hc5) <|
ee) (by kernel_rfl)
theorem s_Rendq2_ok (rec_Rendq2 : (List R8) → (Nat) → (Nat) → (Int) → Option (Int)) (hrec_Rendq2 : ∀ (a0 : List R8) (a1 : Nat) (a2 : Nat) (a3 : Int) (r : Int), rec_Rendq2 a0 a1 a2 a3 = some r → Gv P (.func 23) (A_Rendq2 a0 a1 a2 a3) (H_Rendq2 a0 a1 a2 a3) (V_Rendq2 a0 a1 a2 a3 r) (R_Rendq2 a0 a1 a2 a3 r)) (n : Nat) (a0 : List R8) (a1 : Nat) (a2 : Nat) (a3 : Int) (r : Int) (h : s_Rendq2 rec_Rendq2 n a0 a1 a2 a3 = some r) : Gv P (.func 23) (A_Rendq2 a0 a1 a2 a3) (H_Rendq2 a0 a1 a2 a3) (V_Rendq2 a0 a1 a2 a3 r) (R_Rendq2 a0 a1 a2 a3 r) := by
 unfold s_Rendq2 at h
 by_cases hc1 : 0 ≤ a3 ∧ a3 < ((a1 : Nat) : Int)
 ·rw [if_pos hc1] at h
  by_cases hc2 : (a3).toNat < (a0).length
  ·rw [if_pos hc2] at h
   obtain ⟨c3_, hc3, h⟩ := Option.bind_eq_some_iff.1 h
   rcases hc4 : m_Rendq2_1 rec_Rendq2 n a0 a1 a2 a3 ((w64 (a3 + (1 : Int))), (c3_.2.2.1), 0) with _ | (⟨⟩ | ⟨c4_0, c4_1⟩)
   ·rw [hc4] at h; cases h
   ·rw [hc4] at h
    dsimp only at h
    obtain rfl := oI h; exact p_Rendq2_0 rec_Rendq2 hrec_Rendq2 n a0 a1 a2 a3 hc1 hc2 c3_ hc3 hc4
   ·rw [hc4] at h
    dsimp only at h
    by_cases hc5 : c4_1 > (c3_.2.2.2.2.1)
    ·rw [if_pos hc5] at h
     obtain rfl := oI h; exact p_Rendq2_1 rec_Rendq2 hrec_Rendq2 n a0 a1 a2 a3 hc1 hc2 c3_ hc3 c4_0 c4_1 hc4 hc5
    ·rw [if_neg hc5] at h
     obtain rfl := oI h; exact p_Rendq2_2 rec_Rendq2 hrec_Rendq2 n a0 a1 a2 a3 hc1 hc2 c3_ hc3 c4_0 c4_1 hc4 hc5
  ·rw [if_neg hc2] at h; cases h
 ·rw [if_neg hc1] at h; cases h
def m_Rendq2 : Nat → (List R8) → (Nat) → (Nat) → (Int) → Option (Int)
 | 0 => fun _ _ _ _ => none
 | n + 1 => fun a0 a1 a2 a3 => s_Rendq2 (m_Rendq2 n) n a0 a1 a2 a3
theorem m_Rendq2_ok : ∀ (n : Nat) (a0 : List R8) (a1 : Nat) (a2 : Nat) (a3 : Int) (r : Int) (h : m_Rendq2 n a0 a1 a2 a3 = some r), Gv P (.func 23) (A_Rendq2 a0 a1 a2 a3) (H_Rendq2 a0 a1 a2 a3) (V_Rendq2 a0 a1 a2 a3 r) (R_Rendq2 a0 a1 a2 a3 r)
 | 0, _, _, _, _, _, h => nomatch h
 | n + 1, a0, a1, a2, a3, r, h => s_Rendq2_ok (m_Rendq2 n) (m_Rendq2_ok n) n a0 a1 a2 a3 r h

noncomputable def A_RCheckq2 (a0 : List R8) (a1 : Nat) (a2 : Nat) : List Value := [(sN 0 0 a1 a2)]
noncomputable def H_RCheckq2 (a0 : List R8) (a1 : Nat) (a2 : Nat) : AH := ⟨sB [(0, (some (.cells (layT (rows rw_iiiiiiLu a0)) 41)))], 1, 1⟩
noncomputable def V_RCheckq2 (a0 : List R8) (a1 : Nat) (a2 : Nat) (r : Int) : Value := match r with
 | o0 => (i6 o0)
noncomputable def R_RCheckq2 (a0 : List R8) (a1 : Nat) (a2 : Nat) (r : Int) : AH := match r with
 | o0 => ⟨sB [], 1, 1⟩
noncomputable abbrev G_RCheckq2 (a0 : List R8) (a1 : Nat) (a2 : Nat) (r : Int) : Prop := Gv P (.func 8) (A_RCheckq2 a0 a1 a2) (H_RCheckq2 a0 a1 a2) (V_RCheckq2 a0 a1 a2 r) (R_RCheckq2 a0 a1 a2 r)
noncomputable abbrev C_RCheckq2 (a0 : List R8) (a1 : Nat) (a2 : Nat) (r : Int) (ins outs : BL) : CallA := ⟨1, ins, V_RCheckq2 a0 a1 a2 r, R_RCheckq2 a0 a1 a2 r, outs⟩
noncomputable def S_RCheckq2_1 (x1_0 : List R8) (x1_1 : Nat) (x1_2 : Nat) (st : Int) : XSt := match st with
 | x1_3 => (sT 41 [(0, (sN 0 0 x1_1 x1_2)), (3, (i6 x1_3))], [], ⟨sB [(0, (some (.cells (layT (rows rw_iiiiiiLu x1_0)) 41)))], 1, 1⟩)
noncomputable def X_RCheckq2_1 (x1_0 : List R8) (x1_1 : Nat) (x1_2 : Nat) (r : (Unit) ⊕ (Unit)) : Ex × XSt := match r with
 | .inl _ => (.ret, (sT 41 [(2, (i6 (2 : Int)))], [], ⟨sB [(0, (some (.cells (layT (rows rw_iiiiiiLu x1_0)) 41)))], 1, 1⟩))
 | .inr _ => (.exit 0, (sT 41 [(0, (sN 0 0 x1_1 x1_2))], [], ⟨sB [(0, (some (.cells (layT (rows rw_iiiiiiLu x1_0)) 41)))], 1, 1⟩))
noncomputable abbrev Q_RCheckq2_1 (rnd : Option Nat) (x1_0 : List R8) (x1_1 : Nat) (x1_2 : Nat) (st : Int) (c : Ex × XSt) : Prop := CG P rnd (fnN P 8) 1 (codeOf P 8 [false, false, true, false, true, true]) (S_RCheckq2_1 x1_0 x1_1 x1_2 st) c
noncomputable abbrev U_RCheckq2_1 (rd : Option Nat) (x1_0 : List R8) (x1_1 : Nat) (x1_2 : Nat) (st : Int) (r : (Unit) ⊕ (Unit)) : Prop := CG P rd (fnN P 8) 1 (codeOf P 8 [false, true, false, true, true]) (S_RCheckq2_1 x1_0 x1_1 x1_2 st) (X_RCheckq2_1 x1_0 x1_1 x1_2 r)
def B_RCheckq2_1 (n : Nat) (x1_0 : List R8) (x1_1 : Nat) (x1_2 : Nat) (st : Int) : Option ((Int) ⊕ ((Unit) ⊕ (Unit))) := match st with
 | x1_3 =>
  if x1_3 < ((x1_1 : Nat) : Int) then
   if 0 ≤ x1_3 ∧ x1_3 < ((x1_1 : Nat) : Int) then
    if (x1_3).toNat < (x1_0).length then
     ((some ((x1_0).getD (x1_3).toNat (0, 0, 0, 0, 0, 0, nl0, 0)))).bind fun y1_4_ =>
     (m_Rbareq1 n (y1_4_.1) (y1_4_.2.1) (y1_4_.2.2.1) (y1_4_.2.2.2.1) (y1_4_.2.2.2.2.1) (y1_4_.2.2.2.2.2.1) (y1_4_.2.2.2.2.2.2.1) (y1_4_.2.2.2.2.2.2.2)).bind fun y1_5_ =>
     if y1_5_ = true then
      if x1_3 > (0 : Int) then
       if (y1_4_.2.1) = (1 : Int) then
        some (.inr (.inl ()))
       else
        some (.inl (w64 (x1_3 + (1 : Int))))
      else
       some (.inl (w64 (x1_3 + (1 : Int))))
     else
      some (.inr (.inl ()))
    else none
   else none
  else
   some (.inr (.inr ()))
def m_RCheckq2_1 (n : Nat) (x1_0 : List R8) (x1_1 : Nat) (x1_2 : Nat) (st : Int) : Option ((Unit) ⊕ (Unit)) := iterM (B_RCheckq2_1 n x1_0 x1_1 x1_2) n st
theorem q_RCheckq2_1_0 (n : Nat) {rnd : Option Nat} (x1_0 : List R8) (x1_1 x1_2 : Nat) (x1_3 : Int) (hy1_1 : x1_3 < ((x1_1 : Nat) : Int)) (hy1_2 : 0 ≤ x1_3 ∧ x1_3 < ((x1_1 : Nat) : Int)) (hy1_3 : (x1_3).toNat < (x1_0).length) (y1_4_ : R8) (hy1_4 : (some ((x1_0).getD (x1_3).toNat (0, 0, 0, 0, 0, 0, nl0, 0))) = some y1_4_) (y1_5_ : Bool) (hy1_5 : m_Rbareq1 n (y1_4_.1) (y1_4_.2.1) (y1_4_.2.2.1) (y1_4_.2.2.2.1) (y1_4_.2.2.2.2.1) (y1_4_.2.2.2.2.2.1) (y1_4_.2.2.2.2.2.2.1) (y1_4_.2.2.2.2.2.2.2) = some y1_5_) (hy1_6 : y1_5_ = true) (hy1_7 : x1_3 > (0 : Int)) (hy1_8 : (y1_4_.2.1) = (1 : Int)) : Q_RCheckq2_1 rnd x1_0 x1_1 x1_2 x1_3 (X_RCheckq2_1 x1_0 x1_1 x1_2 (.inl ())) :=
 runC2 hm (L := lT []) ⟨[2], [(0, 0, true)], 1, 1, [], false, []⟩ (zz 5 (xdT hy1_1) <|
zz 12 (xk14 0 x1_2 hy1_2) <|
yy 13 (.ld (Value.agg #[(i6 (y1_4_.1)), (i6 (y1_4_.2.1)), (i6 (y1_4_.2.2.1)), (i6 (y1_4_.2.2.2.1)), (i6 (y1_4_.2.2.2.2.1)), (i6 (y1_4_.2.2.2.2.2.1)), (nlV (y1_4_.2.2.2.2.2.2.1)), (Value.int .u64 (y1_4_.2.2.2.2.2.2.2))])) <|
ww (p := rdT (layT (rows rw_iiiiiiLu x1_0)) 8 ((x1_3).toNat * 8) = some [(i6 (y1_4_.1)), (i6 (y1_4_.2.1)), (i6 (y1_4_.2.2.1)), (i6 (y1_4_.2.2.2.1)), (i6 (y1_4_.2.2.2.2.1)), (i6 (y1_4_.2.2.2.2.2.1)), (nlV (y1_4_.2.2.2.2.2.2.1)), (Value.int .u64 (y1_4_.2.2.2.2.2.2.2))]) (rows_rdpN rwf_iiiiiiLu (0, 0, 0, 0, 0, 0, nl0, 0) (hr := hy1_4) (i := (x1_3).toNat) (j := 0) ((x1_3).toNat * 8) rfl (hy1_3) (by decide) rfl) <|
yy 14 (.call (C_Rbareq1 (y1_4_.1) (y1_4_.2.1) (y1_4_.2.2.1) (y1_4_.2.2.2.1) (y1_4_.2.2.2.2.1) (y1_4_.2.2.2.2.2.1) (y1_4_.2.2.2.2.2.2.1) (y1_4_.2.2.2.2.2.2.2) y1_5_ [] [])) <|
ww (m_Rbareq1_ok n (y1_4_.1) (y1_4_.2.1) (y1_4_.2.2.1) (y1_4_.2.2.2.1) (y1_4_.2.2.2.2.1) (y1_4_.2.2.2.2.2.1) (y1_4_.2.2.2.2.2.2.1) (y1_4_.2.2.2.2.2.2.2) y1_5_ hy1_5) <|
yy 15 (vf) <|
ww (p := (Value.bool (!y1_5_)) = (Value.bool false)) (vBn hy1_6) <|
zz 18 (xdT hy1_7) <|
zz 22 (xk14 0 x1_2 hy1_2) <|
zz 24 (ok18 hy1_4 (hy1_3)) <|
zz 25 (xeT hy1_8) <|
ww (rows_flat rwf_iiiiiiLu x1_0 41) <|
ee) (by kernel_rfl)
theorem q_RCheckq2_1_1 (n : Nat) {rnd : Option Nat} (x1_0 : List R8) (x1_1 x1_2 : Nat) (x1_3 : Int) (hy1_1 : x1_3 < ((x1_1 : Nat) : Int)) (hy1_2 : 0 ≤ x1_3 ∧ x1_3 < ((x1_1 : Nat) : Int)) (hy1_3 : (x1_3).toNat < (x1_0).length) (y1_4_ : R8) (hy1_4 : (some ((x1_0).getD (x1_3).toNat (0, 0, 0, 0, 0, 0, nl0, 0))) = some y1_4_) (y1_5_ : Bool) (hy1_5 : m_Rbareq1 n (y1_4_.1) (y1_4_.2.1) (y1_4_.2.2.1) (y1_4_.2.2.2.1) (y1_4_.2.2.2.2.1) (y1_4_.2.2.2.2.2.1) (y1_4_.2.2.2.2.2.2.1) (y1_4_.2.2.2.2.2.2.2) = some y1_5_) (hy1_6 : y1_5_ = true) (hy1_7 : x1_3 > (0 : Int)) (hy1_8 : ¬ ((y1_4_.2.1) = (1 : Int))) : Q_RCheckq2_1 rnd x1_0 x1_1 x1_2 x1_3 (.normal, S_RCheckq2_1 x1_0 x1_1 x1_2 (w64 (x1_3 + (1 : Int)))) :=
 runC2 hm (L := lT []) ⟨[0, 3], [(0, 0, true)], 1, 1, [], false, []⟩ (zz 5 (xdT hy1_1) <|
zz 12 (xk14 0 x1_2 hy1_2) <|
yy 13 (.ld (Value.agg #[(i6 (y1_4_.1)), (i6 (y1_4_.2.1)), (i6 (y1_4_.2.2.1)), (i6 (y1_4_.2.2.2.1)), (i6 (y1_4_.2.2.2.2.1)), (i6 (y1_4_.2.2.2.2.2.1)), (nlV (y1_4_.2.2.2.2.2.2.1)), (Value.int .u64 (y1_4_.2.2.2.2.2.2.2))])) <|
ww (p := rdT (layT (rows rw_iiiiiiLu x1_0)) 8 ((x1_3).toNat * 8) = some [(i6 (y1_4_.1)), (i6 (y1_4_.2.1)), (i6 (y1_4_.2.2.1)), (i6 (y1_4_.2.2.2.1)), (i6 (y1_4_.2.2.2.2.1)), (i6 (y1_4_.2.2.2.2.2.1)), (nlV (y1_4_.2.2.2.2.2.2.1)), (Value.int .u64 (y1_4_.2.2.2.2.2.2.2))]) (rows_rdpN rwf_iiiiiiLu (0, 0, 0, 0, 0, 0, nl0, 0) (hr := hy1_4) (i := (x1_3).toNat) (j := 0) ((x1_3).toNat * 8) rfl (hy1_3) (by decide) rfl) <|
yy 14 (.call (C_Rbareq1 (y1_4_.1) (y1_4_.2.1) (y1_4_.2.2.1) (y1_4_.2.2.2.1) (y1_4_.2.2.2.2.1) (y1_4_.2.2.2.2.2.1) (y1_4_.2.2.2.2.2.2.1) (y1_4_.2.2.2.2.2.2.2) y1_5_ [] [])) <|
ww (m_Rbareq1_ok n (y1_4_.1) (y1_4_.2.1) (y1_4_.2.2.1) (y1_4_.2.2.2.1) (y1_4_.2.2.2.2.1) (y1_4_.2.2.2.2.2.1) (y1_4_.2.2.2.2.2.2.1) (y1_4_.2.2.2.2.2.2.2) y1_5_ hy1_5) <|
yy 15 (vf) <|
ww (p := (Value.bool (!y1_5_)) = (Value.bool false)) (vBn hy1_6) <|
zz 18 (xdT hy1_7) <|
zz 22 (xk14 0 x1_2 hy1_2) <|
zz 24 (ok18 hy1_4 (hy1_3)) <|
zz 25 (xeF hy1_8) <|
ww (rows_flat rwf_iiiiiiLu x1_0 41) <|
ee) (by kernel_rfl)
theorem q_RCheckq2_1_2 (n : Nat) {rnd : Option Nat} (x1_0 : List R8) (x1_1 x1_2 : Nat) (x1_3 : Int) (hy1_1 : x1_3 < ((x1_1 : Nat) : Int)) (hy1_2 : 0 ≤ x1_3 ∧ x1_3 < ((x1_1 : Nat) : Int)) (hy1_3 : (x1_3).toNat < (x1_0).length) (y1_4_ : R8) (hy1_4 : (some ((x1_0).getD (x1_3).toNat (0, 0, 0, 0, 0, 0, nl0, 0))) = some y1_4_) (y1_5_ : Bool) (hy1_5 : m_Rbareq1 n (y1_4_.1) (y1_4_.2.1) (y1_4_.2.2.1) (y1_4_.2.2.2.1) (y1_4_.2.2.2.2.1) (y1_4_.2.2.2.2.2.1) (y1_4_.2.2.2.2.2.2.1) (y1_4_.2.2.2.2.2.2.2) = some y1_5_) (hy1_6 : y1_5_ = true) (hy1_7 : ¬ (x1_3 > (0 : Int))) : Q_RCheckq2_1 rnd x1_0 x1_1 x1_2 x1_3 (.normal, S_RCheckq2_1 x1_0 x1_1 x1_2 (w64 (x1_3 + (1 : Int)))) :=
 runC2 hm (L := lT []) ⟨[0, 3], [(0, 0, true)], 1, 1, [], false, []⟩ (zz 5 (xdT hy1_1) <|
zz 12 (xk14 0 x1_2 hy1_2) <|
yy 13 (.ld (Value.agg #[(i6 (y1_4_.1)), (i6 (y1_4_.2.1)), (i6 (y1_4_.2.2.1)), (i6 (y1_4_.2.2.2.1)), (i6 (y1_4_.2.2.2.2.1)), (i6 (y1_4_.2.2.2.2.2.1)), (nlV (y1_4_.2.2.2.2.2.2.1)), (Value.int .u64 (y1_4_.2.2.2.2.2.2.2))])) <|
ww (p := rdT (layT (rows rw_iiiiiiLu x1_0)) 8 ((x1_3).toNat * 8) = some [(i6 (y1_4_.1)), (i6 (y1_4_.2.1)), (i6 (y1_4_.2.2.1)), (i6 (y1_4_.2.2.2.1)), (i6 (y1_4_.2.2.2.2.1)), (i6 (y1_4_.2.2.2.2.2.1)), (nlV (y1_4_.2.2.2.2.2.2.1)), (Value.int .u64 (y1_4_.2.2.2.2.2.2.2))]) (rows_rdpN rwf_iiiiiiLu (0, 0, 0, 0, 0, 0, nl0, 0) (hr := hy1_4) (i := (x1_3).toNat) (j := 0) ((x1_3).toNat * 8) rfl (hy1_3) (by decide) rfl) <|
yy 14 (.call (C_Rbareq1 (y1_4_.1) (y1_4_.2.1) (y1_4_.2.2.1) (y1_4_.2.2.2.1) (y1_4_.2.2.2.2.1) (y1_4_.2.2.2.2.2.1) (y1_4_.2.2.2.2.2.2.1) (y1_4_.2.2.2.2.2.2.2) y1_5_ [] [])) <|
ww (m_Rbareq1_ok n (y1_4_.1) (y1_4_.2.1) (y1_4_.2.2.1) (y1_4_.2.2.2.1) (y1_4_.2.2.2.2.1) (y1_4_.2.2.2.2.2.1) (y1_4_.2.2.2.2.2.2.1) (y1_4_.2.2.2.2.2.2.2) y1_5_ hy1_5) <|
yy 15 (vf) <|
ww (p := (Value.bool (!y1_5_)) = (Value.bool false)) (vBn hy1_6) <|
zz 18 (xdF hy1_7) <|
ww (rows_flat rwf_iiiiiiLu x1_0 41) <|
ee) (by kernel_rfl)
theorem q_RCheckq2_1_3 (n : Nat) {rnd : Option Nat} (x1_0 : List R8) (x1_1 x1_2 : Nat) (x1_3 : Int) (hy1_1 : x1_3 < ((x1_1 : Nat) : Int)) (hy1_2 : 0 ≤ x1_3 ∧ x1_3 < ((x1_1 : Nat) : Int)) (hy1_3 : (x1_3).toNat < (x1_0).length) (y1_4_ : R8) (hy1_4 : (some ((x1_0).getD (x1_3).toNat (0, 0, 0, 0, 0, 0, nl0, 0))) = some y1_4_) (y1_5_ : Bool) (hy1_5 : m_Rbareq1 n (y1_4_.1) (y1_4_.2.1) (y1_4_.2.2.1) (y1_4_.2.2.2.1) (y1_4_.2.2.2.2.1) (y1_4_.2.2.2.2.2.1) (y1_4_.2.2.2.2.2.2.1) (y1_4_.2.2.2.2.2.2.2) = some y1_5_) (hy1_6 : ¬ (y1_5_ = true)) : Q_RCheckq2_1 rnd x1_0 x1_1 x1_2 x1_3 (X_RCheckq2_1 x1_0 x1_1 x1_2 (.inl ())) :=
 runC2 hm (L := lT []) ⟨[2], [(0, 0, true)], 1, 1, [], false, []⟩ (zz 5 (xdT hy1_1) <|
zz 12 (xk14 0 x1_2 hy1_2) <|
yy 13 (.ld (Value.agg #[(i6 (y1_4_.1)), (i6 (y1_4_.2.1)), (i6 (y1_4_.2.2.1)), (i6 (y1_4_.2.2.2.1)), (i6 (y1_4_.2.2.2.2.1)), (i6 (y1_4_.2.2.2.2.2.1)), (nlV (y1_4_.2.2.2.2.2.2.1)), (Value.int .u64 (y1_4_.2.2.2.2.2.2.2))])) <|
ww (p := rdT (layT (rows rw_iiiiiiLu x1_0)) 8 ((x1_3).toNat * 8) = some [(i6 (y1_4_.1)), (i6 (y1_4_.2.1)), (i6 (y1_4_.2.2.1)), (i6 (y1_4_.2.2.2.1)), (i6 (y1_4_.2.2.2.2.1)), (i6 (y1_4_.2.2.2.2.2.1)), (nlV (y1_4_.2.2.2.2.2.2.1)), (Value.int .u64 (y1_4_.2.2.2.2.2.2.2))]) (rows_rdpN rwf_iiiiiiLu (0, 0, 0, 0, 0, 0, nl0, 0) (hr := hy1_4) (i := (x1_3).toNat) (j := 0) ((x1_3).toNat * 8) rfl (hy1_3) (by decide) rfl) <|
yy 14 (.call (C_Rbareq1 (y1_4_.1) (y1_4_.2.1) (y1_4_.2.2.1) (y1_4_.2.2.2.1) (y1_4_.2.2.2.2.1) (y1_4_.2.2.2.2.2.1) (y1_4_.2.2.2.2.2.2.1) (y1_4_.2.2.2.2.2.2.2) y1_5_ [] [])) <|
ww (m_Rbareq1_ok n (y1_4_.1) (y1_4_.2.1) (y1_4_.2.2.1) (y1_4_.2.2.2.1) (y1_4_.2.2.2.2.1) (y1_4_.2.2.2.2.2.1) (y1_4_.2.2.2.2.2.2.1) (y1_4_.2.2.2.2.2.2.2) y1_5_ hy1_5) <|
yy 15 (vt) <|
ww (p := (Value.bool (!y1_5_)) = (Value.bool true)) (vBn (Bool.eq_false_iff.2 hy1_6)) <|
ww (rows_flat rwf_iiiiiiLu x1_0 41) <|
ee) (by kernel_rfl)
theorem q_RCheckq2_1_4 (n : Nat) {rnd : Option Nat} (x1_0 : List R8) (x1_1 x1_2 : Nat) (x1_3 : Int) (hy1_1 : ¬ (x1_3 < ((x1_1 : Nat) : Int))) : Q_RCheckq2_1 rnd x1_0 x1_1 x1_2 x1_3 (X_RCheckq2_1 x1_0 x1_1 x1_2 (.inr ())) :=
 runC2 hm (L := lT []) ⟨[0], [(0, 0, true)], 1, 1, [], false, []⟩ (zz 5 (xdF hy1_1) <|
ww (rows_flat rwf_iiiiiiLu x1_0 41) <|
ee) (by kernel_rfl)
theorem m_RCheckq2_1_ok (n : Nat) {rnd : Option Nat} (x1_0 : List R8) (x1_1 : Nat) (x1_2 : Nat) (st : Int) (r : (Unit) ⊕ (Unit)) (h : m_RCheckq2_1 n x1_0 x1_1 x1_2 st = some r) : CG P rnd (fnN P 8) 1 (codeOf P 8 [false, true, false, true, true]) (S_RCheckq2_1 x1_0 x1_1 x1_2 st) (X_RCheckq2_1 x1_0 x1_1 x1_2 r) :=
 CG.iter (b := codeOf P 8 [false, false, true, false, true, true]) (by kernel_rfl) (body := B_RCheckq2_1 n x1_0 x1_1 x1_2) (S := S_RCheckq2_1 x1_0 x1_1 x1_2) (X := X_RCheckq2_1 x1_0 x1_1 x1_2)
  (fun x1_3 s' h => by
  unfold B_RCheckq2_1 at h
  dsimp only at h
  by_cases hy1_1 : x1_3 < ((x1_1 : Nat) : Int)
  ·rw [if_pos hy1_1] at h
   by_cases hy1_2 : 0 ≤ x1_3 ∧ x1_3 < ((x1_1 : Nat) : Int)
   ·rw [if_pos hy1_2] at h
    by_cases hy1_3 : (x1_3).toNat < (x1_0).length
    ·rw [if_pos hy1_3] at h
     obtain ⟨y1_4_, hy1_4, h⟩ := Option.bind_eq_some_iff.1 h
     obtain ⟨y1_5_, hy1_5, h⟩ := Option.bind_eq_some_iff.1 h
     by_cases hy1_6 : y1_5_ = true
     ·rw [if_pos hy1_6] at h
      by_cases hy1_7 : x1_3 > (0 : Int)
      ·rw [if_pos hy1_7] at h
       by_cases hy1_8 : (y1_4_.2.1) = (1 : Int)
       ·rw [if_pos hy1_8] at h
        cases h
       ·rw [if_neg hy1_8] at h
        obtain rfl := Sum.inl.inj (oI h); exact q_RCheckq2_1_1 n x1_0 x1_1 x1_2 x1_3 hy1_1 hy1_2 hy1_3 y1_4_ hy1_4 y1_5_ hy1_5 hy1_6 hy1_7 hy1_8
      ·rw [if_neg hy1_7] at h
       obtain rfl := Sum.inl.inj (oI h); exact q_RCheckq2_1_2 n x1_0 x1_1 x1_2 x1_3 hy1_1 hy1_2 hy1_3 y1_4_ hy1_4 y1_5_ hy1_5 hy1_6 hy1_7
     ·rw [if_neg hy1_6] at h
      cases h
    ·rw [if_neg hy1_3] at h; cases h
   ·rw [if_neg hy1_2] at h; cases h
  ·rw [if_neg hy1_1] at h
   cases h)
  (fun x1_3 r h => by
  unfold B_RCheckq2_1 at h
  dsimp only at h
  by_cases hy1_1 : x1_3 < ((x1_1 : Nat) : Int)
  ·rw [if_pos hy1_1] at h
   by_cases hy1_2 : 0 ≤ x1_3 ∧ x1_3 < ((x1_1 : Nat) : Int)
   ·rw [if_pos hy1_2] at h
    by_cases hy1_3 : (x1_3).toNat < (x1_0).length
    ·rw [if_pos hy1_3] at h
     obtain ⟨y1_4_, hy1_4, h⟩ := Option.bind_eq_some_iff.1 h
     obtain ⟨y1_5_, hy1_5, h⟩ := Option.bind_eq_some_iff.1 h
     by_cases hy1_6 : y1_5_ = true
     ·rw [if_pos hy1_6] at h
      by_cases hy1_7 : x1_3 > (0 : Int)
      ·rw [if_pos hy1_7] at h
       by_cases hy1_8 : (y1_4_.2.1) = (1 : Int)
       ·rw [if_pos hy1_8] at h
        obtain rfl := Sum.inr.inj (oI h); exact q_RCheckq2_1_0 n x1_0 x1_1 x1_2 x1_3 hy1_1 hy1_2 hy1_3 y1_4_ hy1_4 y1_5_ hy1_5 hy1_6 hy1_7 hy1_8
       ·rw [if_neg hy1_8] at h
        cases h
      ·rw [if_neg hy1_7] at h
       cases h
     ·rw [if_neg hy1_6] at h
      obtain rfl := Sum.inr.inj (oI h); exact q_RCheckq2_1_3 n x1_0 x1_1 x1_2 x1_3 hy1_1 hy1_2 hy1_3 y1_4_ hy1_4 y1_5_ hy1_5 hy1_6
    ·rw [if_neg hy1_3] at h; cases h
   ·rw [if_neg hy1_2] at h; cases h
  ·rw [if_neg hy1_1] at h
   obtain rfl := Sum.inr.inj (oI h); exact q_RCheckq2_1_4 n x1_0 x1_1 x1_2 x1_3 hy1_1)
  (fun r => by intro hx; rcases r with _ | _ <;> cases hx) h
def m_RCheckq2 (n : Nat) (a0 : List R8) (a1 : Nat) (a2 : Nat) : Option (Int) :=
 if ((a1 : Nat) : Int) > (524288 : Int) then
  some 3
 else
  match m_RCheckq2_1 n a0 a1 a2 0 with
  | none => none
  | some (.inl _) =>
   some 2
  | some (.inr _) =>
   if ((a1 : Nat) : Int) = (0 : Int) then
    some 2
   else
    (m_Rendq2 n a0 a1 a2 0).bind fun c4_ =>
    if c4_ = ((a1 : Nat) : Int) then
     some 0
    else
     some 2
theorem p_RCheckq2_0 (n : Nat) (a0 : List R8) (a1 a2 : Nat) (hc1 : ((a1 : Nat) : Int) > (524288 : Int)) : G_RCheckq2 a0 a1 a2 3 :=
 runF2 hm (L := lT []) ⟨[2], [], 1, 1, [], false, []⟩ (zz 6 (xdT hc1) <|
ee) (by kernel_rfl)
theorem p_RCheckq2_1 (n : Nat) (a0 : List R8) (a1 a2 : Nat) (hc1 : ¬ (((a1 : Nat) : Int) > (524288 : Int))) (hc2 : m_RCheckq2_1 n a0 a1 a2 0 = some (.inl ())) : G_RCheckq2 a0 a1 a2 2 :=
 runF2 hm (L := lT [(12, ⟨⟨[0, 3], [(0, 0, true)], 1, 1, [], false, []⟩, (X_RCheckq2_1 a0 a1 a2 (.inl ())).1, (X_RCheckq2_1 a0 a1 a2 (.inl ())).2⟩)]) ⟨[2], [], 1, 1, [], false, []⟩ (zz 6 (xdF hc1) <|
ww (p := U_RCheckq2_1 none a0 a1 a2 0 (.inl ())) (m_RCheckq2_1_ok n a0 a1 a2 0 (.inl ()) hc2) <|
ww (rows_flat rwf_iiiiiiLu a0 41) <|
ee) (by kernel_rfl)
theorem p_RCheckq2_2 (n : Nat) (a0 : List R8) (a1 a2 : Nat) (hc1 : ¬ (((a1 : Nat) : Int) > (524288 : Int))) (hc2 : m_RCheckq2_1 n a0 a1 a2 0 = some (.inr ())) (hc3 : ((a1 : Nat) : Int) = (0 : Int)) : G_RCheckq2 a0 a1 a2 2 :=
 runF2 hm (L := lT [(12, ⟨⟨[0, 3], [(0, 0, true)], 1, 1, [], false, []⟩, (X_RCheckq2_1 a0 a1 a2 (.inr ())).1, (X_RCheckq2_1 a0 a1 a2 (.inr ())).2⟩)]) ⟨[2], [], 1, 1, [], false, []⟩ (zz 6 (xdF hc1) <|
ww (p := U_RCheckq2_1 none a0 a1 a2 0 (.inr ())) (m_RCheckq2_1_ok n a0 a1 a2 0 (.inr ()) hc2) <|
ww (rows_flat rwf_iiiiiiLu a0 41) <|
zz 17 (xeT hc3) <|
ee) (by kernel_rfl)
theorem p_RCheckq2_3 (n : Nat) (a0 : List R8) (a1 a2 : Nat) (hc1 : ¬ (((a1 : Nat) : Int) > (524288 : Int))) (hc2 : m_RCheckq2_1 n a0 a1 a2 0 = some (.inr ())) (hc3 : ¬ (((a1 : Nat) : Int) = (0 : Int))) (c4_ : Int) (hc4 : m_Rendq2 n a0 a1 a2 0 = some c4_) (hc5 : c4_ = ((a1 : Nat) : Int)) : G_RCheckq2 a0 a1 a2 0 :=
 runF2 hm (L := lT [(12, ⟨⟨[0, 3], [(0, 0, true)], 1, 1, [], false, []⟩, (X_RCheckq2_1 a0 a1 a2 (.inr ())).1, (X_RCheckq2_1 a0 a1 a2 (.inr ())).2⟩)]) ⟨[2], [], 1, 1, [], false, []⟩ (zz 6 (xdF hc1) <|
ww (p := U_RCheckq2_1 none a0 a1 a2 0 (.inr ())) (m_RCheckq2_1_ok n a0 a1 a2 0 (.inr ()) hc2) <|
ww (rows_flat rwf_iiiiiiLu a0 41) <|
zz 17 (xeF hc3) <|
yy 20 (.call (C_Rendq2 a0 a1 a2 0 c4_ [(0, 0, true)] [])) <|
ww (m_Rendq2_ok n a0 a1 a2 0 c4_ hc4) <|
ww (rows_flat rwf_iiiiiiLu a0 41) <|
zz 23 (xnF hc5) <|
ee) (by kernel_rfl)
theorem p_RCheckq2_4 (n : Nat) (a0 : List R8) (a1 a2 : Nat) (hc1 : ¬ (((a1 : Nat) : Int) > (524288 : Int))) (hc2 : m_RCheckq2_1 n a0 a1 a2 0 = some (.inr ())) (hc3 : ¬ (((a1 : Nat) : Int) = (0 : Int))) (c4_ : Int) (hc4 : m_Rendq2 n a0 a1 a2 0 = some c4_) (hc5 : ¬ (c4_ = ((a1 : Nat) : Int))) : G_RCheckq2 a0 a1 a2 2 :=
 runF2 hm (L := lT [(12, ⟨⟨[0, 3], [(0, 0, true)], 1, 1, [], false, []⟩, (X_RCheckq2_1 a0 a1 a2 (.inr ())).1, (X_RCheckq2_1 a0 a1 a2 (.inr ())).2⟩)]) ⟨[2], [], 1, 1, [], false, []⟩ (zz 6 (xdF hc1) <|
ww (p := U_RCheckq2_1 none a0 a1 a2 0 (.inr ())) (m_RCheckq2_1_ok n a0 a1 a2 0 (.inr ()) hc2) <|
ww (rows_flat rwf_iiiiiiLu a0 41) <|
zz 17 (xeF hc3) <|
yy 20 (.call (C_Rendq2 a0 a1 a2 0 c4_ [(0, 0, true)] [])) <|
ww (m_Rendq2_ok n a0 a1 a2 0 c4_ hc4) <|
ww (rows_flat rwf_iiiiiiLu a0 41) <|
zz 23 (xnT hc5) <|
ee) (by kernel_rfl)
theorem m_RCheckq2_ok (n : Nat) (a0 : List R8) (a1 : Nat) (a2 : Nat) (r : Int) (h : m_RCheckq2 n a0 a1 a2 = some r) : Gv P (.func 8) (A_RCheckq2 a0 a1 a2) (H_RCheckq2 a0 a1 a2) (V_RCheckq2 a0 a1 a2 r) (R_RCheckq2 a0 a1 a2 r) := by
 unfold m_RCheckq2 at h
 by_cases hc1 : ((a1 : Nat) : Int) > (524288 : Int)
 ·rw [if_pos hc1] at h
  obtain rfl := oI h; exact p_RCheckq2_0 n a0 a1 a2 hc1
 ·rw [if_neg hc1] at h
  rcases hc2 : m_RCheckq2_1 n a0 a1 a2 0 with _ | (⟨⟩ | ⟨⟩)
  ·rw [hc2] at h; cases h
  ·rw [hc2] at h
   dsimp only at h
   obtain rfl := oI h; exact p_RCheckq2_1 n a0 a1 a2 hc1 hc2
  ·rw [hc2] at h
   dsimp only at h
   by_cases hc3 : ((a1 : Nat) : Int) = (0 : Int)
   ·rw [if_pos hc3] at h
    obtain rfl := oI h; exact p_RCheckq2_2 n a0 a1 a2 hc1 hc2 hc3
   ·rw [if_neg hc3] at h
    obtain ⟨c4_, hc4, h⟩ := Option.bind_eq_some_iff.1 h
    by_cases hc5 : c4_ = ((a1 : Nat) : Int)
    ·rw [if_pos hc5] at h
     obtain rfl := oI h; exact p_RCheckq2_3 n a0 a1 a2 hc1 hc2 hc3 c4_ hc4 hc5
    ·rw [if_neg hc5] at h
     obtain rfl := oI h; exact p_RCheckq2_4 n a0 a1 a2 hc1 hc2 hc3 c4_ hc4 hc5


end Go.Proofs.Ytjboikbhilkelaa.spm
