/-
  What functions do, told by pure functions. No condition.
-/
import Derived.Test.YtiiionooieoniaaStlLives
set_option linter.unusedSimpArgs false
set_option linter.unusedVariables false
set_option linter.unusedSectionVars false
set_option linter.unnecessarySimpa false
set_option maxRecDepth 100000
namespace Go.Proofs.Ytiiionooieoniaa.stlw
open Go Go.Proofs.Ytiiionooieoniaa Ax
variable [Args]
def rw_iii (x : Int × Int × Int) : List Value := [Value.int .i64 (x.1), Value.int .i64 (x.2.1), Value.int .i64 (x.2.2)]
theorem rwf_iii : RowF rw_iii 3 := ⟨fun _ => rfl, fun a v h => by
 simp only [rw_iii, List.mem_cons, List.not_mem_nil, or_false] at h
 rcases h with rfl | rfl | rfl <;> rfl, fun _ => rfl⟩
abbrev xp1 (b n k : Nat) (i : Int) : Prop := IA P 22 (sW b 0 n k) i (pW b (i.toNat * 4))
theorem xk1 (b k : Nat) {n : Nat} {i : Int} (h : 0 ≤ i ∧ i < (n : Int)) : OB (.pur (pW b (i.toNat * 4))) (xp1 b n k i) := ⟨ixW (e := 38) (by kernel_rfl) (by kernel_rfl) h.1 h.2⟩
abbrev fp2 (o : Nat) : Prop := FA P 38 (pW 0 o) 1 (pW 0 (Nat.add o 1))
theorem fk2 (o : Nat) : OB (.pur (pW 0 (Nat.add o 1))) (fp2 o) := ⟨by unfold fp2 FA; kernel_rfl⟩
abbrev lp3 (i : Nat) (r : Int × NL × Int × Int) : Prop := Lg P 30 (pW 0 (Nat.add (i * 4) 1)) (nlV (r.2.1))
theorem lk3 {i : Nat} {r : Int × NL × Int × Int} (hr : some ((Args.A).getD i (0, nl0, 0, 0)) = some r) (h : i < (Args.A).length) : OB (.ld (nlV (r.2.1))) (lp3 i r) := by cases hr; exact ⟨ldWS rwf_iLii (0, nl0, 0, 0) (i := i) (q := 1) (L := Args.A) (Nat.add (i * 4) 1) rfl rfl (by kernel_rfl) h (by decide) rfl⟩
abbrev xp4 (b n k : Nat) (i : Int) : Prop := IA P 23 (sW b 0 n k) i (pW b (i.toNat * 8))
theorem xk4 (b k : Nat) {n : Nat} {i : Int} (h : 0 ≤ i ∧ i < (n : Int)) : OB (.pur (pW b (i.toNat * 8))) (xp4 b n k i) := ⟨ixW (e := 33) (by kernel_rfl) (by kernel_rfl) h.1 h.2⟩
abbrev lp5 (i : Nat) (r : Int × Int × Int × Int × Int × Int × NL × Int) : Prop := Lg P 33 (pW 1 (i * 8)) (Value.agg #[(i6 (r.1)), (i6 (r.2.1)), (i6 (r.2.2.1)), (i6 (r.2.2.2.1)), (i6 (r.2.2.2.2.1)), (i6 (r.2.2.2.2.2.1)), (nlV (r.2.2.2.2.2.2.1)), (Value.int .u64 (r.2.2.2.2.2.2.2))])
theorem lk5 {i : Nat} {r : Int × Int × Int × Int × Int × Int × NL × Int} (hr : some ((Args.B).getD i (0, 0, 0, 0, 0, 0, nl0, 0)) = some r) (h : i < (Args.B).length) : OB (.ld (Value.agg #[(i6 (r.1)), (i6 (r.2.1)), (i6 (r.2.2.1)), (i6 (r.2.2.2.1)), (i6 (r.2.2.2.2.1)), (i6 (r.2.2.2.2.2.1)), (nlV (r.2.2.2.2.2.2.1)), (Value.int .u64 (r.2.2.2.2.2.2.2))])) (lp5 i r) := by cases hr; exact ⟨ldWA rwf_iiiiiiLu (0, 0, 0, 0, 0, 0, nl0, 0) (i := i) (q := 0) (L := Args.B) (n := 8) (i * 8) rfl rfl (by kernel_rfl) (by kernel_rfl) h (by decide) rfl⟩
abbrev fp6 (o : Nat) : Prop := FA P 33 (pW 1 o) 1 (pW 1 (Nat.add o 1))
theorem fk6 (o : Nat) : OB (.pur (pW 1 (Nat.add o 1))) (fp6 o) := ⟨by unfold fp6 FA; kernel_rfl⟩
abbrev lp7 (i : Nat) (r : Int × Int × Int × Int × Int × Int × NL × Int) : Prop := Lg P 3 (pW 1 (Nat.add (i * 8) 1)) (i6 (r.2.1))
theorem lk7 {i : Nat} {r : Int × Int × Int × Int × Int × Int × NL × Int} (hr : some ((Args.B).getD i (0, 0, 0, 0, 0, 0, nl0, 0)) = some r) (h : i < (Args.B).length) : OB (.ld (i6 (r.2.1))) (lp7 i r) := by cases hr; exact ⟨ldWS rwf_iiiiiiLu (0, 0, 0, 0, 0, 0, nl0, 0) (i := i) (q := 1) (L := Args.B) (Nat.add (i * 8) 1) rfl rfl (by kernel_rfl) h (by decide) rfl⟩
abbrev fp8 (o : Nat) : Prop := FA P 33 (pW 1 o) 2 (pW 1 (Nat.add o 2))
theorem fk8 (o : Nat) : OB (.pur (pW 1 (Nat.add o 2))) (fp8 o) := ⟨by unfold fp8 FA; kernel_rfl⟩
abbrev lp9 (i : Nat) (r : Int × Int × Int × Int × Int × Int × NL × Int) : Prop := Lg P 3 (pW 1 (Nat.add (i * 8) 2)) (i6 (r.2.2.1))
theorem lk9 {i : Nat} {r : Int × Int × Int × Int × Int × Int × NL × Int} (hr : some ((Args.B).getD i (0, 0, 0, 0, 0, 0, nl0, 0)) = some r) (h : i < (Args.B).length) : OB (.ld (i6 (r.2.2.1))) (lp9 i r) := by cases hr; exact ⟨ldWS rwf_iiiiiiLu (0, 0, 0, 0, 0, 0, nl0, 0) (i := i) (q := 2) (L := Args.B) (Nat.add (i * 8) 2) rfl rfl (by kernel_rfl) h (by decide) rfl⟩
abbrev fp10 (o : Nat) : Prop := FA P 33 (pW 1 o) 6 (pW 1 (Nat.add o 6))
theorem fk10 (o : Nat) : OB (.pur (pW 1 (Nat.add o 6))) (fp10 o) := ⟨by unfold fp10 FA; kernel_rfl⟩
abbrev lp11 (i : Nat) (r : Int × Int × Int × Int × Int × Int × NL × Int) : Prop := Lg P 30 (pW 1 (Nat.add (i * 8) 6)) (nlV (r.2.2.2.2.2.2.1))
theorem lk11 {i : Nat} {r : Int × Int × Int × Int × Int × Int × NL × Int} (hr : some ((Args.B).getD i (0, 0, 0, 0, 0, 0, nl0, 0)) = some r) (h : i < (Args.B).length) : OB (.ld (nlV (r.2.2.2.2.2.2.1))) (lp11 i r) := by cases hr; exact ⟨ldWS rwf_iiiiiiLu (0, 0, 0, 0, 0, 0, nl0, 0) (i := i) (q := 6) (L := Args.B) (Nat.add (i * 8) 6) rfl rfl (by kernel_rfl) h (by decide) rfl⟩
abbrev xp12 (b n k : Nat) (i : Int) : Prop := IA P 30 (sW b 0 n k) i (pW b i.toNat)
theorem xk12 (b k : Nat) {n : Nat} {i : Int} (h : 0 ≤ i ∧ i < (n : Int)) : OB (.pur (pW b i.toNat)) (xp12 b n k i) := ⟨ixW1 (e := 3) (by kernel_rfl) (by kernel_rfl) h⟩
theorem nk13 {x : NL} {i : Nat} {v : Int} (hv : some (x.l.getD i 0) = some v) (h : i < x.l.length) : OB (.ld (i6 v)) (Lg P 3 (pW (Nat.add x.num 64) i) (i6 v)) := by cases hv; exact ⟨ldN x (by kernel_rfl) h⟩
abbrev fp14 (o : Nat) : Prop := FA P 33 (pW 1 o) 4 (pW 1 (Nat.add o 4))
theorem fk14 (o : Nat) : OB (.pur (pW 1 (Nat.add o 4))) (fp14 o) := ⟨by unfold fp14 FA; kernel_rfl⟩
abbrev lp15 (i : Nat) (r : Int × Int × Int × Int × Int × Int × NL × Int) : Prop := Lg P 3 (pW 1 (Nat.add (i * 8) 4)) (i6 (r.2.2.2.2.1))
theorem lk15 {i : Nat} {r : Int × Int × Int × Int × Int × Int × NL × Int} (hr : some ((Args.B).getD i (0, 0, 0, 0, 0, 0, nl0, 0)) = some r) (h : i < (Args.B).length) : OB (.ld (i6 (r.2.2.2.2.1))) (lp15 i r) := by cases hr; exact ⟨ldWS rwf_iiiiiiLu (0, 0, 0, 0, 0, 0, nl0, 0) (i := i) (q := 4) (L := Args.B) (Nat.add (i * 8) 4) rfl rfl (by kernel_rfl) h (by decide) rfl⟩
abbrev xp16 (b n k : Nat) (i : Int) : Prop := IA P 62 (sN b 0 n k) i (pN b (i.toNat * 3))
theorem xk16 (b k : Nat) {n : Nat} {i : Int} (h : 0 ≤ i ∧ i < (n : Int)) : OB (.pur (pN b (i.toNat * 3))) (xp16 b n k i) := ⟨ixS (e := 65) (by kernel_rfl) (by kernel_rfl) h.1 h.2⟩
abbrev op17 (L : List (Int × Int × Int)) (i : Nat) (r : Int × Int × Int) : Prop := (layT (rows rw_iii L)).get (Nat.add (i * 3) 0) = some (i6 (r.1))
theorem ok17 {L : List (Int × Int × Int)} {i : Nat} {r : Int × Int × Int} (hr : some (L.getD i (0, 0, 0)) = some r) (h : i < L.length) : OB (.ld (i6 (r.1))) (op17 L i r) := by cases hr; exact ⟨rows_ld rwf_iii (0, 0, 0) (i := i) (j := 0) (Nat.add (i * 3) 0) rfl h (by decide) rfl⟩
abbrev op18 (L : List (Int × Int × Int)) (i : Nat) (r : Int × Int × Int) : Prop := (layT (rows rw_iii L)).get (Nat.add (i * 3) 1) = some (i6 (r.2.1))
theorem ok18 {L : List (Int × Int × Int)} {i : Nat} {r : Int × Int × Int} (hr : some (L.getD i (0, 0, 0)) = some r) (h : i < L.length) : OB (.ld (i6 (r.2.1))) (op18 L i r) := by cases hr; exact ⟨rows_ld rwf_iii (0, 0, 0) (i := i) (j := 1) (Nat.add (i * 3) 1) rfl h (by decide) rfl⟩
abbrev op19 (L : List (Int × Int × Int)) (i : Nat) (r : Int × Int × Int) : Prop := (layT (rows rw_iii L)).get (Nat.add (i * 3) 2) = some (i6 (r.2.2))
theorem ok19 {L : List (Int × Int × Int)} {i : Nat} {r : Int × Int × Int} (hr : some (L.getD i (0, 0, 0)) = some r) (h : i < L.length) : OB (.ld (i6 (r.2.2))) (op19 L i r) := by cases hr; exact ⟨rows_ld rwf_iii (0, 0, 0) (i := i) (j := 2) (Nat.add (i * 3) 2) rfl h (by decide) rfl⟩
theorem snoc_cons {α : Type} (l : List α) (x : α) : ∃ a t, l ++ [x] = a :: t := by
 cases l with
 | nil => exact ⟨_, _, rfl⟩
 | cons a t => exact ⟨_, _, rfl⟩
theorem set_cons {α : Type} {x v : α} {l : List α} {n : Nat} : ∃ a t, (x :: l).set n v = a :: t := by cases n <;> exact ⟨_, _, rfl⟩
abbrev fp20 (o : Nat) : Prop := FA P 33 (pW 1 o) 0 (pW 1 (Nat.add o 0))
theorem fk20 (o : Nat) : OB (.pur (pW 1 (Nat.add o 0))) (fp20 o) := ⟨by unfold fp20 FA; kernel_rfl⟩
abbrev lp21 (i : Nat) (r : Int × Int × Int × Int × Int × Int × NL × Int) : Prop := Lg P 3 (pW 1 (Nat.add (i * 8) 0)) (i6 (r.1))
theorem lk21 {i : Nat} {r : Int × Int × Int × Int × Int × Int × NL × Int} (hr : some ((Args.B).getD i (0, 0, 0, 0, 0, 0, nl0, 0)) = some r) (h : i < (Args.B).length) : OB (.ld (i6 (r.1))) (lp21 i r) := by cases hr; exact ⟨ldWS rwf_iiiiiiLu (0, 0, 0, 0, 0, 0, nl0, 0) (i := i) (q := 0) (L := Args.B) (Nat.add (i * 8) 0) rfl rfl (by kernel_rfl) h (by decide) rfl⟩
abbrev lp22 (i : Nat) (r : Int × NL × Int × Int) : Prop := Lg P 38 (pW 0 (i * 4)) (Value.agg #[(i6 (r.1)), (nlV (r.2.1)), (i6 (r.2.2.1)), (i6 (r.2.2.2))])
theorem lk22 {i : Nat} {r : Int × NL × Int × Int} (hr : some ((Args.A).getD i (0, nl0, 0, 0)) = some r) (h : i < (Args.A).length) : OB (.ld (Value.agg #[(i6 (r.1)), (nlV (r.2.1)), (i6 (r.2.2.1)), (i6 (r.2.2.2))])) (lp22 i r) := by cases hr; exact ⟨ldWA rwf_iLii (0, nl0, 0, 0) (i := i) (q := 0) (L := Args.A) (n := 4) (i * 4) rfl rfl (by kernel_rfl) (by kernel_rfl) h (by decide) rfl⟩
abbrev xp23 (b n k : Nat) (i : Int) : Prop := IA P 30 (sN b 0 n k) i (pN b i.toNat)
theorem xk23 (b k : Nat) {n : Nat} {i : Int} (h : 0 ≤ i ∧ i < (n : Int)) : OB (.pur (pN b i.toNat)) (xp23 b n k i) := ⟨ixS1 (e := 3) (by kernel_rfl) (by kernel_rfl) h⟩

def m_viewportlaw26lives (n : Nat) : Option Unit := some ()
theorem m_viewportlaw26lives_ok (n : Nat) (r : Unit) (h : m_viewportlaw26lives n = some r) : Gv P (.func 5) [] Ax.h0 (.bool true) Ax.h0 := lives_gv

noncomputable def A_viewportkitLightStylesq1 : List Value := [(sW 0 0 (Args.A).length Args.cA)]
noncomputable def H_viewportkitLightStylesq1 : AH := ⟨sB [], 0, 0⟩
noncomputable def V_viewportkitLightStylesq1 (r : Bool) : Value := match r with
 | o0 => (bO o0)
noncomputable def R_viewportkitLightStylesq1 (r : Bool) : AH := match r with
 | o0 => ⟨sB [], 0, 0⟩
noncomputable abbrev G_viewportkitLightStylesq1 (r : Bool) : Prop := Gv P (.func 13) A_viewportkitLightStylesq1 H_viewportkitLightStylesq1 (V_viewportkitLightStylesq1  r) (R_viewportkitLightStylesq1  r)
noncomputable abbrev C_viewportkitLightStylesq1 (r : Bool) (ins outs : BL) : CallA := ⟨0, ins, V_viewportkitLightStylesq1  r, R_viewportkitLightStylesq1  r, outs⟩
noncomputable def S_viewportkitLightStylesq1_1 (st : Int) : XSt := match st with
 | x1_0 => (sT 20 [(0, (sW 0 0 (Args.A).length Args.cA)), (3, (i6 x1_0))], [], ⟨sB [], 0, 0⟩)
noncomputable def X_viewportkitLightStylesq1_1 (r : (Unit) ⊕ (Unit)) : Ex × XSt := match r with
 | .inl _ => (.ret, (sT 20 [(2, (bO false))], [], ⟨sB [], 0, 0⟩))
 | .inr _ => (.exit 0, (sT 20 [(0, (sW 0 0 (Args.A).length Args.cA))], [], ⟨sB [], 0, 0⟩))
noncomputable abbrev Q_viewportkitLightStylesq1_1 (rnd : Option Nat) (st : Int) (c : Ex × XSt) : Prop := CG P rnd (fnN P 13) 0 (codeOf P 13 [false, false, true, false, true]) (S_viewportkitLightStylesq1_1 st) c
noncomputable abbrev U_viewportkitLightStylesq1_1 (rd : Option Nat) (st : Int) (r : (Unit) ⊕ (Unit)) : Prop := CG P rd (fnN P 13) 0 (codeOf P 13 [false, true, false, true]) (S_viewportkitLightStylesq1_1 st) (X_viewportkitLightStylesq1_1 r)
def B_viewportkitLightStylesq1_1 (n : Nat) (st : Int) : Option ((Int) ⊕ ((Unit) ⊕ (Unit))) := match st with
 | x1_0 =>
  if x1_0 < (((Args.A).length : Nat) : Int) then
   if 0 ≤ x1_0 ∧ x1_0 < (((Args.A).length : Nat) : Int) then
    ((some ((Args.A).getD (x1_0).toNat (0, nl0, 0, 0)))).bind fun y1_3_ =>
    if ((((y1_3_.2.1)).l.length : Nat) : Int) > (20 : Int) then
     some (.inr (.inl ()))
    else
     some (.inl (w64 (x1_0 + (1 : Int))))
   else none
  else
   some (.inr (.inr ()))
def m_viewportkitLightStylesq1_1 (n : Nat) (st : Int) : Option ((Unit) ⊕ (Unit)) := iterM (B_viewportkitLightStylesq1_1 n) n st
theorem q_viewportkitLightStylesq1_1_0 (n : Nat) {rnd : Option Nat} (x1_0 : Int) (hy1_1 : x1_0 < (((Args.A).length : Nat) : Int)) (hy1_2 : 0 ≤ x1_0 ∧ x1_0 < (((Args.A).length : Nat) : Int)) (y1_3_ : Int × NL × Int × Int) (hy1_3 : (some ((Args.A).getD (x1_0).toNat (0, nl0, 0, 0))) = some y1_3_) (hy1_4 : ((((y1_3_.2.1)).l.length : Nat) : Int) > (20 : Int)) : Q_viewportkitLightStylesq1_1 rnd x1_0 (X_viewportkitLightStylesq1_1 (.inl ())) :=
 runC2 hm (L := lT []) ⟨[2], [], 0, 0⟩ (zz 5 (xdT hy1_1) <|
zz 12 (xk1 0 Args.cA hy1_2) <|
zz 13 (fk2 ((x1_0).toNat * 4)) <|
zz 14 (lk3 hy1_3 (toNatLt hy1_2)) <|
zz 16 (xdT hy1_4) <|
ee) (by kernel_rfl)
theorem q_viewportkitLightStylesq1_1_1 (n : Nat) {rnd : Option Nat} (x1_0 : Int) (hy1_1 : x1_0 < (((Args.A).length : Nat) : Int)) (hy1_2 : 0 ≤ x1_0 ∧ x1_0 < (((Args.A).length : Nat) : Int)) (y1_3_ : Int × NL × Int × Int) (hy1_3 : (some ((Args.A).getD (x1_0).toNat (0, nl0, 0, 0))) = some y1_3_) (hy1_4 : ¬ (((((y1_3_.2.1)).l.length : Nat) : Int) > (20 : Int))) : Q_viewportkitLightStylesq1_1 rnd x1_0 (.normal, S_viewportkitLightStylesq1_1 (w64 (x1_0 + (1 : Int)))) :=
 runC2 hm (L := lT []) ⟨[0, 3], [], 0, 0⟩ (zz 5 (xdT hy1_1) <|
zz 12 (xk1 0 Args.cA hy1_2) <|
zz 13 (fk2 ((x1_0).toNat * 4)) <|
zz 14 (lk3 hy1_3 (toNatLt hy1_2)) <|
zz 16 (xdF hy1_4) <|
ee) (by kernel_rfl)
theorem q_viewportkitLightStylesq1_1_2 (n : Nat) {rnd : Option Nat} (x1_0 : Int) (hy1_1 : ¬ (x1_0 < (((Args.A).length : Nat) : Int))) : Q_viewportkitLightStylesq1_1 rnd x1_0 (X_viewportkitLightStylesq1_1 (.inr ())) :=
 runC2 hm (L := lT []) ⟨[0], [], 0, 0⟩ (zz 5 (xdF hy1_1) <|
ee) (by kernel_rfl)
theorem m_viewportkitLightStylesq1_1_ok (n : Nat) {rnd : Option Nat} (st : Int) (r : (Unit) ⊕ (Unit)) (h : m_viewportkitLightStylesq1_1 n st = some r) : CG P rnd (fnN P 13) 0 (codeOf P 13 [false, true, false, true]) (S_viewportkitLightStylesq1_1 st) (X_viewportkitLightStylesq1_1 r) :=
 CG.iter (b := codeOf P 13 [false, false, true, false, true]) (by kernel_rfl) (body := B_viewportkitLightStylesq1_1 n) (S := S_viewportkitLightStylesq1_1) (X := X_viewportkitLightStylesq1_1)
  (fun x1_0 s' h => by
  unfold B_viewportkitLightStylesq1_1 at h
  dsimp only at h
  by_cases hy1_1 : x1_0 < (((Args.A).length : Nat) : Int)
  ·rw [if_pos hy1_1] at h
   by_cases hy1_2 : 0 ≤ x1_0 ∧ x1_0 < (((Args.A).length : Nat) : Int)
   ·rw [if_pos hy1_2] at h
    obtain ⟨y1_3_, hy1_3, h⟩ := Option.bind_eq_some_iff.1 h
    by_cases hy1_4 : ((((y1_3_.2.1)).l.length : Nat) : Int) > (20 : Int)
    ·rw [if_pos hy1_4] at h
     cases h
    ·rw [if_neg hy1_4] at h
     obtain rfl := Sum.inl.inj (Option.some.inj h); exact q_viewportkitLightStylesq1_1_1 n x1_0 hy1_1 hy1_2 y1_3_ hy1_3 hy1_4
   ·rw [if_neg hy1_2] at h; cases h
  ·rw [if_neg hy1_1] at h
   cases h)
  (fun x1_0 r h => by
  unfold B_viewportkitLightStylesq1_1 at h
  dsimp only at h
  by_cases hy1_1 : x1_0 < (((Args.A).length : Nat) : Int)
  ·rw [if_pos hy1_1] at h
   by_cases hy1_2 : 0 ≤ x1_0 ∧ x1_0 < (((Args.A).length : Nat) : Int)
   ·rw [if_pos hy1_2] at h
    obtain ⟨y1_3_, hy1_3, h⟩ := Option.bind_eq_some_iff.1 h
    by_cases hy1_4 : ((((y1_3_.2.1)).l.length : Nat) : Int) > (20 : Int)
    ·rw [if_pos hy1_4] at h
     obtain rfl := Sum.inr.inj (Option.some.inj h); exact q_viewportkitLightStylesq1_1_0 n x1_0 hy1_1 hy1_2 y1_3_ hy1_3 hy1_4
    ·rw [if_neg hy1_4] at h
     cases h
   ·rw [if_neg hy1_2] at h; cases h
  ·rw [if_neg hy1_1] at h
   obtain rfl := Sum.inr.inj (Option.some.inj h); exact q_viewportkitLightStylesq1_1_2 n x1_0 hy1_1)
  (fun r => by intro hx; rcases r with _ | _ <;> cases hx) h
def m_viewportkitLightStylesq1 (n : Nat) : Option (Bool) :=
 match m_viewportkitLightStylesq1_1 n 0 with
 | none => none
 | some (.inl _) =>
  some false
 | some (.inr _) =>
  if (((Args.A).length : Nat) : Int) ≤ (70 : Int) then
   some true
  else
   some false
theorem p_viewportkitLightStylesq1_0 (n : Nat) (hc1 : m_viewportkitLightStylesq1_1 n 0 = some (.inl ())) : G_viewportkitLightStylesq1  false :=
 runF2 hm (L := lT [(6, ⟨⟨[0, 3], [], 0, 0⟩, (X_viewportkitLightStylesq1_1 (.inl ())).1, (X_viewportkitLightStylesq1_1 (.inl ())).2⟩)]) ⟨[2], [], 0, 0⟩ (ww (p := U_viewportkitLightStylesq1_1 none 0 (.inl ())) (m_viewportkitLightStylesq1_1_ok n 0 (.inl ()) hc1) <|
ee) (by kernel_rfl)
theorem p_viewportkitLightStylesq1_1 (n : Nat) (hc1 : m_viewportkitLightStylesq1_1 n 0 = some (.inr ())) (hc2 : (((Args.A).length : Nat) : Int) ≤ (70 : Int)) : G_viewportkitLightStylesq1  true :=
 runF2 hm (L := lT [(6, ⟨⟨[0, 3], [], 0, 0⟩, (X_viewportkitLightStylesq1_1 (.inr ())).1, (X_viewportkitLightStylesq1_1 (.inr ())).2⟩)]) ⟨[2], [], 0, 0⟩ (ww (p := U_viewportkitLightStylesq1_1 none 0 (.inr ())) (m_viewportkitLightStylesq1_1_ok n 0 (.inr ()) hc1) <|
zz 10 (xdT hc2) <|
ee) (by kernel_rfl)
theorem p_viewportkitLightStylesq1_2 (n : Nat) (hc1 : m_viewportkitLightStylesq1_1 n 0 = some (.inr ())) (hc2 : ¬ ((((Args.A).length : Nat) : Int) ≤ (70 : Int))) : G_viewportkitLightStylesq1  false :=
 runF2 hm (L := lT [(6, ⟨⟨[0, 3], [], 0, 0⟩, (X_viewportkitLightStylesq1_1 (.inr ())).1, (X_viewportkitLightStylesq1_1 (.inr ())).2⟩)]) ⟨[2], [], 0, 0⟩ (ww (p := U_viewportkitLightStylesq1_1 none 0 (.inr ())) (m_viewportkitLightStylesq1_1_ok n 0 (.inr ()) hc1) <|
zz 10 (xdF hc2) <|
ee) (by kernel_rfl)
theorem m_viewportkitLightStylesq1_ok (n : Nat) (r : Bool) (h : m_viewportkitLightStylesq1 n = some r) : Gv P (.func 13) A_viewportkitLightStylesq1 H_viewportkitLightStylesq1 (V_viewportkitLightStylesq1  r) (R_viewportkitLightStylesq1  r) := by
 unfold m_viewportkitLightStylesq1 at h
 rcases hc1 : m_viewportkitLightStylesq1_1 n 0 with _ | (⟨⟩ | ⟨⟩)
 ·rw [hc1] at h; cases h
 ·rw [hc1] at h
  dsimp only at h
  obtain rfl := Option.some.inj h; exact p_viewportkitLightStylesq1_0 n hc1
 ·rw [hc1] at h
  dsimp only at h
  by_cases hc2 : (((Args.A).length : Nat) : Int) ≤ (70 : Int)
  ·rw [if_pos hc2] at h
   obtain rfl := Option.some.inj h; exact p_viewportkitLightStylesq1_1 n hc1 hc2
  ·rw [if_neg hc2] at h
   obtain rfl := Option.some.inj h; exact p_viewportkitLightStylesq1_2 n hc1 hc2

noncomputable def A_viewportkitLightPartsq1 (a0 : Int) : List Value := [(sW 1 0 (Args.B).length Args.cB), (i6 a0)]
noncomputable def H_viewportkitLightPartsq1 (a0 : Int) : AH := ⟨sB [], 0, 0⟩
noncomputable def V_viewportkitLightPartsq1 (a0 : Int) (r : Bool) : Value := match r with
 | o0 => (bO o0)
noncomputable def R_viewportkitLightPartsq1 (a0 : Int) (r : Bool) : AH := match r with
 | o0 => ⟨sB [], 0, 0⟩
noncomputable abbrev G_viewportkitLightPartsq1 (a0 : Int) (r : Bool) : Prop := Gv P (.func 14) (A_viewportkitLightPartsq1 a0) (H_viewportkitLightPartsq1 a0) (V_viewportkitLightPartsq1 a0 r) (R_viewportkitLightPartsq1 a0 r)
noncomputable abbrev C_viewportkitLightPartsq1 (a0 : Int) (r : Bool) (ins outs : BL) : CallA := ⟨0, ins, V_viewportkitLightPartsq1 a0 r, R_viewportkitLightPartsq1 a0 r, outs⟩
noncomputable def S_viewportkitLightPartsq1_1 (x1_0 : Int) (st : Int × Int) : XSt := match st with
 | (x1_1, x1_2) => (sT 66 [(0, (sW 1 0 (Args.B).length Args.cB)), (1, (i6 x1_0)), (5, (i6 x1_1)), (6, (i6 x1_2))], [], ⟨sB [], 0, 0⟩)
noncomputable def X_viewportkitLightPartsq1_1 (x1_0 : Int) (r : (Unit) ⊕ (Int)) : Ex × XSt := match r with
 | .inl _ => (.ret, (sT 66 [(4, (bO false))], [], ⟨sB [], 0, 0⟩))
 | .inr z1_0 => (.exit 0, (sT 66 [(0, (sW 1 0 (Args.B).length Args.cB)), (1, (i6 x1_0)), (5, (i6 z1_0))], [], ⟨sB [], 0, 0⟩))
noncomputable abbrev Q_viewportkitLightPartsq1_1 (rnd : Option Nat) (x1_0 : Int) (st : Int × Int) (c : Ex × XSt) : Prop := CG P rnd (fnN P 14) 0 (codeOf P 14 [false, false, true, false, true, true]) (S_viewportkitLightPartsq1_1 x1_0 st) c
noncomputable abbrev U_viewportkitLightPartsq1_1 (rd : Option Nat) (x1_0 : Int) (st : Int × Int) (r : (Unit) ⊕ (Int)) : Prop := CG P rd (fnN P 14) 0 (codeOf P 14 [false, true, false, true, true]) (S_viewportkitLightPartsq1_1 x1_0 st) (X_viewportkitLightPartsq1_1 x1_0 r)
def B_viewportkitLightPartsq1_1 (n : Nat) (x1_0 : Int) (st : Int × Int) : Option ((Int × Int) ⊕ ((Unit) ⊕ (Int))) := match st with
 | (x1_1, x1_2) =>
  if x1_2 < (((Args.B).length : Nat) : Int) then
   if x1_2 ≤ x1_0 then
    if 0 ≤ x1_2 ∧ x1_2 < (((Args.B).length : Nat) : Int) then
     ((some ((Args.B).getD (x1_2).toNat (0, 0, 0, 0, 0, 0, nl0, 0)))).bind fun y1_4_ =>
     ((some (w64 (x1_1 + ((((y1_4_.2.2.2.2.2.2.1)).l.length : Nat) : Int))))).bind fun y1_5_ =>
     if (y1_4_.2.2.1) > (1048576 : Int) then
      some (.inr (.inl ()))
     else
      if (y1_4_.2.2.2.2.1) > (1048576 : Int) then
       some (.inr (.inl ()))
      else
       if (y1_4_.2.2.2.2.2.1) > (1048576 : Int) then
        some (.inr (.inl ()))
       else
        if (y1_4_.2.2.1) < (-1048576 : Int) then
         some (.inr (.inl ()))
        else
         if (y1_4_.2.2.2.2.1) < (-1048576 : Int) then
          some (.inr (.inl ()))
         else
          if (y1_4_.2.2.2.2.2.1) < (-1048576 : Int) then
           some (.inr (.inl ()))
          else
           some (.inl (y1_5_, (w64 (x1_2 + (1 : Int)))))
    else none
   else
    some (.inr (.inr x1_1))
  else
   some (.inr (.inr x1_1))
def m_viewportkitLightPartsq1_1 (n : Nat) (x1_0 : Int) (st : Int × Int) : Option ((Unit) ⊕ (Int)) := iterM (B_viewportkitLightPartsq1_1 n x1_0) n st
theorem q_viewportkitLightPartsq1_1_0 (n : Nat) {rnd : Option Nat} (x1_0 x1_1 x1_2 : Int) (hy1_1 : x1_2 < (((Args.B).length : Nat) : Int)) (hy1_2 : x1_2 ≤ x1_0) (hy1_3 : 0 ≤ x1_2 ∧ x1_2 < (((Args.B).length : Nat) : Int)) (y1_4_ : Int × Int × Int × Int × Int × Int × NL × Int) (hy1_4 : (some ((Args.B).getD (x1_2).toNat (0, 0, 0, 0, 0, 0, nl0, 0))) = some y1_4_) (y1_5_ : Int) (hy1_5 : (some (w64 (x1_1 + ((((y1_4_.2.2.2.2.2.2.1)).l.length : Nat) : Int)))) = some y1_5_) (hy1_6 : (y1_4_.2.2.1) > (1048576 : Int)) : Q_viewportkitLightPartsq1_1 rnd x1_0 (x1_1, x1_2) (X_viewportkitLightPartsq1_1 x1_0 (.inl ())) :=
 runC2 hm (L := lT []) ⟨[4], [], 0, 0⟩ (zz 5 (xdT hy1_1) <|
zz 9 (xdT hy1_2) <|
zz 17 (xk4 1 Args.cB hy1_3) <|
zz 18 (lk5 hy1_4 (toNatLt hy1_3)) <|
zz 26 (xnm hy1_5) <|
zz 31 (xdT hy1_6) <|
ee) (by kernel_rfl)
theorem q_viewportkitLightPartsq1_1_1 (n : Nat) {rnd : Option Nat} (x1_0 x1_1 x1_2 : Int) (hy1_1 : x1_2 < (((Args.B).length : Nat) : Int)) (hy1_2 : x1_2 ≤ x1_0) (hy1_3 : 0 ≤ x1_2 ∧ x1_2 < (((Args.B).length : Nat) : Int)) (y1_4_ : Int × Int × Int × Int × Int × Int × NL × Int) (hy1_4 : (some ((Args.B).getD (x1_2).toNat (0, 0, 0, 0, 0, 0, nl0, 0))) = some y1_4_) (y1_5_ : Int) (hy1_5 : (some (w64 (x1_1 + ((((y1_4_.2.2.2.2.2.2.1)).l.length : Nat) : Int)))) = some y1_5_) (hy1_6 : ¬ ((y1_4_.2.2.1) > (1048576 : Int))) (hy1_7 : (y1_4_.2.2.2.2.1) > (1048576 : Int)) : Q_viewportkitLightPartsq1_1 rnd x1_0 (x1_1, x1_2) (X_viewportkitLightPartsq1_1 x1_0 (.inl ())) :=
 runC2 hm (L := lT []) ⟨[4], [], 0, 0⟩ (zz 5 (xdT hy1_1) <|
zz 9 (xdT hy1_2) <|
zz 17 (xk4 1 Args.cB hy1_3) <|
zz 18 (lk5 hy1_4 (toNatLt hy1_3)) <|
zz 26 (xnm hy1_5) <|
zz 31 (xdF hy1_6) <|
zz 35 (xdT hy1_7) <|
ee) (by kernel_rfl)
theorem q_viewportkitLightPartsq1_1_2 (n : Nat) {rnd : Option Nat} (x1_0 x1_1 x1_2 : Int) (hy1_1 : x1_2 < (((Args.B).length : Nat) : Int)) (hy1_2 : x1_2 ≤ x1_0) (hy1_3 : 0 ≤ x1_2 ∧ x1_2 < (((Args.B).length : Nat) : Int)) (y1_4_ : Int × Int × Int × Int × Int × Int × NL × Int) (hy1_4 : (some ((Args.B).getD (x1_2).toNat (0, 0, 0, 0, 0, 0, nl0, 0))) = some y1_4_) (y1_5_ : Int) (hy1_5 : (some (w64 (x1_1 + ((((y1_4_.2.2.2.2.2.2.1)).l.length : Nat) : Int)))) = some y1_5_) (hy1_6 : ¬ ((y1_4_.2.2.1) > (1048576 : Int))) (hy1_7 : ¬ ((y1_4_.2.2.2.2.1) > (1048576 : Int))) (hy1_8 : (y1_4_.2.2.2.2.2.1) > (1048576 : Int)) : Q_viewportkitLightPartsq1_1 rnd x1_0 (x1_1, x1_2) (X_viewportkitLightPartsq1_1 x1_0 (.inl ())) :=
 runC2 hm (L := lT []) ⟨[4], [], 0, 0⟩ (zz 5 (xdT hy1_1) <|
zz 9 (xdT hy1_2) <|
zz 17 (xk4 1 Args.cB hy1_3) <|
zz 18 (lk5 hy1_4 (toNatLt hy1_3)) <|
zz 26 (xnm hy1_5) <|
zz 31 (xdF hy1_6) <|
zz 35 (xdF hy1_7) <|
zz 40 (xdT hy1_8) <|
ee) (by kernel_rfl)
theorem q_viewportkitLightPartsq1_1_3 (n : Nat) {rnd : Option Nat} (x1_0 x1_1 x1_2 : Int) (hy1_1 : x1_2 < (((Args.B).length : Nat) : Int)) (hy1_2 : x1_2 ≤ x1_0) (hy1_3 : 0 ≤ x1_2 ∧ x1_2 < (((Args.B).length : Nat) : Int)) (y1_4_ : Int × Int × Int × Int × Int × Int × NL × Int) (hy1_4 : (some ((Args.B).getD (x1_2).toNat (0, 0, 0, 0, 0, 0, nl0, 0))) = some y1_4_) (y1_5_ : Int) (hy1_5 : (some (w64 (x1_1 + ((((y1_4_.2.2.2.2.2.2.1)).l.length : Nat) : Int)))) = some y1_5_) (hy1_6 : ¬ ((y1_4_.2.2.1) > (1048576 : Int))) (hy1_7 : ¬ ((y1_4_.2.2.2.2.1) > (1048576 : Int))) (hy1_8 : ¬ ((y1_4_.2.2.2.2.2.1) > (1048576 : Int))) (hy1_9 : (y1_4_.2.2.1) < (-1048576 : Int)) : Q_viewportkitLightPartsq1_1 rnd x1_0 (x1_1, x1_2) (X_viewportkitLightPartsq1_1 x1_0 (.inl ())) :=
 runC2 hm (L := lT []) ⟨[4], [], 0, 0⟩ (zz 5 (xdT hy1_1) <|
zz 9 (xdT hy1_2) <|
zz 17 (xk4 1 Args.cB hy1_3) <|
zz 18 (lk5 hy1_4 (toNatLt hy1_3)) <|
zz 26 (xnm hy1_5) <|
zz 31 (xdF hy1_6) <|
zz 35 (xdF hy1_7) <|
zz 40 (xdF hy1_8) <|
zz 45 (xdT hy1_9) <|
ee) (by kernel_rfl)
theorem q_viewportkitLightPartsq1_1_4 (n : Nat) {rnd : Option Nat} (x1_0 x1_1 x1_2 : Int) (hy1_1 : x1_2 < (((Args.B).length : Nat) : Int)) (hy1_2 : x1_2 ≤ x1_0) (hy1_3 : 0 ≤ x1_2 ∧ x1_2 < (((Args.B).length : Nat) : Int)) (y1_4_ : Int × Int × Int × Int × Int × Int × NL × Int) (hy1_4 : (some ((Args.B).getD (x1_2).toNat (0, 0, 0, 0, 0, 0, nl0, 0))) = some y1_4_) (y1_5_ : Int) (hy1_5 : (some (w64 (x1_1 + ((((y1_4_.2.2.2.2.2.2.1)).l.length : Nat) : Int)))) = some y1_5_) (hy1_6 : ¬ ((y1_4_.2.2.1) > (1048576 : Int))) (hy1_7 : ¬ ((y1_4_.2.2.2.2.1) > (1048576 : Int))) (hy1_8 : ¬ ((y1_4_.2.2.2.2.2.1) > (1048576 : Int))) (hy1_9 : ¬ ((y1_4_.2.2.1) < (-1048576 : Int))) (hy1_10 : (y1_4_.2.2.2.2.1) < (-1048576 : Int)) : Q_viewportkitLightPartsq1_1 rnd x1_0 (x1_1, x1_2) (X_viewportkitLightPartsq1_1 x1_0 (.inl ())) :=
 runC2 hm (L := lT []) ⟨[4], [], 0, 0⟩ (zz 5 (xdT hy1_1) <|
zz 9 (xdT hy1_2) <|
zz 17 (xk4 1 Args.cB hy1_3) <|
zz 18 (lk5 hy1_4 (toNatLt hy1_3)) <|
zz 26 (xnm hy1_5) <|
zz 31 (xdF hy1_6) <|
zz 35 (xdF hy1_7) <|
zz 40 (xdF hy1_8) <|
zz 45 (xdF hy1_9) <|
zz 50 (xdT hy1_10) <|
ee) (by kernel_rfl)
theorem q_viewportkitLightPartsq1_1_5 (n : Nat) {rnd : Option Nat} (x1_0 x1_1 x1_2 : Int) (hy1_1 : x1_2 < (((Args.B).length : Nat) : Int)) (hy1_2 : x1_2 ≤ x1_0) (hy1_3 : 0 ≤ x1_2 ∧ x1_2 < (((Args.B).length : Nat) : Int)) (y1_4_ : Int × Int × Int × Int × Int × Int × NL × Int) (hy1_4 : (some ((Args.B).getD (x1_2).toNat (0, 0, 0, 0, 0, 0, nl0, 0))) = some y1_4_) (y1_5_ : Int) (hy1_5 : (some (w64 (x1_1 + ((((y1_4_.2.2.2.2.2.2.1)).l.length : Nat) : Int)))) = some y1_5_) (hy1_6 : ¬ ((y1_4_.2.2.1) > (1048576 : Int))) (hy1_7 : ¬ ((y1_4_.2.2.2.2.1) > (1048576 : Int))) (hy1_8 : ¬ ((y1_4_.2.2.2.2.2.1) > (1048576 : Int))) (hy1_9 : ¬ ((y1_4_.2.2.1) < (-1048576 : Int))) (hy1_10 : ¬ ((y1_4_.2.2.2.2.1) < (-1048576 : Int))) (hy1_11 : (y1_4_.2.2.2.2.2.1) < (-1048576 : Int)) : Q_viewportkitLightPartsq1_1 rnd x1_0 (x1_1, x1_2) (X_viewportkitLightPartsq1_1 x1_0 (.inl ())) :=
 runC2 hm (L := lT []) ⟨[4], [], 0, 0⟩ (zz 5 (xdT hy1_1) <|
zz 9 (xdT hy1_2) <|
zz 17 (xk4 1 Args.cB hy1_3) <|
zz 18 (lk5 hy1_4 (toNatLt hy1_3)) <|
zz 26 (xnm hy1_5) <|
zz 31 (xdF hy1_6) <|
zz 35 (xdF hy1_7) <|
zz 40 (xdF hy1_8) <|
zz 45 (xdF hy1_9) <|
zz 50 (xdF hy1_10) <|
zz 55 (xdT hy1_11) <|
ee) (by kernel_rfl)
theorem q_viewportkitLightPartsq1_1_6 (n : Nat) {rnd : Option Nat} (x1_0 x1_1 x1_2 : Int) (hy1_1 : x1_2 < (((Args.B).length : Nat) : Int)) (hy1_2 : x1_2 ≤ x1_0) (hy1_3 : 0 ≤ x1_2 ∧ x1_2 < (((Args.B).length : Nat) : Int)) (y1_4_ : Int × Int × Int × Int × Int × Int × NL × Int) (hy1_4 : (some ((Args.B).getD (x1_2).toNat (0, 0, 0, 0, 0, 0, nl0, 0))) = some y1_4_) (y1_5_ : Int) (hy1_5 : (some (w64 (x1_1 + ((((y1_4_.2.2.2.2.2.2.1)).l.length : Nat) : Int)))) = some y1_5_) (hy1_6 : ¬ ((y1_4_.2.2.1) > (1048576 : Int))) (hy1_7 : ¬ ((y1_4_.2.2.2.2.1) > (1048576 : Int))) (hy1_8 : ¬ ((y1_4_.2.2.2.2.2.1) > (1048576 : Int))) (hy1_9 : ¬ ((y1_4_.2.2.1) < (-1048576 : Int))) (hy1_10 : ¬ ((y1_4_.2.2.2.2.1) < (-1048576 : Int))) (hy1_11 : ¬ ((y1_4_.2.2.2.2.2.1) < (-1048576 : Int))) : Q_viewportkitLightPartsq1_1 rnd x1_0 (x1_1, x1_2) (.normal, S_viewportkitLightPartsq1_1 x1_0 (y1_5_, (w64 (x1_2 + (1 : Int))))) :=
 runC2 hm (L := lT []) ⟨[0, 1, 5, 6], [], 0, 0⟩ (zz 5 (xdT hy1_1) <|
zz 9 (xdT hy1_2) <|
zz 17 (xk4 1 Args.cB hy1_3) <|
zz 18 (lk5 hy1_4 (toNatLt hy1_3)) <|
zz 26 (xnm hy1_5) <|
zz 31 (xdF hy1_6) <|
zz 35 (xdF hy1_7) <|
zz 40 (xdF hy1_8) <|
zz 45 (xdF hy1_9) <|
zz 50 (xdF hy1_10) <|
zz 55 (xdF hy1_11) <|
ee) (by kernel_rfl)
theorem q_viewportkitLightPartsq1_1_7 (n : Nat) {rnd : Option Nat} (x1_0 x1_1 x1_2 : Int) (hy1_1 : x1_2 < (((Args.B).length : Nat) : Int)) (hy1_2 : ¬ (x1_2 ≤ x1_0)) : Q_viewportkitLightPartsq1_1 rnd x1_0 (x1_1, x1_2) (X_viewportkitLightPartsq1_1 x1_0 (.inr x1_1)) :=
 runC2 hm (L := lT []) ⟨[0, 1, 5], [], 0, 0⟩ (zz 5 (xdT hy1_1) <|
zz 9 (xdF hy1_2) <|
ee) (by kernel_rfl)
theorem q_viewportkitLightPartsq1_1_8 (n : Nat) {rnd : Option Nat} (x1_0 x1_1 x1_2 : Int) (hy1_1 : ¬ (x1_2 < (((Args.B).length : Nat) : Int))) : Q_viewportkitLightPartsq1_1 rnd x1_0 (x1_1, x1_2) (X_viewportkitLightPartsq1_1 x1_0 (.inr x1_1)) :=
 runC2 hm (L := lT []) ⟨[0, 1, 5], [], 0, 0⟩ (zz 5 (xdF hy1_1) <|
ee) (by kernel_rfl)
theorem m_viewportkitLightPartsq1_1_ok (n : Nat) {rnd : Option Nat} (x1_0 : Int) (st : Int × Int) (r : (Unit) ⊕ (Int)) (h : m_viewportkitLightPartsq1_1 n x1_0 st = some r) : CG P rnd (fnN P 14) 0 (codeOf P 14 [false, true, false, true, true]) (S_viewportkitLightPartsq1_1 x1_0 st) (X_viewportkitLightPartsq1_1 x1_0 r) :=
 CG.iter (b := codeOf P 14 [false, false, true, false, true, true]) (by kernel_rfl) (body := B_viewportkitLightPartsq1_1 n x1_0) (S := S_viewportkitLightPartsq1_1 x1_0) (X := X_viewportkitLightPartsq1_1 x1_0)
  (fun s s' h => by
  obtain ⟨x1_1, x1_2⟩ := s
  unfold B_viewportkitLightPartsq1_1 at h
  dsimp only at h
  by_cases hy1_1 : x1_2 < (((Args.B).length : Nat) : Int)
  ·rw [if_pos hy1_1] at h
   by_cases hy1_2 : x1_2 ≤ x1_0
   ·rw [if_pos hy1_2] at h
    by_cases hy1_3 : 0 ≤ x1_2 ∧ x1_2 < (((Args.B).length : Nat) : Int)
    ·rw [if_pos hy1_3] at h
     obtain ⟨y1_4_, hy1_4, h⟩ := Option.bind_eq_some_iff.1 h
     obtain ⟨y1_5_, hy1_5, h⟩ := Option.bind_eq_some_iff.1 h
     by_cases hy1_6 : (y1_4_.2.2.1) > (1048576 : Int)
     ·rw [if_pos hy1_6] at h
      cases h
     ·rw [if_neg hy1_6] at h
      by_cases hy1_7 : (y1_4_.2.2.2.2.1) > (1048576 : Int)
      ·rw [if_pos hy1_7] at h
       cases h
      ·rw [if_neg hy1_7] at h
       by_cases hy1_8 : (y1_4_.2.2.2.2.2.1) > (1048576 : Int)
       ·rw [if_pos hy1_8] at h
        cases h
       ·rw [if_neg hy1_8] at h
        by_cases hy1_9 : (y1_4_.2.2.1) < (-1048576 : Int)
        ·rw [if_pos hy1_9] at h
         cases h
        ·rw [if_neg hy1_9] at h
         by_cases hy1_10 : (y1_4_.2.2.2.2.1) < (-1048576 : Int)
         ·rw [if_pos hy1_10] at h
          cases h
         ·rw [if_neg hy1_10] at h
          by_cases hy1_11 : (y1_4_.2.2.2.2.2.1) < (-1048576 : Int)
          ·rw [if_pos hy1_11] at h
           cases h
          ·rw [if_neg hy1_11] at h
           obtain rfl := Sum.inl.inj (Option.some.inj h); exact q_viewportkitLightPartsq1_1_6 n x1_0 x1_1 x1_2 hy1_1 hy1_2 hy1_3 y1_4_ hy1_4 y1_5_ hy1_5 hy1_6 hy1_7 hy1_8 hy1_9 hy1_10 hy1_11
    ·rw [if_neg hy1_3] at h; cases h
   ·rw [if_neg hy1_2] at h
    cases h
  ·rw [if_neg hy1_1] at h
   cases h)
  (fun s r h => by
  obtain ⟨x1_1, x1_2⟩ := s
  unfold B_viewportkitLightPartsq1_1 at h
  dsimp only at h
  by_cases hy1_1 : x1_2 < (((Args.B).length : Nat) : Int)
  ·rw [if_pos hy1_1] at h
   by_cases hy1_2 : x1_2 ≤ x1_0
   ·rw [if_pos hy1_2] at h
    by_cases hy1_3 : 0 ≤ x1_2 ∧ x1_2 < (((Args.B).length : Nat) : Int)
    ·rw [if_pos hy1_3] at h
     obtain ⟨y1_4_, hy1_4, h⟩ := Option.bind_eq_some_iff.1 h
     obtain ⟨y1_5_, hy1_5, h⟩ := Option.bind_eq_some_iff.1 h
     by_cases hy1_6 : (y1_4_.2.2.1) > (1048576 : Int)
     ·rw [if_pos hy1_6] at h
      obtain rfl := Sum.inr.inj (Option.some.inj h); exact q_viewportkitLightPartsq1_1_0 n x1_0 x1_1 x1_2 hy1_1 hy1_2 hy1_3 y1_4_ hy1_4 y1_5_ hy1_5 hy1_6
     ·rw [if_neg hy1_6] at h
      by_cases hy1_7 : (y1_4_.2.2.2.2.1) > (1048576 : Int)
      ·rw [if_pos hy1_7] at h
       obtain rfl := Sum.inr.inj (Option.some.inj h); exact q_viewportkitLightPartsq1_1_1 n x1_0 x1_1 x1_2 hy1_1 hy1_2 hy1_3 y1_4_ hy1_4 y1_5_ hy1_5 hy1_6 hy1_7
      ·rw [if_neg hy1_7] at h
       by_cases hy1_8 : (y1_4_.2.2.2.2.2.1) > (1048576 : Int)
       ·rw [if_pos hy1_8] at h
        obtain rfl := Sum.inr.inj (Option.some.inj h); exact q_viewportkitLightPartsq1_1_2 n x1_0 x1_1 x1_2 hy1_1 hy1_2 hy1_3 y1_4_ hy1_4 y1_5_ hy1_5 hy1_6 hy1_7 hy1_8
       ·rw [if_neg hy1_8] at h
        by_cases hy1_9 : (y1_4_.2.2.1) < (-1048576 : Int)
        ·rw [if_pos hy1_9] at h
         obtain rfl := Sum.inr.inj (Option.some.inj h); exact q_viewportkitLightPartsq1_1_3 n x1_0 x1_1 x1_2 hy1_1 hy1_2 hy1_3 y1_4_ hy1_4 y1_5_ hy1_5 hy1_6 hy1_7 hy1_8 hy1_9
        ·rw [if_neg hy1_9] at h
         by_cases hy1_10 : (y1_4_.2.2.2.2.1) < (-1048576 : Int)
         ·rw [if_pos hy1_10] at h
          obtain rfl := Sum.inr.inj (Option.some.inj h); exact q_viewportkitLightPartsq1_1_4 n x1_0 x1_1 x1_2 hy1_1 hy1_2 hy1_3 y1_4_ hy1_4 y1_5_ hy1_5 hy1_6 hy1_7 hy1_8 hy1_9 hy1_10
         ·rw [if_neg hy1_10] at h
          by_cases hy1_11 : (y1_4_.2.2.2.2.2.1) < (-1048576 : Int)
          ·rw [if_pos hy1_11] at h
           obtain rfl := Sum.inr.inj (Option.some.inj h); exact q_viewportkitLightPartsq1_1_5 n x1_0 x1_1 x1_2 hy1_1 hy1_2 hy1_3 y1_4_ hy1_4 y1_5_ hy1_5 hy1_6 hy1_7 hy1_8 hy1_9 hy1_10 hy1_11
          ·rw [if_neg hy1_11] at h
           cases h
    ·rw [if_neg hy1_3] at h; cases h
   ·rw [if_neg hy1_2] at h
    obtain rfl := Sum.inr.inj (Option.some.inj h); exact q_viewportkitLightPartsq1_1_7 n x1_0 x1_1 x1_2 hy1_1 hy1_2
  ·rw [if_neg hy1_1] at h
   obtain rfl := Sum.inr.inj (Option.some.inj h); exact q_viewportkitLightPartsq1_1_8 n x1_0 x1_1 x1_2 hy1_1)
  (fun r => by intro hx; rcases r with _ | _ <;> cases hx) h
def m_viewportkitLightPartsq1 (n : Nat) (a0 : Int) : Option (Bool) :=
 match m_viewportkitLightPartsq1_1 n a0 (0, 0) with
 | none => none
 | some (.inl _) =>
  some false
 | some (.inr c1_) =>
  if (((Args.B).length : Nat) : Int) ≤ a0 then
   if c1_ ≤ (w64 ((2 : Int) * a0)) then
    some true
   else
    some false
  else
   some false
theorem p_viewportkitLightPartsq1_0 (n : Nat) (a0 : Int) (hc1 : m_viewportkitLightPartsq1_1 n a0 (0, 0) = some (.inl ())) : G_viewportkitLightPartsq1 a0 false :=
 runF2 hm (L := lT [(8, ⟨⟨[0, 1, 5, 6], [], 0, 0⟩, (X_viewportkitLightPartsq1_1 a0 (.inl ())).1, (X_viewportkitLightPartsq1_1 a0 (.inl ())).2⟩)]) ⟨[4], [], 0, 0⟩ (ww (p := U_viewportkitLightPartsq1_1 none a0 (0, 0) (.inl ())) (m_viewportkitLightPartsq1_1_ok n a0 (0, 0) (.inl ()) hc1) <|
ee) (by kernel_rfl)
theorem p_viewportkitLightPartsq1_1 (n : Nat) (a0 c1_ : Int) (hc1 : m_viewportkitLightPartsq1_1 n a0 (0, 0) = some (.inr c1_)) (hc2 : (((Args.B).length : Nat) : Int) ≤ a0) (hc3 : c1_ ≤ (w64 ((2 : Int) * a0))) : G_viewportkitLightPartsq1 a0 true :=
 runF2 hm (L := lT [(8, ⟨⟨[0, 1, 5, 6], [], 0, 0⟩, (X_viewportkitLightPartsq1_1 a0 (.inr c1_)).1, (X_viewportkitLightPartsq1_1 a0 (.inr c1_)).2⟩)]) ⟨[4], [], 0, 0⟩ (ww (p := U_viewportkitLightPartsq1_1 none a0 (0, 0) (.inr c1_)) (m_viewportkitLightPartsq1_1_ok n a0 (0, 0) (.inr c1_) hc1) <|
zz 13 (xdT hc2) <|
zz 18 (xdT hc3) <|
ee) (by kernel_rfl)
theorem p_viewportkitLightPartsq1_2 (n : Nat) (a0 c1_ : Int) (hc1 : m_viewportkitLightPartsq1_1 n a0 (0, 0) = some (.inr c1_)) (hc2 : (((Args.B).length : Nat) : Int) ≤ a0) (hc3 : ¬ (c1_ ≤ (w64 ((2 : Int) * a0)))) : G_viewportkitLightPartsq1 a0 false :=
 runF2 hm (L := lT [(8, ⟨⟨[0, 1, 5, 6], [], 0, 0⟩, (X_viewportkitLightPartsq1_1 a0 (.inr c1_)).1, (X_viewportkitLightPartsq1_1 a0 (.inr c1_)).2⟩)]) ⟨[4], [], 0, 0⟩ (ww (p := U_viewportkitLightPartsq1_1 none a0 (0, 0) (.inr c1_)) (m_viewportkitLightPartsq1_1_ok n a0 (0, 0) (.inr c1_) hc1) <|
zz 13 (xdT hc2) <|
zz 18 (xdF hc3) <|
ee) (by kernel_rfl)
theorem p_viewportkitLightPartsq1_3 (n : Nat) (a0 c1_ : Int) (hc1 : m_viewportkitLightPartsq1_1 n a0 (0, 0) = some (.inr c1_)) (hc2 : ¬ ((((Args.B).length : Nat) : Int) ≤ a0)) : G_viewportkitLightPartsq1 a0 false :=
 runF2 hm (L := lT [(8, ⟨⟨[0, 1, 5, 6], [], 0, 0⟩, (X_viewportkitLightPartsq1_1 a0 (.inr c1_)).1, (X_viewportkitLightPartsq1_1 a0 (.inr c1_)).2⟩)]) ⟨[4], [], 0, 0⟩ (ww (p := U_viewportkitLightPartsq1_1 none a0 (0, 0) (.inr c1_)) (m_viewportkitLightPartsq1_1_ok n a0 (0, 0) (.inr c1_) hc1) <|
zz 13 (xdF hc2) <|
ee) (by kernel_rfl)
theorem m_viewportkitLightPartsq1_ok (n : Nat) (a0 : Int) (r : Bool) (h : m_viewportkitLightPartsq1 n a0 = some r) : Gv P (.func 14) (A_viewportkitLightPartsq1 a0) (H_viewportkitLightPartsq1 a0) (V_viewportkitLightPartsq1 a0 r) (R_viewportkitLightPartsq1 a0 r) := by
 unfold m_viewportkitLightPartsq1 at h
 rcases hc1 : m_viewportkitLightPartsq1_1 n a0 (0, 0) with _ | (⟨⟩ | c1_)
 ·rw [hc1] at h; cases h
 ·rw [hc1] at h
  dsimp only at h
  obtain rfl := Option.some.inj h; exact p_viewportkitLightPartsq1_0 n a0 hc1
 ·rw [hc1] at h
  dsimp only at h
  by_cases hc2 : (((Args.B).length : Nat) : Int) ≤ a0
  ·rw [if_pos hc2] at h
   by_cases hc3 : c1_ ≤ (w64 ((2 : Int) * a0))
   ·rw [if_pos hc3] at h
    obtain rfl := Option.some.inj h; exact p_viewportkitLightPartsq1_1 n a0 c1_ hc1 hc2 hc3
   ·rw [if_neg hc3] at h
    obtain rfl := Option.some.inj h; exact p_viewportkitLightPartsq1_2 n a0 c1_ hc1 hc2 hc3
  ·rw [if_neg hc2] at h
   obtain rfl := Option.some.inj h; exact p_viewportkitLightPartsq1_3 n a0 c1_ hc1 hc2

noncomputable def A_viewportlaw26lightq1 : List Value := [(sW 0 0 (Args.A).length Args.cA), (Value.slice none 0 0), (sW 1 0 (Args.B).length Args.cB)]
noncomputable def H_viewportlaw26lightq1 : AH := ⟨sB [], 0, 0⟩
noncomputable def V_viewportlaw26lightq1 (r : Bool) : Value := match r with
 | o0 => (bO o0)
noncomputable def R_viewportlaw26lightq1 (r : Bool) : AH := match r with
 | o0 => ⟨sB [], 0, 0⟩
noncomputable abbrev G_viewportlaw26lightq1 (r : Bool) : Prop := Gv P (.func 6) A_viewportlaw26lightq1 H_viewportlaw26lightq1 (V_viewportlaw26lightq1  r) (R_viewportlaw26lightq1  r)
noncomputable abbrev C_viewportlaw26lightq1 (r : Bool) (ins outs : BL) : CallA := ⟨0, ins, V_viewportlaw26lightq1  r, R_viewportlaw26lightq1  r, outs⟩
def m_viewportlaw26lightq1 (n : Nat) : Option (Bool) :=
 (m_viewportkitLightStylesq1 n).bind fun c1_ =>
 if c1_ = true then
  (m_viewportkitLightPartsq1 n 100).bind fun c3_ =>
  some c3_
 else
  some false
theorem p_viewportlaw26lightq1_0 (n : Nat) (c1_ : Bool) (hc1 : m_viewportkitLightStylesq1 n = some c1_) (hc2 : c1_ = true) (c3_ : Bool) (hc3 : m_viewportkitLightPartsq1 n 100 = some c3_) : G_viewportlaw26lightq1  c3_ :=
 runF2 hm (L := lT []) ⟨[6], [], 0, 0⟩ (yy 4 (.call (C_viewportkitLightStylesq1  c1_ [] [])) <|
ww (m_viewportkitLightStylesq1_ok n  c1_ hc1) <|
zz 5 (xbT hc2) <|
yy 12 (.call (C_viewportkitLightPartsq1 100 c3_ [] [])) <|
ww (m_viewportkitLightPartsq1_ok n 100 c3_ hc3) <|
ee) (by kernel_rfl)
theorem p_viewportlaw26lightq1_1 (n : Nat) (c1_ : Bool) (hc1 : m_viewportkitLightStylesq1 n = some c1_) (hc2 : ¬ (c1_ = true)) : G_viewportlaw26lightq1  false :=
 runF2 hm (L := lT []) ⟨[6], [], 0, 0⟩ (yy 4 (.call (C_viewportkitLightStylesq1  c1_ [] [])) <|
ww (m_viewportkitLightStylesq1_ok n  c1_ hc1) <|
zz 5 (xbF hc2) <|
ee) (by kernel_rfl)
theorem m_viewportlaw26lightq1_ok (n : Nat) (r : Bool) (h : m_viewportlaw26lightq1 n = some r) : Gv P (.func 6) A_viewportlaw26lightq1 H_viewportlaw26lightq1 (V_viewportlaw26lightq1  r) (R_viewportlaw26lightq1  r) := by
 unfold m_viewportlaw26lightq1 at h
 obtain ⟨c1_, hc1, h⟩ := Option.bind_eq_some_iff.1 h
 by_cases hc2 : c1_ = true
 ·rw [if_pos hc2] at h
  obtain ⟨c3_, hc3, h⟩ := Option.bind_eq_some_iff.1 h
  obtain rfl := Option.some.inj h; exact p_viewportlaw26lightq1_0 n c1_ hc1 hc2 c3_ hc3
 ·rw [if_neg hc2] at h
  obtain rfl := Option.some.inj h; exact p_viewportlaw26lightq1_1 n c1_ hc1 hc2

noncomputable def A_viewportref16leafq1 (a0 : Int) : List Value := [(i6 a0)]
noncomputable def H_viewportref16leafq1 (a0 : Int) : AH := ⟨sB [], 0, 0⟩
noncomputable def V_viewportref16leafq1 (a0 : Int) (r : Bool) : Value := match r with
 | o0 => (bO o0)
noncomputable def R_viewportref16leafq1 (a0 : Int) (r : Bool) : AH := match r with
 | o0 => ⟨sB [], 0, 0⟩
noncomputable abbrev G_viewportref16leafq1 (a0 : Int) (r : Bool) : Prop := Gv P (.func 24) (A_viewportref16leafq1 a0) (H_viewportref16leafq1 a0) (V_viewportref16leafq1 a0 r) (R_viewportref16leafq1 a0 r)
noncomputable abbrev C_viewportref16leafq1 (a0 : Int) (r : Bool) (ins outs : BL) : CallA := ⟨0, ins, V_viewportref16leafq1 a0 r, R_viewportref16leafq1 a0 r, outs⟩
def m_viewportref16leafq1 (n : Nat) (a0 : Int) : Option (Bool) :=
 if a0 = (1 : Int) then
  some false
 else
  if a0 = (2 : Int) then
   some false
  else
   some true
theorem p_viewportref16leafq1_0 (n : Nat) (a0 : Int) (hc1 : a0 = (1 : Int)) : G_viewportref16leafq1 a0 false :=
 runF2 hm (L := lT []) ⟨[2], [], 0, 0⟩ (zz 4 (xnF hc1) <|
ee) (by kernel_rfl)
theorem p_viewportref16leafq1_1 (n : Nat) (a0 : Int) (hc1 : ¬ (a0 = (1 : Int))) (hc2 : a0 = (2 : Int)) : G_viewportref16leafq1 a0 false :=
 runF2 hm (L := lT []) ⟨[2], [], 0, 0⟩ (zz 4 (xnT hc1) <|
zz 7 (xnF hc2) <|
ee) (by kernel_rfl)
theorem p_viewportref16leafq1_2 (n : Nat) (a0 : Int) (hc1 : ¬ (a0 = (1 : Int))) (hc2 : ¬ (a0 = (2 : Int))) : G_viewportref16leafq1 a0 true :=
 runF2 hm (L := lT []) ⟨[2], [], 0, 0⟩ (zz 4 (xnT hc1) <|
zz 7 (xnT hc2) <|
ee) (by kernel_rfl)
theorem m_viewportref16leafq1_ok (n : Nat) (a0 : Int) (r : Bool) (h : m_viewportref16leafq1 n a0 = some r) : Gv P (.func 24) (A_viewportref16leafq1 a0) (H_viewportref16leafq1 a0) (V_viewportref16leafq1 a0 r) (R_viewportref16leafq1 a0 r) := by
 unfold m_viewportref16leafq1 at h
 by_cases hc1 : a0 = (1 : Int)
 ·rw [if_pos hc1] at h
  obtain rfl := Option.some.inj h; exact p_viewportref16leafq1_0 n a0 hc1
 ·rw [if_neg hc1] at h
  by_cases hc2 : a0 = (2 : Int)
  ·rw [if_pos hc2] at h
   obtain rfl := Option.some.inj h; exact p_viewportref16leafq1_1 n a0 hc1 hc2
  ·rw [if_neg hc2] at h
   obtain rfl := Option.some.inj h; exact p_viewportref16leafq1_2 n a0 hc1 hc2

noncomputable def A_viewportref16bareq1 (a0 : Int) (a1 : Int) (a2 : Int) (a3 : Int) (a4 : Int) (a5 : Int) (a6 : NL) (a7 : Int) : List Value := [(Value.agg #[(i6 a0), (i6 a1), (i6 a2), (i6 a3), (i6 a4), (i6 a5), (nlV a6), (Value.int .u64 a7)])]
noncomputable def H_viewportref16bareq1 (a0 : Int) (a1 : Int) (a2 : Int) (a3 : Int) (a4 : Int) (a5 : Int) (a6 : NL) (a7 : Int) : AH := ⟨sB [], 0, 0⟩
noncomputable def V_viewportref16bareq1 (a0 : Int) (a1 : Int) (a2 : Int) (a3 : Int) (a4 : Int) (a5 : Int) (a6 : NL) (a7 : Int) (r : Bool) : Value := match r with
 | o0 => (bO o0)
noncomputable def R_viewportref16bareq1 (a0 : Int) (a1 : Int) (a2 : Int) (a3 : Int) (a4 : Int) (a5 : Int) (a6 : NL) (a7 : Int) (r : Bool) : AH := match r with
 | o0 => ⟨sB [], 0, 0⟩
noncomputable abbrev G_viewportref16bareq1 (a0 : Int) (a1 : Int) (a2 : Int) (a3 : Int) (a4 : Int) (a5 : Int) (a6 : NL) (a7 : Int) (r : Bool) : Prop := Gv P (.func 15) (A_viewportref16bareq1 a0 a1 a2 a3 a4 a5 a6 a7) (H_viewportref16bareq1 a0 a1 a2 a3 a4 a5 a6 a7) (V_viewportref16bareq1 a0 a1 a2 a3 a4 a5 a6 a7 r) (R_viewportref16bareq1 a0 a1 a2 a3 a4 a5 a6 a7 r)
noncomputable abbrev C_viewportref16bareq1 (a0 : Int) (a1 : Int) (a2 : Int) (a3 : Int) (a4 : Int) (a5 : Int) (a6 : NL) (a7 : Int) (r : Bool) (ins outs : BL) : CallA := ⟨0, ins, V_viewportref16bareq1 a0 a1 a2 a3 a4 a5 a6 a7 r, R_viewportref16bareq1 a0 a1 a2 a3 a4 a5 a6 a7 r, outs⟩
def m_viewportref16bareq1 (n : Nat) (a0 : Int) (a1 : Int) (a2 : Int) (a3 : Int) (a4 : Int) (a5 : Int) (a6 : NL) (a7 : Int) : Option (Bool) :=
 if a1 < (1 : Int) then
  some false
 else
  if a1 > (6 : Int) then
   some false
  else
   if a2 < (0 : Int) then
    some false
   else
    if a2 > a4 then
     some false
    else
     if a5 ≤ a2 then
      some false
     else
      if a1 = (3 : Int) then
       if a3 < a2 then
        some false
       else
        if a3 > a4 then
         some false
        else
         if a1 = (4 : Int) then
          if a2 = a4 then
           (m_viewportref16leafq1 n a1).bind fun c11_ =>
           if c11_ = true then
            if (((a6).l.length : Nat) : Int) = (0 : Int) then
             some true
            else
             some false
           else
            some true
          else
           some false
         else
          (m_viewportref16leafq1 n a1).bind fun c10_ =>
          if c10_ = true then
           if (((a6).l.length : Nat) : Int) = (0 : Int) then
            some true
           else
            some false
          else
           some true
      else
       if a1 = (5 : Int) then
        if a3 < a2 then
         some false
        else
         if a3 > a4 then
          some false
         else
          if a1 = (4 : Int) then
           if a2 = a4 then
            (m_viewportref16leafq1 n a1).bind fun c12_ =>
            if c12_ = true then
             if (((a6).l.length : Nat) : Int) = (0 : Int) then
              some true
             else
              some false
            else
             some true
           else
            some false
          else
           (m_viewportref16leafq1 n a1).bind fun c11_ =>
           if c11_ = true then
            if (((a6).l.length : Nat) : Int) = (0 : Int) then
             some true
            else
             some false
           else
            some true
       else
        if a1 = (6 : Int) then
         if a3 < a2 then
          some false
         else
          if a3 > a4 then
           some false
          else
           if a1 = (4 : Int) then
            if a2 = a4 then
             (m_viewportref16leafq1 n a1).bind fun c13_ =>
             if c13_ = true then
              if (((a6).l.length : Nat) : Int) = (0 : Int) then
               some true
              else
               some false
             else
              some true
            else
             some false
           else
            (m_viewportref16leafq1 n a1).bind fun c12_ =>
            if c12_ = true then
             if (((a6).l.length : Nat) : Int) = (0 : Int) then
              some true
             else
              some false
            else
             some true
        else
         if a3 = a2 then
          if a1 = (4 : Int) then
           if a2 = a4 then
            (m_viewportref16leafq1 n a1).bind fun c12_ =>
            if c12_ = true then
             if (((a6).l.length : Nat) : Int) = (0 : Int) then
              some true
             else
              some false
            else
             some true
           else
            some false
          else
           (m_viewportref16leafq1 n a1).bind fun c11_ =>
           if c11_ = true then
            if (((a6).l.length : Nat) : Int) = (0 : Int) then
             some true
            else
             some false
           else
            some true
         else
          some false
theorem p_viewportref16bareq1_0 (n : Nat) (a0 a1 a2 a3 a4 a5 : Int) (a6 : NL) (a7 : Int) (hc1 : a1 < (1 : Int)) : G_viewportref16bareq1 a0 a1 a2 a3 a4 a5 a6 a7 false :=
 runF2 hm (L := lT []) ⟨[2], [], 0, 0⟩ (zz 7 (xdT hc1) <|
ee) (by kernel_rfl)
theorem p_viewportref16bareq1_1 (n : Nat) (a0 a1 a2 a3 a4 a5 : Int) (a6 : NL) (a7 : Int) (hc1 : ¬ (a1 < (1 : Int))) (hc2 : a1 > (6 : Int)) : G_viewportref16bareq1 a0 a1 a2 a3 a4 a5 a6 a7 false :=
 runF2 hm (L := lT []) ⟨[2], [], 0, 0⟩ (zz 7 (xdF hc1) <|
zz 11 (xdT hc2) <|
ee) (by kernel_rfl)
theorem p_viewportref16bareq1_2 (n : Nat) (a0 a1 a2 a3 a4 a5 : Int) (a6 : NL) (a7 : Int) (hc1 : ¬ (a1 < (1 : Int))) (hc2 : ¬ (a1 > (6 : Int))) (hc3 : a2 < (0 : Int)) : G_viewportref16bareq1 a0 a1 a2 a3 a4 a5 a6 a7 false :=
 runF2 hm (L := lT []) ⟨[2], [], 0, 0⟩ (zz 7 (xdF hc1) <|
zz 11 (xdF hc2) <|
zz 16 (xdT hc3) <|
ee) (by kernel_rfl)
theorem p_viewportref16bareq1_3 (n : Nat) (a0 a1 a2 a3 a4 a5 : Int) (a6 : NL) (a7 : Int) (hc1 : ¬ (a1 < (1 : Int))) (hc2 : ¬ (a1 > (6 : Int))) (hc3 : ¬ (a2 < (0 : Int))) (hc4 : a2 > a4) : G_viewportref16bareq1 a0 a1 a2 a3 a4 a5 a6 a7 false :=
 runF2 hm (L := lT []) ⟨[2], [], 0, 0⟩ (zz 7 (xdF hc1) <|
zz 11 (xdF hc2) <|
zz 16 (xdF hc3) <|
zz 23 (xdT hc4) <|
ee) (by kernel_rfl)
theorem p_viewportref16bareq1_4 (n : Nat) (a0 a1 a2 a3 a4 a5 : Int) (a6 : NL) (a7 : Int) (hc1 : ¬ (a1 < (1 : Int))) (hc2 : ¬ (a1 > (6 : Int))) (hc3 : ¬ (a2 < (0 : Int))) (hc4 : ¬ (a2 > a4)) (hc5 : a5 ≤ a2) : G_viewportref16bareq1 a0 a1 a2 a3 a4 a5 a6 a7 false :=
 runF2 hm (L := lT []) ⟨[2], [], 0, 0⟩ (zz 7 (xdF hc1) <|
zz 11 (xdF hc2) <|
zz 16 (xdF hc3) <|
zz 23 (xdF hc4) <|
zz 30 (xdT hc5) <|
ee) (by kernel_rfl)
theorem p_viewportref16bareq1_5 (n : Nat) (a0 a1 a2 a3 a4 a5 : Int) (a6 : NL) (a7 : Int) (hc1 : ¬ (a1 < (1 : Int))) (hc2 : ¬ (a1 > (6 : Int))) (hc3 : ¬ (a2 < (0 : Int))) (hc4 : ¬ (a2 > a4)) (hc5 : ¬ (a5 ≤ a2)) (hc6 : a1 = (3 : Int)) (hc7 : a3 < a2) : G_viewportref16bareq1 a0 a1 a2 a3 a4 a5 a6 a7 false :=
 runF2 hm (L := lT []) ⟨[2], [], 0, 0⟩ (zz 7 (xdF hc1) <|
zz 11 (xdF hc2) <|
zz 16 (xdF hc3) <|
zz 23 (xdF hc4) <|
zz 30 (xdF hc5) <|
zz 36 (xeT hc6) <|
zz 56 (xdT hc7) <|
ee) (by kernel_rfl)
theorem p_viewportref16bareq1_6 (n : Nat) (a0 a1 a2 a3 a4 a5 : Int) (a6 : NL) (a7 : Int) (hc1 : ¬ (a1 < (1 : Int))) (hc2 : ¬ (a1 > (6 : Int))) (hc3 : ¬ (a2 < (0 : Int))) (hc4 : ¬ (a2 > a4)) (hc5 : ¬ (a5 ≤ a2)) (hc6 : a1 = (3 : Int)) (hc7 : ¬ (a3 < a2)) (hc8 : a3 > a4) : G_viewportref16bareq1 a0 a1 a2 a3 a4 a5 a6 a7 false :=
 runF2 hm (L := lT []) ⟨[2], [], 0, 0⟩ (zz 7 (xdF hc1) <|
zz 11 (xdF hc2) <|
zz 16 (xdF hc3) <|
zz 23 (xdF hc4) <|
zz 30 (xdF hc5) <|
zz 36 (xeT hc6) <|
zz 56 (xdF hc7) <|
zz 62 (xdT hc8) <|
ee) (by kernel_rfl)
theorem p_viewportref16bareq1_7 (n : Nat) (a0 a1 a2 a3 a4 a5 : Int) (a6 : NL) (a7 : Int) (hc1 : ¬ (a1 < (1 : Int))) (hc2 : ¬ (a1 > (6 : Int))) (hc3 : ¬ (a2 < (0 : Int))) (hc4 : ¬ (a2 > a4)) (hc5 : ¬ (a5 ≤ a2)) (hc6 : a1 = (3 : Int)) (hc7 : ¬ (a3 < a2)) (hc8 : ¬ (a3 > a4)) (hc9 : a1 = (4 : Int)) (hc10 : a2 = a4) (c11_ : Bool) (hc11 : m_viewportref16leafq1 n a1 = some c11_) (hc12 : c11_ = true) (hc13 : (((a6).l.length : Nat) : Int) = (0 : Int)) : G_viewportref16bareq1 a0 a1 a2 a3 a4 a5 a6 a7 true :=
 runF2 hm (L := lT []) ⟨[2], [], 0, 0⟩ (zz 7 (xdF hc1) <|
zz 11 (xdF hc2) <|
zz 16 (xdF hc3) <|
zz 23 (xdF hc4) <|
zz 30 (xdF hc5) <|
zz 36 (xeT hc6) <|
zz 56 (xdF hc7) <|
zz 62 (xdF hc8) <|
zz 80 (xnF hc9) <|
zz 86 (xeT hc10) <|
yy 91 (.call (C_viewportref16leafq1 a1 c11_ [] [])) <|
ww (m_viewportref16leafq1_ok n a1 c11_ hc11) <|
yy 92 (vf) <|
ww (p := (Value.bool (!c11_)) = (Value.bool false)) (vBn hc12) <|
zz 97 (xeT hc13) <|
ee) (by kernel_rfl)
theorem p_viewportref16bareq1_8 (n : Nat) (a0 a1 a2 a3 a4 a5 : Int) (a6 : NL) (a7 : Int) (hc1 : ¬ (a1 < (1 : Int))) (hc2 : ¬ (a1 > (6 : Int))) (hc3 : ¬ (a2 < (0 : Int))) (hc4 : ¬ (a2 > a4)) (hc5 : ¬ (a5 ≤ a2)) (hc6 : a1 = (3 : Int)) (hc7 : ¬ (a3 < a2)) (hc8 : ¬ (a3 > a4)) (hc9 : a1 = (4 : Int)) (hc10 : a2 = a4) (c11_ : Bool) (hc11 : m_viewportref16leafq1 n a1 = some c11_) (hc12 : c11_ = true) (hc13 : ¬ ((((a6).l.length : Nat) : Int) = (0 : Int))) : G_viewportref16bareq1 a0 a1 a2 a3 a4 a5 a6 a7 false :=
 runF2 hm (L := lT []) ⟨[2], [], 0, 0⟩ (zz 7 (xdF hc1) <|
zz 11 (xdF hc2) <|
zz 16 (xdF hc3) <|
zz 23 (xdF hc4) <|
zz 30 (xdF hc5) <|
zz 36 (xeT hc6) <|
zz 56 (xdF hc7) <|
zz 62 (xdF hc8) <|
zz 80 (xnF hc9) <|
zz 86 (xeT hc10) <|
yy 91 (.call (C_viewportref16leafq1 a1 c11_ [] [])) <|
ww (m_viewportref16leafq1_ok n a1 c11_ hc11) <|
yy 92 (vf) <|
ww (p := (Value.bool (!c11_)) = (Value.bool false)) (vBn hc12) <|
zz 97 (xeF hc13) <|
ee) (by kernel_rfl)
theorem p_viewportref16bareq1_9 (n : Nat) (a0 a1 a2 a3 a4 a5 : Int) (a6 : NL) (a7 : Int) (hc1 : ¬ (a1 < (1 : Int))) (hc2 : ¬ (a1 > (6 : Int))) (hc3 : ¬ (a2 < (0 : Int))) (hc4 : ¬ (a2 > a4)) (hc5 : ¬ (a5 ≤ a2)) (hc6 : a1 = (3 : Int)) (hc7 : ¬ (a3 < a2)) (hc8 : ¬ (a3 > a4)) (hc9 : a1 = (4 : Int)) (hc10 : a2 = a4) (c11_ : Bool) (hc11 : m_viewportref16leafq1 n a1 = some c11_) (hc12 : ¬ (c11_ = true)) : G_viewportref16bareq1 a0 a1 a2 a3 a4 a5 a6 a7 true :=
 runF2 hm (L := lT []) ⟨[2], [], 0, 0⟩ (zz 7 (xdF hc1) <|
zz 11 (xdF hc2) <|
zz 16 (xdF hc3) <|
zz 23 (xdF hc4) <|
zz 30 (xdF hc5) <|
zz 36 (xeT hc6) <|
zz 56 (xdF hc7) <|
zz 62 (xdF hc8) <|
zz 80 (xnF hc9) <|
zz 86 (xeT hc10) <|
yy 91 (.call (C_viewportref16leafq1 a1 c11_ [] [])) <|
ww (m_viewportref16leafq1_ok n a1 c11_ hc11) <|
yy 92 (vt) <|
ww (p := (Value.bool (!c11_)) = (Value.bool true)) (vBn (Bool.eq_false_iff.2 hc12)) <|
ee) (by kernel_rfl)
theorem p_viewportref16bareq1_10 (n : Nat) (a0 a1 a2 a3 a4 a5 : Int) (a6 : NL) (a7 : Int) (hc1 : ¬ (a1 < (1 : Int))) (hc2 : ¬ (a1 > (6 : Int))) (hc3 : ¬ (a2 < (0 : Int))) (hc4 : ¬ (a2 > a4)) (hc5 : ¬ (a5 ≤ a2)) (hc6 : a1 = (3 : Int)) (hc7 : ¬ (a3 < a2)) (hc8 : ¬ (a3 > a4)) (hc9 : a1 = (4 : Int)) (hc10 : ¬ (a2 = a4)) : G_viewportref16bareq1 a0 a1 a2 a3 a4 a5 a6 a7 false :=
 runF2 hm (L := lT []) ⟨[2], [], 0, 0⟩ (zz 7 (xdF hc1) <|
zz 11 (xdF hc2) <|
zz 16 (xdF hc3) <|
zz 23 (xdF hc4) <|
zz 30 (xdF hc5) <|
zz 36 (xeT hc6) <|
zz 56 (xdF hc7) <|
zz 62 (xdF hc8) <|
zz 80 (xnF hc9) <|
zz 86 (xeF hc10) <|
ee) (by kernel_rfl)
theorem p_viewportref16bareq1_11 (n : Nat) (a0 a1 a2 a3 a4 a5 : Int) (a6 : NL) (a7 : Int) (hc1 : ¬ (a1 < (1 : Int))) (hc2 : ¬ (a1 > (6 : Int))) (hc3 : ¬ (a2 < (0 : Int))) (hc4 : ¬ (a2 > a4)) (hc5 : ¬ (a5 ≤ a2)) (hc6 : a1 = (3 : Int)) (hc7 : ¬ (a3 < a2)) (hc8 : ¬ (a3 > a4)) (hc9 : ¬ (a1 = (4 : Int))) (c10_ : Bool) (hc10 : m_viewportref16leafq1 n a1 = some c10_) (hc11 : c10_ = true) (hc12 : (((a6).l.length : Nat) : Int) = (0 : Int)) : G_viewportref16bareq1 a0 a1 a2 a3 a4 a5 a6 a7 true :=
 runF2 hm (L := lT []) ⟨[2], [], 0, 0⟩ (zz 7 (xdF hc1) <|
zz 11 (xdF hc2) <|
zz 16 (xdF hc3) <|
zz 23 (xdF hc4) <|
zz 30 (xdF hc5) <|
zz 36 (xeT hc6) <|
zz 56 (xdF hc7) <|
zz 62 (xdF hc8) <|
zz 80 (xnT hc9) <|
yy 91 (.call (C_viewportref16leafq1 a1 c10_ [] [])) <|
ww (m_viewportref16leafq1_ok n a1 c10_ hc10) <|
yy 92 (vf) <|
ww (p := (Value.bool (!c10_)) = (Value.bool false)) (vBn hc11) <|
zz 97 (xeT hc12) <|
ee) (by kernel_rfl)
theorem p_viewportref16bareq1_12 (n : Nat) (a0 a1 a2 a3 a4 a5 : Int) (a6 : NL) (a7 : Int) (hc1 : ¬ (a1 < (1 : Int))) (hc2 : ¬ (a1 > (6 : Int))) (hc3 : ¬ (a2 < (0 : Int))) (hc4 : ¬ (a2 > a4)) (hc5 : ¬ (a5 ≤ a2)) (hc6 : a1 = (3 : Int)) (hc7 : ¬ (a3 < a2)) (hc8 : ¬ (a3 > a4)) (hc9 : ¬ (a1 = (4 : Int))) (c10_ : Bool) (hc10 : m_viewportref16leafq1 n a1 = some c10_) (hc11 : c10_ = true) (hc12 : ¬ ((((a6).l.length : Nat) : Int) = (0 : Int))) : G_viewportref16bareq1 a0 a1 a2 a3 a4 a5 a6 a7 false :=
 runF2 hm (L := lT []) ⟨[2], [], 0, 0⟩ (zz 7 (xdF hc1) <|
zz 11 (xdF hc2) <|
zz 16 (xdF hc3) <|
zz 23 (xdF hc4) <|
zz 30 (xdF hc5) <|
zz 36 (xeT hc6) <|
zz 56 (xdF hc7) <|
zz 62 (xdF hc8) <|
zz 80 (xnT hc9) <|
yy 91 (.call (C_viewportref16leafq1 a1 c10_ [] [])) <|
ww (m_viewportref16leafq1_ok n a1 c10_ hc10) <|
yy 92 (vf) <|
ww (p := (Value.bool (!c10_)) = (Value.bool false)) (vBn hc11) <|
zz 97 (xeF hc12) <|
ee) (by kernel_rfl)
theorem p_viewportref16bareq1_13 (n : Nat) (a0 a1 a2 a3 a4 a5 : Int) (a6 : NL) (a7 : Int) (hc1 : ¬ (a1 < (1 : Int))) (hc2 : ¬ (a1 > (6 : Int))) (hc3 : ¬ (a2 < (0 : Int))) (hc4 : ¬ (a2 > a4)) (hc5 : ¬ (a5 ≤ a2)) (hc6 : a1 = (3 : Int)) (hc7 : ¬ (a3 < a2)) (hc8 : ¬ (a3 > a4)) (hc9 : ¬ (a1 = (4 : Int))) (c10_ : Bool) (hc10 : m_viewportref16leafq1 n a1 = some c10_) (hc11 : ¬ (c10_ = true)) : G_viewportref16bareq1 a0 a1 a2 a3 a4 a5 a6 a7 true :=
 runF2 hm (L := lT []) ⟨[2], [], 0, 0⟩ (zz 7 (xdF hc1) <|
zz 11 (xdF hc2) <|
zz 16 (xdF hc3) <|
zz 23 (xdF hc4) <|
zz 30 (xdF hc5) <|
zz 36 (xeT hc6) <|
zz 56 (xdF hc7) <|
zz 62 (xdF hc8) <|
zz 80 (xnT hc9) <|
yy 91 (.call (C_viewportref16leafq1 a1 c10_ [] [])) <|
ww (m_viewportref16leafq1_ok n a1 c10_ hc10) <|
yy 92 (vt) <|
ww (p := (Value.bool (!c10_)) = (Value.bool true)) (vBn (Bool.eq_false_iff.2 hc11)) <|
ee) (by kernel_rfl)
theorem p_viewportref16bareq1_14 (n : Nat) (a0 a1 a2 a3 a4 a5 : Int) (a6 : NL) (a7 : Int) (hc1 : ¬ (a1 < (1 : Int))) (hc2 : ¬ (a1 > (6 : Int))) (hc3 : ¬ (a2 < (0 : Int))) (hc4 : ¬ (a2 > a4)) (hc5 : ¬ (a5 ≤ a2)) (hc6 : ¬ (a1 = (3 : Int))) (hc7 : a1 = (5 : Int)) (hc8 : a3 < a2) : G_viewportref16bareq1 a0 a1 a2 a3 a4 a5 a6 a7 false :=
 runF2 hm (L := lT []) ⟨[2], [], 0, 0⟩ (zz 7 (xdF hc1) <|
zz 11 (xdF hc2) <|
zz 16 (xdF hc3) <|
zz 23 (xdF hc4) <|
zz 30 (xdF hc5) <|
zz 36 (xeF hc6) <|
zz 40 (xeT hc7) <|
zz 56 (xdT hc8) <|
ee) (by kernel_rfl)
theorem p_viewportref16bareq1_15 (n : Nat) (a0 a1 a2 a3 a4 a5 : Int) (a6 : NL) (a7 : Int) (hc1 : ¬ (a1 < (1 : Int))) (hc2 : ¬ (a1 > (6 : Int))) (hc3 : ¬ (a2 < (0 : Int))) (hc4 : ¬ (a2 > a4)) (hc5 : ¬ (a5 ≤ a2)) (hc6 : ¬ (a1 = (3 : Int))) (hc7 : a1 = (5 : Int)) (hc8 : ¬ (a3 < a2)) (hc9 : a3 > a4) : G_viewportref16bareq1 a0 a1 a2 a3 a4 a5 a6 a7 false :=
 runF2 hm (L := lT []) ⟨[2], [], 0, 0⟩ (zz 7 (xdF hc1) <|
zz 11 (xdF hc2) <|
zz 16 (xdF hc3) <|
zz 23 (xdF hc4) <|
zz 30 (xdF hc5) <|
zz 36 (xeF hc6) <|
zz 40 (xeT hc7) <|
zz 56 (xdF hc8) <|
zz 62 (xdT hc9) <|
ee) (by kernel_rfl)
theorem p_viewportref16bareq1_16 (n : Nat) (a0 a1 a2 a3 a4 a5 : Int) (a6 : NL) (a7 : Int) (hc1 : ¬ (a1 < (1 : Int))) (hc2 : ¬ (a1 > (6 : Int))) (hc3 : ¬ (a2 < (0 : Int))) (hc4 : ¬ (a2 > a4)) (hc5 : ¬ (a5 ≤ a2)) (hc6 : ¬ (a1 = (3 : Int))) (hc7 : a1 = (5 : Int)) (hc8 : ¬ (a3 < a2)) (hc9 : ¬ (a3 > a4)) (hc10 : a1 = (4 : Int)) (hc11 : a2 = a4) (c12_ : Bool) (hc12 : m_viewportref16leafq1 n a1 = some c12_) (hc13 : c12_ = true) (hc14 : (((a6).l.length : Nat) : Int) = (0 : Int)) : G_viewportref16bareq1 a0 a1 a2 a3 a4 a5 a6 a7 true :=
 runF2 hm (L := lT []) ⟨[2], [], 0, 0⟩ (zz 7 (xdF hc1) <|
zz 11 (xdF hc2) <|
zz 16 (xdF hc3) <|
zz 23 (xdF hc4) <|
zz 30 (xdF hc5) <|
zz 36 (xeF hc6) <|
zz 40 (xeT hc7) <|
zz 56 (xdF hc8) <|
zz 62 (xdF hc9) <|
zz 80 (xnF hc10) <|
zz 86 (xeT hc11) <|
yy 91 (.call (C_viewportref16leafq1 a1 c12_ [] [])) <|
ww (m_viewportref16leafq1_ok n a1 c12_ hc12) <|
yy 92 (vf) <|
ww (p := (Value.bool (!c12_)) = (Value.bool false)) (vBn hc13) <|
zz 97 (xeT hc14) <|
ee) (by kernel_rfl)
theorem p_viewportref16bareq1_17 (n : Nat) (a0 a1 a2 a3 a4 a5 : Int) (a6 : NL) (a7 : Int) (hc1 : ¬ (a1 < (1 : Int))) (hc2 : ¬ (a1 > (6 : Int))) (hc3 : ¬ (a2 < (0 : Int))) (hc4 : ¬ (a2 > a4)) (hc5 : ¬ (a5 ≤ a2)) (hc6 : ¬ (a1 = (3 : Int))) (hc7 : a1 = (5 : Int)) (hc8 : ¬ (a3 < a2)) (hc9 : ¬ (a3 > a4)) (hc10 : a1 = (4 : Int)) (hc11 : a2 = a4) (c12_ : Bool) (hc12 : m_viewportref16leafq1 n a1 = some c12_) (hc13 : c12_ = true) (hc14 : ¬ ((((a6).l.length : Nat) : Int) = (0 : Int))) : G_viewportref16bareq1 a0 a1 a2 a3 a4 a5 a6 a7 false :=
 runF2 hm (L := lT []) ⟨[2], [], 0, 0⟩ (zz 7 (xdF hc1) <|
zz 11 (xdF hc2) <|
zz 16 (xdF hc3) <|
zz 23 (xdF hc4) <|
zz 30 (xdF hc5) <|
zz 36 (xeF hc6) <|
zz 40 (xeT hc7) <|
zz 56 (xdF hc8) <|
zz 62 (xdF hc9) <|
zz 80 (xnF hc10) <|
zz 86 (xeT hc11) <|
yy 91 (.call (C_viewportref16leafq1 a1 c12_ [] [])) <|
ww (m_viewportref16leafq1_ok n a1 c12_ hc12) <|
yy 92 (vf) <|
ww (p := (Value.bool (!c12_)) = (Value.bool false)) (vBn hc13) <|
zz 97 (xeF hc14) <|
ee) (by kernel_rfl)
theorem p_viewportref16bareq1_18 (n : Nat) (a0 a1 a2 a3 a4 a5 : Int) (a6 : NL) (a7 : Int) (hc1 : ¬ (a1 < (1 : Int))) (hc2 : ¬ (a1 > (6 : Int))) (hc3 : ¬ (a2 < (0 : Int))) (hc4 : ¬ (a2 > a4)) (hc5 : ¬ (a5 ≤ a2)) (hc6 : ¬ (a1 = (3 : Int))) (hc7 : a1 = (5 : Int)) (hc8 : ¬ (a3 < a2)) (hc9 : ¬ (a3 > a4)) (hc10 : a1 = (4 : Int)) (hc11 : a2 = a4) (c12_ : Bool) (hc12 : m_viewportref16leafq1 n a1 = some c12_) (hc13 : ¬ (c12_ = true)) : G_viewportref16bareq1 a0 a1 a2 a3 a4 a5 a6 a7 true :=
 runF2 hm (L := lT []) ⟨[2], [], 0, 0⟩ (zz 7 (xdF hc1) <|
zz 11 (xdF hc2) <|
zz 16 (xdF hc3) <|
zz 23 (xdF hc4) <|
zz 30 (xdF hc5) <|
zz 36 (xeF hc6) <|
zz 40 (xeT hc7) <|
zz 56 (xdF hc8) <|
zz 62 (xdF hc9) <|
zz 80 (xnF hc10) <|
zz 86 (xeT hc11) <|
yy 91 (.call (C_viewportref16leafq1 a1 c12_ [] [])) <|
ww (m_viewportref16leafq1_ok n a1 c12_ hc12) <|
yy 92 (vt) <|
ww (p := (Value.bool (!c12_)) = (Value.bool true)) (vBn (Bool.eq_false_iff.2 hc13)) <|
ee) (by kernel_rfl)
theorem p_viewportref16bareq1_19 (n : Nat) (a0 a1 a2 a3 a4 a5 : Int) (a6 : NL) (a7 : Int) (hc1 : ¬ (a1 < (1 : Int))) (hc2 : ¬ (a1 > (6 : Int))) (hc3 : ¬ (a2 < (0 : Int))) (hc4 : ¬ (a2 > a4)) (hc5 : ¬ (a5 ≤ a2)) (hc6 : ¬ (a1 = (3 : Int))) (hc7 : a1 = (5 : Int)) (hc8 : ¬ (a3 < a2)) (hc9 : ¬ (a3 > a4)) (hc10 : a1 = (4 : Int)) (hc11 : ¬ (a2 = a4)) : G_viewportref16bareq1 a0 a1 a2 a3 a4 a5 a6 a7 false :=
 runF2 hm (L := lT []) ⟨[2], [], 0, 0⟩ (zz 7 (xdF hc1) <|
zz 11 (xdF hc2) <|
zz 16 (xdF hc3) <|
zz 23 (xdF hc4) <|
zz 30 (xdF hc5) <|
zz 36 (xeF hc6) <|
zz 40 (xeT hc7) <|
zz 56 (xdF hc8) <|
zz 62 (xdF hc9) <|
zz 80 (xnF hc10) <|
zz 86 (xeF hc11) <|
ee) (by kernel_rfl)
theorem p_viewportref16bareq1_20 (n : Nat) (a0 a1 a2 a3 a4 a5 : Int) (a6 : NL) (a7 : Int) (hc1 : ¬ (a1 < (1 : Int))) (hc2 : ¬ (a1 > (6 : Int))) (hc3 : ¬ (a2 < (0 : Int))) (hc4 : ¬ (a2 > a4)) (hc5 : ¬ (a5 ≤ a2)) (hc6 : ¬ (a1 = (3 : Int))) (hc7 : a1 = (5 : Int)) (hc8 : ¬ (a3 < a2)) (hc9 : ¬ (a3 > a4)) (hc10 : ¬ (a1 = (4 : Int))) (c11_ : Bool) (hc11 : m_viewportref16leafq1 n a1 = some c11_) (hc12 : c11_ = true) (hc13 : (((a6).l.length : Nat) : Int) = (0 : Int)) : G_viewportref16bareq1 a0 a1 a2 a3 a4 a5 a6 a7 true :=
 runF2 hm (L := lT []) ⟨[2], [], 0, 0⟩ (zz 7 (xdF hc1) <|
zz 11 (xdF hc2) <|
zz 16 (xdF hc3) <|
zz 23 (xdF hc4) <|
zz 30 (xdF hc5) <|
zz 36 (xeF hc6) <|
zz 40 (xeT hc7) <|
zz 56 (xdF hc8) <|
zz 62 (xdF hc9) <|
zz 80 (xnT hc10) <|
yy 91 (.call (C_viewportref16leafq1 a1 c11_ [] [])) <|
ww (m_viewportref16leafq1_ok n a1 c11_ hc11) <|
yy 92 (vf) <|
ww (p := (Value.bool (!c11_)) = (Value.bool false)) (vBn hc12) <|
zz 97 (xeT hc13) <|
ee) (by kernel_rfl)
theorem p_viewportref16bareq1_21 (n : Nat) (a0 a1 a2 a3 a4 a5 : Int) (a6 : NL) (a7 : Int) (hc1 : ¬ (a1 < (1 : Int))) (hc2 : ¬ (a1 > (6 : Int))) (hc3 : ¬ (a2 < (0 : Int))) (hc4 : ¬ (a2 > a4)) (hc5 : ¬ (a5 ≤ a2)) (hc6 : ¬ (a1 = (3 : Int))) (hc7 : a1 = (5 : Int)) (hc8 : ¬ (a3 < a2)) (hc9 : ¬ (a3 > a4)) (hc10 : ¬ (a1 = (4 : Int))) (c11_ : Bool) (hc11 : m_viewportref16leafq1 n a1 = some c11_) (hc12 : c11_ = true) (hc13 : ¬ ((((a6).l.length : Nat) : Int) = (0 : Int))) : G_viewportref16bareq1 a0 a1 a2 a3 a4 a5 a6 a7 false :=
 runF2 hm (L := lT []) ⟨[2], [], 0, 0⟩ (zz 7 (xdF hc1) <|
zz 11 (xdF hc2) <|
zz 16 (xdF hc3) <|
zz 23 (xdF hc4) <|
zz 30 (xdF hc5) <|
zz 36 (xeF hc6) <|
zz 40 (xeT hc7) <|
zz 56 (xdF hc8) <|
zz 62 (xdF hc9) <|
zz 80 (xnT hc10) <|
yy 91 (.call (C_viewportref16leafq1 a1 c11_ [] [])) <|
ww (m_viewportref16leafq1_ok n a1 c11_ hc11) <|
yy 92 (vf) <|
ww (p := (Value.bool (!c11_)) = (Value.bool false)) (vBn hc12) <|
zz 97 (xeF hc13) <|
ee) (by kernel_rfl)
theorem p_viewportref16bareq1_22 (n : Nat) (a0 a1 a2 a3 a4 a5 : Int) (a6 : NL) (a7 : Int) (hc1 : ¬ (a1 < (1 : Int))) (hc2 : ¬ (a1 > (6 : Int))) (hc3 : ¬ (a2 < (0 : Int))) (hc4 : ¬ (a2 > a4)) (hc5 : ¬ (a5 ≤ a2)) (hc6 : ¬ (a1 = (3 : Int))) (hc7 : a1 = (5 : Int)) (hc8 : ¬ (a3 < a2)) (hc9 : ¬ (a3 > a4)) (hc10 : ¬ (a1 = (4 : Int))) (c11_ : Bool) (hc11 : m_viewportref16leafq1 n a1 = some c11_) (hc12 : ¬ (c11_ = true)) : G_viewportref16bareq1 a0 a1 a2 a3 a4 a5 a6 a7 true :=
 runF2 hm (L := lT []) ⟨[2], [], 0, 0⟩ (zz 7 (xdF hc1) <|
zz 11 (xdF hc2) <|
zz 16 (xdF hc3) <|
zz 23 (xdF hc4) <|
zz 30 (xdF hc5) <|
zz 36 (xeF hc6) <|
zz 40 (xeT hc7) <|
zz 56 (xdF hc8) <|
zz 62 (xdF hc9) <|
zz 80 (xnT hc10) <|
yy 91 (.call (C_viewportref16leafq1 a1 c11_ [] [])) <|
ww (m_viewportref16leafq1_ok n a1 c11_ hc11) <|
yy 92 (vt) <|
ww (p := (Value.bool (!c11_)) = (Value.bool true)) (vBn (Bool.eq_false_iff.2 hc12)) <|
ee) (by kernel_rfl)
theorem p_viewportref16bareq1_23 (n : Nat) (a0 a1 a2 a3 a4 a5 : Int) (a6 : NL) (a7 : Int) (hc1 : ¬ (a1 < (1 : Int))) (hc2 : ¬ (a1 > (6 : Int))) (hc3 : ¬ (a2 < (0 : Int))) (hc4 : ¬ (a2 > a4)) (hc5 : ¬ (a5 ≤ a2)) (hc6 : ¬ (a1 = (3 : Int))) (hc7 : ¬ (a1 = (5 : Int))) (hc8 : a1 = (6 : Int)) (hc9 : a3 < a2) : G_viewportref16bareq1 a0 a1 a2 a3 a4 a5 a6 a7 false :=
 runF2 hm (L := lT []) ⟨[2], [], 0, 0⟩ (zz 7 (xdF hc1) <|
zz 11 (xdF hc2) <|
zz 16 (xdF hc3) <|
zz 23 (xdF hc4) <|
zz 30 (xdF hc5) <|
zz 36 (xeF hc6) <|
zz 40 (xeF hc7) <|
zz 45 (xeT hc8) <|
zz 56 (xdT hc9) <|
ee) (by kernel_rfl)
theorem p_viewportref16bareq1_24 (n : Nat) (a0 a1 a2 a3 a4 a5 : Int) (a6 : NL) (a7 : Int) (hc1 : ¬ (a1 < (1 : Int))) (hc2 : ¬ (a1 > (6 : Int))) (hc3 : ¬ (a2 < (0 : Int))) (hc4 : ¬ (a2 > a4)) (hc5 : ¬ (a5 ≤ a2)) (hc6 : ¬ (a1 = (3 : Int))) (hc7 : ¬ (a1 = (5 : Int))) (hc8 : a1 = (6 : Int)) (hc9 : ¬ (a3 < a2)) (hc10 : a3 > a4) : G_viewportref16bareq1 a0 a1 a2 a3 a4 a5 a6 a7 false :=
 runF2 hm (L := lT []) ⟨[2], [], 0, 0⟩ (zz 7 (xdF hc1) <|
zz 11 (xdF hc2) <|
zz 16 (xdF hc3) <|
zz 23 (xdF hc4) <|
zz 30 (xdF hc5) <|
zz 36 (xeF hc6) <|
zz 40 (xeF hc7) <|
zz 45 (xeT hc8) <|
zz 56 (xdF hc9) <|
zz 62 (xdT hc10) <|
ee) (by kernel_rfl)
theorem p_viewportref16bareq1_25 (n : Nat) (a0 a1 a2 a3 a4 a5 : Int) (a6 : NL) (a7 : Int) (hc1 : ¬ (a1 < (1 : Int))) (hc2 : ¬ (a1 > (6 : Int))) (hc3 : ¬ (a2 < (0 : Int))) (hc4 : ¬ (a2 > a4)) (hc5 : ¬ (a5 ≤ a2)) (hc6 : ¬ (a1 = (3 : Int))) (hc7 : ¬ (a1 = (5 : Int))) (hc8 : a1 = (6 : Int)) (hc9 : ¬ (a3 < a2)) (hc10 : ¬ (a3 > a4)) (hc11 : a1 = (4 : Int)) (hc12 : a2 = a4) (c13_ : Bool) (hc13 : m_viewportref16leafq1 n a1 = some c13_) (hc14 : c13_ = true) (hc15 : (((a6).l.length : Nat) : Int) = (0 : Int)) : G_viewportref16bareq1 a0 a1 a2 a3 a4 a5 a6 a7 true :=
 runF2 hm (L := lT []) ⟨[2], [], 0, 0⟩ (zz 7 (xdF hc1) <|
zz 11 (xdF hc2) <|
zz 16 (xdF hc3) <|
zz 23 (xdF hc4) <|
zz 30 (xdF hc5) <|
zz 36 (xeF hc6) <|
zz 40 (xeF hc7) <|
zz 45 (xeT hc8) <|
zz 56 (xdF hc9) <|
zz 62 (xdF hc10) <|
zz 80 (xnF hc11) <|
zz 86 (xeT hc12) <|
yy 91 (.call (C_viewportref16leafq1 a1 c13_ [] [])) <|
ww (m_viewportref16leafq1_ok n a1 c13_ hc13) <|
yy 92 (vf) <|
ww (p := (Value.bool (!c13_)) = (Value.bool false)) (vBn hc14) <|
zz 97 (xeT hc15) <|
ee) (by kernel_rfl)
theorem p_viewportref16bareq1_26 (n : Nat) (a0 a1 a2 a3 a4 a5 : Int) (a6 : NL) (a7 : Int) (hc1 : ¬ (a1 < (1 : Int))) (hc2 : ¬ (a1 > (6 : Int))) (hc3 : ¬ (a2 < (0 : Int))) (hc4 : ¬ (a2 > a4)) (hc5 : ¬ (a5 ≤ a2)) (hc6 : ¬ (a1 = (3 : Int))) (hc7 : ¬ (a1 = (5 : Int))) (hc8 : a1 = (6 : Int)) (hc9 : ¬ (a3 < a2)) (hc10 : ¬ (a3 > a4)) (hc11 : a1 = (4 : Int)) (hc12 : a2 = a4) (c13_ : Bool) (hc13 : m_viewportref16leafq1 n a1 = some c13_) (hc14 : c13_ = true) (hc15 : ¬ ((((a6).l.length : Nat) : Int) = (0 : Int))) : G_viewportref16bareq1 a0 a1 a2 a3 a4 a5 a6 a7 false :=
 runF2 hm (L := lT []) ⟨[2], [], 0, 0⟩ (zz 7 (xdF hc1) <|
zz 11 (xdF hc2) <|
zz 16 (xdF hc3) <|
zz 23 (xdF hc4) <|
zz 30 (xdF hc5) <|
zz 36 (xeF hc6) <|
zz 40 (xeF hc7) <|
zz 45 (xeT hc8) <|
zz 56 (xdF hc9) <|
zz 62 (xdF hc10) <|
zz 80 (xnF hc11) <|
zz 86 (xeT hc12) <|
yy 91 (.call (C_viewportref16leafq1 a1 c13_ [] [])) <|
ww (m_viewportref16leafq1_ok n a1 c13_ hc13) <|
yy 92 (vf) <|
ww (p := (Value.bool (!c13_)) = (Value.bool false)) (vBn hc14) <|
zz 97 (xeF hc15) <|
ee) (by kernel_rfl)
theorem p_viewportref16bareq1_27 (n : Nat) (a0 a1 a2 a3 a4 a5 : Int) (a6 : NL) (a7 : Int) (hc1 : ¬ (a1 < (1 : Int))) (hc2 : ¬ (a1 > (6 : Int))) (hc3 : ¬ (a2 < (0 : Int))) (hc4 : ¬ (a2 > a4)) (hc5 : ¬ (a5 ≤ a2)) (hc6 : ¬ (a1 = (3 : Int))) (hc7 : ¬ (a1 = (5 : Int))) (hc8 : a1 = (6 : Int)) (hc9 : ¬ (a3 < a2)) (hc10 : ¬ (a3 > a4)) (hc11 : a1 = (4 : Int)) (hc12 : a2 = a4) (c13_ : Bool) (hc13 : m_viewportref16leafq1 n a1 = some c13_) (hc14 : ¬ (c13_ = true)) : G_viewportref16bareq1 a0 a1 a2 a3 a4 a5 a6 a7 true :=
 runF2 hm (L := lT []) ⟨[2], [], 0, 0⟩ (zz 7 (xdF hc1) <|
zz 11 (xdF hc2) <|
zz 16 (xdF hc3) <|
zz 23 (xdF hc4) <|
zz 30 (xdF hc5) <|
zz 36 (xeF hc6) <|
zz 40 (xeF hc7) <|
zz 45 (xeT hc8) <|
zz 56 (xdF hc9) <|
zz 62 (xdF hc10) <|
zz 80 (xnF hc11) <|
zz 86 (xeT hc12) <|
yy 91 (.call (C_viewportref16leafq1 a1 c13_ [] [])) <|
ww (m_viewportref16leafq1_ok n a1 c13_ hc13) <|
yy 92 (vt) <|
ww (p := (Value.bool (!c13_)) = (Value.bool true)) (vBn (Bool.eq_false_iff.2 hc14)) <|
ee) (by kernel_rfl)
theorem p_viewportref16bareq1_28 (n : Nat) (a0 a1 a2 a3 a4 a5 : Int) (a6 : NL) (a7 : Int) (hc1 : ¬ (a1 < (1 : Int))) (hc2 : ¬ (a1 > (6 : Int))) (hc3 : ¬ (a2 < (0 : Int))) (hc4 : ¬ (a2 > a4)) (hc5 : ¬ (a5 ≤ a2)) (hc6 : ¬ (a1 = (3 : Int))) (hc7 : ¬ (a1 = (5 : Int))) (hc8 : a1 = (6 : Int)) (hc9 : ¬ (a3 < a2)) (hc10 : ¬ (a3 > a4)) (hc11 : a1 = (4 : Int)) (hc12 : ¬ (a2 = a4)) : G_viewportref16bareq1 a0 a1 a2 a3 a4 a5 a6 a7 false :=
 runF2 hm (L := lT []) ⟨[2], [], 0, 0⟩ (zz 7 (xdF hc1) <|
zz 11 (xdF hc2) <|
zz 16 (xdF hc3) <|
zz 23 (xdF hc4) <|
zz 30 (xdF hc5) <|
zz 36 (xeF hc6) <|
zz 40 (xeF hc7) <|
zz 45 (xeT hc8) <|
zz 56 (xdF hc9) <|
zz 62 (xdF hc10) <|
zz 80 (xnF hc11) <|
zz 86 (xeF hc12) <|
ee) (by kernel_rfl)
theorem p_viewportref16bareq1_29 (n : Nat) (a0 a1 a2 a3 a4 a5 : Int) (a6 : NL) (a7 : Int) (hc1 : ¬ (a1 < (1 : Int))) (hc2 : ¬ (a1 > (6 : Int))) (hc3 : ¬ (a2 < (0 : Int))) (hc4 : ¬ (a2 > a4)) (hc5 : ¬ (a5 ≤ a2)) (hc6 : ¬ (a1 = (3 : Int))) (hc7 : ¬ (a1 = (5 : Int))) (hc8 : a1 = (6 : Int)) (hc9 : ¬ (a3 < a2)) (hc10 : ¬ (a3 > a4)) (hc11 : ¬ (a1 = (4 : Int))) (c12_ : Bool) (hc12 : m_viewportref16leafq1 n a1 = some c12_) (hc13 : c12_ = true) (hc14 : (((a6).l.length : Nat) : Int) = (0 : Int)) : G_viewportref16bareq1 a0 a1 a2 a3 a4 a5 a6 a7 true :=
 runF2 hm (L := lT []) ⟨[2], [], 0, 0⟩ (zz 7 (xdF hc1) <|
zz 11 (xdF hc2) <|
zz 16 (xdF hc3) <|
zz 23 (xdF hc4) <|
zz 30 (xdF hc5) <|
zz 36 (xeF hc6) <|
zz 40 (xeF hc7) <|
zz 45 (xeT hc8) <|
zz 56 (xdF hc9) <|
zz 62 (xdF hc10) <|
zz 80 (xnT hc11) <|
yy 91 (.call (C_viewportref16leafq1 a1 c12_ [] [])) <|
ww (m_viewportref16leafq1_ok n a1 c12_ hc12) <|
yy 92 (vf) <|
ww (p := (Value.bool (!c12_)) = (Value.bool false)) (vBn hc13) <|
zz 97 (xeT hc14) <|
ee) (by kernel_rfl)
theorem p_viewportref16bareq1_30 (n : Nat) (a0 a1 a2 a3 a4 a5 : Int) (a6 : NL) (a7 : Int) (hc1 : ¬ (a1 < (1 : Int))) (hc2 : ¬ (a1 > (6 : Int))) (hc3 : ¬ (a2 < (0 : Int))) (hc4 : ¬ (a2 > a4)) (hc5 : ¬ (a5 ≤ a2)) (hc6 : ¬ (a1 = (3 : Int))) (hc7 : ¬ (a1 = (5 : Int))) (hc8 : a1 = (6 : Int)) (hc9 : ¬ (a3 < a2)) (hc10 : ¬ (a3 > a4)) (hc11 : ¬ (a1 = (4 : Int))) (c12_ : Bool) (hc12 : m_viewportref16leafq1 n a1 = some c12_) (hc13 : c12_ = true) (hc14 : ¬ ((((a6).l.length : Nat) : Int) = (0 : Int))) : G_viewportref16bareq1 a0 a1 a2 a3 a4 a5 a6 a7 false :=
 runF2 hm (L := lT []) ⟨[2], [], 0, 0⟩ (zz 7 (xdF hc1) <|
zz 11 (xdF hc2) <|
zz 16 (xdF hc3) <|
zz 23 (xdF hc4) <|
zz 30 (xdF hc5) <|
zz 36 (xeF hc6) <|
zz 40 (xeF hc7) <|
zz 45 (xeT hc8) <|
zz 56 (xdF hc9) <|
zz 62 (xdF hc10) <|
zz 80 (xnT hc11) <|
yy 91 (.call (C_viewportref16leafq1 a1 c12_ [] [])) <|
ww (m_viewportref16leafq1_ok n a1 c12_ hc12) <|
yy 92 (vf) <|
ww (p := (Value.bool (!c12_)) = (Value.bool false)) (vBn hc13) <|
zz 97 (xeF hc14) <|
ee) (by kernel_rfl)
theorem p_viewportref16bareq1_31 (n : Nat) (a0 a1 a2 a3 a4 a5 : Int) (a6 : NL) (a7 : Int) (hc1 : ¬ (a1 < (1 : Int))) (hc2 : ¬ (a1 > (6 : Int))) (hc3 : ¬ (a2 < (0 : Int))) (hc4 : ¬ (a2 > a4)) (hc5 : ¬ (a5 ≤ a2)) (hc6 : ¬ (a1 = (3 : Int))) (hc7 : ¬ (a1 = (5 : Int))) (hc8 : a1 = (6 : Int)) (hc9 : ¬ (a3 < a2)) (hc10 : ¬ (a3 > a4)) (hc11 : ¬ (a1 = (4 : Int))) (c12_ : Bool) (hc12 : m_viewportref16leafq1 n a1 = some c12_) (hc13 : ¬ (c12_ = true)) : G_viewportref16bareq1 a0 a1 a2 a3 a4 a5 a6 a7 true :=
 runF2 hm (L := lT []) ⟨[2], [], 0, 0⟩ (zz 7 (xdF hc1) <|
zz 11 (xdF hc2) <|
zz 16 (xdF hc3) <|
zz 23 (xdF hc4) <|
zz 30 (xdF hc5) <|
zz 36 (xeF hc6) <|
zz 40 (xeF hc7) <|
zz 45 (xeT hc8) <|
zz 56 (xdF hc9) <|
zz 62 (xdF hc10) <|
zz 80 (xnT hc11) <|
yy 91 (.call (C_viewportref16leafq1 a1 c12_ [] [])) <|
ww (m_viewportref16leafq1_ok n a1 c12_ hc12) <|
yy 92 (vt) <|
ww (p := (Value.bool (!c12_)) = (Value.bool true)) (vBn (Bool.eq_false_iff.2 hc13)) <|
ee) (by kernel_rfl)
theorem p_viewportref16bareq1_32 (n : Nat) (a0 a1 a2 a3 a4 a5 : Int) (a6 : NL) (a7 : Int) (hc1 : ¬ (a1 < (1 : Int))) (hc2 : ¬ (a1 > (6 : Int))) (hc3 : ¬ (a2 < (0 : Int))) (hc4 : ¬ (a2 > a4)) (hc5 : ¬ (a5 ≤ a2)) (hc6 : ¬ (a1 = (3 : Int))) (hc7 : ¬ (a1 = (5 : Int))) (hc8 : ¬ (a1 = (6 : Int))) (hc9 : a3 = a2) (hc10 : a1 = (4 : Int)) (hc11 : a2 = a4) (c12_ : Bool) (hc12 : m_viewportref16leafq1 n a1 = some c12_) (hc13 : c12_ = true) (hc14 : (((a6).l.length : Nat) : Int) = (0 : Int)) : G_viewportref16bareq1 a0 a1 a2 a3 a4 a5 a6 a7 true :=
 runF2 hm (L := lT []) ⟨[2], [], 0, 0⟩ (zz 7 (xdF hc1) <|
zz 11 (xdF hc2) <|
zz 16 (xdF hc3) <|
zz 23 (xdF hc4) <|
zz 30 (xdF hc5) <|
zz 36 (xeF hc6) <|
zz 40 (xeF hc7) <|
zz 45 (xeF hc8) <|
zz 73 (xnF hc9) <|
zz 80 (xnF hc10) <|
zz 86 (xeT hc11) <|
yy 91 (.call (C_viewportref16leafq1 a1 c12_ [] [])) <|
ww (m_viewportref16leafq1_ok n a1 c12_ hc12) <|
yy 92 (vf) <|
ww (p := (Value.bool (!c12_)) = (Value.bool false)) (vBn hc13) <|
zz 97 (xeT hc14) <|
ee) (by kernel_rfl)
theorem p_viewportref16bareq1_33 (n : Nat) (a0 a1 a2 a3 a4 a5 : Int) (a6 : NL) (a7 : Int) (hc1 : ¬ (a1 < (1 : Int))) (hc2 : ¬ (a1 > (6 : Int))) (hc3 : ¬ (a2 < (0 : Int))) (hc4 : ¬ (a2 > a4)) (hc5 : ¬ (a5 ≤ a2)) (hc6 : ¬ (a1 = (3 : Int))) (hc7 : ¬ (a1 = (5 : Int))) (hc8 : ¬ (a1 = (6 : Int))) (hc9 : a3 = a2) (hc10 : a1 = (4 : Int)) (hc11 : a2 = a4) (c12_ : Bool) (hc12 : m_viewportref16leafq1 n a1 = some c12_) (hc13 : c12_ = true) (hc14 : ¬ ((((a6).l.length : Nat) : Int) = (0 : Int))) : G_viewportref16bareq1 a0 a1 a2 a3 a4 a5 a6 a7 false :=
 runF2 hm (L := lT []) ⟨[2], [], 0, 0⟩ (zz 7 (xdF hc1) <|
zz 11 (xdF hc2) <|
zz 16 (xdF hc3) <|
zz 23 (xdF hc4) <|
zz 30 (xdF hc5) <|
zz 36 (xeF hc6) <|
zz 40 (xeF hc7) <|
zz 45 (xeF hc8) <|
zz 73 (xnF hc9) <|
zz 80 (xnF hc10) <|
zz 86 (xeT hc11) <|
yy 91 (.call (C_viewportref16leafq1 a1 c12_ [] [])) <|
ww (m_viewportref16leafq1_ok n a1 c12_ hc12) <|
yy 92 (vf) <|
ww (p := (Value.bool (!c12_)) = (Value.bool false)) (vBn hc13) <|
zz 97 (xeF hc14) <|
ee) (by kernel_rfl)
theorem p_viewportref16bareq1_34 (n : Nat) (a0 a1 a2 a3 a4 a5 : Int) (a6 : NL) (a7 : Int) (hc1 : ¬ (a1 < (1 : Int))) (hc2 : ¬ (a1 > (6 : Int))) (hc3 : ¬ (a2 < (0 : Int))) (hc4 : ¬ (a2 > a4)) (hc5 : ¬ (a5 ≤ a2)) (hc6 : ¬ (a1 = (3 : Int))) (hc7 : ¬ (a1 = (5 : Int))) (hc8 : ¬ (a1 = (6 : Int))) (hc9 : a3 = a2) (hc10 : a1 = (4 : Int)) (hc11 : a2 = a4) (c12_ : Bool) (hc12 : m_viewportref16leafq1 n a1 = some c12_) (hc13 : ¬ (c12_ = true)) : G_viewportref16bareq1 a0 a1 a2 a3 a4 a5 a6 a7 true :=
 runF2 hm (L := lT []) ⟨[2], [], 0, 0⟩ (zz 7 (xdF hc1) <|
zz 11 (xdF hc2) <|
zz 16 (xdF hc3) <|
zz 23 (xdF hc4) <|
zz 30 (xdF hc5) <|
zz 36 (xeF hc6) <|
zz 40 (xeF hc7) <|
zz 45 (xeF hc8) <|
zz 73 (xnF hc9) <|
zz 80 (xnF hc10) <|
zz 86 (xeT hc11) <|
yy 91 (.call (C_viewportref16leafq1 a1 c12_ [] [])) <|
ww (m_viewportref16leafq1_ok n a1 c12_ hc12) <|
yy 92 (vt) <|
ww (p := (Value.bool (!c12_)) = (Value.bool true)) (vBn (Bool.eq_false_iff.2 hc13)) <|
ee) (by kernel_rfl)
theorem p_viewportref16bareq1_35 (n : Nat) (a0 a1 a2 a3 a4 a5 : Int) (a6 : NL) (a7 : Int) (hc1 : ¬ (a1 < (1 : Int))) (hc2 : ¬ (a1 > (6 : Int))) (hc3 : ¬ (a2 < (0 : Int))) (hc4 : ¬ (a2 > a4)) (hc5 : ¬ (a5 ≤ a2)) (hc6 : ¬ (a1 = (3 : Int))) (hc7 : ¬ (a1 = (5 : Int))) (hc8 : ¬ (a1 = (6 : Int))) (hc9 : a3 = a2) (hc10 : a1 = (4 : Int)) (hc11 : ¬ (a2 = a4)) : G_viewportref16bareq1 a0 a1 a2 a3 a4 a5 a6 a7 false :=
 runF2 hm (L := lT []) ⟨[2], [], 0, 0⟩ (zz 7 (xdF hc1) <|
zz 11 (xdF hc2) <|
zz 16 (xdF hc3) <|
zz 23 (xdF hc4) <|
zz 30 (xdF hc5) <|
zz 36 (xeF hc6) <|
zz 40 (xeF hc7) <|
zz 45 (xeF hc8) <|
zz 73 (xnF hc9) <|
zz 80 (xnF hc10) <|
zz 86 (xeF hc11) <|
ee) (by kernel_rfl)
theorem p_viewportref16bareq1_36 (n : Nat) (a0 a1 a2 a3 a4 a5 : Int) (a6 : NL) (a7 : Int) (hc1 : ¬ (a1 < (1 : Int))) (hc2 : ¬ (a1 > (6 : Int))) (hc3 : ¬ (a2 < (0 : Int))) (hc4 : ¬ (a2 > a4)) (hc5 : ¬ (a5 ≤ a2)) (hc6 : ¬ (a1 = (3 : Int))) (hc7 : ¬ (a1 = (5 : Int))) (hc8 : ¬ (a1 = (6 : Int))) (hc9 : a3 = a2) (hc10 : ¬ (a1 = (4 : Int))) (c11_ : Bool) (hc11 : m_viewportref16leafq1 n a1 = some c11_) (hc12 : c11_ = true) (hc13 : (((a6).l.length : Nat) : Int) = (0 : Int)) : G_viewportref16bareq1 a0 a1 a2 a3 a4 a5 a6 a7 true :=
 runF2 hm (L := lT []) ⟨[2], [], 0, 0⟩ (zz 7 (xdF hc1) <|
zz 11 (xdF hc2) <|
zz 16 (xdF hc3) <|
zz 23 (xdF hc4) <|
zz 30 (xdF hc5) <|
zz 36 (xeF hc6) <|
zz 40 (xeF hc7) <|
zz 45 (xeF hc8) <|
zz 73 (xnF hc9) <|
zz 80 (xnT hc10) <|
yy 91 (.call (C_viewportref16leafq1 a1 c11_ [] [])) <|
ww (m_viewportref16leafq1_ok n a1 c11_ hc11) <|
yy 92 (vf) <|
ww (p := (Value.bool (!c11_)) = (Value.bool false)) (vBn hc12) <|
zz 97 (xeT hc13) <|
ee) (by kernel_rfl)
theorem p_viewportref16bareq1_37 (n : Nat) (a0 a1 a2 a3 a4 a5 : Int) (a6 : NL) (a7 : Int) (hc1 : ¬ (a1 < (1 : Int))) (hc2 : ¬ (a1 > (6 : Int))) (hc3 : ¬ (a2 < (0 : Int))) (hc4 : ¬ (a2 > a4)) (hc5 : ¬ (a5 ≤ a2)) (hc6 : ¬ (a1 = (3 : Int))) (hc7 : ¬ (a1 = (5 : Int))) (hc8 : ¬ (a1 = (6 : Int))) (hc9 : a3 = a2) (hc10 : ¬ (a1 = (4 : Int))) (c11_ : Bool) (hc11 : m_viewportref16leafq1 n a1 = some c11_) (hc12 : c11_ = true) (hc13 : ¬ ((((a6).l.length : Nat) : Int) = (0 : Int))) : G_viewportref16bareq1 a0 a1 a2 a3 a4 a5 a6 a7 false :=
 runF2 hm (L := lT []) ⟨[2], [], 0, 0⟩ (zz 7 (xdF hc1) <|
zz 11 (xdF hc2) <|
zz 16 (xdF hc3) <|
zz 23 (xdF hc4) <|
zz 30 (xdF hc5) <|
zz 36 (xeF hc6) <|
zz 40 (xeF hc7) <|
zz 45 (xeF hc8) <|
zz 73 (xnF hc9) <|
zz 80 (xnT hc10) <|
yy 91 (.call (C_viewportref16leafq1 a1 c11_ [] [])) <|
ww (m_viewportref16leafq1_ok n a1 c11_ hc11) <|
yy 92 (vf) <|
ww (p := (Value.bool (!c11_)) = (Value.bool false)) (vBn hc12) <|
zz 97 (xeF hc13) <|
ee) (by kernel_rfl)
theorem p_viewportref16bareq1_38 (n : Nat) (a0 a1 a2 a3 a4 a5 : Int) (a6 : NL) (a7 : Int) (hc1 : ¬ (a1 < (1 : Int))) (hc2 : ¬ (a1 > (6 : Int))) (hc3 : ¬ (a2 < (0 : Int))) (hc4 : ¬ (a2 > a4)) (hc5 : ¬ (a5 ≤ a2)) (hc6 : ¬ (a1 = (3 : Int))) (hc7 : ¬ (a1 = (5 : Int))) (hc8 : ¬ (a1 = (6 : Int))) (hc9 : a3 = a2) (hc10 : ¬ (a1 = (4 : Int))) (c11_ : Bool) (hc11 : m_viewportref16leafq1 n a1 = some c11_) (hc12 : ¬ (c11_ = true)) : G_viewportref16bareq1 a0 a1 a2 a3 a4 a5 a6 a7 true :=
 runF2 hm (L := lT []) ⟨[2], [], 0, 0⟩ (zz 7 (xdF hc1) <|
zz 11 (xdF hc2) <|
zz 16 (xdF hc3) <|
zz 23 (xdF hc4) <|
zz 30 (xdF hc5) <|
zz 36 (xeF hc6) <|
zz 40 (xeF hc7) <|
zz 45 (xeF hc8) <|
zz 73 (xnF hc9) <|
zz 80 (xnT hc10) <|
yy 91 (.call (C_viewportref16leafq1 a1 c11_ [] [])) <|
ww (m_viewportref16leafq1_ok n a1 c11_ hc11) <|
yy 92 (vt) <|
ww (p := (Value.bool (!c11_)) = (Value.bool true)) (vBn (Bool.eq_false_iff.2 hc12)) <|
ee) (by kernel_rfl)
theorem p_viewportref16bareq1_39 (n : Nat) (a0 a1 a2 a3 a4 a5 : Int) (a6 : NL) (a7 : Int) (hc1 : ¬ (a1 < (1 : Int))) (hc2 : ¬ (a1 > (6 : Int))) (hc3 : ¬ (a2 < (0 : Int))) (hc4 : ¬ (a2 > a4)) (hc5 : ¬ (a5 ≤ a2)) (hc6 : ¬ (a1 = (3 : Int))) (hc7 : ¬ (a1 = (5 : Int))) (hc8 : ¬ (a1 = (6 : Int))) (hc9 : ¬ (a3 = a2)) : G_viewportref16bareq1 a0 a1 a2 a3 a4 a5 a6 a7 false :=
 runF2 hm (L := lT []) ⟨[2], [], 0, 0⟩ (zz 7 (xdF hc1) <|
zz 11 (xdF hc2) <|
zz 16 (xdF hc3) <|
zz 23 (xdF hc4) <|
zz 30 (xdF hc5) <|
zz 36 (xeF hc6) <|
zz 40 (xeF hc7) <|
zz 45 (xeF hc8) <|
zz 73 (xnT hc9) <|
ee) (by kernel_rfl)
theorem m_viewportref16bareq1_ok (n : Nat) (a0 : Int) (a1 : Int) (a2 : Int) (a3 : Int) (a4 : Int) (a5 : Int) (a6 : NL) (a7 : Int) (r : Bool) (h : m_viewportref16bareq1 n a0 a1 a2 a3 a4 a5 a6 a7 = some r) : Gv P (.func 15) (A_viewportref16bareq1 a0 a1 a2 a3 a4 a5 a6 a7) (H_viewportref16bareq1 a0 a1 a2 a3 a4 a5 a6 a7) (V_viewportref16bareq1 a0 a1 a2 a3 a4 a5 a6 a7 r) (R_viewportref16bareq1 a0 a1 a2 a3 a4 a5 a6 a7 r) := by
 unfold m_viewportref16bareq1 at h
 by_cases hc1 : a1 < (1 : Int)
 ·rw [if_pos hc1] at h
  obtain rfl := Option.some.inj h; exact p_viewportref16bareq1_0 n a0 a1 a2 a3 a4 a5 a6 a7 hc1
 ·rw [if_neg hc1] at h
  by_cases hc2 : a1 > (6 : Int)
  ·rw [if_pos hc2] at h
   obtain rfl := Option.some.inj h; exact p_viewportref16bareq1_1 n a0 a1 a2 a3 a4 a5 a6 a7 hc1 hc2
  ·rw [if_neg hc2] at h
   by_cases hc3 : a2 < (0 : Int)
   ·rw [if_pos hc3] at h
    obtain rfl := Option.some.inj h; exact p_viewportref16bareq1_2 n a0 a1 a2 a3 a4 a5 a6 a7 hc1 hc2 hc3
   ·rw [if_neg hc3] at h
    by_cases hc4 : a2 > a4
    ·rw [if_pos hc4] at h
     obtain rfl := Option.some.inj h; exact p_viewportref16bareq1_3 n a0 a1 a2 a3 a4 a5 a6 a7 hc1 hc2 hc3 hc4
    ·rw [if_neg hc4] at h
     by_cases hc5 : a5 ≤ a2
     ·rw [if_pos hc5] at h
      obtain rfl := Option.some.inj h; exact p_viewportref16bareq1_4 n a0 a1 a2 a3 a4 a5 a6 a7 hc1 hc2 hc3 hc4 hc5
     ·rw [if_neg hc5] at h
      by_cases hc6 : a1 = (3 : Int)
      ·rw [if_pos hc6] at h
       by_cases hc7 : a3 < a2
       ·rw [if_pos hc7] at h
        obtain rfl := Option.some.inj h; exact p_viewportref16bareq1_5 n a0 a1 a2 a3 a4 a5 a6 a7 hc1 hc2 hc3 hc4 hc5 hc6 hc7
       ·rw [if_neg hc7] at h
        by_cases hc8 : a3 > a4
        ·rw [if_pos hc8] at h
         obtain rfl := Option.some.inj h; exact p_viewportref16bareq1_6 n a0 a1 a2 a3 a4 a5 a6 a7 hc1 hc2 hc3 hc4 hc5 hc6 hc7 hc8
        ·rw [if_neg hc8] at h
         by_cases hc9 : a1 = (4 : Int)
         ·rw [if_pos hc9] at h
          by_cases hc10 : a2 = a4
          ·rw [if_pos hc10] at h
           obtain ⟨c11_, hc11, h⟩ := Option.bind_eq_some_iff.1 h
           by_cases hc12 : c11_ = true
           ·rw [if_pos hc12] at h
            by_cases hc13 : (((a6).l.length : Nat) : Int) = (0 : Int)
            ·rw [if_pos hc13] at h
             obtain rfl := Option.some.inj h; exact p_viewportref16bareq1_7 n a0 a1 a2 a3 a4 a5 a6 a7 hc1 hc2 hc3 hc4 hc5 hc6 hc7 hc8 hc9 hc10 c11_ hc11 hc12 hc13
            ·rw [if_neg hc13] at h
             obtain rfl := Option.some.inj h; exact p_viewportref16bareq1_8 n a0 a1 a2 a3 a4 a5 a6 a7 hc1 hc2 hc3 hc4 hc5 hc6 hc7 hc8 hc9 hc10 c11_ hc11 hc12 hc13
           ·rw [if_neg hc12] at h
            obtain rfl := Option.some.inj h; exact p_viewportref16bareq1_9 n a0 a1 a2 a3 a4 a5 a6 a7 hc1 hc2 hc3 hc4 hc5 hc6 hc7 hc8 hc9 hc10 c11_ hc11 hc12
          ·rw [if_neg hc10] at h
           obtain rfl := Option.some.inj h; exact p_viewportref16bareq1_10 n a0 a1 a2 a3 a4 a5 a6 a7 hc1 hc2 hc3 hc4 hc5 hc6 hc7 hc8 hc9 hc10
         ·rw [if_neg hc9] at h
          obtain ⟨c10_, hc10, h⟩ := Option.bind_eq_some_iff.1 h
          by_cases hc11 : c10_ = true
          ·rw [if_pos hc11] at h
           by_cases hc12 : (((a6).l.length : Nat) : Int) = (0 : Int)
           ·rw [if_pos hc12] at h
            obtain rfl := Option.some.inj h; exact p_viewportref16bareq1_11 n a0 a1 a2 a3 a4 a5 a6 a7 hc1 hc2 hc3 hc4 hc5 hc6 hc7 hc8 hc9 c10_ hc10 hc11 hc12
           ·rw [if_neg hc12] at h
            obtain rfl := Option.some.inj h; exact p_viewportref16bareq1_12 n a0 a1 a2 a3 a4 a5 a6 a7 hc1 hc2 hc3 hc4 hc5 hc6 hc7 hc8 hc9 c10_ hc10 hc11 hc12
          ·rw [if_neg hc11] at h
           obtain rfl := Option.some.inj h; exact p_viewportref16bareq1_13 n a0 a1 a2 a3 a4 a5 a6 a7 hc1 hc2 hc3 hc4 hc5 hc6 hc7 hc8 hc9 c10_ hc10 hc11
      ·rw [if_neg hc6] at h
       by_cases hc7 : a1 = (5 : Int)
       ·rw [if_pos hc7] at h
        by_cases hc8 : a3 < a2
        ·rw [if_pos hc8] at h
         obtain rfl := Option.some.inj h; exact p_viewportref16bareq1_14 n a0 a1 a2 a3 a4 a5 a6 a7 hc1 hc2 hc3 hc4 hc5 hc6 hc7 hc8
        ·rw [if_neg hc8] at h
         by_cases hc9 : a3 > a4
         ·rw [if_pos hc9] at h
          obtain rfl := Option.some.inj h; exact p_viewportref16bareq1_15 n a0 a1 a2 a3 a4 a5 a6 a7 hc1 hc2 hc3 hc4 hc5 hc6 hc7 hc8 hc9
         ·rw [if_neg hc9] at h
          by_cases hc10 : a1 = (4 : Int)
          ·rw [if_pos hc10] at h
           by_cases hc11 : a2 = a4
           ·rw [if_pos hc11] at h
            obtain ⟨c12_, hc12, h⟩ := Option.bind_eq_some_iff.1 h
            by_cases hc13 : c12_ = true
            ·rw [if_pos hc13] at h
             by_cases hc14 : (((a6).l.length : Nat) : Int) = (0 : Int)
             ·rw [if_pos hc14] at h
              obtain rfl := Option.some.inj h; exact p_viewportref16bareq1_16 n a0 a1 a2 a3 a4 a5 a6 a7 hc1 hc2 hc3 hc4 hc5 hc6 hc7 hc8 hc9 hc10 hc11 c12_ hc12 hc13 hc14
             ·rw [if_neg hc14] at h
              obtain rfl := Option.some.inj h; exact p_viewportref16bareq1_17 n a0 a1 a2 a3 a4 a5 a6 a7 hc1 hc2 hc3 hc4 hc5 hc6 hc7 hc8 hc9 hc10 hc11 c12_ hc12 hc13 hc14
            ·rw [if_neg hc13] at h
             obtain rfl := Option.some.inj h; exact p_viewportref16bareq1_18 n a0 a1 a2 a3 a4 a5 a6 a7 hc1 hc2 hc3 hc4 hc5 hc6 hc7 hc8 hc9 hc10 hc11 c12_ hc12 hc13
           ·rw [if_neg hc11] at h
            obtain rfl := Option.some.inj h; exact p_viewportref16bareq1_19 n a0 a1 a2 a3 a4 a5 a6 a7 hc1 hc2 hc3 hc4 hc5 hc6 hc7 hc8 hc9 hc10 hc11
          ·rw [if_neg hc10] at h
           obtain ⟨c11_, hc11, h⟩ := Option.bind_eq_some_iff.1 h
           by_cases hc12 : c11_ = true
           ·rw [if_pos hc12] at h
            by_cases hc13 : (((a6).l.length : Nat) : Int) = (0 : Int)
            ·rw [if_pos hc13] at h
             obtain rfl := Option.some.inj h; exact p_viewportref16bareq1_20 n a0 a1 a2 a3 a4 a5 a6 a7 hc1 hc2 hc3 hc4 hc5 hc6 hc7 hc8 hc9 hc10 c11_ hc11 hc12 hc13
            ·rw [if_neg hc13] at h
             obtain rfl := Option.some.inj h; exact p_viewportref16bareq1_21 n a0 a1 a2 a3 a4 a5 a6 a7 hc1 hc2 hc3 hc4 hc5 hc6 hc7 hc8 hc9 hc10 c11_ hc11 hc12 hc13
           ·rw [if_neg hc12] at h
            obtain rfl := Option.some.inj h; exact p_viewportref16bareq1_22 n a0 a1 a2 a3 a4 a5 a6 a7 hc1 hc2 hc3 hc4 hc5 hc6 hc7 hc8 hc9 hc10 c11_ hc11 hc12
       ·rw [if_neg hc7] at h
        by_cases hc8 : a1 = (6 : Int)
        ·rw [if_pos hc8] at h
         by_cases hc9 : a3 < a2
         ·rw [if_pos hc9] at h
          obtain rfl := Option.some.inj h; exact p_viewportref16bareq1_23 n a0 a1 a2 a3 a4 a5 a6 a7 hc1 hc2 hc3 hc4 hc5 hc6 hc7 hc8 hc9
         ·rw [if_neg hc9] at h
          by_cases hc10 : a3 > a4
          ·rw [if_pos hc10] at h
           obtain rfl := Option.some.inj h; exact p_viewportref16bareq1_24 n a0 a1 a2 a3 a4 a5 a6 a7 hc1 hc2 hc3 hc4 hc5 hc6 hc7 hc8 hc9 hc10
          ·rw [if_neg hc10] at h
           by_cases hc11 : a1 = (4 : Int)
           ·rw [if_pos hc11] at h
            by_cases hc12 : a2 = a4
            ·rw [if_pos hc12] at h
             obtain ⟨c13_, hc13, h⟩ := Option.bind_eq_some_iff.1 h
             by_cases hc14 : c13_ = true
             ·rw [if_pos hc14] at h
              by_cases hc15 : (((a6).l.length : Nat) : Int) = (0 : Int)
              ·rw [if_pos hc15] at h
               obtain rfl := Option.some.inj h; exact p_viewportref16bareq1_25 n a0 a1 a2 a3 a4 a5 a6 a7 hc1 hc2 hc3 hc4 hc5 hc6 hc7 hc8 hc9 hc10 hc11 hc12 c13_ hc13 hc14 hc15
              ·rw [if_neg hc15] at h
               obtain rfl := Option.some.inj h; exact p_viewportref16bareq1_26 n a0 a1 a2 a3 a4 a5 a6 a7 hc1 hc2 hc3 hc4 hc5 hc6 hc7 hc8 hc9 hc10 hc11 hc12 c13_ hc13 hc14 hc15
             ·rw [if_neg hc14] at h
              obtain rfl := Option.some.inj h; exact p_viewportref16bareq1_27 n a0 a1 a2 a3 a4 a5 a6 a7 hc1 hc2 hc3 hc4 hc5 hc6 hc7 hc8 hc9 hc10 hc11 hc12 c13_ hc13 hc14
            ·rw [if_neg hc12] at h
             obtain rfl := Option.some.inj h; exact p_viewportref16bareq1_28 n a0 a1 a2 a3 a4 a5 a6 a7 hc1 hc2 hc3 hc4 hc5 hc6 hc7 hc8 hc9 hc10 hc11 hc12
           ·rw [if_neg hc11] at h
            obtain ⟨c12_, hc12, h⟩ := Option.bind_eq_some_iff.1 h
            by_cases hc13 : c12_ = true
            ·rw [if_pos hc13] at h
             by_cases hc14 : (((a6).l.length : Nat) : Int) = (0 : Int)
             ·rw [if_pos hc14] at h
              obtain rfl := Option.some.inj h; exact p_viewportref16bareq1_29 n a0 a1 a2 a3 a4 a5 a6 a7 hc1 hc2 hc3 hc4 hc5 hc6 hc7 hc8 hc9 hc10 hc11 c12_ hc12 hc13 hc14
             ·rw [if_neg hc14] at h
              obtain rfl := Option.some.inj h; exact p_viewportref16bareq1_30 n a0 a1 a2 a3 a4 a5 a6 a7 hc1 hc2 hc3 hc4 hc5 hc6 hc7 hc8 hc9 hc10 hc11 c12_ hc12 hc13 hc14
            ·rw [if_neg hc13] at h
             obtain rfl := Option.some.inj h; exact p_viewportref16bareq1_31 n a0 a1 a2 a3 a4 a5 a6 a7 hc1 hc2 hc3 hc4 hc5 hc6 hc7 hc8 hc9 hc10 hc11 c12_ hc12 hc13
        ·rw [if_neg hc8] at h
         by_cases hc9 : a3 = a2
         ·rw [if_pos hc9] at h
          by_cases hc10 : a1 = (4 : Int)
          ·rw [if_pos hc10] at h
           by_cases hc11 : a2 = a4
           ·rw [if_pos hc11] at h
            obtain ⟨c12_, hc12, h⟩ := Option.bind_eq_some_iff.1 h
            by_cases hc13 : c12_ = true
            ·rw [if_pos hc13] at h
             by_cases hc14 : (((a6).l.length : Nat) : Int) = (0 : Int)
             ·rw [if_pos hc14] at h
              obtain rfl := Option.some.inj h; exact p_viewportref16bareq1_32 n a0 a1 a2 a3 a4 a5 a6 a7 hc1 hc2 hc3 hc4 hc5 hc6 hc7 hc8 hc9 hc10 hc11 c12_ hc12 hc13 hc14
             ·rw [if_neg hc14] at h
              obtain rfl := Option.some.inj h; exact p_viewportref16bareq1_33 n a0 a1 a2 a3 a4 a5 a6 a7 hc1 hc2 hc3 hc4 hc5 hc6 hc7 hc8 hc9 hc10 hc11 c12_ hc12 hc13 hc14
            ·rw [if_neg hc13] at h
             obtain rfl := Option.some.inj h; exact p_viewportref16bareq1_34 n a0 a1 a2 a3 a4 a5 a6 a7 hc1 hc2 hc3 hc4 hc5 hc6 hc7 hc8 hc9 hc10 hc11 c12_ hc12 hc13
           ·rw [if_neg hc11] at h
            obtain rfl := Option.some.inj h; exact p_viewportref16bareq1_35 n a0 a1 a2 a3 a4 a5 a6 a7 hc1 hc2 hc3 hc4 hc5 hc6 hc7 hc8 hc9 hc10 hc11
          ·rw [if_neg hc10] at h
           obtain ⟨c11_, hc11, h⟩ := Option.bind_eq_some_iff.1 h
           by_cases hc12 : c11_ = true
           ·rw [if_pos hc12] at h
            by_cases hc13 : (((a6).l.length : Nat) : Int) = (0 : Int)
            ·rw [if_pos hc13] at h
             obtain rfl := Option.some.inj h; exact p_viewportref16bareq1_36 n a0 a1 a2 a3 a4 a5 a6 a7 hc1 hc2 hc3 hc4 hc5 hc6 hc7 hc8 hc9 hc10 c11_ hc11 hc12 hc13
            ·rw [if_neg hc13] at h
             obtain rfl := Option.some.inj h; exact p_viewportref16bareq1_37 n a0 a1 a2 a3 a4 a5 a6 a7 hc1 hc2 hc3 hc4 hc5 hc6 hc7 hc8 hc9 hc10 c11_ hc11 hc12 hc13
           ·rw [if_neg hc12] at h
            obtain rfl := Option.some.inj h; exact p_viewportref16bareq1_38 n a0 a1 a2 a3 a4 a5 a6 a7 hc1 hc2 hc3 hc4 hc5 hc6 hc7 hc8 hc9 hc10 c11_ hc11 hc12
         ·rw [if_neg hc9] at h
          obtain rfl := Option.some.inj h; exact p_viewportref16bareq1_39 n a0 a1 a2 a3 a4 a5 a6 a7 hc1 hc2 hc3 hc4 hc5 hc6 hc7 hc8 hc9

noncomputable def A_viewportref16endq1 (a0 : Int) : List Value := [(sW 1 0 (Args.B).length Args.cB), (i6 a0)]
noncomputable def H_viewportref16endq1 (a0 : Int) : AH := ⟨sB [], 0, 0⟩
noncomputable def V_viewportref16endq1 (a0 : Int) (r : Int) : Value := match r with
 | o0 => (i6 o0)
noncomputable def R_viewportref16endq1 (a0 : Int) (r : Int) : AH := match r with
 | o0 => ⟨sB [], 0, 0⟩
noncomputable abbrev G_viewportref16endq1 (a0 : Int) (r : Int) : Prop := Gv P (.func 16) (A_viewportref16endq1 a0) (H_viewportref16endq1 a0) (V_viewportref16endq1 a0 r) (R_viewportref16endq1 a0 r)
noncomputable abbrev C_viewportref16endq1 (a0 : Int) (r : Int) (ins outs : BL) : CallA := ⟨0, ins, V_viewportref16endq1 a0 r, R_viewportref16endq1 a0 r, outs⟩
noncomputable def S_viewportref16endq1_1 (x1_0 : Int) (st : Int × Int × Int) : XSt := match st with
 | (x1_1, x1_2, x1_3) => (sT 68 [(0, (sW 1 0 (Args.B).length Args.cB)), (1, (i6 x1_0)), (5, (i6 x1_1)), (6, (i6 x1_2)), (7, (i6 x1_3))], [], ⟨sB [], 0, 0⟩)
noncomputable def X_viewportref16endq1_1 (x1_0 : Int) (r : (Unit) ⊕ (Int × Int)) : Ex × XSt := match r with
 | .inl _ => (.ret, (sT 68 [(4, (i6 (-1 : Int)))], [], ⟨sB [], 0, 0⟩))
 | .inr (z1_0, z1_1) => (.exit 0, (sT 68 [(0, (sW 1 0 (Args.B).length Args.cB)), (1, (i6 x1_0)), (5, (i6 z1_0)), (6, (i6 z1_1))], [], ⟨sB [], 0, 0⟩))
noncomputable abbrev Q_viewportref16endq1_1 (rnd : Option Nat) (x1_0 : Int) (st : Int × Int × Int) (c : Ex × XSt) : Prop := CG P rnd (fnN P 16) 0 (codeOf P 16 [false, false, true, false, true, true]) (S_viewportref16endq1_1 x1_0 st) c
noncomputable abbrev U_viewportref16endq1_1 (rd : Option Nat) (x1_0 : Int) (st : Int × Int × Int) (r : (Unit) ⊕ (Int × Int)) : Prop := CG P rd (fnN P 16) 0 (codeOf P 16 [false, true, false, true, true]) (S_viewportref16endq1_1 x1_0 st) (X_viewportref16endq1_1 x1_0 r)
def B_viewportref16endq1_1 (rec_viewportref16endq1 : (Int) → Option (Int)) (n : Nat) (x1_0 : Int) (st : Int × Int × Int) : Option ((Int × Int × Int) ⊕ ((Unit) ⊕ (Int × Int))) := match st with
 | (x1_1, x1_2, x1_3) =>
  if 0 ≤ x1_0 ∧ x1_0 < (((Args.B).length : Nat) : Int) then
   ((some ((Args.B).getD (x1_0).toNat (0, 0, 0, 0, 0, 0, nl0, 0)))).bind fun y1_2_ =>
   if x1_3 < ((((y1_2_.2.2.2.2.2.2.1)).l.length : Nat) : Int) then
    if 0 ≤ x1_3 ∧ x1_3 < ((((y1_2_.2.2.2.2.2.2.1)).l.length : Nat) : Int) then
     if (x1_3).toNat < (((y1_2_.2.2.2.2.2.2.1)).l).length then
      ((some ((((y1_2_.2.2.2.2.2.2.1)).l).getD (x1_3).toNat 0))).bind fun y1_6_ =>
      if y1_6_ = x1_1 then
       if x1_1 ≥ (((Args.B).length : Nat) : Int) then
        some (.inr (.inl ()))
       else
        if 0 ≤ x1_1 ∧ x1_1 < (((Args.B).length : Nat) : Int) then
         ((some ((Args.B).getD (x1_1).toNat (0, 0, 0, 0, 0, 0, nl0, 0)))).bind fun y1_10_ =>
         if (y1_10_.2.2.1) < x1_2 then
          some (.inr (.inl ()))
         else
          (rec_viewportref16endq1 x1_1).bind fun y1_12_ =>
          if y1_12_ < (0 : Int) then
           some (.inr (.inl ()))
          else
           some (.inl (y1_12_, (y1_10_.2.2.2.2.1), (w64 (x1_3 + (1 : Int)))))
        else none
      else
       some (.inr (.inl ()))
     else none
    else none
   else
    some (.inr (.inr (x1_1, x1_2)))
  else none
def m_viewportref16endq1_1 (rec_viewportref16endq1 : (Int) → Option (Int)) (n : Nat) (x1_0 : Int) (st : Int × Int × Int) : Option ((Unit) ⊕ (Int × Int)) := iterM (B_viewportref16endq1_1 rec_viewportref16endq1 n x1_0) n st
theorem q_viewportref16endq1_1_0 (rec_viewportref16endq1 : (Int) → Option (Int)) (hrec_viewportref16endq1 : ∀ (a0 : Int) (r : Int), rec_viewportref16endq1 a0 = some r → Gv P (.func 16) (A_viewportref16endq1 a0) (H_viewportref16endq1 a0) (V_viewportref16endq1 a0 r) (R_viewportref16endq1 a0 r)) (n : Nat) {rnd : Option Nat} (x1_0 x1_1 x1_2 x1_3 : Int) (hy1_1 : 0 ≤ x1_0 ∧ x1_0 < (((Args.B).length : Nat) : Int)) (y1_2_ : Int × Int × Int × Int × Int × Int × NL × Int) (hy1_2 : (some ((Args.B).getD (x1_0).toNat (0, 0, 0, 0, 0, 0, nl0, 0))) = some y1_2_) (hy1_3 : x1_3 < ((((y1_2_.2.2.2.2.2.2.1)).l.length : Nat) : Int)) (hy1_4 : 0 ≤ x1_3 ∧ x1_3 < ((((y1_2_.2.2.2.2.2.2.1)).l.length : Nat) : Int)) (hy1_5 : (x1_3).toNat < (((y1_2_.2.2.2.2.2.2.1)).l).length) (y1_6_ : Int) (hy1_6 : (some ((((y1_2_.2.2.2.2.2.2.1)).l).getD (x1_3).toNat 0)) = some y1_6_) (hy1_7 : y1_6_ = x1_1) (hy1_8 : x1_1 ≥ (((Args.B).length : Nat) : Int)) : Q_viewportref16endq1_1 rnd x1_0 (x1_1, x1_2, x1_3) (X_viewportref16endq1_1 x1_0 (.inl ())) :=
 runC2 hm (L := lT []) ⟨[4], [], 0, 0⟩ (zz 5 (xk4 1 Args.cB hy1_1) <|
zz 6 (fk10 ((x1_0).toNat * 8)) <|
zz 7 (lk11 hy1_2 (toNatLt hy1_1)) <|
zz 9 (xdT hy1_3) <|
zz 17 (xk4 1 Args.cB hy1_1) <|
zz 18 (fk10 ((x1_0).toNat * 8)) <|
zz 19 (lk11 hy1_2 (toNatLt hy1_1)) <|
zz 21 (xk12 (Nat.add ((y1_2_.2.2.2.2.2.2.1)).num 64) ((y1_2_.2.2.2.2.2.2.1)).cap hy1_4) <|
zz 22 (nk13 hy1_6 hy1_5) <|
zz 24 (xnF hy1_7) <|
zz 29 (xdT hy1_8) <|
ee) (by kernel_rfl)
theorem q_viewportref16endq1_1_1 (rec_viewportref16endq1 : (Int) → Option (Int)) (hrec_viewportref16endq1 : ∀ (a0 : Int) (r : Int), rec_viewportref16endq1 a0 = some r → Gv P (.func 16) (A_viewportref16endq1 a0) (H_viewportref16endq1 a0) (V_viewportref16endq1 a0 r) (R_viewportref16endq1 a0 r)) (n : Nat) {rnd : Option Nat} (x1_0 x1_1 x1_2 x1_3 : Int) (hy1_1 : 0 ≤ x1_0 ∧ x1_0 < (((Args.B).length : Nat) : Int)) (y1_2_ : Int × Int × Int × Int × Int × Int × NL × Int) (hy1_2 : (some ((Args.B).getD (x1_0).toNat (0, 0, 0, 0, 0, 0, nl0, 0))) = some y1_2_) (hy1_3 : x1_3 < ((((y1_2_.2.2.2.2.2.2.1)).l.length : Nat) : Int)) (hy1_4 : 0 ≤ x1_3 ∧ x1_3 < ((((y1_2_.2.2.2.2.2.2.1)).l.length : Nat) : Int)) (hy1_5 : (x1_3).toNat < (((y1_2_.2.2.2.2.2.2.1)).l).length) (y1_6_ : Int) (hy1_6 : (some ((((y1_2_.2.2.2.2.2.2.1)).l).getD (x1_3).toNat 0)) = some y1_6_) (hy1_7 : y1_6_ = x1_1) (hy1_8 : ¬ (x1_1 ≥ (((Args.B).length : Nat) : Int))) (hy1_9 : 0 ≤ x1_1 ∧ x1_1 < (((Args.B).length : Nat) : Int)) (y1_10_ : Int × Int × Int × Int × Int × Int × NL × Int) (hy1_10 : (some ((Args.B).getD (x1_1).toNat (0, 0, 0, 0, 0, 0, nl0, 0))) = some y1_10_) (hy1_11 : (y1_10_.2.2.1) < x1_2) : Q_viewportref16endq1_1 rnd x1_0 (x1_1, x1_2, x1_3) (X_viewportref16endq1_1 x1_0 (.inl ())) :=
 runC2 hm (L := lT []) ⟨[4], [], 0, 0⟩ (zz 5 (xk4 1 Args.cB hy1_1) <|
zz 6 (fk10 ((x1_0).toNat * 8)) <|
zz 7 (lk11 hy1_2 (toNatLt hy1_1)) <|
zz 9 (xdT hy1_3) <|
zz 17 (xk4 1 Args.cB hy1_1) <|
zz 18 (fk10 ((x1_0).toNat * 8)) <|
zz 19 (lk11 hy1_2 (toNatLt hy1_1)) <|
zz 21 (xk12 (Nat.add ((y1_2_.2.2.2.2.2.2.1)).num 64) ((y1_2_.2.2.2.2.2.2.1)).cap hy1_4) <|
zz 22 (nk13 hy1_6 hy1_5) <|
zz 24 (xnF hy1_7) <|
zz 29 (xdF hy1_8) <|
zz 34 (xk4 1 Args.cB hy1_9) <|
zz 35 (fk8 ((x1_1).toNat * 8)) <|
zz 36 (lk9 hy1_10 (toNatLt hy1_9)) <|
zz 38 (xdT hy1_11) <|
ee) (by kernel_rfl)
theorem q_viewportref16endq1_1_2 (rec_viewportref16endq1 : (Int) → Option (Int)) (hrec_viewportref16endq1 : ∀ (a0 : Int) (r : Int), rec_viewportref16endq1 a0 = some r → Gv P (.func 16) (A_viewportref16endq1 a0) (H_viewportref16endq1 a0) (V_viewportref16endq1 a0 r) (R_viewportref16endq1 a0 r)) (n : Nat) {rnd : Option Nat} (x1_0 x1_1 x1_2 x1_3 : Int) (hy1_1 : 0 ≤ x1_0 ∧ x1_0 < (((Args.B).length : Nat) : Int)) (y1_2_ : Int × Int × Int × Int × Int × Int × NL × Int) (hy1_2 : (some ((Args.B).getD (x1_0).toNat (0, 0, 0, 0, 0, 0, nl0, 0))) = some y1_2_) (hy1_3 : x1_3 < ((((y1_2_.2.2.2.2.2.2.1)).l.length : Nat) : Int)) (hy1_4 : 0 ≤ x1_3 ∧ x1_3 < ((((y1_2_.2.2.2.2.2.2.1)).l.length : Nat) : Int)) (hy1_5 : (x1_3).toNat < (((y1_2_.2.2.2.2.2.2.1)).l).length) (y1_6_ : Int) (hy1_6 : (some ((((y1_2_.2.2.2.2.2.2.1)).l).getD (x1_3).toNat 0)) = some y1_6_) (hy1_7 : y1_6_ = x1_1) (hy1_8 : ¬ (x1_1 ≥ (((Args.B).length : Nat) : Int))) (hy1_9 : 0 ≤ x1_1 ∧ x1_1 < (((Args.B).length : Nat) : Int)) (y1_10_ : Int × Int × Int × Int × Int × Int × NL × Int) (hy1_10 : (some ((Args.B).getD (x1_1).toNat (0, 0, 0, 0, 0, 0, nl0, 0))) = some y1_10_) (hy1_11 : ¬ ((y1_10_.2.2.1) < x1_2)) (y1_12_ : Int) (hy1_12 : rec_viewportref16endq1 x1_1 = some y1_12_) (hy1_13 : y1_12_ < (0 : Int)) : Q_viewportref16endq1_1 rnd x1_0 (x1_1, x1_2, x1_3) (X_viewportref16endq1_1 x1_0 (.inl ())) :=
 runC2 hm (L := lT []) ⟨[4], [], 0, 0⟩ (zz 5 (xk4 1 Args.cB hy1_1) <|
zz 6 (fk10 ((x1_0).toNat * 8)) <|
zz 7 (lk11 hy1_2 (toNatLt hy1_1)) <|
zz 9 (xdT hy1_3) <|
zz 17 (xk4 1 Args.cB hy1_1) <|
zz 18 (fk10 ((x1_0).toNat * 8)) <|
zz 19 (lk11 hy1_2 (toNatLt hy1_1)) <|
zz 21 (xk12 (Nat.add ((y1_2_.2.2.2.2.2.2.1)).num 64) ((y1_2_.2.2.2.2.2.2.1)).cap hy1_4) <|
zz 22 (nk13 hy1_6 hy1_5) <|
zz 24 (xnF hy1_7) <|
zz 29 (xdF hy1_8) <|
zz 34 (xk4 1 Args.cB hy1_9) <|
zz 35 (fk8 ((x1_1).toNat * 8)) <|
zz 36 (lk9 hy1_10 (toNatLt hy1_9)) <|
zz 38 (xdF hy1_11) <|
zz 44 (xk4 1 Args.cB hy1_9) <|
zz 45 (fk14 ((x1_1).toNat * 8)) <|
zz 46 (lk15 hy1_10 (toNatLt hy1_9)) <|
yy 51 (.call (C_viewportref16endq1 x1_1 y1_12_ [] [])) <|
ww (hrec_viewportref16endq1 x1_1 y1_12_ hy1_12) <|
zz 55 (xdT hy1_13) <|
ee) (by kernel_rfl)
theorem q_viewportref16endq1_1_3 (rec_viewportref16endq1 : (Int) → Option (Int)) (hrec_viewportref16endq1 : ∀ (a0 : Int) (r : Int), rec_viewportref16endq1 a0 = some r → Gv P (.func 16) (A_viewportref16endq1 a0) (H_viewportref16endq1 a0) (V_viewportref16endq1 a0 r) (R_viewportref16endq1 a0 r)) (n : Nat) {rnd : Option Nat} (x1_0 x1_1 x1_2 x1_3 : Int) (hy1_1 : 0 ≤ x1_0 ∧ x1_0 < (((Args.B).length : Nat) : Int)) (y1_2_ : Int × Int × Int × Int × Int × Int × NL × Int) (hy1_2 : (some ((Args.B).getD (x1_0).toNat (0, 0, 0, 0, 0, 0, nl0, 0))) = some y1_2_) (hy1_3 : x1_3 < ((((y1_2_.2.2.2.2.2.2.1)).l.length : Nat) : Int)) (hy1_4 : 0 ≤ x1_3 ∧ x1_3 < ((((y1_2_.2.2.2.2.2.2.1)).l.length : Nat) : Int)) (hy1_5 : (x1_3).toNat < (((y1_2_.2.2.2.2.2.2.1)).l).length) (y1_6_ : Int) (hy1_6 : (some ((((y1_2_.2.2.2.2.2.2.1)).l).getD (x1_3).toNat 0)) = some y1_6_) (hy1_7 : y1_6_ = x1_1) (hy1_8 : ¬ (x1_1 ≥ (((Args.B).length : Nat) : Int))) (hy1_9 : 0 ≤ x1_1 ∧ x1_1 < (((Args.B).length : Nat) : Int)) (y1_10_ : Int × Int × Int × Int × Int × Int × NL × Int) (hy1_10 : (some ((Args.B).getD (x1_1).toNat (0, 0, 0, 0, 0, 0, nl0, 0))) = some y1_10_) (hy1_11 : ¬ ((y1_10_.2.2.1) < x1_2)) (y1_12_ : Int) (hy1_12 : rec_viewportref16endq1 x1_1 = some y1_12_) (hy1_13 : ¬ (y1_12_ < (0 : Int))) : Q_viewportref16endq1_1 rnd x1_0 (x1_1, x1_2, x1_3) (.normal, S_viewportref16endq1_1 x1_0 (y1_12_, (y1_10_.2.2.2.2.1), (w64 (x1_3 + (1 : Int))))) :=
 runC2 hm (L := lT []) ⟨[0, 1, 5, 6, 7], [], 0, 0⟩ (zz 5 (xk4 1 Args.cB hy1_1) <|
zz 6 (fk10 ((x1_0).toNat * 8)) <|
zz 7 (lk11 hy1_2 (toNatLt hy1_1)) <|
zz 9 (xdT hy1_3) <|
zz 17 (xk4 1 Args.cB hy1_1) <|
zz 18 (fk10 ((x1_0).toNat * 8)) <|
zz 19 (lk11 hy1_2 (toNatLt hy1_1)) <|
zz 21 (xk12 (Nat.add ((y1_2_.2.2.2.2.2.2.1)).num 64) ((y1_2_.2.2.2.2.2.2.1)).cap hy1_4) <|
zz 22 (nk13 hy1_6 hy1_5) <|
zz 24 (xnF hy1_7) <|
zz 29 (xdF hy1_8) <|
zz 34 (xk4 1 Args.cB hy1_9) <|
zz 35 (fk8 ((x1_1).toNat * 8)) <|
zz 36 (lk9 hy1_10 (toNatLt hy1_9)) <|
zz 38 (xdF hy1_11) <|
zz 44 (xk4 1 Args.cB hy1_9) <|
zz 45 (fk14 ((x1_1).toNat * 8)) <|
zz 46 (lk15 hy1_10 (toNatLt hy1_9)) <|
yy 51 (.call (C_viewportref16endq1 x1_1 y1_12_ [] [])) <|
ww (hrec_viewportref16endq1 x1_1 y1_12_ hy1_12) <|
zz 55 (xdF hy1_13) <|
ee) (by kernel_rfl)
theorem q_viewportref16endq1_1_4 (rec_viewportref16endq1 : (Int) → Option (Int)) (hrec_viewportref16endq1 : ∀ (a0 : Int) (r : Int), rec_viewportref16endq1 a0 = some r → Gv P (.func 16) (A_viewportref16endq1 a0) (H_viewportref16endq1 a0) (V_viewportref16endq1 a0 r) (R_viewportref16endq1 a0 r)) (n : Nat) {rnd : Option Nat} (x1_0 x1_1 x1_2 x1_3 : Int) (hy1_1 : 0 ≤ x1_0 ∧ x1_0 < (((Args.B).length : Nat) : Int)) (y1_2_ : Int × Int × Int × Int × Int × Int × NL × Int) (hy1_2 : (some ((Args.B).getD (x1_0).toNat (0, 0, 0, 0, 0, 0, nl0, 0))) = some y1_2_) (hy1_3 : x1_3 < ((((y1_2_.2.2.2.2.2.2.1)).l.length : Nat) : Int)) (hy1_4 : 0 ≤ x1_3 ∧ x1_3 < ((((y1_2_.2.2.2.2.2.2.1)).l.length : Nat) : Int)) (hy1_5 : (x1_3).toNat < (((y1_2_.2.2.2.2.2.2.1)).l).length) (y1_6_ : Int) (hy1_6 : (some ((((y1_2_.2.2.2.2.2.2.1)).l).getD (x1_3).toNat 0)) = some y1_6_) (hy1_7 : ¬ (y1_6_ = x1_1)) : Q_viewportref16endq1_1 rnd x1_0 (x1_1, x1_2, x1_3) (X_viewportref16endq1_1 x1_0 (.inl ())) :=
 runC2 hm (L := lT []) ⟨[4], [], 0, 0⟩ (zz 5 (xk4 1 Args.cB hy1_1) <|
zz 6 (fk10 ((x1_0).toNat * 8)) <|
zz 7 (lk11 hy1_2 (toNatLt hy1_1)) <|
zz 9 (xdT hy1_3) <|
zz 17 (xk4 1 Args.cB hy1_1) <|
zz 18 (fk10 ((x1_0).toNat * 8)) <|
zz 19 (lk11 hy1_2 (toNatLt hy1_1)) <|
zz 21 (xk12 (Nat.add ((y1_2_.2.2.2.2.2.2.1)).num 64) ((y1_2_.2.2.2.2.2.2.1)).cap hy1_4) <|
zz 22 (nk13 hy1_6 hy1_5) <|
zz 24 (xnT hy1_7) <|
ee) (by kernel_rfl)
theorem q_viewportref16endq1_1_5 (rec_viewportref16endq1 : (Int) → Option (Int)) (hrec_viewportref16endq1 : ∀ (a0 : Int) (r : Int), rec_viewportref16endq1 a0 = some r → Gv P (.func 16) (A_viewportref16endq1 a0) (H_viewportref16endq1 a0) (V_viewportref16endq1 a0 r) (R_viewportref16endq1 a0 r)) (n : Nat) {rnd : Option Nat} (x1_0 x1_1 x1_2 x1_3 : Int) (hy1_1 : 0 ≤ x1_0 ∧ x1_0 < (((Args.B).length : Nat) : Int)) (y1_2_ : Int × Int × Int × Int × Int × Int × NL × Int) (hy1_2 : (some ((Args.B).getD (x1_0).toNat (0, 0, 0, 0, 0, 0, nl0, 0))) = some y1_2_) (hy1_3 : ¬ (x1_3 < ((((y1_2_.2.2.2.2.2.2.1)).l.length : Nat) : Int))) : Q_viewportref16endq1_1 rnd x1_0 (x1_1, x1_2, x1_3) (X_viewportref16endq1_1 x1_0 (.inr (x1_1, x1_2))) :=
 runC2 hm (L := lT []) ⟨[0, 1, 5, 6], [], 0, 0⟩ (zz 5 (xk4 1 Args.cB hy1_1) <|
zz 6 (fk10 ((x1_0).toNat * 8)) <|
zz 7 (lk11 hy1_2 (toNatLt hy1_1)) <|
zz 9 (xdF hy1_3) <|
ee) (by kernel_rfl)
theorem m_viewportref16endq1_1_ok (rec_viewportref16endq1 : (Int) → Option (Int)) (hrec_viewportref16endq1 : ∀ (a0 : Int) (r : Int), rec_viewportref16endq1 a0 = some r → Gv P (.func 16) (A_viewportref16endq1 a0) (H_viewportref16endq1 a0) (V_viewportref16endq1 a0 r) (R_viewportref16endq1 a0 r)) (n : Nat) {rnd : Option Nat} (x1_0 : Int) (st : Int × Int × Int) (r : (Unit) ⊕ (Int × Int)) (h : m_viewportref16endq1_1 rec_viewportref16endq1 n x1_0 st = some r) : CG P rnd (fnN P 16) 0 (codeOf P 16 [false, true, false, true, true]) (S_viewportref16endq1_1 x1_0 st) (X_viewportref16endq1_1 x1_0 r) :=
 CG.iter (b := codeOf P 16 [false, false, true, false, true, true]) (by kernel_rfl) (body := B_viewportref16endq1_1 rec_viewportref16endq1 n x1_0) (S := S_viewportref16endq1_1 x1_0) (X := X_viewportref16endq1_1 x1_0)
  (fun s s' h => by
  obtain ⟨x1_1, x1_2, x1_3⟩ := s
  unfold B_viewportref16endq1_1 at h
  dsimp only at h
  by_cases hy1_1 : 0 ≤ x1_0 ∧ x1_0 < (((Args.B).length : Nat) : Int)
  ·rw [if_pos hy1_1] at h
   obtain ⟨y1_2_, hy1_2, h⟩ := Option.bind_eq_some_iff.1 h
   by_cases hy1_3 : x1_3 < ((((y1_2_.2.2.2.2.2.2.1)).l.length : Nat) : Int)
   ·rw [if_pos hy1_3] at h
    by_cases hy1_4 : 0 ≤ x1_3 ∧ x1_3 < ((((y1_2_.2.2.2.2.2.2.1)).l.length : Nat) : Int)
    ·rw [if_pos hy1_4] at h
     by_cases hy1_5 : (x1_3).toNat < (((y1_2_.2.2.2.2.2.2.1)).l).length
     ·rw [if_pos hy1_5] at h
      obtain ⟨y1_6_, hy1_6, h⟩ := Option.bind_eq_some_iff.1 h
      by_cases hy1_7 : y1_6_ = x1_1
      ·rw [if_pos hy1_7] at h
       by_cases hy1_8 : x1_1 ≥ (((Args.B).length : Nat) : Int)
       ·rw [if_pos hy1_8] at h
        cases h
       ·rw [if_neg hy1_8] at h
        by_cases hy1_9 : 0 ≤ x1_1 ∧ x1_1 < (((Args.B).length : Nat) : Int)
        ·rw [if_pos hy1_9] at h
         obtain ⟨y1_10_, hy1_10, h⟩ := Option.bind_eq_some_iff.1 h
         by_cases hy1_11 : (y1_10_.2.2.1) < x1_2
         ·rw [if_pos hy1_11] at h
          cases h
         ·rw [if_neg hy1_11] at h
          obtain ⟨y1_12_, hy1_12, h⟩ := Option.bind_eq_some_iff.1 h
          by_cases hy1_13 : y1_12_ < (0 : Int)
          ·rw [if_pos hy1_13] at h
           cases h
          ·rw [if_neg hy1_13] at h
           obtain rfl := Sum.inl.inj (Option.some.inj h); exact q_viewportref16endq1_1_3 rec_viewportref16endq1 hrec_viewportref16endq1 n x1_0 x1_1 x1_2 x1_3 hy1_1 y1_2_ hy1_2 hy1_3 hy1_4 hy1_5 y1_6_ hy1_6 hy1_7 hy1_8 hy1_9 y1_10_ hy1_10 hy1_11 y1_12_ hy1_12 hy1_13
        ·rw [if_neg hy1_9] at h; cases h
      ·rw [if_neg hy1_7] at h
       cases h
     ·rw [if_neg hy1_5] at h; cases h
    ·rw [if_neg hy1_4] at h; cases h
   ·rw [if_neg hy1_3] at h
    cases h
  ·rw [if_neg hy1_1] at h; cases h)
  (fun s r h => by
  obtain ⟨x1_1, x1_2, x1_3⟩ := s
  unfold B_viewportref16endq1_1 at h
  dsimp only at h
  by_cases hy1_1 : 0 ≤ x1_0 ∧ x1_0 < (((Args.B).length : Nat) : Int)
  ·rw [if_pos hy1_1] at h
   obtain ⟨y1_2_, hy1_2, h⟩ := Option.bind_eq_some_iff.1 h
   by_cases hy1_3 : x1_3 < ((((y1_2_.2.2.2.2.2.2.1)).l.length : Nat) : Int)
   ·rw [if_pos hy1_3] at h
    by_cases hy1_4 : 0 ≤ x1_3 ∧ x1_3 < ((((y1_2_.2.2.2.2.2.2.1)).l.length : Nat) : Int)
    ·rw [if_pos hy1_4] at h
     by_cases hy1_5 : (x1_3).toNat < (((y1_2_.2.2.2.2.2.2.1)).l).length
     ·rw [if_pos hy1_5] at h
      obtain ⟨y1_6_, hy1_6, h⟩ := Option.bind_eq_some_iff.1 h
      by_cases hy1_7 : y1_6_ = x1_1
      ·rw [if_pos hy1_7] at h
       by_cases hy1_8 : x1_1 ≥ (((Args.B).length : Nat) : Int)
       ·rw [if_pos hy1_8] at h
        obtain rfl := Sum.inr.inj (Option.some.inj h); exact q_viewportref16endq1_1_0 rec_viewportref16endq1 hrec_viewportref16endq1 n x1_0 x1_1 x1_2 x1_3 hy1_1 y1_2_ hy1_2 hy1_3 hy1_4 hy1_5 y1_6_ hy1_6 hy1_7 hy1_8
       ·rw [if_neg hy1_8] at h
        by_cases hy1_9 : 0 ≤ x1_1 ∧ x1_1 < (((Args.B).length : Nat) : Int)
        ·rw [if_pos hy1_9] at h
         obtain ⟨y1_10_, hy1_10, h⟩ := Option.bind_eq_some_iff.1 h
         by_cases hy1_11 : (y1_10_.2.2.1) < x1_2
         ·rw [if_pos hy1_11] at h
          obtain rfl := Sum.inr.inj (Option.some.inj h); exact q_viewportref16endq1_1_1 rec_viewportref16endq1 hrec_viewportref16endq1 n x1_0 x1_1 x1_2 x1_3 hy1_1 y1_2_ hy1_2 hy1_3 hy1_4 hy1_5 y1_6_ hy1_6 hy1_7 hy1_8 hy1_9 y1_10_ hy1_10 hy1_11
         ·rw [if_neg hy1_11] at h
          obtain ⟨y1_12_, hy1_12, h⟩ := Option.bind_eq_some_iff.1 h
          by_cases hy1_13 : y1_12_ < (0 : Int)
          ·rw [if_pos hy1_13] at h
           obtain rfl := Sum.inr.inj (Option.some.inj h); exact q_viewportref16endq1_1_2 rec_viewportref16endq1 hrec_viewportref16endq1 n x1_0 x1_1 x1_2 x1_3 hy1_1 y1_2_ hy1_2 hy1_3 hy1_4 hy1_5 y1_6_ hy1_6 hy1_7 hy1_8 hy1_9 y1_10_ hy1_10 hy1_11 y1_12_ hy1_12 hy1_13
          ·rw [if_neg hy1_13] at h
           cases h
        ·rw [if_neg hy1_9] at h; cases h
      ·rw [if_neg hy1_7] at h
       obtain rfl := Sum.inr.inj (Option.some.inj h); exact q_viewportref16endq1_1_4 rec_viewportref16endq1 hrec_viewportref16endq1 n x1_0 x1_1 x1_2 x1_3 hy1_1 y1_2_ hy1_2 hy1_3 hy1_4 hy1_5 y1_6_ hy1_6 hy1_7
     ·rw [if_neg hy1_5] at h; cases h
    ·rw [if_neg hy1_4] at h; cases h
   ·rw [if_neg hy1_3] at h
    obtain rfl := Sum.inr.inj (Option.some.inj h); exact q_viewportref16endq1_1_5 rec_viewportref16endq1 hrec_viewportref16endq1 n x1_0 x1_1 x1_2 x1_3 hy1_1 y1_2_ hy1_2 hy1_3
  ·rw [if_neg hy1_1] at h; cases h)
  (fun r => by intro hx; rcases r with _ | _ <;> cases hx) h
def s_viewportref16endq1 (rec_viewportref16endq1 : (Int) → Option (Int)) (n : Nat) (a0 : Int) : Option (Int) :=
 if 0 ≤ a0 ∧ a0 < (((Args.B).length : Nat) : Int) then
  ((some ((Args.B).getD (a0).toNat (0, 0, 0, 0, 0, 0, nl0, 0)))).bind fun c2_ =>
  match m_viewportref16endq1_1 rec_viewportref16endq1 n a0 ((w64 (a0 + (1 : Int))), (c2_.2.2.1), 0) with
  | none => none
  | some (.inl _) =>
   some (-1)
  | some (.inr (c3_0, c3_1)) =>
   if c3_1 > (c2_.2.2.2.2.1) then
    some (-1)
   else
    some c3_0
 else none
theorem p_viewportref16endq1_0 (rec_viewportref16endq1 : (Int) → Option (Int)) (hrec_viewportref16endq1 : ∀ (a0 : Int) (r : Int), rec_viewportref16endq1 a0 = some r → Gv P (.func 16) (A_viewportref16endq1 a0) (H_viewportref16endq1 a0) (V_viewportref16endq1 a0 r) (R_viewportref16endq1 a0 r)) (n : Nat) (a0 : Int) (hc1 : 0 ≤ a0 ∧ a0 < (((Args.B).length : Nat) : Int)) (c2_ : Int × Int × Int × Int × Int × Int × NL × Int) (hc2 : (some ((Args.B).getD (a0).toNat (0, 0, 0, 0, 0, 0, nl0, 0))) = some c2_) (hc3 : m_viewportref16endq1_1 rec_viewportref16endq1 n a0 ((w64 (a0 + (1 : Int))), (c2_.2.2.1), 0) = some (.inl ())) : G_viewportref16endq1 a0 (-1) :=
 runF2 hm (L := lT [(16, ⟨⟨[0, 1, 5, 6, 7], [], 0, 0⟩, (X_viewportref16endq1_1 a0 (.inl ())).1, (X_viewportref16endq1_1 a0 (.inl ())).2⟩)]) ⟨[4], [], 0, 0⟩ (zz 7 (xk4 1 Args.cB hc1) <|
zz 8 (fk8 ((a0).toNat * 8)) <|
zz 9 (lk9 hc2 (toNatLt hc1)) <|
ww (p := U_viewportref16endq1_1 none a0 ((w64 (a0 + (1 : Int))), (c2_.2.2.1), 0) (.inl ())) (m_viewportref16endq1_1_ok rec_viewportref16endq1 hrec_viewportref16endq1 n a0 ((w64 (a0 + (1 : Int))), (c2_.2.2.1), 0) (.inl ()) hc3) <|
ee) (by kernel_rfl)
theorem p_viewportref16endq1_1 (rec_viewportref16endq1 : (Int) → Option (Int)) (hrec_viewportref16endq1 : ∀ (a0 : Int) (r : Int), rec_viewportref16endq1 a0 = some r → Gv P (.func 16) (A_viewportref16endq1 a0) (H_viewportref16endq1 a0) (V_viewportref16endq1 a0 r) (R_viewportref16endq1 a0 r)) (n : Nat) (a0 : Int) (hc1 : 0 ≤ a0 ∧ a0 < (((Args.B).length : Nat) : Int)) (c2_ : Int × Int × Int × Int × Int × Int × NL × Int) (hc2 : (some ((Args.B).getD (a0).toNat (0, 0, 0, 0, 0, 0, nl0, 0))) = some c2_) (c3_0 c3_1 : Int) (hc3 : m_viewportref16endq1_1 rec_viewportref16endq1 n a0 ((w64 (a0 + (1 : Int))), (c2_.2.2.1), 0) = some (.inr (c3_0, c3_1))) (hc4 : c3_1 > (c2_.2.2.2.2.1)) : G_viewportref16endq1 a0 (-1) :=
 runF2 hm (L := lT [(16, ⟨⟨[0, 1, 5, 6, 7], [], 0, 0⟩, (X_viewportref16endq1_1 a0 (.inr (c3_0, c3_1))).1, (X_viewportref16endq1_1 a0 (.inr (c3_0, c3_1))).2⟩)]) ⟨[4], [], 0, 0⟩ (zz 7 (xk4 1 Args.cB hc1) <|
zz 8 (fk8 ((a0).toNat * 8)) <|
zz 9 (lk9 hc2 (toNatLt hc1)) <|
ww (p := U_viewportref16endq1_1 none a0 ((w64 (a0 + (1 : Int))), (c2_.2.2.1), 0) (.inr (c3_0, c3_1))) (m_viewportref16endq1_1_ok rec_viewportref16endq1 hrec_viewportref16endq1 n a0 ((w64 (a0 + (1 : Int))), (c2_.2.2.1), 0) (.inr (c3_0, c3_1)) hc3) <|
zz 22 (xk4 1 Args.cB hc1) <|
zz 23 (fk14 ((a0).toNat * 8)) <|
zz 24 (lk15 hc2 (toNatLt hc1)) <|
zz 25 (xdT hc4) <|
ee) (by kernel_rfl)
theorem p_viewportref16endq1_2 (rec_viewportref16endq1 : (Int) → Option (Int)) (hrec_viewportref16endq1 : ∀ (a0 : Int) (r : Int), rec_viewportref16endq1 a0 = some r → Gv P (.func 16) (A_viewportref16endq1 a0) (H_viewportref16endq1 a0) (V_viewportref16endq1 a0 r) (R_viewportref16endq1 a0 r)) (n : Nat) (a0 : Int) (hc1 : 0 ≤ a0 ∧ a0 < (((Args.B).length : Nat) : Int)) (c2_ : Int × Int × Int × Int × Int × Int × NL × Int) (hc2 : (some ((Args.B).getD (a0).toNat (0, 0, 0, 0, 0, 0, nl0, 0))) = some c2_) (c3_0 c3_1 : Int) (hc3 : m_viewportref16endq1_1 rec_viewportref16endq1 n a0 ((w64 (a0 + (1 : Int))), (c2_.2.2.1), 0) = some (.inr (c3_0, c3_1))) (hc4 : ¬ (c3_1 > (c2_.2.2.2.2.1))) : G_viewportref16endq1 a0 c3_0 :=
 runF2 hm (L := lT [(16, ⟨⟨[0, 1, 5, 6, 7], [], 0, 0⟩, (X_viewportref16endq1_1 a0 (.inr (c3_0, c3_1))).1, (X_viewportref16endq1_1 a0 (.inr (c3_0, c3_1))).2⟩)]) ⟨[4], [], 0, 0⟩ (zz 7 (xk4 1 Args.cB hc1) <|
zz 8 (fk8 ((a0).toNat * 8)) <|
zz 9 (lk9 hc2 (toNatLt hc1)) <|
ww (p := U_viewportref16endq1_1 none a0 ((w64 (a0 + (1 : Int))), (c2_.2.2.1), 0) (.inr (c3_0, c3_1))) (m_viewportref16endq1_1_ok rec_viewportref16endq1 hrec_viewportref16endq1 n a0 ((w64 (a0 + (1 : Int))), (c2_.2.2.1), 0) (.inr (c3_0, c3_1)) hc3) <|
zz 22 (xk4 1 Args.cB hc1) <|
zz 23 (fk14 ((a0).toNat * 8)) <|
zz 24 (lk15 hc2 (toNatLt hc1)) <|
zz 25 (xdF hc4) <|
ee) (by kernel_rfl)
theorem s_viewportref16endq1_ok (rec_viewportref16endq1 : (Int) → Option (Int)) (hrec_viewportref16endq1 : ∀ (a0 : Int) (r : Int), rec_viewportref16endq1 a0 = some r → Gv P (.func 16) (A_viewportref16endq1 a0) (H_viewportref16endq1 a0) (V_viewportref16endq1 a0 r) (R_viewportref16endq1 a0 r)) (n : Nat) (a0 : Int) (r : Int) (h : s_viewportref16endq1 rec_viewportref16endq1 n a0 = some r) : Gv P (.func 16) (A_viewportref16endq1 a0) (H_viewportref16endq1 a0) (V_viewportref16endq1 a0 r) (R_viewportref16endq1 a0 r) := by
 unfold s_viewportref16endq1 at h
 by_cases hc1 : 0 ≤ a0 ∧ a0 < (((Args.B).length : Nat) : Int)
 ·rw [if_pos hc1] at h
  obtain ⟨c2_, hc2, h⟩ := Option.bind_eq_some_iff.1 h
  rcases hc3 : m_viewportref16endq1_1 rec_viewportref16endq1 n a0 ((w64 (a0 + (1 : Int))), (c2_.2.2.1), 0) with _ | (⟨⟩ | ⟨c3_0, c3_1⟩)
  ·rw [hc3] at h; cases h
  ·rw [hc3] at h
   dsimp only at h
   obtain rfl := Option.some.inj h; exact p_viewportref16endq1_0 rec_viewportref16endq1 hrec_viewportref16endq1 n a0 hc1 c2_ hc2 hc3
  ·rw [hc3] at h
   dsimp only at h
   by_cases hc4 : c3_1 > (c2_.2.2.2.2.1)
   ·rw [if_pos hc4] at h
    obtain rfl := Option.some.inj h; exact p_viewportref16endq1_1 rec_viewportref16endq1 hrec_viewportref16endq1 n a0 hc1 c2_ hc2 c3_0 c3_1 hc3 hc4
   ·rw [if_neg hc4] at h
    obtain rfl := Option.some.inj h; exact p_viewportref16endq1_2 rec_viewportref16endq1 hrec_viewportref16endq1 n a0 hc1 c2_ hc2 c3_0 c3_1 hc3 hc4
 ·rw [if_neg hc1] at h; cases h
def m_viewportref16endq1 : Nat → (Int) → Option (Int)
 | 0 => fun _ => none
 | n + 1 => fun a0 => s_viewportref16endq1 (m_viewportref16endq1 n) n a0
theorem m_viewportref16endq1_ok : ∀ (n : Nat) (a0 : Int) (r : Int) (h : m_viewportref16endq1 n a0 = some r), Gv P (.func 16) (A_viewportref16endq1 a0) (H_viewportref16endq1 a0) (V_viewportref16endq1 a0 r) (R_viewportref16endq1 a0 r)
 | 0, _, _, h => nomatch h
 | n + 1, a0, r, h => s_viewportref16endq1_ok (m_viewportref16endq1 n) (m_viewportref16endq1_ok n) n a0 r h

noncomputable def A_viewportref16Checkq1 : List Value := [(sW 1 0 (Args.B).length Args.cB)]
noncomputable def H_viewportref16Checkq1 : AH := ⟨sB [], 0, 0⟩
noncomputable def V_viewportref16Checkq1 (r : Int) : Value := match r with
 | o0 => (i6 o0)
noncomputable def R_viewportref16Checkq1 (r : Int) : AH := match r with
 | o0 => ⟨sB [], 0, 0⟩
noncomputable abbrev G_viewportref16Checkq1 (r : Int) : Prop := Gv P (.func 7) A_viewportref16Checkq1 H_viewportref16Checkq1 (V_viewportref16Checkq1  r) (R_viewportref16Checkq1  r)
noncomputable abbrev C_viewportref16Checkq1 (r : Int) (ins outs : BL) : CallA := ⟨0, ins, V_viewportref16Checkq1  r, R_viewportref16Checkq1  r, outs⟩
noncomputable def S_viewportref16Checkq1_1 (st : Int) : XSt := match st with
 | x1_0 => (sT 41 [(0, (sW 1 0 (Args.B).length Args.cB)), (3, (i6 x1_0))], [], ⟨sB [], 0, 0⟩)
noncomputable def X_viewportref16Checkq1_1 (r : (Unit) ⊕ (Unit)) : Ex × XSt := match r with
 | .inl _ => (.ret, (sT 41 [(2, (i6 (2 : Int)))], [], ⟨sB [], 0, 0⟩))
 | .inr _ => (.exit 0, (sT 41 [(0, (sW 1 0 (Args.B).length Args.cB))], [], ⟨sB [], 0, 0⟩))
noncomputable abbrev Q_viewportref16Checkq1_1 (rnd : Option Nat) (st : Int) (c : Ex × XSt) : Prop := CG P rnd (fnN P 7) 0 (codeOf P 7 [false, false, true, false, true, true]) (S_viewportref16Checkq1_1 st) c
noncomputable abbrev U_viewportref16Checkq1_1 (rd : Option Nat) (st : Int) (r : (Unit) ⊕ (Unit)) : Prop := CG P rd (fnN P 7) 0 (codeOf P 7 [false, true, false, true, true]) (S_viewportref16Checkq1_1 st) (X_viewportref16Checkq1_1 r)
def B_viewportref16Checkq1_1 (n : Nat) (st : Int) : Option ((Int) ⊕ ((Unit) ⊕ (Unit))) := match st with
 | x1_0 =>
  if x1_0 < (((Args.B).length : Nat) : Int) then
   if 0 ≤ x1_0 ∧ x1_0 < (((Args.B).length : Nat) : Int) then
    ((some ((Args.B).getD (x1_0).toNat (0, 0, 0, 0, 0, 0, nl0, 0)))).bind fun y1_3_ =>
    (m_viewportref16bareq1 n (y1_3_.1) (y1_3_.2.1) (y1_3_.2.2.1) (y1_3_.2.2.2.1) (y1_3_.2.2.2.2.1) (y1_3_.2.2.2.2.2.1) (y1_3_.2.2.2.2.2.2.1) (y1_3_.2.2.2.2.2.2.2)).bind fun y1_4_ =>
    if y1_4_ = true then
     if x1_0 > (0 : Int) then
      if (y1_3_.2.1) = (1 : Int) then
       some (.inr (.inl ()))
      else
       some (.inl (w64 (x1_0 + (1 : Int))))
     else
      some (.inl (w64 (x1_0 + (1 : Int))))
    else
     some (.inr (.inl ()))
   else none
  else
   some (.inr (.inr ()))
def m_viewportref16Checkq1_1 (n : Nat) (st : Int) : Option ((Unit) ⊕ (Unit)) := iterM (B_viewportref16Checkq1_1 n) n st
theorem q_viewportref16Checkq1_1_0 (n : Nat) {rnd : Option Nat} (x1_0 : Int) (hy1_1 : x1_0 < (((Args.B).length : Nat) : Int)) (hy1_2 : 0 ≤ x1_0 ∧ x1_0 < (((Args.B).length : Nat) : Int)) (y1_3_ : Int × Int × Int × Int × Int × Int × NL × Int) (hy1_3 : (some ((Args.B).getD (x1_0).toNat (0, 0, 0, 0, 0, 0, nl0, 0))) = some y1_3_) (y1_4_ : Bool) (hy1_4 : m_viewportref16bareq1 n (y1_3_.1) (y1_3_.2.1) (y1_3_.2.2.1) (y1_3_.2.2.2.1) (y1_3_.2.2.2.2.1) (y1_3_.2.2.2.2.2.1) (y1_3_.2.2.2.2.2.2.1) (y1_3_.2.2.2.2.2.2.2) = some y1_4_) (hy1_5 : y1_4_ = true) (hy1_6 : x1_0 > (0 : Int)) (hy1_7 : (y1_3_.2.1) = (1 : Int)) : Q_viewportref16Checkq1_1 rnd x1_0 (X_viewportref16Checkq1_1 (.inl ())) :=
 runC2 hm (L := lT []) ⟨[2], [], 0, 0⟩ (zz 5 (xdT hy1_1) <|
zz 12 (xk4 1 Args.cB hy1_2) <|
zz 13 (lk5 hy1_3 (toNatLt hy1_2)) <|
yy 14 (.call (C_viewportref16bareq1 (y1_3_.1) (y1_3_.2.1) (y1_3_.2.2.1) (y1_3_.2.2.2.1) (y1_3_.2.2.2.2.1) (y1_3_.2.2.2.2.2.1) (y1_3_.2.2.2.2.2.2.1) (y1_3_.2.2.2.2.2.2.2) y1_4_ [] [])) <|
ww (m_viewportref16bareq1_ok n (y1_3_.1) (y1_3_.2.1) (y1_3_.2.2.1) (y1_3_.2.2.2.1) (y1_3_.2.2.2.2.1) (y1_3_.2.2.2.2.2.1) (y1_3_.2.2.2.2.2.2.1) (y1_3_.2.2.2.2.2.2.2) y1_4_ hy1_4) <|
yy 15 (vf) <|
ww (p := (Value.bool (!y1_4_)) = (Value.bool false)) (vBn hy1_5) <|
zz 18 (xdT hy1_6) <|
zz 22 (xk4 1 Args.cB hy1_2) <|
zz 23 (fk6 ((x1_0).toNat * 8)) <|
zz 24 (lk7 hy1_3 (toNatLt hy1_2)) <|
zz 25 (xeT hy1_7) <|
ee) (by kernel_rfl)
theorem q_viewportref16Checkq1_1_1 (n : Nat) {rnd : Option Nat} (x1_0 : Int) (hy1_1 : x1_0 < (((Args.B).length : Nat) : Int)) (hy1_2 : 0 ≤ x1_0 ∧ x1_0 < (((Args.B).length : Nat) : Int)) (y1_3_ : Int × Int × Int × Int × Int × Int × NL × Int) (hy1_3 : (some ((Args.B).getD (x1_0).toNat (0, 0, 0, 0, 0, 0, nl0, 0))) = some y1_3_) (y1_4_ : Bool) (hy1_4 : m_viewportref16bareq1 n (y1_3_.1) (y1_3_.2.1) (y1_3_.2.2.1) (y1_3_.2.2.2.1) (y1_3_.2.2.2.2.1) (y1_3_.2.2.2.2.2.1) (y1_3_.2.2.2.2.2.2.1) (y1_3_.2.2.2.2.2.2.2) = some y1_4_) (hy1_5 : y1_4_ = true) (hy1_6 : x1_0 > (0 : Int)) (hy1_7 : ¬ ((y1_3_.2.1) = (1 : Int))) : Q_viewportref16Checkq1_1 rnd x1_0 (.normal, S_viewportref16Checkq1_1 (w64 (x1_0 + (1 : Int)))) :=
 runC2 hm (L := lT []) ⟨[0, 3], [], 0, 0⟩ (zz 5 (xdT hy1_1) <|
zz 12 (xk4 1 Args.cB hy1_2) <|
zz 13 (lk5 hy1_3 (toNatLt hy1_2)) <|
yy 14 (.call (C_viewportref16bareq1 (y1_3_.1) (y1_3_.2.1) (y1_3_.2.2.1) (y1_3_.2.2.2.1) (y1_3_.2.2.2.2.1) (y1_3_.2.2.2.2.2.1) (y1_3_.2.2.2.2.2.2.1) (y1_3_.2.2.2.2.2.2.2) y1_4_ [] [])) <|
ww (m_viewportref16bareq1_ok n (y1_3_.1) (y1_3_.2.1) (y1_3_.2.2.1) (y1_3_.2.2.2.1) (y1_3_.2.2.2.2.1) (y1_3_.2.2.2.2.2.1) (y1_3_.2.2.2.2.2.2.1) (y1_3_.2.2.2.2.2.2.2) y1_4_ hy1_4) <|
yy 15 (vf) <|
ww (p := (Value.bool (!y1_4_)) = (Value.bool false)) (vBn hy1_5) <|
zz 18 (xdT hy1_6) <|
zz 22 (xk4 1 Args.cB hy1_2) <|
zz 23 (fk6 ((x1_0).toNat * 8)) <|
zz 24 (lk7 hy1_3 (toNatLt hy1_2)) <|
zz 25 (xeF hy1_7) <|
ee) (by kernel_rfl)
theorem q_viewportref16Checkq1_1_2 (n : Nat) {rnd : Option Nat} (x1_0 : Int) (hy1_1 : x1_0 < (((Args.B).length : Nat) : Int)) (hy1_2 : 0 ≤ x1_0 ∧ x1_0 < (((Args.B).length : Nat) : Int)) (y1_3_ : Int × Int × Int × Int × Int × Int × NL × Int) (hy1_3 : (some ((Args.B).getD (x1_0).toNat (0, 0, 0, 0, 0, 0, nl0, 0))) = some y1_3_) (y1_4_ : Bool) (hy1_4 : m_viewportref16bareq1 n (y1_3_.1) (y1_3_.2.1) (y1_3_.2.2.1) (y1_3_.2.2.2.1) (y1_3_.2.2.2.2.1) (y1_3_.2.2.2.2.2.1) (y1_3_.2.2.2.2.2.2.1) (y1_3_.2.2.2.2.2.2.2) = some y1_4_) (hy1_5 : y1_4_ = true) (hy1_6 : ¬ (x1_0 > (0 : Int))) : Q_viewportref16Checkq1_1 rnd x1_0 (.normal, S_viewportref16Checkq1_1 (w64 (x1_0 + (1 : Int)))) :=
 runC2 hm (L := lT []) ⟨[0, 3], [], 0, 0⟩ (zz 5 (xdT hy1_1) <|
zz 12 (xk4 1 Args.cB hy1_2) <|
zz 13 (lk5 hy1_3 (toNatLt hy1_2)) <|
yy 14 (.call (C_viewportref16bareq1 (y1_3_.1) (y1_3_.2.1) (y1_3_.2.2.1) (y1_3_.2.2.2.1) (y1_3_.2.2.2.2.1) (y1_3_.2.2.2.2.2.1) (y1_3_.2.2.2.2.2.2.1) (y1_3_.2.2.2.2.2.2.2) y1_4_ [] [])) <|
ww (m_viewportref16bareq1_ok n (y1_3_.1) (y1_3_.2.1) (y1_3_.2.2.1) (y1_3_.2.2.2.1) (y1_3_.2.2.2.2.1) (y1_3_.2.2.2.2.2.1) (y1_3_.2.2.2.2.2.2.1) (y1_3_.2.2.2.2.2.2.2) y1_4_ hy1_4) <|
yy 15 (vf) <|
ww (p := (Value.bool (!y1_4_)) = (Value.bool false)) (vBn hy1_5) <|
zz 18 (xdF hy1_6) <|
ee) (by kernel_rfl)
theorem q_viewportref16Checkq1_1_3 (n : Nat) {rnd : Option Nat} (x1_0 : Int) (hy1_1 : x1_0 < (((Args.B).length : Nat) : Int)) (hy1_2 : 0 ≤ x1_0 ∧ x1_0 < (((Args.B).length : Nat) : Int)) (y1_3_ : Int × Int × Int × Int × Int × Int × NL × Int) (hy1_3 : (some ((Args.B).getD (x1_0).toNat (0, 0, 0, 0, 0, 0, nl0, 0))) = some y1_3_) (y1_4_ : Bool) (hy1_4 : m_viewportref16bareq1 n (y1_3_.1) (y1_3_.2.1) (y1_3_.2.2.1) (y1_3_.2.2.2.1) (y1_3_.2.2.2.2.1) (y1_3_.2.2.2.2.2.1) (y1_3_.2.2.2.2.2.2.1) (y1_3_.2.2.2.2.2.2.2) = some y1_4_) (hy1_5 : ¬ (y1_4_ = true)) : Q_viewportref16Checkq1_1 rnd x1_0 (X_viewportref16Checkq1_1 (.inl ())) :=
 runC2 hm (L := lT []) ⟨[2], [], 0, 0⟩ (zz 5 (xdT hy1_1) <|
zz 12 (xk4 1 Args.cB hy1_2) <|
zz 13 (lk5 hy1_3 (toNatLt hy1_2)) <|
yy 14 (.call (C_viewportref16bareq1 (y1_3_.1) (y1_3_.2.1) (y1_3_.2.2.1) (y1_3_.2.2.2.1) (y1_3_.2.2.2.2.1) (y1_3_.2.2.2.2.2.1) (y1_3_.2.2.2.2.2.2.1) (y1_3_.2.2.2.2.2.2.2) y1_4_ [] [])) <|
ww (m_viewportref16bareq1_ok n (y1_3_.1) (y1_3_.2.1) (y1_3_.2.2.1) (y1_3_.2.2.2.1) (y1_3_.2.2.2.2.1) (y1_3_.2.2.2.2.2.1) (y1_3_.2.2.2.2.2.2.1) (y1_3_.2.2.2.2.2.2.2) y1_4_ hy1_4) <|
yy 15 (vt) <|
ww (p := (Value.bool (!y1_4_)) = (Value.bool true)) (vBn (Bool.eq_false_iff.2 hy1_5)) <|
ee) (by kernel_rfl)
theorem q_viewportref16Checkq1_1_4 (n : Nat) {rnd : Option Nat} (x1_0 : Int) (hy1_1 : ¬ (x1_0 < (((Args.B).length : Nat) : Int))) : Q_viewportref16Checkq1_1 rnd x1_0 (X_viewportref16Checkq1_1 (.inr ())) :=
 runC2 hm (L := lT []) ⟨[0], [], 0, 0⟩ (zz 5 (xdF hy1_1) <|
ee) (by kernel_rfl)
theorem m_viewportref16Checkq1_1_ok (n : Nat) {rnd : Option Nat} (st : Int) (r : (Unit) ⊕ (Unit)) (h : m_viewportref16Checkq1_1 n st = some r) : CG P rnd (fnN P 7) 0 (codeOf P 7 [false, true, false, true, true]) (S_viewportref16Checkq1_1 st) (X_viewportref16Checkq1_1 r) :=
 CG.iter (b := codeOf P 7 [false, false, true, false, true, true]) (by kernel_rfl) (body := B_viewportref16Checkq1_1 n) (S := S_viewportref16Checkq1_1) (X := X_viewportref16Checkq1_1)
  (fun x1_0 s' h => by
  unfold B_viewportref16Checkq1_1 at h
  dsimp only at h
  by_cases hy1_1 : x1_0 < (((Args.B).length : Nat) : Int)
  ·rw [if_pos hy1_1] at h
   by_cases hy1_2 : 0 ≤ x1_0 ∧ x1_0 < (((Args.B).length : Nat) : Int)
   ·rw [if_pos hy1_2] at h
    obtain ⟨y1_3_, hy1_3, h⟩ := Option.bind_eq_some_iff.1 h
    obtain ⟨y1_4_, hy1_4, h⟩ := Option.bind_eq_some_iff.1 h
    by_cases hy1_5 : y1_4_ = true
    ·rw [if_pos hy1_5] at h
     by_cases hy1_6 : x1_0 > (0 : Int)
     ·rw [if_pos hy1_6] at h
      by_cases hy1_7 : (y1_3_.2.1) = (1 : Int)
      ·rw [if_pos hy1_7] at h
       cases h
      ·rw [if_neg hy1_7] at h
       obtain rfl := Sum.inl.inj (Option.some.inj h); exact q_viewportref16Checkq1_1_1 n x1_0 hy1_1 hy1_2 y1_3_ hy1_3 y1_4_ hy1_4 hy1_5 hy1_6 hy1_7
     ·rw [if_neg hy1_6] at h
      obtain rfl := Sum.inl.inj (Option.some.inj h); exact q_viewportref16Checkq1_1_2 n x1_0 hy1_1 hy1_2 y1_3_ hy1_3 y1_4_ hy1_4 hy1_5 hy1_6
    ·rw [if_neg hy1_5] at h
     cases h
   ·rw [if_neg hy1_2] at h; cases h
  ·rw [if_neg hy1_1] at h
   cases h)
  (fun x1_0 r h => by
  unfold B_viewportref16Checkq1_1 at h
  dsimp only at h
  by_cases hy1_1 : x1_0 < (((Args.B).length : Nat) : Int)
  ·rw [if_pos hy1_1] at h
   by_cases hy1_2 : 0 ≤ x1_0 ∧ x1_0 < (((Args.B).length : Nat) : Int)
   ·rw [if_pos hy1_2] at h
    obtain ⟨y1_3_, hy1_3, h⟩ := Option.bind_eq_some_iff.1 h
    obtain ⟨y1_4_, hy1_4, h⟩ := Option.bind_eq_some_iff.1 h
    by_cases hy1_5 : y1_4_ = true
    ·rw [if_pos hy1_5] at h
     by_cases hy1_6 : x1_0 > (0 : Int)
     ·rw [if_pos hy1_6] at h
      by_cases hy1_7 : (y1_3_.2.1) = (1 : Int)
      ·rw [if_pos hy1_7] at h
       obtain rfl := Sum.inr.inj (Option.some.inj h); exact q_viewportref16Checkq1_1_0 n x1_0 hy1_1 hy1_2 y1_3_ hy1_3 y1_4_ hy1_4 hy1_5 hy1_6 hy1_7
      ·rw [if_neg hy1_7] at h
       cases h
     ·rw [if_neg hy1_6] at h
      cases h
    ·rw [if_neg hy1_5] at h
     obtain rfl := Sum.inr.inj (Option.some.inj h); exact q_viewportref16Checkq1_1_3 n x1_0 hy1_1 hy1_2 y1_3_ hy1_3 y1_4_ hy1_4 hy1_5
   ·rw [if_neg hy1_2] at h; cases h
  ·rw [if_neg hy1_1] at h
   obtain rfl := Sum.inr.inj (Option.some.inj h); exact q_viewportref16Checkq1_1_4 n x1_0 hy1_1)
  (fun r => by intro hx; rcases r with _ | _ <;> cases hx) h
def m_viewportref16Checkq1 (n : Nat) : Option (Int) :=
 if (((Args.B).length : Nat) : Int) > (524288 : Int) then
  some 3
 else
  match m_viewportref16Checkq1_1 n 0 with
  | none => none
  | some (.inl _) =>
   some 2
  | some (.inr _) =>
   if (((Args.B).length : Nat) : Int) = (0 : Int) then
    some 2
   else
    (m_viewportref16endq1 n 0).bind fun c4_ =>
    if c4_ = (((Args.B).length : Nat) : Int) then
     some 0
    else
     some 2
theorem p_viewportref16Checkq1_0 (n : Nat) (hc1 : (((Args.B).length : Nat) : Int) > (524288 : Int)) : G_viewportref16Checkq1  3 :=
 runF2 hm (L := lT []) ⟨[2], [], 0, 0⟩ (zz 6 (xdT hc1) <|
ee) (by kernel_rfl)
theorem p_viewportref16Checkq1_1 (n : Nat) (hc1 : ¬ ((((Args.B).length : Nat) : Int) > (524288 : Int))) (hc2 : m_viewportref16Checkq1_1 n 0 = some (.inl ())) : G_viewportref16Checkq1  2 :=
 runF2 hm (L := lT [(12, ⟨⟨[0, 3], [], 0, 0⟩, (X_viewportref16Checkq1_1 (.inl ())).1, (X_viewportref16Checkq1_1 (.inl ())).2⟩)]) ⟨[2], [], 0, 0⟩ (zz 6 (xdF hc1) <|
ww (p := U_viewportref16Checkq1_1 none 0 (.inl ())) (m_viewportref16Checkq1_1_ok n 0 (.inl ()) hc2) <|
ee) (by kernel_rfl)
theorem p_viewportref16Checkq1_2 (n : Nat) (hc1 : ¬ ((((Args.B).length : Nat) : Int) > (524288 : Int))) (hc2 : m_viewportref16Checkq1_1 n 0 = some (.inr ())) (hc3 : (((Args.B).length : Nat) : Int) = (0 : Int)) : G_viewportref16Checkq1  2 :=
 runF2 hm (L := lT [(12, ⟨⟨[0, 3], [], 0, 0⟩, (X_viewportref16Checkq1_1 (.inr ())).1, (X_viewportref16Checkq1_1 (.inr ())).2⟩)]) ⟨[2], [], 0, 0⟩ (zz 6 (xdF hc1) <|
ww (p := U_viewportref16Checkq1_1 none 0 (.inr ())) (m_viewportref16Checkq1_1_ok n 0 (.inr ()) hc2) <|
zz 17 (xeT hc3) <|
ee) (by kernel_rfl)
theorem p_viewportref16Checkq1_3 (n : Nat) (hc1 : ¬ ((((Args.B).length : Nat) : Int) > (524288 : Int))) (hc2 : m_viewportref16Checkq1_1 n 0 = some (.inr ())) (hc3 : ¬ ((((Args.B).length : Nat) : Int) = (0 : Int))) (c4_ : Int) (hc4 : m_viewportref16endq1 n 0 = some c4_) (hc5 : c4_ = (((Args.B).length : Nat) : Int)) : G_viewportref16Checkq1  0 :=
 runF2 hm (L := lT [(12, ⟨⟨[0, 3], [], 0, 0⟩, (X_viewportref16Checkq1_1 (.inr ())).1, (X_viewportref16Checkq1_1 (.inr ())).2⟩)]) ⟨[2], [], 0, 0⟩ (zz 6 (xdF hc1) <|
ww (p := U_viewportref16Checkq1_1 none 0 (.inr ())) (m_viewportref16Checkq1_1_ok n 0 (.inr ()) hc2) <|
zz 17 (xeF hc3) <|
yy 20 (.call (C_viewportref16endq1 0 c4_ [] [])) <|
ww (m_viewportref16endq1_ok n 0 c4_ hc4) <|
zz 23 (xnF hc5) <|
ee) (by kernel_rfl)
theorem p_viewportref16Checkq1_4 (n : Nat) (hc1 : ¬ ((((Args.B).length : Nat) : Int) > (524288 : Int))) (hc2 : m_viewportref16Checkq1_1 n 0 = some (.inr ())) (hc3 : ¬ ((((Args.B).length : Nat) : Int) = (0 : Int))) (c4_ : Int) (hc4 : m_viewportref16endq1 n 0 = some c4_) (hc5 : ¬ (c4_ = (((Args.B).length : Nat) : Int))) : G_viewportref16Checkq1  2 :=
 runF2 hm (L := lT [(12, ⟨⟨[0, 3], [], 0, 0⟩, (X_viewportref16Checkq1_1 (.inr ())).1, (X_viewportref16Checkq1_1 (.inr ())).2⟩)]) ⟨[2], [], 0, 0⟩ (zz 6 (xdF hc1) <|
ww (p := U_viewportref16Checkq1_1 none 0 (.inr ())) (m_viewportref16Checkq1_1_ok n 0 (.inr ()) hc2) <|
zz 17 (xeF hc3) <|
yy 20 (.call (C_viewportref16endq1 0 c4_ [] [])) <|
ww (m_viewportref16endq1_ok n 0 c4_ hc4) <|
zz 23 (xnT hc5) <|
ee) (by kernel_rfl)
theorem m_viewportref16Checkq1_ok (n : Nat) (r : Int) (h : m_viewportref16Checkq1 n = some r) : Gv P (.func 7) A_viewportref16Checkq1 H_viewportref16Checkq1 (V_viewportref16Checkq1  r) (R_viewportref16Checkq1  r) := by
 unfold m_viewportref16Checkq1 at h
 by_cases hc1 : (((Args.B).length : Nat) : Int) > (524288 : Int)
 ·rw [if_pos hc1] at h
  obtain rfl := Option.some.inj h; exact p_viewportref16Checkq1_0 n hc1
 ·rw [if_neg hc1] at h
  rcases hc2 : m_viewportref16Checkq1_1 n 0 with _ | (⟨⟩ | ⟨⟩)
  ·rw [hc2] at h; cases h
  ·rw [hc2] at h
   dsimp only at h
   obtain rfl := Option.some.inj h; exact p_viewportref16Checkq1_1 n hc1 hc2
  ·rw [hc2] at h
   dsimp only at h
   by_cases hc3 : (((Args.B).length : Nat) : Int) = (0 : Int)
   ·rw [if_pos hc3] at h
    obtain rfl := Option.some.inj h; exact p_viewportref16Checkq1_2 n hc1 hc2 hc3
   ·rw [if_neg hc3] at h
    obtain ⟨c4_, hc4, h⟩ := Option.bind_eq_some_iff.1 h
    by_cases hc5 : c4_ = (((Args.B).length : Nat) : Int)
    ·rw [if_pos hc5] at h
     obtain rfl := Option.some.inj h; exact p_viewportref16Checkq1_3 n hc1 hc2 hc3 c4_ hc4 hc5
    ·rw [if_neg hc5] at h
     obtain rfl := Option.some.inj h; exact p_viewportref16Checkq1_4 n hc1 hc2 hc3 c4_ hc4 hc5

noncomputable def A_viewportkitPickq1 (a0 : Int) (a1 : Int) : List Value := [(i6 a0), (i6 a1)]
noncomputable def H_viewportkitPickq1 (a0 : Int) (a1 : Int) : AH := ⟨sB [], 0, 0⟩
noncomputable def V_viewportkitPickq1 (a0 : Int) (a1 : Int) (r : Int) : Value := match r with
 | o0 => (i6 o0)
noncomputable def R_viewportkitPickq1 (a0 : Int) (a1 : Int) (r : Int) : AH := match r with
 | o0 => ⟨sB [], 0, 0⟩
noncomputable abbrev G_viewportkitPickq1 (a0 : Int) (a1 : Int) (r : Int) : Prop := Gv P (.func 8) (A_viewportkitPickq1 a0 a1) (H_viewportkitPickq1 a0 a1) (V_viewportkitPickq1 a0 a1 r) (R_viewportkitPickq1 a0 a1 r)
noncomputable abbrev C_viewportkitPickq1 (a0 : Int) (a1 : Int) (r : Int) (ins outs : BL) : CallA := ⟨0, ins, V_viewportkitPickq1 a0 a1 r, R_viewportkitPickq1 a0 a1 r, outs⟩
def m_viewportkitPickq1 (n : Nat) (a0 : Int) (a1 : Int) : Option (Int) :=
 if a1 < (1 : Int) then
  some 0
 else
  if ¬ (a1 = 0) then
   if (Int.tmod a0 a1) < (0 : Int) then
    some (w64 ((Int.tmod a0 a1) + a1))
   else
    some (Int.tmod a0 a1)
  else none
theorem p_viewportkitPickq1_0 (n : Nat) (a0 a1 : Int) (hc1 : a1 < (1 : Int)) : G_viewportkitPickq1 a0 a1 0 :=
 runF2 hm (L := lT []) ⟨[4], [], 0, 0⟩ (zz 5 (xdT hc1) <|
ee) (by kernel_rfl)
theorem p_viewportkitPickq1_1 (n : Nat) (a0 a1 : Int) (hc1 : ¬ (a1 < (1 : Int))) (hc2 : ¬ (a1 = 0)) (hc3 : (Int.tmod a0 a1) < (0 : Int)) : G_viewportkitPickq1 a0 a1 (w64 ((Int.tmod a0 a1) + a1)) :=
 runF2 hm (L := lT []) ⟨[4], [], 0, 0⟩ (zz 5 (xdF hc1) <|
yy 10 (.pur (i6 (Int.tmod a0 a1))) <|
ww (p := opBin P .rem 3 (.tmp 8) (.tmp 9) (i6 a0) (i6 a1) Ax.h0 = some ((i6 (Int.tmod a0 a1)), Ax.h0)) (remI hc2) <|
zz 15 (xdT hc3) <|
ee) (by kernel_rfl)
theorem p_viewportkitPickq1_2 (n : Nat) (a0 a1 : Int) (hc1 : ¬ (a1 < (1 : Int))) (hc2 : ¬ (a1 = 0)) (hc3 : ¬ ((Int.tmod a0 a1) < (0 : Int))) : G_viewportkitPickq1 a0 a1 (Int.tmod a0 a1) :=
 runF2 hm (L := lT []) ⟨[4], [], 0, 0⟩ (zz 5 (xdF hc1) <|
yy 10 (.pur (i6 (Int.tmod a0 a1))) <|
ww (p := opBin P .rem 3 (.tmp 8) (.tmp 9) (i6 a0) (i6 a1) Ax.h0 = some ((i6 (Int.tmod a0 a1)), Ax.h0)) (remI hc2) <|
zz 15 (xdF hc3) <|
ee) (by kernel_rfl)
theorem m_viewportkitPickq1_ok (n : Nat) (a0 : Int) (a1 : Int) (r : Int) (h : m_viewportkitPickq1 n a0 a1 = some r) : Gv P (.func 8) (A_viewportkitPickq1 a0 a1) (H_viewportkitPickq1 a0 a1) (V_viewportkitPickq1 a0 a1 r) (R_viewportkitPickq1 a0 a1 r) := by
 unfold m_viewportkitPickq1 at h
 by_cases hc1 : a1 < (1 : Int)
 ·rw [if_pos hc1] at h
  obtain rfl := Option.some.inj h; exact p_viewportkitPickq1_0 n a0 a1 hc1
 ·rw [if_neg hc1] at h
  by_cases hc2 : ¬ (a1 = 0)
  ·rw [if_pos hc2] at h
   by_cases hc3 : (Int.tmod a0 a1) < (0 : Int)
   ·rw [if_pos hc3] at h
    obtain rfl := Option.some.inj h; exact p_viewportkitPickq1_1 n a0 a1 hc1 hc2 hc3
   ·rw [if_neg hc3] at h
    obtain rfl := Option.some.inj h; exact p_viewportkitPickq1_2 n a0 a1 hc1 hc2 hc3
  ·rw [if_neg hc2] at h; cases h

noncomputable def A_treeinOrderq1 : List Value := [(sW 1 0 (Args.B).length Args.cB)]
noncomputable def H_treeinOrderq1 : AH := ⟨sB [], 0, 0⟩
noncomputable def V_treeinOrderq1 (r : Bool) : Value := match r with
 | o0 => (bO o0)
noncomputable def R_treeinOrderq1 (r : Bool) : AH := match r with
 | o0 => ⟨sB [], 0, 0⟩
noncomputable abbrev G_treeinOrderq1 (r : Bool) : Prop := Gv P (.func 33) A_treeinOrderq1 H_treeinOrderq1 (V_treeinOrderq1  r) (R_treeinOrderq1  r)
noncomputable abbrev C_treeinOrderq1 (r : Bool) (ins outs : BL) : CallA := ⟨0, ins, V_treeinOrderq1  r, R_treeinOrderq1  r, outs⟩
noncomputable def S_treeinOrderq1_1 (x1_2 : Int) (st : List (Int × Int × Int) × Nat × Int) : XSt := match st with
 | (x1_0, x1_1, x1_3) => (sT 99 [(0, (sW 1 0 (Args.B).length Args.cB)), (3, (slQ x1_0 0 x1_1 3)), (8, (sW 1 0 (Args.B).length Args.cB)), (9, (i6 x1_2)), (10, (i6 x1_3))], [], ⟨sB [(0, (nblkR rw_iii x1_0 65))], 1, 0⟩)
noncomputable def X_treeinOrderq1_1 (x1_2 : Int) (r : (Unit) ⊕ (List (Int × Int × Int) × Nat)) : Ex × XSt := match r with
 | .inl _ => (.ret, (sT 99 [(2, (bO false))], [], ⟨sB [], 0, 0⟩))
 | .inr (z1_0, z1_1) => (.exit 0, (sT 99 [(3, (slQ z1_0 0 z1_1 3))], [], ⟨sB [(0, (nblkR rw_iii z1_0 65))], 1, 0⟩))
noncomputable abbrev Q_treeinOrderq1_1 (rnd : Option Nat) (x1_2 : Int) (st : List (Int × Int × Int) × Nat × Int) (c : Ex × XSt) : Prop := CG P rnd (fnN P 33) 0 (codeOf P 33 [false, false, true, false, true, true]) (S_treeinOrderq1_1 x1_2 st) c
noncomputable abbrev U_treeinOrderq1_1 (rd : Option Nat) (x1_2 : Int) (st : List (Int × Int × Int) × Nat × Int) (r : (Unit) ⊕ (List (Int × Int × Int) × Nat)) : Prop := CG P rd (fnN P 33) 0 (codeOf P 33 [false, true, false, true, true]) (S_treeinOrderq1_1 x1_2 st) (X_treeinOrderq1_1 x1_2 r)
def B_treeinOrderq1_1 (n : Nat) (x1_2 : Int) (st : List (Int × Int × Int) × Nat × Int) : Option ((List (Int × Int × Int) × Nat × Int) ⊕ ((Unit) ⊕ (List (Int × Int × Int) × Nat))) := match st with
 | (x1_0, x1_1, x1_3) =>
  match x1_0 with
  | [] =>
   if x1_3 < x1_2 then
    if 0 ≤ x1_3 ∧ x1_3 < (((Args.B).length : Nat) : Int) then
     ((some ((Args.B).getD (x1_3).toNat (0, 0, 0, 0, 0, 0, nl0, 0)))).bind fun y1_3_ =>
     if x1_3 > (0 : Int) then
      some (.inr (.inl ()))
     else
      if ((((y1_3_.2.2.2.2.2.2.1)).l.length : Nat) : Int) > (0 : Int) then
       some (.inl ([(x1_3, (0 : Int), (y1_3_.2.2.1))], 1, (w64 (x1_3 + (1 : Int)))))
      else
       some (.inl (([] : List (Int × Int × Int)), 0, (w64 (x1_3 + (1 : Int)))))
    else none
   else
    some (.inr (.inr (([] : List (Int × Int × Int)), 0)))
  | x1_0a :: x1_0t =>
   if x1_3 < x1_2 then
    if 0 ≤ x1_3 ∧ x1_3 < (((Args.B).length : Nat) : Int) then
     ((some ((Args.B).getD (x1_3).toNat (0, 0, 0, 0, 0, 0, nl0, 0)))).bind fun y1_3_ =>
     if x1_3 > (0 : Int) then
      if ((x1_1 : Nat) : Int) = (0 : Int) then
       some (.inr (.inl ()))
      else
       ((some (w64 (((x1_1 : Nat) : Int) - (1 : Int))))).bind fun y1_6_ =>
       if 0 ≤ y1_6_ ∧ y1_6_ < ((x1_1 : Nat) : Int) then
        if (y1_6_).toNat < ((x1_0a :: x1_0t)).length then
         ((some (((x1_0a :: x1_0t)).getD (y1_6_).toNat (0, 0, 0)))).bind fun y1_9_ =>
         if 0 ≤ (y1_9_.1) ∧ (y1_9_.1) < (((Args.B).length : Nat) : Int) then
          ((some ((Args.B).getD ((y1_9_.1)).toNat (0, 0, 0, 0, 0, 0, nl0, 0)))).bind fun y1_11_ =>
          if 0 ≤ (y1_9_.2.1) ∧ (y1_9_.2.1) < ((((y1_11_.2.2.2.2.2.2.1)).l.length : Nat) : Int) then
           if ((y1_9_.2.1)).toNat < (((y1_11_.2.2.2.2.2.2.1)).l).length then
            ((some ((((y1_11_.2.2.2.2.2.2.1)).l).getD ((y1_9_.2.1)).toNat 0))).bind fun y1_14_ =>
            if y1_14_ = x1_3 then
             if (y1_3_.2.2.1) < (y1_9_.2.2) then
              some (.inr (.inl ()))
             else
              if (y1_3_.2.2.2.2.1) > (y1_11_.2.2.2.2.1) then
               some (.inr (.inl ()))
              else
               if (w64 ((y1_9_.2.1) + (1 : Int))) = ((((y1_11_.2.2.2.2.2.2.1)).l.length : Nat) : Int) then
                if 0 ≤ y1_6_ ∧ y1_6_ ≤ ((x1_1 : Nat) : Int) then
                 if ((((y1_3_.2.2.2.2.2.2.1)).l.length : Nat) : Int) > (0 : Int) then
                  if (y1_6_).toNat ≤ ((((x1_0a :: x1_0t)).set (y1_6_).toNat ((y1_9_.1), (w64 ((y1_9_.2.1) + (1 : Int))), (y1_3_.2.2.2.2.1)))).length then
                   if ((y1_6_).toNat + 1) * 24 ≤ 140737488355328 then
                    some (.inl (((List.take (y1_6_).toNat (((x1_0a :: x1_0t)).set (y1_6_).toNat ((y1_9_.1), (w64 ((y1_9_.2.1) + (1 : Int))), (y1_3_.2.2.2.2.1)))) ++ [(x1_3, (0 : Int), (y1_3_.2.2.1))]), ((((List.take (y1_6_).toNat (((x1_0a :: x1_0t)).set (y1_6_).toNat ((y1_9_.1), (w64 ((y1_9_.2.1) + (1 : Int))), (y1_3_.2.2.2.2.1)))) ++ [(x1_3, (0 : Int), (y1_3_.2.2.1))])).length), (w64 (x1_3 + (1 : Int)))))
                   else none
                  else none
                 else
                  some (.inl ((((x1_0a :: x1_0t)).set (y1_6_).toNat ((y1_9_.1), (w64 ((y1_9_.2.1) + (1 : Int))), (y1_3_.2.2.2.2.1))), ((y1_6_).toNat), (w64 (x1_3 + (1 : Int)))))
                else none
               else
                if ((((y1_3_.2.2.2.2.2.2.1)).l.length : Nat) : Int) > (0 : Int) then
                 if x1_1 ≤ ((((x1_0a :: x1_0t)).set (y1_6_).toNat ((y1_9_.1), (w64 ((y1_9_.2.1) + (1 : Int))), (y1_3_.2.2.2.2.1)))).length then
                  if (x1_1 + 1) * 24 ≤ 140737488355328 then
                   some (.inl (((List.take x1_1 (((x1_0a :: x1_0t)).set (y1_6_).toNat ((y1_9_.1), (w64 ((y1_9_.2.1) + (1 : Int))), (y1_3_.2.2.2.2.1)))) ++ [(x1_3, (0 : Int), (y1_3_.2.2.1))]), ((((List.take x1_1 (((x1_0a :: x1_0t)).set (y1_6_).toNat ((y1_9_.1), (w64 ((y1_9_.2.1) + (1 : Int))), (y1_3_.2.2.2.2.1)))) ++ [(x1_3, (0 : Int), (y1_3_.2.2.1))])).length), (w64 (x1_3 + (1 : Int)))))
                  else none
                 else none
                else
                 some (.inl ((((x1_0a :: x1_0t)).set (y1_6_).toNat ((y1_9_.1), (w64 ((y1_9_.2.1) + (1 : Int))), (y1_3_.2.2.2.2.1))), x1_1, (w64 (x1_3 + (1 : Int)))))
            else
             some (.inr (.inl ()))
           else none
          else none
         else none
        else none
       else none
     else
      if ((((y1_3_.2.2.2.2.2.2.1)).l.length : Nat) : Int) > (0 : Int) then
       if x1_1 ≤ ((x1_0a :: x1_0t)).length then
        if (x1_1 + 1) * 24 ≤ 140737488355328 then
         some (.inl (((List.take x1_1 (x1_0a :: x1_0t)) ++ [(x1_3, (0 : Int), (y1_3_.2.2.1))]), ((((List.take x1_1 (x1_0a :: x1_0t)) ++ [(x1_3, (0 : Int), (y1_3_.2.2.1))])).length), (w64 (x1_3 + (1 : Int)))))
        else none
       else none
      else
       some (.inl ((x1_0a :: x1_0t), x1_1, (w64 (x1_3 + (1 : Int)))))
    else none
   else
    some (.inr (.inr ((x1_0a :: x1_0t), x1_1)))
def m_treeinOrderq1_1 (n : Nat) (x1_2 : Int) (st : List (Int × Int × Int) × Nat × Int) : Option ((Unit) ⊕ (List (Int × Int × Int) × Nat)) := iterM (B_treeinOrderq1_1 n x1_2) n st
theorem q_treeinOrderq1_1_0 (n : Nat) {rnd : Option Nat} (x1_1 : Nat) (x1_2 x1_3 : Int) (hy1_1 : x1_3 < x1_2) (hy1_2 : 0 ≤ x1_3 ∧ x1_3 < (((Args.B).length : Nat) : Int)) (y1_3_ : Int × Int × Int × Int × Int × Int × NL × Int) (hy1_3 : (some ((Args.B).getD (x1_3).toNat (0, 0, 0, 0, 0, 0, nl0, 0))) = some y1_3_) (hy1_4 : x1_3 > (0 : Int)) : Q_treeinOrderq1_1 rnd x1_2 (([] : List (Int × Int × Int)), x1_1, x1_3) (X_treeinOrderq1_1 x1_2 (.inl ())) :=
 runC2 hm (L := lT []) ⟨[2], [], 0, 0⟩ (zz 1 (xdT hy1_1) <|
zz 8 (xk4 1 Args.cB hy1_2) <|
zz 9 (lk5 hy1_3 (toNatLt hy1_2)) <|
zz 16 (xdT hy1_4) <|
ee) (by kernel_rfl)
theorem q_treeinOrderq1_1_1 (n : Nat) {rnd : Option Nat} (x1_1 : Nat) (x1_2 x1_3 : Int) (hy1_1 : x1_3 < x1_2) (hy1_2 : 0 ≤ x1_3 ∧ x1_3 < (((Args.B).length : Nat) : Int)) (y1_3_ : Int × Int × Int × Int × Int × Int × NL × Int) (hy1_3 : (some ((Args.B).getD (x1_3).toNat (0, 0, 0, 0, 0, 0, nl0, 0))) = some y1_3_) (hy1_4 : ¬ (x1_3 > (0 : Int))) (hy1_5 : ((((y1_3_.2.2.2.2.2.2.1)).l.length : Nat) : Int) > (0 : Int)) : Q_treeinOrderq1_1 rnd x1_2 (([] : List (Int × Int × Int)), x1_1, x1_3) (.normal, S_treeinOrderq1_1 x1_2 ([(x1_3, (0 : Int), (y1_3_.2.2.1))], 1, (w64 (x1_3 + (1 : Int))))) :=
 runC2 hm (L := lT []) ⟨[0, 3, 8, 9, 10], [(0, 3, false)], 1, 0⟩ (zz 1 (xdT hy1_1) <|
zz 8 (xk4 1 Args.cB hy1_2) <|
zz 9 (lk5 hy1_3 (toNatLt hy1_2)) <|
zz 16 (xdF hy1_4) <|
zz 22 (xdT hy1_5) <|
ee) (by kernel_rfl)
theorem q_treeinOrderq1_1_2 (n : Nat) {rnd : Option Nat} (x1_1 : Nat) (x1_2 x1_3 : Int) (hy1_1 : x1_3 < x1_2) (hy1_2 : 0 ≤ x1_3 ∧ x1_3 < (((Args.B).length : Nat) : Int)) (y1_3_ : Int × Int × Int × Int × Int × Int × NL × Int) (hy1_3 : (some ((Args.B).getD (x1_3).toNat (0, 0, 0, 0, 0, 0, nl0, 0))) = some y1_3_) (hy1_4 : ¬ (x1_3 > (0 : Int))) (hy1_5 : ¬ (((((y1_3_.2.2.2.2.2.2.1)).l.length : Nat) : Int) > (0 : Int))) : Q_treeinOrderq1_1 rnd x1_2 (([] : List (Int × Int × Int)), x1_1, x1_3) (.normal, S_treeinOrderq1_1 x1_2 (([] : List (Int × Int × Int)), 0, (w64 (x1_3 + (1 : Int))))) :=
 runC2 hm (L := lT []) ⟨[0, 3, 8, 9, 10], [], 1, 0⟩ (zz 1 (xdT hy1_1) <|
zz 8 (xk4 1 Args.cB hy1_2) <|
zz 9 (lk5 hy1_3 (toNatLt hy1_2)) <|
zz 16 (xdF hy1_4) <|
zz 22 (xdF hy1_5) <|
ee) (by kernel_rfl)
theorem q_treeinOrderq1_1_3 (n : Nat) {rnd : Option Nat} (x1_1 : Nat) (x1_2 x1_3 : Int) (hy1_1 : ¬ (x1_3 < x1_2)) : Q_treeinOrderq1_1 rnd x1_2 (([] : List (Int × Int × Int)), x1_1, x1_3) (X_treeinOrderq1_1 x1_2 (.inr (([] : List (Int × Int × Int)), 0))) :=
 runC2 hm (L := lT []) ⟨[3], [], 1, 0⟩ (zz 1 (xdF hy1_1) <|
ee) (by kernel_rfl)
theorem q_treeinOrderq1_1_4 (n : Nat) {rnd : Option Nat} (x1_0a : Int × Int × Int) (x1_0t : List (Int × Int × Int)) (x1_1 : Nat) (x1_2 x1_3 : Int) (hy1_1 : x1_3 < x1_2) (hy1_2 : 0 ≤ x1_3 ∧ x1_3 < (((Args.B).length : Nat) : Int)) (y1_3_ : Int × Int × Int × Int × Int × Int × NL × Int) (hy1_3 : (some ((Args.B).getD (x1_3).toNat (0, 0, 0, 0, 0, 0, nl0, 0))) = some y1_3_) (hy1_4 : x1_3 > (0 : Int)) (hy1_5 : ((x1_1 : Nat) : Int) = (0 : Int)) : Q_treeinOrderq1_1 rnd x1_2 ((x1_0a :: x1_0t), x1_1, x1_3) (X_treeinOrderq1_1 x1_2 (.inl ())) :=
 runC2 hm (L := lT []) ⟨[2], [], 0, 0⟩ (zz 1 (xdT hy1_1) <|
zz 8 (xk4 1 Args.cB hy1_2) <|
zz 9 (lk5 hy1_3 (toNatLt hy1_2)) <|
zz 16 (xdT hy1_4) <|
zz 22 (xeT hy1_5) <|
ee) (by kernel_rfl)
theorem q_treeinOrderq1_1_5 (n : Nat) {rnd : Option Nat} (x1_0a : Int × Int × Int) (x1_0t : List (Int × Int × Int)) (x1_1 : Nat) (x1_2 x1_3 : Int) (hy1_1 : x1_3 < x1_2) (hy1_2 : 0 ≤ x1_3 ∧ x1_3 < (((Args.B).length : Nat) : Int)) (y1_3_ : Int × Int × Int × Int × Int × Int × NL × Int) (hy1_3 : (some ((Args.B).getD (x1_3).toNat (0, 0, 0, 0, 0, 0, nl0, 0))) = some y1_3_) (hy1_4 : x1_3 > (0 : Int)) (hy1_5 : ¬ (((x1_1 : Nat) : Int) = (0 : Int))) (y1_6_ : Int) (hy1_6 : (some (w64 (((x1_1 : Nat) : Int) - (1 : Int)))) = some y1_6_) (hy1_7 : 0 ≤ y1_6_ ∧ y1_6_ < ((x1_1 : Nat) : Int)) (hy1_8 : (y1_6_).toNat < ((x1_0a :: x1_0t)).length) (y1_9_ : Int × Int × Int) (hy1_9 : (some (((x1_0a :: x1_0t)).getD (y1_6_).toNat (0, 0, 0))) = some y1_9_) (hy1_10 : 0 ≤ (y1_9_.1) ∧ (y1_9_.1) < (((Args.B).length : Nat) : Int)) (y1_11_ : Int × Int × Int × Int × Int × Int × NL × Int) (hy1_11 : (some ((Args.B).getD ((y1_9_.1)).toNat (0, 0, 0, 0, 0, 0, nl0, 0))) = some y1_11_) (hy1_12 : 0 ≤ (y1_9_.2.1) ∧ (y1_9_.2.1) < ((((y1_11_.2.2.2.2.2.2.1)).l.length : Nat) : Int)) (hy1_13 : ((y1_9_.2.1)).toNat < (((y1_11_.2.2.2.2.2.2.1)).l).length) (y1_14_ : Int) (hy1_14 : (some ((((y1_11_.2.2.2.2.2.2.1)).l).getD ((y1_9_.2.1)).toNat 0)) = some y1_14_) (hy1_15 : y1_14_ = x1_3) (hy1_16 : (y1_3_.2.2.1) < (y1_9_.2.2)) : Q_treeinOrderq1_1 rnd x1_2 ((x1_0a :: x1_0t), x1_1, x1_3) (X_treeinOrderq1_1 x1_2 (.inl ())) :=
 runC2 hm (L := lT []) ⟨[2], [], 0, 0⟩ (zz 1 (xdT hy1_1) <|
zz 8 (xk4 1 Args.cB hy1_2) <|
zz 9 (lk5 hy1_3 (toNatLt hy1_2)) <|
zz 16 (xdT hy1_4) <|
zz 22 (xeF hy1_5) <|
zz 28 (xnm hy1_6) <|
zz 29 (xk16 0 U3 hy1_7) <|
zz 36 (ok17 hy1_9 (hy1_8)) <|
zz 37 (xk4 1 Args.cB hy1_10) <|
zz 38 (lk5 hy1_11 (toNatLt hy1_10)) <|
zz 48 (ok18 hy1_9 (hy1_8)) <|
zz 49 (xk12 (Nat.add ((y1_11_.2.2.2.2.2.2.1)).num 64) ((y1_11_.2.2.2.2.2.2.1)).cap hy1_12) <|
zz 50 (nk13 hy1_14 hy1_13) <|
zz 52 (xnF hy1_15) <|
zz 59 (ok19 hy1_9 (hy1_8)) <|
zz 60 (xdT hy1_16) <|
ee) (by kernel_rfl)
theorem q_treeinOrderq1_1_6 (n : Nat) {rnd : Option Nat} (x1_0a : Int × Int × Int) (x1_0t : List (Int × Int × Int)) (x1_1 : Nat) (x1_2 x1_3 : Int) (hy1_1 : x1_3 < x1_2) (hy1_2 : 0 ≤ x1_3 ∧ x1_3 < (((Args.B).length : Nat) : Int)) (y1_3_ : Int × Int × Int × Int × Int × Int × NL × Int) (hy1_3 : (some ((Args.B).getD (x1_3).toNat (0, 0, 0, 0, 0, 0, nl0, 0))) = some y1_3_) (hy1_4 : x1_3 > (0 : Int)) (hy1_5 : ¬ (((x1_1 : Nat) : Int) = (0 : Int))) (y1_6_ : Int) (hy1_6 : (some (w64 (((x1_1 : Nat) : Int) - (1 : Int)))) = some y1_6_) (hy1_7 : 0 ≤ y1_6_ ∧ y1_6_ < ((x1_1 : Nat) : Int)) (hy1_8 : (y1_6_).toNat < ((x1_0a :: x1_0t)).length) (y1_9_ : Int × Int × Int) (hy1_9 : (some (((x1_0a :: x1_0t)).getD (y1_6_).toNat (0, 0, 0))) = some y1_9_) (hy1_10 : 0 ≤ (y1_9_.1) ∧ (y1_9_.1) < (((Args.B).length : Nat) : Int)) (y1_11_ : Int × Int × Int × Int × Int × Int × NL × Int) (hy1_11 : (some ((Args.B).getD ((y1_9_.1)).toNat (0, 0, 0, 0, 0, 0, nl0, 0))) = some y1_11_) (hy1_12 : 0 ≤ (y1_9_.2.1) ∧ (y1_9_.2.1) < ((((y1_11_.2.2.2.2.2.2.1)).l.length : Nat) : Int)) (hy1_13 : ((y1_9_.2.1)).toNat < (((y1_11_.2.2.2.2.2.2.1)).l).length) (y1_14_ : Int) (hy1_14 : (some ((((y1_11_.2.2.2.2.2.2.1)).l).getD ((y1_9_.2.1)).toNat 0)) = some y1_14_) (hy1_15 : y1_14_ = x1_3) (hy1_16 : ¬ ((y1_3_.2.2.1) < (y1_9_.2.2))) (hy1_17 : (y1_3_.2.2.2.2.1) > (y1_11_.2.2.2.2.1)) : Q_treeinOrderq1_1 rnd x1_2 ((x1_0a :: x1_0t), x1_1, x1_3) (X_treeinOrderq1_1 x1_2 (.inl ())) :=
 runC2 hm (L := lT []) ⟨[2], [], 0, 0⟩ (zz 1 (xdT hy1_1) <|
zz 8 (xk4 1 Args.cB hy1_2) <|
zz 9 (lk5 hy1_3 (toNatLt hy1_2)) <|
zz 16 (xdT hy1_4) <|
zz 22 (xeF hy1_5) <|
zz 28 (xnm hy1_6) <|
zz 29 (xk16 0 U3 hy1_7) <|
zz 36 (ok17 hy1_9 (hy1_8)) <|
zz 37 (xk4 1 Args.cB hy1_10) <|
zz 38 (lk5 hy1_11 (toNatLt hy1_10)) <|
zz 48 (ok18 hy1_9 (hy1_8)) <|
zz 49 (xk12 (Nat.add ((y1_11_.2.2.2.2.2.2.1)).num 64) ((y1_11_.2.2.2.2.2.2.1)).cap hy1_12) <|
zz 50 (nk13 hy1_14 hy1_13) <|
zz 52 (xnF hy1_15) <|
zz 59 (ok19 hy1_9 (hy1_8)) <|
zz 60 (xdF hy1_16) <|
zz 67 (xdT hy1_17) <|
ee) (by kernel_rfl)
theorem q_treeinOrderq1_1_7 (n : Nat) {rnd : Option Nat} (x1_0a : Int × Int × Int) (x1_0t : List (Int × Int × Int)) (x1_1 : Nat) (x1_2 x1_3 : Int) (hy1_1 : x1_3 < x1_2) (hy1_2 : 0 ≤ x1_3 ∧ x1_3 < (((Args.B).length : Nat) : Int)) (y1_3_ : Int × Int × Int × Int × Int × Int × NL × Int) (hy1_3 : (some ((Args.B).getD (x1_3).toNat (0, 0, 0, 0, 0, 0, nl0, 0))) = some y1_3_) (hy1_4 : x1_3 > (0 : Int)) (hy1_5 : ¬ (((x1_1 : Nat) : Int) = (0 : Int))) (y1_6_ : Int) (hy1_6 : (some (w64 (((x1_1 : Nat) : Int) - (1 : Int)))) = some y1_6_) (hy1_7 : 0 ≤ y1_6_ ∧ y1_6_ < ((x1_1 : Nat) : Int)) (hy1_8 : (y1_6_).toNat < ((x1_0a :: x1_0t)).length) (y1_9_ : Int × Int × Int) (hy1_9 : (some (((x1_0a :: x1_0t)).getD (y1_6_).toNat (0, 0, 0))) = some y1_9_) (hy1_10 : 0 ≤ (y1_9_.1) ∧ (y1_9_.1) < (((Args.B).length : Nat) : Int)) (y1_11_ : Int × Int × Int × Int × Int × Int × NL × Int) (hy1_11 : (some ((Args.B).getD ((y1_9_.1)).toNat (0, 0, 0, 0, 0, 0, nl0, 0))) = some y1_11_) (hy1_12 : 0 ≤ (y1_9_.2.1) ∧ (y1_9_.2.1) < ((((y1_11_.2.2.2.2.2.2.1)).l.length : Nat) : Int)) (hy1_13 : ((y1_9_.2.1)).toNat < (((y1_11_.2.2.2.2.2.2.1)).l).length) (y1_14_ : Int) (hy1_14 : (some ((((y1_11_.2.2.2.2.2.2.1)).l).getD ((y1_9_.2.1)).toNat 0)) = some y1_14_) (hy1_15 : y1_14_ = x1_3) (hy1_16 : ¬ ((y1_3_.2.2.1) < (y1_9_.2.2))) (hy1_17 : ¬ ((y1_3_.2.2.2.2.1) > (y1_11_.2.2.2.2.1))) (hy1_18 : (w64 ((y1_9_.2.1) + (1 : Int))) = ((((y1_11_.2.2.2.2.2.2.1)).l.length : Nat) : Int)) (hy1_19 : 0 ≤ y1_6_ ∧ y1_6_ ≤ ((x1_1 : Nat) : Int)) (hy1_20 : ((((y1_3_.2.2.2.2.2.2.1)).l.length : Nat) : Int) > (0 : Int)) (hy1_21 : (y1_6_).toNat ≤ ((((x1_0a :: x1_0t)).set (y1_6_).toNat ((y1_9_.1), (w64 ((y1_9_.2.1) + (1 : Int))), (y1_3_.2.2.2.2.1)))).length) (hy1_22 : ((y1_6_).toNat + 1) * 24 ≤ 140737488355328) : Q_treeinOrderq1_1 rnd x1_2 ((x1_0a :: x1_0t), x1_1, x1_3) (.normal, S_treeinOrderq1_1 x1_2 (((List.take (y1_6_).toNat (((x1_0a :: x1_0t)).set (y1_6_).toNat ((y1_9_.1), (w64 ((y1_9_.2.1) + (1 : Int))), (y1_3_.2.2.2.2.1)))) ++ [(x1_3, (0 : Int), (y1_3_.2.2.1))]), ((((List.take (y1_6_).toNat (((x1_0a :: x1_0t)).set (y1_6_).toNat ((y1_9_.1), (w64 ((y1_9_.2.1) + (1 : Int))), (y1_3_.2.2.2.2.1)))) ++ [(x1_3, (0 : Int), (y1_3_.2.2.1))])).length), (w64 (x1_3 + (1 : Int))))) :=
 by
 obtain ⟨za, zt, hz⟩ : ∃ a t, ((List.take (y1_6_).toNat (((x1_0a :: x1_0t)).set (y1_6_).toNat ((y1_9_.1), (w64 ((y1_9_.2.1) + (1 : Int))), (y1_3_.2.2.2.2.1)))) ++ [(x1_3, (0 : Int), (y1_3_.2.2.1))]) = a :: t := snoc_cons (List.take (y1_6_).toNat (((x1_0a :: x1_0t)).set (y1_6_).toNat ((y1_9_.1), (w64 ((y1_9_.2.1) + (1 : Int))), (y1_3_.2.2.2.2.1)))) (x1_3, (0 : Int), (y1_3_.2.2.1))
 rw [hz]
 exact runC2 hm (L := lT []) ⟨[0, 3, 8, 9, 10], [(0, 4, true)], 1, 0⟩ (zz 1 (xdT hy1_1) <|
zz 8 (xk4 1 Args.cB hy1_2) <|
zz 9 (lk5 hy1_3 (toNatLt hy1_2)) <|
zz 16 (xdT hy1_4) <|
zz 22 (xeF hy1_5) <|
zz 28 (xnm hy1_6) <|
zz 29 (xk16 0 U3 hy1_7) <|
zz 36 (ok17 hy1_9 (hy1_8)) <|
zz 37 (xk4 1 Args.cB hy1_10) <|
zz 38 (lk5 hy1_11 (toNatLt hy1_10)) <|
zz 48 (ok18 hy1_9 (hy1_8)) <|
zz 49 (xk12 (Nat.add ((y1_11_.2.2.2.2.2.2.1)).num 64) ((y1_11_.2.2.2.2.2.2.1)).cap hy1_12) <|
zz 50 (nk13 hy1_14 hy1_13) <|
zz 52 (xnF hy1_15) <|
zz 59 (ok19 hy1_9 (hy1_8)) <|
zz 60 (xdF hy1_16) <|
zz 67 (xdF hy1_17) <|
zz 76 (ok18 hy1_9 (hy1_8)) <|
yy 82 (.sto (layT (rows rw_iii (((x1_0a :: x1_0t)).set (y1_6_).toNat ((y1_9_.1), (w64 ((y1_9_.2.1) + (1 : Int))), (y1_9_.2.2)))))) <|
ww (p := ∃ old, rdT (layT (rows rw_iii (x1_0a :: x1_0t))) 1 (Nat.add ((y1_6_).toNat * 3) 1) = some old) (Exists.elim (rows_stN rwf_iii (0, 0, 0) (hr := hy1_9) (i := (y1_6_).toNat) (j := 1) (l := [(i6 (w64 ((y1_9_.2.1) + (1 : Int))))]) ((y1_9_.1), (w64 ((y1_9_.2.1) + (1 : Int))), (y1_9_.2.2)) (Nat.add ((y1_6_).toNat * 3) 1) rfl (hy1_8) (Nat.le_of_ble_eq_true rfl) rfl) fun o h => ⟨o, h.1⟩) <|
ww (p := layL [(i6 (w64 ((y1_9_.2.1) + (1 : Int))))] (Nat.add ((y1_6_).toNat * 3) 1) (layT (rows rw_iii (x1_0a :: x1_0t))) = layT (rows rw_iii (((x1_0a :: x1_0t)).set (y1_6_).toNat ((y1_9_.1), (w64 ((y1_9_.2.1) + (1 : Int))), (y1_9_.2.2))))) (Exists.elim (rows_stN rwf_iii (0, 0, 0) (hr := hy1_9) (i := (y1_6_).toNat) (j := 1) (l := [(i6 (w64 ((y1_9_.2.1) + (1 : Int))))]) ((y1_9_.1), (w64 ((y1_9_.2.1) + (1 : Int))), (y1_9_.2.2)) (Nat.add ((y1_6_).toNat * 3) 1) rfl (hy1_8) (Nat.le_of_ble_eq_true rfl) rfl) fun o h => h.2) <|
yy 85 (.sto (layT (rows rw_iii (((x1_0a :: x1_0t)).set (y1_6_).toNat ((y1_9_.1), (w64 ((y1_9_.2.1) + (1 : Int))), (y1_3_.2.2.2.2.1)))))) <|
ww (p := ∃ old, rdT (layT (rows rw_iii (((x1_0a :: x1_0t)).set (y1_6_).toNat ((y1_9_.1), (w64 ((y1_9_.2.1) + (1 : Int))), (y1_9_.2.2))))) 1 (Nat.add ((y1_6_).toNat * 3) 2) = some old) (Exists.elim (rows_stS rwf_iii (i := (y1_6_).toNat) (j := 2) (l := [(i6 (y1_3_.2.2.2.2.1))]) ((y1_9_.1), (w64 ((y1_9_.2.1) + (1 : Int))), (y1_9_.2.2)) ((y1_9_.1), (w64 ((y1_9_.2.1) + (1 : Int))), (y1_3_.2.2.2.2.1)) (Nat.add ((y1_6_).toNat * 3) 2) rfl (hy1_8) (Nat.le_of_ble_eq_true rfl) rfl) fun o h => ⟨o, h.1⟩) <|
ww (p := layL [(i6 (y1_3_.2.2.2.2.1))] (Nat.add ((y1_6_).toNat * 3) 2) (layT (rows rw_iii (((x1_0a :: x1_0t)).set (y1_6_).toNat ((y1_9_.1), (w64 ((y1_9_.2.1) + (1 : Int))), (y1_9_.2.2))))) = layT (rows rw_iii (((x1_0a :: x1_0t)).set (y1_6_).toNat ((y1_9_.1), (w64 ((y1_9_.2.1) + (1 : Int))), (y1_3_.2.2.2.2.1))))) (Exists.elim (rows_stS rwf_iii (i := (y1_6_).toNat) (j := 2) (l := [(i6 (y1_3_.2.2.2.2.1))]) ((y1_9_.1), (w64 ((y1_9_.2.1) + (1 : Int))), (y1_9_.2.2)) ((y1_9_.1), (w64 ((y1_9_.2.1) + (1 : Int))), (y1_3_.2.2.2.2.1)) (Nat.add ((y1_6_).toNat * 3) 2) rfl (hy1_8) (Nat.le_of_ble_eq_true rfl) rfl) fun o h => h.2) <|
yy 90 (.ld (i6 (w64 ((y1_9_.2.1) + (1 : Int))))) <|
ww (p := (layT (rows rw_iii (((x1_0a :: x1_0t)).set (y1_6_).toNat ((y1_9_.1), (w64 ((y1_9_.2.1) + (1 : Int))), (y1_3_.2.2.2.2.1))))).get (Nat.add ((y1_6_).toNat * 3) 1) = some (i6 (w64 ((y1_9_.2.1) + (1 : Int))))) (rows_ldS rwf_iii (i := (y1_6_).toNat) (j := 1) ((y1_9_.1), (w64 ((y1_9_.2.1) + (1 : Int))), (y1_3_.2.2.2.2.1)) (Nat.add ((y1_6_).toNat * 3) 1) rfl (hy1_8) (by decide) rfl) <|
zz 94 (xeT hy1_18) <|
zz 99 (xnm hy1_6) <|
yy 100 (.pur (sN 0 0 (y1_6_).toNat (Nat.add big 3))) <|
ww (p := opSlice P 62 (sN 0 0 x1_1 (Nat.add big 3)) none (some (i6 y1_6_)) none Ax.h0 = some ((sN 0 0 (y1_6_).toNat (Nat.add big 3)), Ax.h0)) (slRowHi (e := 65) (es := 3) (by kernel_rfl) (by kernel_rfl) rfl rfl hy1_19) <|
zz 106 (xdT hy1_20) <|
yy 114 (.app ⟨none, rows rw_iii (List.take (y1_6_).toNat (((x1_0a :: x1_0t)).set (y1_6_).toNat ((y1_9_.1), (w64 ((y1_9_.2.1) + (1 : Int))), (y1_3_.2.2.2.2.1)))), (rows rw_iii (za :: zt)), ((za :: zt)).length, false⟩) <|
ww (p := 0 < 1) ((by decide)) <|
ww (p := rdT (layT (rows rw_iii (((x1_0a :: x1_0t)).set (y1_6_).toNat ((y1_9_.1), (w64 ((y1_9_.2.1) + (1 : Int))), (y1_3_.2.2.2.2.1))))) (Nat.mul (y1_6_).toNat 3) 0 = some (rows rw_iii (List.take (y1_6_).toNat (((x1_0a :: x1_0t)).set (y1_6_).toNat ((y1_9_.1), (w64 ((y1_9_.2.1) + (1 : Int))), (y1_3_.2.2.2.2.1)))))) (rows_rdTake rwf_iii _ _ hy1_21) <|
ww (p := fits (Nat.add (y1_6_).toNat 1) 24 = true) (fits_ok hy1_22 (by have := hy1_22; show (_ : Nat) + _ ≤ _; omega)) <|
ww (p := allCells [(i6 x1_3), (i6 (0 : Int)), (i6 (y1_3_.2.2.1))] = true) (rfl) <|
ww (p := allCells (rows rw_iii (List.take (y1_6_).toNat (((x1_0a :: x1_0t)).set (y1_6_).toNat ((y1_9_.1), (w64 ((y1_9_.2.1) + (1 : Int))), (y1_3_.2.2.2.2.1))))) = true) (rows_cells rwf_iii _) <|
ww (p := rows rw_iii (List.take (y1_6_).toNat (((x1_0a :: x1_0t)).set (y1_6_).toNat ((y1_9_.1), (w64 ((y1_9_.2.1) + (1 : Int))), (y1_3_.2.2.2.2.1)))) ++ [(i6 x1_3), (i6 (0 : Int)), (i6 (y1_3_.2.2.1))] = (rows rw_iii (za :: zt))) (by rw [← hz]; exact (rows_app rw_iii (List.take (y1_6_).toNat (((x1_0a :: x1_0t)).set (y1_6_).toNat ((y1_9_.1), (w64 ((y1_9_.2.1) + (1 : Int))), (y1_3_.2.2.2.2.1)))) [(x1_3, (0 : Int), (y1_3_.2.2.1))])) <|
ww (p := Nat.add (y1_6_).toNat 1 = ((za :: zt)).length) (by rw [← hz]; exact (take_len hy1_21 rfl)) <|
ww (rows_flat rwf_iii (za :: zt) 65) <|
ee) (by kernel_rfl)
theorem q_treeinOrderq1_1_8 (n : Nat) {rnd : Option Nat} (x1_0a : Int × Int × Int) (x1_0t : List (Int × Int × Int)) (x1_1 : Nat) (x1_2 x1_3 : Int) (hy1_1 : x1_3 < x1_2) (hy1_2 : 0 ≤ x1_3 ∧ x1_3 < (((Args.B).length : Nat) : Int)) (y1_3_ : Int × Int × Int × Int × Int × Int × NL × Int) (hy1_3 : (some ((Args.B).getD (x1_3).toNat (0, 0, 0, 0, 0, 0, nl0, 0))) = some y1_3_) (hy1_4 : x1_3 > (0 : Int)) (hy1_5 : ¬ (((x1_1 : Nat) : Int) = (0 : Int))) (y1_6_ : Int) (hy1_6 : (some (w64 (((x1_1 : Nat) : Int) - (1 : Int)))) = some y1_6_) (hy1_7 : 0 ≤ y1_6_ ∧ y1_6_ < ((x1_1 : Nat) : Int)) (hy1_8 : (y1_6_).toNat < ((x1_0a :: x1_0t)).length) (y1_9_ : Int × Int × Int) (hy1_9 : (some (((x1_0a :: x1_0t)).getD (y1_6_).toNat (0, 0, 0))) = some y1_9_) (hy1_10 : 0 ≤ (y1_9_.1) ∧ (y1_9_.1) < (((Args.B).length : Nat) : Int)) (y1_11_ : Int × Int × Int × Int × Int × Int × NL × Int) (hy1_11 : (some ((Args.B).getD ((y1_9_.1)).toNat (0, 0, 0, 0, 0, 0, nl0, 0))) = some y1_11_) (hy1_12 : 0 ≤ (y1_9_.2.1) ∧ (y1_9_.2.1) < ((((y1_11_.2.2.2.2.2.2.1)).l.length : Nat) : Int)) (hy1_13 : ((y1_9_.2.1)).toNat < (((y1_11_.2.2.2.2.2.2.1)).l).length) (y1_14_ : Int) (hy1_14 : (some ((((y1_11_.2.2.2.2.2.2.1)).l).getD ((y1_9_.2.1)).toNat 0)) = some y1_14_) (hy1_15 : y1_14_ = x1_3) (hy1_16 : ¬ ((y1_3_.2.2.1) < (y1_9_.2.2))) (hy1_17 : ¬ ((y1_3_.2.2.2.2.1) > (y1_11_.2.2.2.2.1))) (hy1_18 : (w64 ((y1_9_.2.1) + (1 : Int))) = ((((y1_11_.2.2.2.2.2.2.1)).l.length : Nat) : Int)) (hy1_19 : 0 ≤ y1_6_ ∧ y1_6_ ≤ ((x1_1 : Nat) : Int)) (hy1_20 : ¬ (((((y1_3_.2.2.2.2.2.2.1)).l.length : Nat) : Int) > (0 : Int))) : Q_treeinOrderq1_1 rnd x1_2 ((x1_0a :: x1_0t), x1_1, x1_3) (.normal, S_treeinOrderq1_1 x1_2 ((((x1_0a :: x1_0t)).set (y1_6_).toNat ((y1_9_.1), (w64 ((y1_9_.2.1) + (1 : Int))), (y1_3_.2.2.2.2.1))), ((y1_6_).toNat), (w64 (x1_3 + (1 : Int))))) :=
 by
 obtain ⟨za, zt, hz⟩ : ∃ a t, (((x1_0a :: x1_0t)).set (y1_6_).toNat ((y1_9_.1), (w64 ((y1_9_.2.1) + (1 : Int))), (y1_3_.2.2.2.2.1))) = a :: t := set_cons
 rw [hz]
 exact runC2 hm (L := lT []) ⟨[0, 3, 8, 9, 10], [(0, 0, true)], 1, 0⟩ (zz 1 (xdT hy1_1) <|
zz 8 (xk4 1 Args.cB hy1_2) <|
zz 9 (lk5 hy1_3 (toNatLt hy1_2)) <|
zz 16 (xdT hy1_4) <|
zz 22 (xeF hy1_5) <|
zz 28 (xnm hy1_6) <|
zz 29 (xk16 0 U3 hy1_7) <|
zz 36 (ok17 hy1_9 (hy1_8)) <|
zz 37 (xk4 1 Args.cB hy1_10) <|
zz 38 (lk5 hy1_11 (toNatLt hy1_10)) <|
zz 48 (ok18 hy1_9 (hy1_8)) <|
zz 49 (xk12 (Nat.add ((y1_11_.2.2.2.2.2.2.1)).num 64) ((y1_11_.2.2.2.2.2.2.1)).cap hy1_12) <|
zz 50 (nk13 hy1_14 hy1_13) <|
zz 52 (xnF hy1_15) <|
zz 59 (ok19 hy1_9 (hy1_8)) <|
zz 60 (xdF hy1_16) <|
zz 67 (xdF hy1_17) <|
zz 76 (ok18 hy1_9 (hy1_8)) <|
yy 82 (.sto (layT (rows rw_iii (((x1_0a :: x1_0t)).set (y1_6_).toNat ((y1_9_.1), (w64 ((y1_9_.2.1) + (1 : Int))), (y1_9_.2.2)))))) <|
ww (p := ∃ old, rdT (layT (rows rw_iii (x1_0a :: x1_0t))) 1 (Nat.add ((y1_6_).toNat * 3) 1) = some old) (Exists.elim (rows_stN rwf_iii (0, 0, 0) (hr := hy1_9) (i := (y1_6_).toNat) (j := 1) (l := [(i6 (w64 ((y1_9_.2.1) + (1 : Int))))]) ((y1_9_.1), (w64 ((y1_9_.2.1) + (1 : Int))), (y1_9_.2.2)) (Nat.add ((y1_6_).toNat * 3) 1) rfl (hy1_8) (Nat.le_of_ble_eq_true rfl) rfl) fun o h => ⟨o, h.1⟩) <|
ww (p := layL [(i6 (w64 ((y1_9_.2.1) + (1 : Int))))] (Nat.add ((y1_6_).toNat * 3) 1) (layT (rows rw_iii (x1_0a :: x1_0t))) = layT (rows rw_iii (((x1_0a :: x1_0t)).set (y1_6_).toNat ((y1_9_.1), (w64 ((y1_9_.2.1) + (1 : Int))), (y1_9_.2.2))))) (Exists.elim (rows_stN rwf_iii (0, 0, 0) (hr := hy1_9) (i := (y1_6_).toNat) (j := 1) (l := [(i6 (w64 ((y1_9_.2.1) + (1 : Int))))]) ((y1_9_.1), (w64 ((y1_9_.2.1) + (1 : Int))), (y1_9_.2.2)) (Nat.add ((y1_6_).toNat * 3) 1) rfl (hy1_8) (Nat.le_of_ble_eq_true rfl) rfl) fun o h => h.2) <|
yy 85 (.sto (layT (rows rw_iii (za :: zt)))) <|
ww (p := ∃ old, rdT (layT (rows rw_iii (((x1_0a :: x1_0t)).set (y1_6_).toNat ((y1_9_.1), (w64 ((y1_9_.2.1) + (1 : Int))), (y1_9_.2.2))))) 1 (Nat.add ((y1_6_).toNat * 3) 2) = some old) (Exists.elim (rows_stS rwf_iii (i := (y1_6_).toNat) (j := 2) (l := [(i6 (y1_3_.2.2.2.2.1))]) ((y1_9_.1), (w64 ((y1_9_.2.1) + (1 : Int))), (y1_9_.2.2)) ((y1_9_.1), (w64 ((y1_9_.2.1) + (1 : Int))), (y1_3_.2.2.2.2.1)) (Nat.add ((y1_6_).toNat * 3) 2) rfl (hy1_8) (Nat.le_of_ble_eq_true rfl) rfl) fun o h => ⟨o, h.1⟩) <|
ww (p := layL [(i6 (y1_3_.2.2.2.2.1))] (Nat.add ((y1_6_).toNat * 3) 2) (layT (rows rw_iii (((x1_0a :: x1_0t)).set (y1_6_).toNat ((y1_9_.1), (w64 ((y1_9_.2.1) + (1 : Int))), (y1_9_.2.2))))) = layT (rows rw_iii (za :: zt))) (by rw [← hz]; exact (Exists.elim (rows_stS rwf_iii (i := (y1_6_).toNat) (j := 2) (l := [(i6 (y1_3_.2.2.2.2.1))]) ((y1_9_.1), (w64 ((y1_9_.2.1) + (1 : Int))), (y1_9_.2.2)) ((y1_9_.1), (w64 ((y1_9_.2.1) + (1 : Int))), (y1_3_.2.2.2.2.1)) (Nat.add ((y1_6_).toNat * 3) 2) rfl (hy1_8) (Nat.le_of_ble_eq_true rfl) rfl) fun o h => h.2)) <|
yy 90 (.ld (i6 (w64 ((y1_9_.2.1) + (1 : Int))))) <|
ww (p := (layT (rows rw_iii (za :: zt))).get (Nat.add ((y1_6_).toNat * 3) 1) = some (i6 (w64 ((y1_9_.2.1) + (1 : Int))))) (by rw [← hz]; exact (rows_ldS rwf_iii (i := (y1_6_).toNat) (j := 1) ((y1_9_.1), (w64 ((y1_9_.2.1) + (1 : Int))), (y1_3_.2.2.2.2.1)) (Nat.add ((y1_6_).toNat * 3) 1) rfl (hy1_8) (by decide) rfl)) <|
zz 94 (xeT hy1_18) <|
zz 99 (xnm hy1_6) <|
yy 100 (.pur (sN 0 0 (y1_6_).toNat (Nat.add big 3))) <|
ww (p := opSlice P 62 (sN 0 0 x1_1 (Nat.add big 3)) none (some (i6 y1_6_)) none Ax.h0 = some ((sN 0 0 (y1_6_).toNat (Nat.add big 3)), Ax.h0)) (slRowHi (e := 65) (es := 3) (by kernel_rfl) (by kernel_rfl) rfl rfl hy1_19) <|
zz 106 (xdF hy1_20) <|
ww (rows_flat rwf_iii (za :: zt) 65) <|
ee) (by kernel_rfl)
theorem q_treeinOrderq1_1_9 (n : Nat) {rnd : Option Nat} (x1_0a : Int × Int × Int) (x1_0t : List (Int × Int × Int)) (x1_1 : Nat) (x1_2 x1_3 : Int) (hy1_1 : x1_3 < x1_2) (hy1_2 : 0 ≤ x1_3 ∧ x1_3 < (((Args.B).length : Nat) : Int)) (y1_3_ : Int × Int × Int × Int × Int × Int × NL × Int) (hy1_3 : (some ((Args.B).getD (x1_3).toNat (0, 0, 0, 0, 0, 0, nl0, 0))) = some y1_3_) (hy1_4 : x1_3 > (0 : Int)) (hy1_5 : ¬ (((x1_1 : Nat) : Int) = (0 : Int))) (y1_6_ : Int) (hy1_6 : (some (w64 (((x1_1 : Nat) : Int) - (1 : Int)))) = some y1_6_) (hy1_7 : 0 ≤ y1_6_ ∧ y1_6_ < ((x1_1 : Nat) : Int)) (hy1_8 : (y1_6_).toNat < ((x1_0a :: x1_0t)).length) (y1_9_ : Int × Int × Int) (hy1_9 : (some (((x1_0a :: x1_0t)).getD (y1_6_).toNat (0, 0, 0))) = some y1_9_) (hy1_10 : 0 ≤ (y1_9_.1) ∧ (y1_9_.1) < (((Args.B).length : Nat) : Int)) (y1_11_ : Int × Int × Int × Int × Int × Int × NL × Int) (hy1_11 : (some ((Args.B).getD ((y1_9_.1)).toNat (0, 0, 0, 0, 0, 0, nl0, 0))) = some y1_11_) (hy1_12 : 0 ≤ (y1_9_.2.1) ∧ (y1_9_.2.1) < ((((y1_11_.2.2.2.2.2.2.1)).l.length : Nat) : Int)) (hy1_13 : ((y1_9_.2.1)).toNat < (((y1_11_.2.2.2.2.2.2.1)).l).length) (y1_14_ : Int) (hy1_14 : (some ((((y1_11_.2.2.2.2.2.2.1)).l).getD ((y1_9_.2.1)).toNat 0)) = some y1_14_) (hy1_15 : y1_14_ = x1_3) (hy1_16 : ¬ ((y1_3_.2.2.1) < (y1_9_.2.2))) (hy1_17 : ¬ ((y1_3_.2.2.2.2.1) > (y1_11_.2.2.2.2.1))) (hy1_18 : ¬ ((w64 ((y1_9_.2.1) + (1 : Int))) = ((((y1_11_.2.2.2.2.2.2.1)).l.length : Nat) : Int))) (hy1_19 : ((((y1_3_.2.2.2.2.2.2.1)).l.length : Nat) : Int) > (0 : Int)) (hy1_20 : x1_1 ≤ ((((x1_0a :: x1_0t)).set (y1_6_).toNat ((y1_9_.1), (w64 ((y1_9_.2.1) + (1 : Int))), (y1_3_.2.2.2.2.1)))).length) (hy1_21 : (x1_1 + 1) * 24 ≤ 140737488355328) : Q_treeinOrderq1_1 rnd x1_2 ((x1_0a :: x1_0t), x1_1, x1_3) (.normal, S_treeinOrderq1_1 x1_2 (((List.take x1_1 (((x1_0a :: x1_0t)).set (y1_6_).toNat ((y1_9_.1), (w64 ((y1_9_.2.1) + (1 : Int))), (y1_3_.2.2.2.2.1)))) ++ [(x1_3, (0 : Int), (y1_3_.2.2.1))]), ((((List.take x1_1 (((x1_0a :: x1_0t)).set (y1_6_).toNat ((y1_9_.1), (w64 ((y1_9_.2.1) + (1 : Int))), (y1_3_.2.2.2.2.1)))) ++ [(x1_3, (0 : Int), (y1_3_.2.2.1))])).length), (w64 (x1_3 + (1 : Int))))) :=
 by
 obtain ⟨za, zt, hz⟩ : ∃ a t, ((List.take x1_1 (((x1_0a :: x1_0t)).set (y1_6_).toNat ((y1_9_.1), (w64 ((y1_9_.2.1) + (1 : Int))), (y1_3_.2.2.2.2.1)))) ++ [(x1_3, (0 : Int), (y1_3_.2.2.1))]) = a :: t := snoc_cons (List.take x1_1 (((x1_0a :: x1_0t)).set (y1_6_).toNat ((y1_9_.1), (w64 ((y1_9_.2.1) + (1 : Int))), (y1_3_.2.2.2.2.1)))) (x1_3, (0 : Int), (y1_3_.2.2.1))
 rw [hz]
 exact runC2 hm (L := lT []) ⟨[0, 3, 8, 9, 10], [(0, 4, true)], 1, 0⟩ (zz 1 (xdT hy1_1) <|
zz 8 (xk4 1 Args.cB hy1_2) <|
zz 9 (lk5 hy1_3 (toNatLt hy1_2)) <|
zz 16 (xdT hy1_4) <|
zz 22 (xeF hy1_5) <|
zz 28 (xnm hy1_6) <|
zz 29 (xk16 0 U3 hy1_7) <|
zz 36 (ok17 hy1_9 (hy1_8)) <|
zz 37 (xk4 1 Args.cB hy1_10) <|
zz 38 (lk5 hy1_11 (toNatLt hy1_10)) <|
zz 48 (ok18 hy1_9 (hy1_8)) <|
zz 49 (xk12 (Nat.add ((y1_11_.2.2.2.2.2.2.1)).num 64) ((y1_11_.2.2.2.2.2.2.1)).cap hy1_12) <|
zz 50 (nk13 hy1_14 hy1_13) <|
zz 52 (xnF hy1_15) <|
zz 59 (ok19 hy1_9 (hy1_8)) <|
zz 60 (xdF hy1_16) <|
zz 67 (xdF hy1_17) <|
zz 76 (ok18 hy1_9 (hy1_8)) <|
yy 82 (.sto (layT (rows rw_iii (((x1_0a :: x1_0t)).set (y1_6_).toNat ((y1_9_.1), (w64 ((y1_9_.2.1) + (1 : Int))), (y1_9_.2.2)))))) <|
ww (p := ∃ old, rdT (layT (rows rw_iii (x1_0a :: x1_0t))) 1 (Nat.add ((y1_6_).toNat * 3) 1) = some old) (Exists.elim (rows_stN rwf_iii (0, 0, 0) (hr := hy1_9) (i := (y1_6_).toNat) (j := 1) (l := [(i6 (w64 ((y1_9_.2.1) + (1 : Int))))]) ((y1_9_.1), (w64 ((y1_9_.2.1) + (1 : Int))), (y1_9_.2.2)) (Nat.add ((y1_6_).toNat * 3) 1) rfl (hy1_8) (Nat.le_of_ble_eq_true rfl) rfl) fun o h => ⟨o, h.1⟩) <|
ww (p := layL [(i6 (w64 ((y1_9_.2.1) + (1 : Int))))] (Nat.add ((y1_6_).toNat * 3) 1) (layT (rows rw_iii (x1_0a :: x1_0t))) = layT (rows rw_iii (((x1_0a :: x1_0t)).set (y1_6_).toNat ((y1_9_.1), (w64 ((y1_9_.2.1) + (1 : Int))), (y1_9_.2.2))))) (Exists.elim (rows_stN rwf_iii (0, 0, 0) (hr := hy1_9) (i := (y1_6_).toNat) (j := 1) (l := [(i6 (w64 ((y1_9_.2.1) + (1 : Int))))]) ((y1_9_.1), (w64 ((y1_9_.2.1) + (1 : Int))), (y1_9_.2.2)) (Nat.add ((y1_6_).toNat * 3) 1) rfl (hy1_8) (Nat.le_of_ble_eq_true rfl) rfl) fun o h => h.2) <|
yy 85 (.sto (layT (rows rw_iii (((x1_0a :: x1_0t)).set (y1_6_).toNat ((y1_9_.1), (w64 ((y1_9_.2.1) + (1 : Int))), (y1_3_.2.2.2.2.1)))))) <|
ww (p := ∃ old, rdT (layT (rows rw_iii (((x1_0a :: x1_0t)).set (y1_6_).toNat ((y1_9_.1), (w64 ((y1_9_.2.1) + (1 : Int))), (y1_9_.2.2))))) 1 (Nat.add ((y1_6_).toNat * 3) 2) = some old) (Exists.elim (rows_stS rwf_iii (i := (y1_6_).toNat) (j := 2) (l := [(i6 (y1_3_.2.2.2.2.1))]) ((y1_9_.1), (w64 ((y1_9_.2.1) + (1 : Int))), (y1_9_.2.2)) ((y1_9_.1), (w64 ((y1_9_.2.1) + (1 : Int))), (y1_3_.2.2.2.2.1)) (Nat.add ((y1_6_).toNat * 3) 2) rfl (hy1_8) (Nat.le_of_ble_eq_true rfl) rfl) fun o h => ⟨o, h.1⟩) <|
ww (p := layL [(i6 (y1_3_.2.2.2.2.1))] (Nat.add ((y1_6_).toNat * 3) 2) (layT (rows rw_iii (((x1_0a :: x1_0t)).set (y1_6_).toNat ((y1_9_.1), (w64 ((y1_9_.2.1) + (1 : Int))), (y1_9_.2.2))))) = layT (rows rw_iii (((x1_0a :: x1_0t)).set (y1_6_).toNat ((y1_9_.1), (w64 ((y1_9_.2.1) + (1 : Int))), (y1_3_.2.2.2.2.1))))) (Exists.elim (rows_stS rwf_iii (i := (y1_6_).toNat) (j := 2) (l := [(i6 (y1_3_.2.2.2.2.1))]) ((y1_9_.1), (w64 ((y1_9_.2.1) + (1 : Int))), (y1_9_.2.2)) ((y1_9_.1), (w64 ((y1_9_.2.1) + (1 : Int))), (y1_3_.2.2.2.2.1)) (Nat.add ((y1_6_).toNat * 3) 2) rfl (hy1_8) (Nat.le_of_ble_eq_true rfl) rfl) fun o h => h.2) <|
yy 90 (.ld (i6 (w64 ((y1_9_.2.1) + (1 : Int))))) <|
ww (p := (layT (rows rw_iii (((x1_0a :: x1_0t)).set (y1_6_).toNat ((y1_9_.1), (w64 ((y1_9_.2.1) + (1 : Int))), (y1_3_.2.2.2.2.1))))).get (Nat.add ((y1_6_).toNat * 3) 1) = some (i6 (w64 ((y1_9_.2.1) + (1 : Int))))) (rows_ldS rwf_iii (i := (y1_6_).toNat) (j := 1) ((y1_9_.1), (w64 ((y1_9_.2.1) + (1 : Int))), (y1_3_.2.2.2.2.1)) (Nat.add ((y1_6_).toNat * 3) 1) rfl (hy1_8) (by decide) rfl) <|
zz 94 (xeF hy1_18) <|
zz 100 (xdT hy1_19) <|
yy 108 (.app ⟨none, rows rw_iii (List.take x1_1 (((x1_0a :: x1_0t)).set (y1_6_).toNat ((y1_9_.1), (w64 ((y1_9_.2.1) + (1 : Int))), (y1_3_.2.2.2.2.1)))), (rows rw_iii (za :: zt)), ((za :: zt)).length, false⟩) <|
ww (p := 0 < 1) ((by decide)) <|
ww (p := rdT (layT (rows rw_iii (((x1_0a :: x1_0t)).set (y1_6_).toNat ((y1_9_.1), (w64 ((y1_9_.2.1) + (1 : Int))), (y1_3_.2.2.2.2.1))))) (Nat.mul x1_1 3) 0 = some (rows rw_iii (List.take x1_1 (((x1_0a :: x1_0t)).set (y1_6_).toNat ((y1_9_.1), (w64 ((y1_9_.2.1) + (1 : Int))), (y1_3_.2.2.2.2.1)))))) (rows_rdTake rwf_iii _ _ hy1_20) <|
ww (p := fits (Nat.add x1_1 1) 24 = true) (fits_ok hy1_21 (by have := hy1_21; show (_ : Nat) + _ ≤ _; omega)) <|
ww (p := allCells [(i6 x1_3), (i6 (0 : Int)), (i6 (y1_3_.2.2.1))] = true) (rfl) <|
ww (p := allCells (rows rw_iii (List.take x1_1 (((x1_0a :: x1_0t)).set (y1_6_).toNat ((y1_9_.1), (w64 ((y1_9_.2.1) + (1 : Int))), (y1_3_.2.2.2.2.1))))) = true) (rows_cells rwf_iii _) <|
ww (p := rows rw_iii (List.take x1_1 (((x1_0a :: x1_0t)).set (y1_6_).toNat ((y1_9_.1), (w64 ((y1_9_.2.1) + (1 : Int))), (y1_3_.2.2.2.2.1)))) ++ [(i6 x1_3), (i6 (0 : Int)), (i6 (y1_3_.2.2.1))] = (rows rw_iii (za :: zt))) (by rw [← hz]; exact (rows_app rw_iii (List.take x1_1 (((x1_0a :: x1_0t)).set (y1_6_).toNat ((y1_9_.1), (w64 ((y1_9_.2.1) + (1 : Int))), (y1_3_.2.2.2.2.1)))) [(x1_3, (0 : Int), (y1_3_.2.2.1))])) <|
ww (p := Nat.add x1_1 1 = ((za :: zt)).length) (by rw [← hz]; exact (take_len hy1_20 rfl)) <|
ww (rows_flat rwf_iii (za :: zt) 65) <|
ee) (by kernel_rfl)
theorem q_treeinOrderq1_1_10 (n : Nat) {rnd : Option Nat} (x1_0a : Int × Int × Int) (x1_0t : List (Int × Int × Int)) (x1_1 : Nat) (x1_2 x1_3 : Int) (hy1_1 : x1_3 < x1_2) (hy1_2 : 0 ≤ x1_3 ∧ x1_3 < (((Args.B).length : Nat) : Int)) (y1_3_ : Int × Int × Int × Int × Int × Int × NL × Int) (hy1_3 : (some ((Args.B).getD (x1_3).toNat (0, 0, 0, 0, 0, 0, nl0, 0))) = some y1_3_) (hy1_4 : x1_3 > (0 : Int)) (hy1_5 : ¬ (((x1_1 : Nat) : Int) = (0 : Int))) (y1_6_ : Int) (hy1_6 : (some (w64 (((x1_1 : Nat) : Int) - (1 : Int)))) = some y1_6_) (hy1_7 : 0 ≤ y1_6_ ∧ y1_6_ < ((x1_1 : Nat) : Int)) (hy1_8 : (y1_6_).toNat < ((x1_0a :: x1_0t)).length) (y1_9_ : Int × Int × Int) (hy1_9 : (some (((x1_0a :: x1_0t)).getD (y1_6_).toNat (0, 0, 0))) = some y1_9_) (hy1_10 : 0 ≤ (y1_9_.1) ∧ (y1_9_.1) < (((Args.B).length : Nat) : Int)) (y1_11_ : Int × Int × Int × Int × Int × Int × NL × Int) (hy1_11 : (some ((Args.B).getD ((y1_9_.1)).toNat (0, 0, 0, 0, 0, 0, nl0, 0))) = some y1_11_) (hy1_12 : 0 ≤ (y1_9_.2.1) ∧ (y1_9_.2.1) < ((((y1_11_.2.2.2.2.2.2.1)).l.length : Nat) : Int)) (hy1_13 : ((y1_9_.2.1)).toNat < (((y1_11_.2.2.2.2.2.2.1)).l).length) (y1_14_ : Int) (hy1_14 : (some ((((y1_11_.2.2.2.2.2.2.1)).l).getD ((y1_9_.2.1)).toNat 0)) = some y1_14_) (hy1_15 : y1_14_ = x1_3) (hy1_16 : ¬ ((y1_3_.2.2.1) < (y1_9_.2.2))) (hy1_17 : ¬ ((y1_3_.2.2.2.2.1) > (y1_11_.2.2.2.2.1))) (hy1_18 : ¬ ((w64 ((y1_9_.2.1) + (1 : Int))) = ((((y1_11_.2.2.2.2.2.2.1)).l.length : Nat) : Int))) (hy1_19 : ¬ (((((y1_3_.2.2.2.2.2.2.1)).l.length : Nat) : Int) > (0 : Int))) : Q_treeinOrderq1_1 rnd x1_2 ((x1_0a :: x1_0t), x1_1, x1_3) (.normal, S_treeinOrderq1_1 x1_2 ((((x1_0a :: x1_0t)).set (y1_6_).toNat ((y1_9_.1), (w64 ((y1_9_.2.1) + (1 : Int))), (y1_3_.2.2.2.2.1))), x1_1, (w64 (x1_3 + (1 : Int))))) :=
 by
 obtain ⟨za, zt, hz⟩ : ∃ a t, (((x1_0a :: x1_0t)).set (y1_6_).toNat ((y1_9_.1), (w64 ((y1_9_.2.1) + (1 : Int))), (y1_3_.2.2.2.2.1))) = a :: t := set_cons
 rw [hz]
 exact runC2 hm (L := lT []) ⟨[0, 3, 8, 9, 10], [(0, 0, true)], 1, 0⟩ (zz 1 (xdT hy1_1) <|
zz 8 (xk4 1 Args.cB hy1_2) <|
zz 9 (lk5 hy1_3 (toNatLt hy1_2)) <|
zz 16 (xdT hy1_4) <|
zz 22 (xeF hy1_5) <|
zz 28 (xnm hy1_6) <|
zz 29 (xk16 0 U3 hy1_7) <|
zz 36 (ok17 hy1_9 (hy1_8)) <|
zz 37 (xk4 1 Args.cB hy1_10) <|
zz 38 (lk5 hy1_11 (toNatLt hy1_10)) <|
zz 48 (ok18 hy1_9 (hy1_8)) <|
zz 49 (xk12 (Nat.add ((y1_11_.2.2.2.2.2.2.1)).num 64) ((y1_11_.2.2.2.2.2.2.1)).cap hy1_12) <|
zz 50 (nk13 hy1_14 hy1_13) <|
zz 52 (xnF hy1_15) <|
zz 59 (ok19 hy1_9 (hy1_8)) <|
zz 60 (xdF hy1_16) <|
zz 67 (xdF hy1_17) <|
zz 76 (ok18 hy1_9 (hy1_8)) <|
yy 82 (.sto (layT (rows rw_iii (((x1_0a :: x1_0t)).set (y1_6_).toNat ((y1_9_.1), (w64 ((y1_9_.2.1) + (1 : Int))), (y1_9_.2.2)))))) <|
ww (p := ∃ old, rdT (layT (rows rw_iii (x1_0a :: x1_0t))) 1 (Nat.add ((y1_6_).toNat * 3) 1) = some old) (Exists.elim (rows_stN rwf_iii (0, 0, 0) (hr := hy1_9) (i := (y1_6_).toNat) (j := 1) (l := [(i6 (w64 ((y1_9_.2.1) + (1 : Int))))]) ((y1_9_.1), (w64 ((y1_9_.2.1) + (1 : Int))), (y1_9_.2.2)) (Nat.add ((y1_6_).toNat * 3) 1) rfl (hy1_8) (Nat.le_of_ble_eq_true rfl) rfl) fun o h => ⟨o, h.1⟩) <|
ww (p := layL [(i6 (w64 ((y1_9_.2.1) + (1 : Int))))] (Nat.add ((y1_6_).toNat * 3) 1) (layT (rows rw_iii (x1_0a :: x1_0t))) = layT (rows rw_iii (((x1_0a :: x1_0t)).set (y1_6_).toNat ((y1_9_.1), (w64 ((y1_9_.2.1) + (1 : Int))), (y1_9_.2.2))))) (Exists.elim (rows_stN rwf_iii (0, 0, 0) (hr := hy1_9) (i := (y1_6_).toNat) (j := 1) (l := [(i6 (w64 ((y1_9_.2.1) + (1 : Int))))]) ((y1_9_.1), (w64 ((y1_9_.2.1) + (1 : Int))), (y1_9_.2.2)) (Nat.add ((y1_6_).toNat * 3) 1) rfl (hy1_8) (Nat.le_of_ble_eq_true rfl) rfl) fun o h => h.2) <|
yy 85 (.sto (layT (rows rw_iii (za :: zt)))) <|
ww (p := ∃ old, rdT (layT (rows rw_iii (((x1_0a :: x1_0t)).set (y1_6_).toNat ((y1_9_.1), (w64 ((y1_9_.2.1) + (1 : Int))), (y1_9_.2.2))))) 1 (Nat.add ((y1_6_).toNat * 3) 2) = some old) (Exists.elim (rows_stS rwf_iii (i := (y1_6_).toNat) (j := 2) (l := [(i6 (y1_3_.2.2.2.2.1))]) ((y1_9_.1), (w64 ((y1_9_.2.1) + (1 : Int))), (y1_9_.2.2)) ((y1_9_.1), (w64 ((y1_9_.2.1) + (1 : Int))), (y1_3_.2.2.2.2.1)) (Nat.add ((y1_6_).toNat * 3) 2) rfl (hy1_8) (Nat.le_of_ble_eq_true rfl) rfl) fun o h => ⟨o, h.1⟩) <|
ww (p := layL [(i6 (y1_3_.2.2.2.2.1))] (Nat.add ((y1_6_).toNat * 3) 2) (layT (rows rw_iii (((x1_0a :: x1_0t)).set (y1_6_).toNat ((y1_9_.1), (w64 ((y1_9_.2.1) + (1 : Int))), (y1_9_.2.2))))) = layT (rows rw_iii (za :: zt))) (by rw [← hz]; exact (Exists.elim (rows_stS rwf_iii (i := (y1_6_).toNat) (j := 2) (l := [(i6 (y1_3_.2.2.2.2.1))]) ((y1_9_.1), (w64 ((y1_9_.2.1) + (1 : Int))), (y1_9_.2.2)) ((y1_9_.1), (w64 ((y1_9_.2.1) + (1 : Int))), (y1_3_.2.2.2.2.1)) (Nat.add ((y1_6_).toNat * 3) 2) rfl (hy1_8) (Nat.le_of_ble_eq_true rfl) rfl) fun o h => h.2)) <|
yy 90 (.ld (i6 (w64 ((y1_9_.2.1) + (1 : Int))))) <|
ww (p := (layT (rows rw_iii (za :: zt))).get (Nat.add ((y1_6_).toNat * 3) 1) = some (i6 (w64 ((y1_9_.2.1) + (1 : Int))))) (by rw [← hz]; exact (rows_ldS rwf_iii (i := (y1_6_).toNat) (j := 1) ((y1_9_.1), (w64 ((y1_9_.2.1) + (1 : Int))), (y1_3_.2.2.2.2.1)) (Nat.add ((y1_6_).toNat * 3) 1) rfl (hy1_8) (by decide) rfl)) <|
zz 94 (xeF hy1_18) <|
zz 100 (xdF hy1_19) <|
ww (rows_flat rwf_iii (za :: zt) 65) <|
ee) (by kernel_rfl)
theorem q_treeinOrderq1_1_11 (n : Nat) {rnd : Option Nat} (x1_0a : Int × Int × Int) (x1_0t : List (Int × Int × Int)) (x1_1 : Nat) (x1_2 x1_3 : Int) (hy1_1 : x1_3 < x1_2) (hy1_2 : 0 ≤ x1_3 ∧ x1_3 < (((Args.B).length : Nat) : Int)) (y1_3_ : Int × Int × Int × Int × Int × Int × NL × Int) (hy1_3 : (some ((Args.B).getD (x1_3).toNat (0, 0, 0, 0, 0, 0, nl0, 0))) = some y1_3_) (hy1_4 : x1_3 > (0 : Int)) (hy1_5 : ¬ (((x1_1 : Nat) : Int) = (0 : Int))) (y1_6_ : Int) (hy1_6 : (some (w64 (((x1_1 : Nat) : Int) - (1 : Int)))) = some y1_6_) (hy1_7 : 0 ≤ y1_6_ ∧ y1_6_ < ((x1_1 : Nat) : Int)) (hy1_8 : (y1_6_).toNat < ((x1_0a :: x1_0t)).length) (y1_9_ : Int × Int × Int) (hy1_9 : (some (((x1_0a :: x1_0t)).getD (y1_6_).toNat (0, 0, 0))) = some y1_9_) (hy1_10 : 0 ≤ (y1_9_.1) ∧ (y1_9_.1) < (((Args.B).length : Nat) : Int)) (y1_11_ : Int × Int × Int × Int × Int × Int × NL × Int) (hy1_11 : (some ((Args.B).getD ((y1_9_.1)).toNat (0, 0, 0, 0, 0, 0, nl0, 0))) = some y1_11_) (hy1_12 : 0 ≤ (y1_9_.2.1) ∧ (y1_9_.2.1) < ((((y1_11_.2.2.2.2.2.2.1)).l.length : Nat) : Int)) (hy1_13 : ((y1_9_.2.1)).toNat < (((y1_11_.2.2.2.2.2.2.1)).l).length) (y1_14_ : Int) (hy1_14 : (some ((((y1_11_.2.2.2.2.2.2.1)).l).getD ((y1_9_.2.1)).toNat 0)) = some y1_14_) (hy1_15 : ¬ (y1_14_ = x1_3)) : Q_treeinOrderq1_1 rnd x1_2 ((x1_0a :: x1_0t), x1_1, x1_3) (X_treeinOrderq1_1 x1_2 (.inl ())) :=
 runC2 hm (L := lT []) ⟨[2], [], 0, 0⟩ (zz 1 (xdT hy1_1) <|
zz 8 (xk4 1 Args.cB hy1_2) <|
zz 9 (lk5 hy1_3 (toNatLt hy1_2)) <|
zz 16 (xdT hy1_4) <|
zz 22 (xeF hy1_5) <|
zz 28 (xnm hy1_6) <|
zz 29 (xk16 0 U3 hy1_7) <|
zz 36 (ok17 hy1_9 (hy1_8)) <|
zz 37 (xk4 1 Args.cB hy1_10) <|
zz 38 (lk5 hy1_11 (toNatLt hy1_10)) <|
zz 48 (ok18 hy1_9 (hy1_8)) <|
zz 49 (xk12 (Nat.add ((y1_11_.2.2.2.2.2.2.1)).num 64) ((y1_11_.2.2.2.2.2.2.1)).cap hy1_12) <|
zz 50 (nk13 hy1_14 hy1_13) <|
zz 52 (xnT hy1_15) <|
ee) (by kernel_rfl)
theorem q_treeinOrderq1_1_12 (n : Nat) {rnd : Option Nat} (x1_0a : Int × Int × Int) (x1_0t : List (Int × Int × Int)) (x1_1 : Nat) (x1_2 x1_3 : Int) (hy1_1 : x1_3 < x1_2) (hy1_2 : 0 ≤ x1_3 ∧ x1_3 < (((Args.B).length : Nat) : Int)) (y1_3_ : Int × Int × Int × Int × Int × Int × NL × Int) (hy1_3 : (some ((Args.B).getD (x1_3).toNat (0, 0, 0, 0, 0, 0, nl0, 0))) = some y1_3_) (hy1_4 : ¬ (x1_3 > (0 : Int))) (hy1_5 : ((((y1_3_.2.2.2.2.2.2.1)).l.length : Nat) : Int) > (0 : Int)) (hy1_6 : x1_1 ≤ ((x1_0a :: x1_0t)).length) (hy1_7 : (x1_1 + 1) * 24 ≤ 140737488355328) : Q_treeinOrderq1_1 rnd x1_2 ((x1_0a :: x1_0t), x1_1, x1_3) (.normal, S_treeinOrderq1_1 x1_2 (((List.take x1_1 (x1_0a :: x1_0t)) ++ [(x1_3, (0 : Int), (y1_3_.2.2.1))]), ((((List.take x1_1 (x1_0a :: x1_0t)) ++ [(x1_3, (0 : Int), (y1_3_.2.2.1))])).length), (w64 (x1_3 + (1 : Int))))) :=
 by
 obtain ⟨za, zt, hz⟩ : ∃ a t, ((List.take x1_1 (x1_0a :: x1_0t)) ++ [(x1_3, (0 : Int), (y1_3_.2.2.1))]) = a :: t := snoc_cons (List.take x1_1 (x1_0a :: x1_0t)) (x1_3, (0 : Int), (y1_3_.2.2.1))
 rw [hz]
 exact runC2 hm (L := lT []) ⟨[0, 3, 8, 9, 10], [(0, 3, true)], 1, 0⟩ (zz 1 (xdT hy1_1) <|
zz 8 (xk4 1 Args.cB hy1_2) <|
zz 9 (lk5 hy1_3 (toNatLt hy1_2)) <|
zz 16 (xdF hy1_4) <|
zz 22 (xdT hy1_5) <|
yy 30 (.app ⟨none, rows rw_iii (List.take x1_1 (x1_0a :: x1_0t)), (rows rw_iii (za :: zt)), ((za :: zt)).length, false⟩) <|
ww (p := 0 < 1) ((by decide)) <|
ww (p := rdT (layT (rows rw_iii (x1_0a :: x1_0t))) (Nat.mul x1_1 3) 0 = some (rows rw_iii (List.take x1_1 (x1_0a :: x1_0t)))) (rows_rdTake rwf_iii _ _ hy1_6) <|
ww (p := fits (Nat.add x1_1 1) 24 = true) (fits_ok hy1_7 (by have := hy1_7; show (_ : Nat) + _ ≤ _; omega)) <|
ww (p := allCells [(i6 x1_3), (i6 (0 : Int)), (i6 (y1_3_.2.2.1))] = true) (rfl) <|
ww (p := allCells (rows rw_iii (List.take x1_1 (x1_0a :: x1_0t))) = true) (rows_cells rwf_iii _) <|
ww (p := rows rw_iii (List.take x1_1 (x1_0a :: x1_0t)) ++ [(i6 x1_3), (i6 (0 : Int)), (i6 (y1_3_.2.2.1))] = (rows rw_iii (za :: zt))) (by rw [← hz]; exact (rows_app rw_iii (List.take x1_1 (x1_0a :: x1_0t)) [(x1_3, (0 : Int), (y1_3_.2.2.1))])) <|
ww (p := Nat.add x1_1 1 = ((za :: zt)).length) (by rw [← hz]; exact (take_len hy1_6 rfl)) <|
ww (rows_flat rwf_iii (za :: zt) 65) <|
ee) (by kernel_rfl)
theorem q_treeinOrderq1_1_13 (n : Nat) {rnd : Option Nat} (x1_0a : Int × Int × Int) (x1_0t : List (Int × Int × Int)) (x1_1 : Nat) (x1_2 x1_3 : Int) (hy1_1 : x1_3 < x1_2) (hy1_2 : 0 ≤ x1_3 ∧ x1_3 < (((Args.B).length : Nat) : Int)) (y1_3_ : Int × Int × Int × Int × Int × Int × NL × Int) (hy1_3 : (some ((Args.B).getD (x1_3).toNat (0, 0, 0, 0, 0, 0, nl0, 0))) = some y1_3_) (hy1_4 : ¬ (x1_3 > (0 : Int))) (hy1_5 : ¬ (((((y1_3_.2.2.2.2.2.2.1)).l.length : Nat) : Int) > (0 : Int))) : Q_treeinOrderq1_1 rnd x1_2 ((x1_0a :: x1_0t), x1_1, x1_3) (.normal, S_treeinOrderq1_1 x1_2 ((x1_0a :: x1_0t), x1_1, (w64 (x1_3 + (1 : Int))))) :=
 runC2 hm (L := lT []) ⟨[0, 3, 8, 9, 10], [(0, 0, true)], 1, 0⟩ (zz 1 (xdT hy1_1) <|
zz 8 (xk4 1 Args.cB hy1_2) <|
zz 9 (lk5 hy1_3 (toNatLt hy1_2)) <|
zz 16 (xdF hy1_4) <|
zz 22 (xdF hy1_5) <|
ww (rows_flat rwf_iii (x1_0a :: x1_0t) 65) <|
ee) (by kernel_rfl)
theorem q_treeinOrderq1_1_14 (n : Nat) {rnd : Option Nat} (x1_0a : Int × Int × Int) (x1_0t : List (Int × Int × Int)) (x1_1 : Nat) (x1_2 x1_3 : Int) (hy1_1 : ¬ (x1_3 < x1_2)) : Q_treeinOrderq1_1 rnd x1_2 ((x1_0a :: x1_0t), x1_1, x1_3) (X_treeinOrderq1_1 x1_2 (.inr ((x1_0a :: x1_0t), x1_1))) :=
 runC2 hm (L := lT []) ⟨[3], [(0, 0, true)], 1, 0⟩ (zz 1 (xdF hy1_1) <|
ww (rows_flat rwf_iii (x1_0a :: x1_0t) 65) <|
ee) (by kernel_rfl)
theorem m_treeinOrderq1_1_ok (n : Nat) {rnd : Option Nat} (x1_2 : Int) (st : List (Int × Int × Int) × Nat × Int) (r : (Unit) ⊕ (List (Int × Int × Int) × Nat)) (h : m_treeinOrderq1_1 n x1_2 st = some r) : CG P rnd (fnN P 33) 0 (codeOf P 33 [false, true, false, true, true]) (S_treeinOrderq1_1 x1_2 st) (X_treeinOrderq1_1 x1_2 r) :=
 CG.iter (b := codeOf P 33 [false, false, true, false, true, true]) (by kernel_rfl) (body := B_treeinOrderq1_1 n x1_2) (S := S_treeinOrderq1_1 x1_2) (X := X_treeinOrderq1_1 x1_2)
  (fun s s' h => by
  obtain ⟨x1_0, x1_1, x1_3⟩ := s
  unfold B_treeinOrderq1_1 at h
  dsimp only at h
  cases x1_0 with
  | nil =>
   dsimp only at h
   by_cases hy1_1 : x1_3 < x1_2
   ·rw [if_pos hy1_1] at h
    by_cases hy1_2 : 0 ≤ x1_3 ∧ x1_3 < (((Args.B).length : Nat) : Int)
    ·rw [if_pos hy1_2] at h
     obtain ⟨y1_3_, hy1_3, h⟩ := Option.bind_eq_some_iff.1 h
     by_cases hy1_4 : x1_3 > (0 : Int)
     ·rw [if_pos hy1_4] at h
      cases h
     ·rw [if_neg hy1_4] at h
      by_cases hy1_5 : ((((y1_3_.2.2.2.2.2.2.1)).l.length : Nat) : Int) > (0 : Int)
      ·rw [if_pos hy1_5] at h
       obtain rfl := Sum.inl.inj (Option.some.inj h); exact q_treeinOrderq1_1_1 n x1_1 x1_2 x1_3 hy1_1 hy1_2 y1_3_ hy1_3 hy1_4 hy1_5
      ·rw [if_neg hy1_5] at h
       obtain rfl := Sum.inl.inj (Option.some.inj h); exact q_treeinOrderq1_1_2 n x1_1 x1_2 x1_3 hy1_1 hy1_2 y1_3_ hy1_3 hy1_4 hy1_5
    ·rw [if_neg hy1_2] at h; cases h
   ·rw [if_neg hy1_1] at h
    cases h
  | cons x1_0a x1_0t =>
   dsimp only at h
   by_cases hy1_1 : x1_3 < x1_2
   ·rw [if_pos hy1_1] at h
    by_cases hy1_2 : 0 ≤ x1_3 ∧ x1_3 < (((Args.B).length : Nat) : Int)
    ·rw [if_pos hy1_2] at h
     obtain ⟨y1_3_, hy1_3, h⟩ := Option.bind_eq_some_iff.1 h
     by_cases hy1_4 : x1_3 > (0 : Int)
     ·rw [if_pos hy1_4] at h
      by_cases hy1_5 : ((x1_1 : Nat) : Int) = (0 : Int)
      ·rw [if_pos hy1_5] at h
       cases h
      ·rw [if_neg hy1_5] at h
       obtain ⟨y1_6_, hy1_6, h⟩ := Option.bind_eq_some_iff.1 h
       by_cases hy1_7 : 0 ≤ y1_6_ ∧ y1_6_ < ((x1_1 : Nat) : Int)
       ·rw [if_pos hy1_7] at h
        by_cases hy1_8 : (y1_6_).toNat < ((x1_0a :: x1_0t)).length
        ·rw [if_pos hy1_8] at h
         obtain ⟨y1_9_, hy1_9, h⟩ := Option.bind_eq_some_iff.1 h
         by_cases hy1_10 : 0 ≤ (y1_9_.1) ∧ (y1_9_.1) < (((Args.B).length : Nat) : Int)
         ·rw [if_pos hy1_10] at h
          obtain ⟨y1_11_, hy1_11, h⟩ := Option.bind_eq_some_iff.1 h
          by_cases hy1_12 : 0 ≤ (y1_9_.2.1) ∧ (y1_9_.2.1) < ((((y1_11_.2.2.2.2.2.2.1)).l.length : Nat) : Int)
          ·rw [if_pos hy1_12] at h
           by_cases hy1_13 : ((y1_9_.2.1)).toNat < (((y1_11_.2.2.2.2.2.2.1)).l).length
           ·rw [if_pos hy1_13] at h
            obtain ⟨y1_14_, hy1_14, h⟩ := Option.bind_eq_some_iff.1 h
            by_cases hy1_15 : y1_14_ = x1_3
            ·rw [if_pos hy1_15] at h
             by_cases hy1_16 : (y1_3_.2.2.1) < (y1_9_.2.2)
             ·rw [if_pos hy1_16] at h
              cases h
             ·rw [if_neg hy1_16] at h
              by_cases hy1_17 : (y1_3_.2.2.2.2.1) > (y1_11_.2.2.2.2.1)
              ·rw [if_pos hy1_17] at h
               cases h
              ·rw [if_neg hy1_17] at h
               by_cases hy1_18 : (w64 ((y1_9_.2.1) + (1 : Int))) = ((((y1_11_.2.2.2.2.2.2.1)).l.length : Nat) : Int)
               ·rw [if_pos hy1_18] at h
                by_cases hy1_19 : 0 ≤ y1_6_ ∧ y1_6_ ≤ ((x1_1 : Nat) : Int)
                ·rw [if_pos hy1_19] at h
                 by_cases hy1_20 : ((((y1_3_.2.2.2.2.2.2.1)).l.length : Nat) : Int) > (0 : Int)
                 ·rw [if_pos hy1_20] at h
                  by_cases hy1_21 : (y1_6_).toNat ≤ ((((x1_0a :: x1_0t)).set (y1_6_).toNat ((y1_9_.1), (w64 ((y1_9_.2.1) + (1 : Int))), (y1_3_.2.2.2.2.1)))).length
                  ·rw [if_pos hy1_21] at h
                   by_cases hy1_22 : ((y1_6_).toNat + 1) * 24 ≤ 140737488355328
                   ·rw [if_pos hy1_22] at h
                    obtain rfl := Sum.inl.inj (Option.some.inj h); exact q_treeinOrderq1_1_7 n x1_0a x1_0t x1_1 x1_2 x1_3 hy1_1 hy1_2 y1_3_ hy1_3 hy1_4 hy1_5 y1_6_ hy1_6 hy1_7 hy1_8 y1_9_ hy1_9 hy1_10 y1_11_ hy1_11 hy1_12 hy1_13 y1_14_ hy1_14 hy1_15 hy1_16 hy1_17 hy1_18 hy1_19 hy1_20 hy1_21 hy1_22
                   ·rw [if_neg hy1_22] at h; cases h
                  ·rw [if_neg hy1_21] at h; cases h
                 ·rw [if_neg hy1_20] at h
                  obtain rfl := Sum.inl.inj (Option.some.inj h); exact q_treeinOrderq1_1_8 n x1_0a x1_0t x1_1 x1_2 x1_3 hy1_1 hy1_2 y1_3_ hy1_3 hy1_4 hy1_5 y1_6_ hy1_6 hy1_7 hy1_8 y1_9_ hy1_9 hy1_10 y1_11_ hy1_11 hy1_12 hy1_13 y1_14_ hy1_14 hy1_15 hy1_16 hy1_17 hy1_18 hy1_19 hy1_20
                ·rw [if_neg hy1_19] at h; cases h
               ·rw [if_neg hy1_18] at h
                by_cases hy1_19 : ((((y1_3_.2.2.2.2.2.2.1)).l.length : Nat) : Int) > (0 : Int)
                ·rw [if_pos hy1_19] at h
                 by_cases hy1_20 : x1_1 ≤ ((((x1_0a :: x1_0t)).set (y1_6_).toNat ((y1_9_.1), (w64 ((y1_9_.2.1) + (1 : Int))), (y1_3_.2.2.2.2.1)))).length
                 ·rw [if_pos hy1_20] at h
                  by_cases hy1_21 : (x1_1 + 1) * 24 ≤ 140737488355328
                  ·rw [if_pos hy1_21] at h
                   obtain rfl := Sum.inl.inj (Option.some.inj h); exact q_treeinOrderq1_1_9 n x1_0a x1_0t x1_1 x1_2 x1_3 hy1_1 hy1_2 y1_3_ hy1_3 hy1_4 hy1_5 y1_6_ hy1_6 hy1_7 hy1_8 y1_9_ hy1_9 hy1_10 y1_11_ hy1_11 hy1_12 hy1_13 y1_14_ hy1_14 hy1_15 hy1_16 hy1_17 hy1_18 hy1_19 hy1_20 hy1_21
                  ·rw [if_neg hy1_21] at h; cases h
                 ·rw [if_neg hy1_20] at h; cases h
                ·rw [if_neg hy1_19] at h
                 obtain rfl := Sum.inl.inj (Option.some.inj h); exact q_treeinOrderq1_1_10 n x1_0a x1_0t x1_1 x1_2 x1_3 hy1_1 hy1_2 y1_3_ hy1_3 hy1_4 hy1_5 y1_6_ hy1_6 hy1_7 hy1_8 y1_9_ hy1_9 hy1_10 y1_11_ hy1_11 hy1_12 hy1_13 y1_14_ hy1_14 hy1_15 hy1_16 hy1_17 hy1_18 hy1_19
            ·rw [if_neg hy1_15] at h
             cases h
           ·rw [if_neg hy1_13] at h; cases h
          ·rw [if_neg hy1_12] at h; cases h
         ·rw [if_neg hy1_10] at h; cases h
        ·rw [if_neg hy1_8] at h; cases h
       ·rw [if_neg hy1_7] at h; cases h
     ·rw [if_neg hy1_4] at h
      by_cases hy1_5 : ((((y1_3_.2.2.2.2.2.2.1)).l.length : Nat) : Int) > (0 : Int)
      ·rw [if_pos hy1_5] at h
       by_cases hy1_6 : x1_1 ≤ ((x1_0a :: x1_0t)).length
       ·rw [if_pos hy1_6] at h
        by_cases hy1_7 : (x1_1 + 1) * 24 ≤ 140737488355328
        ·rw [if_pos hy1_7] at h
         obtain rfl := Sum.inl.inj (Option.some.inj h); exact q_treeinOrderq1_1_12 n x1_0a x1_0t x1_1 x1_2 x1_3 hy1_1 hy1_2 y1_3_ hy1_3 hy1_4 hy1_5 hy1_6 hy1_7
        ·rw [if_neg hy1_7] at h; cases h
       ·rw [if_neg hy1_6] at h; cases h
      ·rw [if_neg hy1_5] at h
       obtain rfl := Sum.inl.inj (Option.some.inj h); exact q_treeinOrderq1_1_13 n x1_0a x1_0t x1_1 x1_2 x1_3 hy1_1 hy1_2 y1_3_ hy1_3 hy1_4 hy1_5
    ·rw [if_neg hy1_2] at h; cases h
   ·rw [if_neg hy1_1] at h
    cases h)
  (fun s r h => by
  obtain ⟨x1_0, x1_1, x1_3⟩ := s
  unfold B_treeinOrderq1_1 at h
  dsimp only at h
  cases x1_0 with
  | nil =>
   dsimp only at h
   by_cases hy1_1 : x1_3 < x1_2
   ·rw [if_pos hy1_1] at h
    by_cases hy1_2 : 0 ≤ x1_3 ∧ x1_3 < (((Args.B).length : Nat) : Int)
    ·rw [if_pos hy1_2] at h
     obtain ⟨y1_3_, hy1_3, h⟩ := Option.bind_eq_some_iff.1 h
     by_cases hy1_4 : x1_3 > (0 : Int)
     ·rw [if_pos hy1_4] at h
      obtain rfl := Sum.inr.inj (Option.some.inj h); exact q_treeinOrderq1_1_0 n x1_1 x1_2 x1_3 hy1_1 hy1_2 y1_3_ hy1_3 hy1_4
     ·rw [if_neg hy1_4] at h
      by_cases hy1_5 : ((((y1_3_.2.2.2.2.2.2.1)).l.length : Nat) : Int) > (0 : Int)
      ·rw [if_pos hy1_5] at h
       cases h
      ·rw [if_neg hy1_5] at h
       cases h
    ·rw [if_neg hy1_2] at h; cases h
   ·rw [if_neg hy1_1] at h
    obtain rfl := Sum.inr.inj (Option.some.inj h); exact q_treeinOrderq1_1_3 n x1_1 x1_2 x1_3 hy1_1
  | cons x1_0a x1_0t =>
   dsimp only at h
   by_cases hy1_1 : x1_3 < x1_2
   ·rw [if_pos hy1_1] at h
    by_cases hy1_2 : 0 ≤ x1_3 ∧ x1_3 < (((Args.B).length : Nat) : Int)
    ·rw [if_pos hy1_2] at h
     obtain ⟨y1_3_, hy1_3, h⟩ := Option.bind_eq_some_iff.1 h
     by_cases hy1_4 : x1_3 > (0 : Int)
     ·rw [if_pos hy1_4] at h
      by_cases hy1_5 : ((x1_1 : Nat) : Int) = (0 : Int)
      ·rw [if_pos hy1_5] at h
       obtain rfl := Sum.inr.inj (Option.some.inj h); exact q_treeinOrderq1_1_4 n x1_0a x1_0t x1_1 x1_2 x1_3 hy1_1 hy1_2 y1_3_ hy1_3 hy1_4 hy1_5
      ·rw [if_neg hy1_5] at h
       obtain ⟨y1_6_, hy1_6, h⟩ := Option.bind_eq_some_iff.1 h
       by_cases hy1_7 : 0 ≤ y1_6_ ∧ y1_6_ < ((x1_1 : Nat) : Int)
       ·rw [if_pos hy1_7] at h
        by_cases hy1_8 : (y1_6_).toNat < ((x1_0a :: x1_0t)).length
        ·rw [if_pos hy1_8] at h
         obtain ⟨y1_9_, hy1_9, h⟩ := Option.bind_eq_some_iff.1 h
         by_cases hy1_10 : 0 ≤ (y1_9_.1) ∧ (y1_9_.1) < (((Args.B).length : Nat) : Int)
         ·rw [if_pos hy1_10] at h
          obtain ⟨y1_11_, hy1_11, h⟩ := Option.bind_eq_some_iff.1 h
          by_cases hy1_12 : 0 ≤ (y1_9_.2.1) ∧ (y1_9_.2.1) < ((((y1_11_.2.2.2.2.2.2.1)).l.length : Nat) : Int)
          ·rw [if_pos hy1_12] at h
           by_cases hy1_13 : ((y1_9_.2.1)).toNat < (((y1_11_.2.2.2.2.2.2.1)).l).length
           ·rw [if_pos hy1_13] at h
            obtain ⟨y1_14_, hy1_14, h⟩ := Option.bind_eq_some_iff.1 h
            by_cases hy1_15 : y1_14_ = x1_3
            ·rw [if_pos hy1_15] at h
             by_cases hy1_16 : (y1_3_.2.2.1) < (y1_9_.2.2)
             ·rw [if_pos hy1_16] at h
              obtain rfl := Sum.inr.inj (Option.some.inj h); exact q_treeinOrderq1_1_5 n x1_0a x1_0t x1_1 x1_2 x1_3 hy1_1 hy1_2 y1_3_ hy1_3 hy1_4 hy1_5 y1_6_ hy1_6 hy1_7 hy1_8 y1_9_ hy1_9 hy1_10 y1_11_ hy1_11 hy1_12 hy1_13 y1_14_ hy1_14 hy1_15 hy1_16
             ·rw [if_neg hy1_16] at h
              by_cases hy1_17 : (y1_3_.2.2.2.2.1) > (y1_11_.2.2.2.2.1)
              ·rw [if_pos hy1_17] at h
               obtain rfl := Sum.inr.inj (Option.some.inj h); exact q_treeinOrderq1_1_6 n x1_0a x1_0t x1_1 x1_2 x1_3 hy1_1 hy1_2 y1_3_ hy1_3 hy1_4 hy1_5 y1_6_ hy1_6 hy1_7 hy1_8 y1_9_ hy1_9 hy1_10 y1_11_ hy1_11 hy1_12 hy1_13 y1_14_ hy1_14 hy1_15 hy1_16 hy1_17
              ·rw [if_neg hy1_17] at h
               by_cases hy1_18 : (w64 ((y1_9_.2.1) + (1 : Int))) = ((((y1_11_.2.2.2.2.2.2.1)).l.length : Nat) : Int)
               ·rw [if_pos hy1_18] at h
                by_cases hy1_19 : 0 ≤ y1_6_ ∧ y1_6_ ≤ ((x1_1 : Nat) : Int)
                ·rw [if_pos hy1_19] at h
                 by_cases hy1_20 : ((((y1_3_.2.2.2.2.2.2.1)).l.length : Nat) : Int) > (0 : Int)
                 ·rw [if_pos hy1_20] at h
                  by_cases hy1_21 : (y1_6_).toNat ≤ ((((x1_0a :: x1_0t)).set (y1_6_).toNat ((y1_9_.1), (w64 ((y1_9_.2.1) + (1 : Int))), (y1_3_.2.2.2.2.1)))).length
                  ·rw [if_pos hy1_21] at h
                   by_cases hy1_22 : ((y1_6_).toNat + 1) * 24 ≤ 140737488355328
                   ·rw [if_pos hy1_22] at h
                    cases h
                   ·rw [if_neg hy1_22] at h; cases h
                  ·rw [if_neg hy1_21] at h; cases h
                 ·rw [if_neg hy1_20] at h
                  cases h
                ·rw [if_neg hy1_19] at h; cases h
               ·rw [if_neg hy1_18] at h
                by_cases hy1_19 : ((((y1_3_.2.2.2.2.2.2.1)).l.length : Nat) : Int) > (0 : Int)
                ·rw [if_pos hy1_19] at h
                 by_cases hy1_20 : x1_1 ≤ ((((x1_0a :: x1_0t)).set (y1_6_).toNat ((y1_9_.1), (w64 ((y1_9_.2.1) + (1 : Int))), (y1_3_.2.2.2.2.1)))).length
                 ·rw [if_pos hy1_20] at h
                  by_cases hy1_21 : (x1_1 + 1) * 24 ≤ 140737488355328
                  ·rw [if_pos hy1_21] at h
                   cases h
                  ·rw [if_neg hy1_21] at h; cases h
                 ·rw [if_neg hy1_20] at h; cases h
                ·rw [if_neg hy1_19] at h
                 cases h
            ·rw [if_neg hy1_15] at h
             obtain rfl := Sum.inr.inj (Option.some.inj h); exact q_treeinOrderq1_1_11 n x1_0a x1_0t x1_1 x1_2 x1_3 hy1_1 hy1_2 y1_3_ hy1_3 hy1_4 hy1_5 y1_6_ hy1_6 hy1_7 hy1_8 y1_9_ hy1_9 hy1_10 y1_11_ hy1_11 hy1_12 hy1_13 y1_14_ hy1_14 hy1_15
           ·rw [if_neg hy1_13] at h; cases h
          ·rw [if_neg hy1_12] at h; cases h
         ·rw [if_neg hy1_10] at h; cases h
        ·rw [if_neg hy1_8] at h; cases h
       ·rw [if_neg hy1_7] at h; cases h
     ·rw [if_neg hy1_4] at h
      by_cases hy1_5 : ((((y1_3_.2.2.2.2.2.2.1)).l.length : Nat) : Int) > (0 : Int)
      ·rw [if_pos hy1_5] at h
       by_cases hy1_6 : x1_1 ≤ ((x1_0a :: x1_0t)).length
       ·rw [if_pos hy1_6] at h
        by_cases hy1_7 : (x1_1 + 1) * 24 ≤ 140737488355328
        ·rw [if_pos hy1_7] at h
         cases h
        ·rw [if_neg hy1_7] at h; cases h
       ·rw [if_neg hy1_6] at h; cases h
      ·rw [if_neg hy1_5] at h
       cases h
    ·rw [if_neg hy1_2] at h; cases h
   ·rw [if_neg hy1_1] at h
    obtain rfl := Sum.inr.inj (Option.some.inj h); exact q_treeinOrderq1_1_14 n x1_0a x1_0t x1_1 x1_2 x1_3 hy1_1)
  (fun r => by intro hx; rcases r with _ | _ <;> cases hx) h
def m_treeinOrderq1 (n : Nat) : Option (Bool) :=
 match m_treeinOrderq1_1 n (((Args.B).length : Nat) : Int) (([] : List (Int × Int × Int)), 0, 0) with
 | none => none
 | some (.inl _) =>
  some false
 | some (.inr (c1_0, c1_1)) =>
  match c1_0 with
  | [] =>
   some true
  | c1_0a :: c1_0t =>
   if ((c1_1 : Nat) : Int) = (0 : Int) then
    some true
   else
    some false
theorem p_treeinOrderq1_0 (n : Nat) (hc1 : m_treeinOrderq1_1 n (((Args.B).length : Nat) : Int) (([] : List (Int × Int × Int)), 0, 0) = some (.inl ())) : G_treeinOrderq1  false :=
 runF2 hm (L := lT [(10, ⟨⟨[0, 3, 8, 9, 10], [], 1, 0⟩, (X_treeinOrderq1_1 (((Args.B).length : Nat) : Int) (.inl ())).1, (X_treeinOrderq1_1 (((Args.B).length : Nat) : Int) (.inl ())).2⟩)]) ⟨[2], [], 0, 0⟩ (ww (p := U_treeinOrderq1_1 none (((Args.B).length : Nat) : Int) (([] : List (Int × Int × Int)), 0, 0) (.inl ())) (m_treeinOrderq1_1_ok n (((Args.B).length : Nat) : Int) (([] : List (Int × Int × Int)), 0, 0) (.inl ()) hc1) <|
ee) (by kernel_rfl)
theorem p_treeinOrderq1_1 (n : Nat) (c1_1 : Nat) (hc1 : m_treeinOrderq1_1 n (((Args.B).length : Nat) : Int) (([] : List (Int × Int × Int)), 0, 0) = some (.inr ([], c1_1))) : G_treeinOrderq1  true :=
 runF2 hm (L := lT [(10, ⟨⟨[0, 3, 8, 9, 10], [], 1, 0⟩, (X_treeinOrderq1_1 (((Args.B).length : Nat) : Int) (.inr (([] : List (Int × Int × Int)), c1_1))).1, (X_treeinOrderq1_1 (((Args.B).length : Nat) : Int) (.inr (([] : List (Int × Int × Int)), c1_1))).2⟩)]) ⟨[2], [], 0, 0⟩ (ww (p := U_treeinOrderq1_1 none (((Args.B).length : Nat) : Int) (([] : List (Int × Int × Int)), 0, 0) (.inr (([] : List (Int × Int × Int)), c1_1))) (m_treeinOrderq1_1_ok n (((Args.B).length : Nat) : Int) (([] : List (Int × Int × Int)), 0, 0) (.inr (([] : List (Int × Int × Int)), c1_1)) hc1) <|
ee) (by kernel_rfl)
theorem p_treeinOrderq1_2 (n : Nat) (c1_0a : Int × Int × Int) (c1_0t : List (Int × Int × Int)) (c1_1 : Nat) (hc1 : m_treeinOrderq1_1 n (((Args.B).length : Nat) : Int) (([] : List (Int × Int × Int)), 0, 0) = some (.inr ((c1_0a :: c1_0t), c1_1))) (hc2 : ((c1_1 : Nat) : Int) = (0 : Int)) : G_treeinOrderq1  true :=
 runF2 hm (L := lT [(10, ⟨⟨[0, 3, 8, 9, 10], [], 1, 0⟩, (X_treeinOrderq1_1 (((Args.B).length : Nat) : Int) (.inr ((c1_0a :: c1_0t), c1_1))).1, (X_treeinOrderq1_1 (((Args.B).length : Nat) : Int) (.inr ((c1_0a :: c1_0t), c1_1))).2⟩)]) ⟨[2], [], 0, 0⟩ (ww (p := U_treeinOrderq1_1 none (((Args.B).length : Nat) : Int) (([] : List (Int × Int × Int)), 0, 0) (.inr ((c1_0a :: c1_0t), c1_1))) (m_treeinOrderq1_1_ok n (((Args.B).length : Nat) : Int) (([] : List (Int × Int × Int)), 0, 0) (.inr ((c1_0a :: c1_0t), c1_1)) hc1) <|
zz 14 (xeT hc2) <|
ee) (by kernel_rfl)
theorem p_treeinOrderq1_3 (n : Nat) (c1_0a : Int × Int × Int) (c1_0t : List (Int × Int × Int)) (c1_1 : Nat) (hc1 : m_treeinOrderq1_1 n (((Args.B).length : Nat) : Int) (([] : List (Int × Int × Int)), 0, 0) = some (.inr ((c1_0a :: c1_0t), c1_1))) (hc2 : ¬ (((c1_1 : Nat) : Int) = (0 : Int))) : G_treeinOrderq1  false :=
 runF2 hm (L := lT [(10, ⟨⟨[0, 3, 8, 9, 10], [], 1, 0⟩, (X_treeinOrderq1_1 (((Args.B).length : Nat) : Int) (.inr ((c1_0a :: c1_0t), c1_1))).1, (X_treeinOrderq1_1 (((Args.B).length : Nat) : Int) (.inr ((c1_0a :: c1_0t), c1_1))).2⟩)]) ⟨[2], [], 0, 0⟩ (ww (p := U_treeinOrderq1_1 none (((Args.B).length : Nat) : Int) (([] : List (Int × Int × Int)), 0, 0) (.inr ((c1_0a :: c1_0t), c1_1))) (m_treeinOrderq1_1_ok n (((Args.B).length : Nat) : Int) (([] : List (Int × Int × Int)), 0, 0) (.inr ((c1_0a :: c1_0t), c1_1)) hc1) <|
zz 14 (xeF hc2) <|
ee) (by kernel_rfl)
theorem m_treeinOrderq1_ok (n : Nat) (r : Bool) (h : m_treeinOrderq1 n = some r) : Gv P (.func 33) A_treeinOrderq1 H_treeinOrderq1 (V_treeinOrderq1  r) (R_treeinOrderq1  r) := by
 unfold m_treeinOrderq1 at h
 rcases hc1 : m_treeinOrderq1_1 n (((Args.B).length : Nat) : Int) (([] : List (Int × Int × Int)), 0, 0) with _ | (⟨⟩ | ⟨c1_0, c1_1⟩)
 ·rw [hc1] at h; cases h
 ·rw [hc1] at h
  dsimp only at h
  obtain rfl := Option.some.inj h; exact p_treeinOrderq1_0 n hc1
 ·rw [hc1] at h
  dsimp only at h
  cases c1_0 with
  | nil =>
   dsimp only at h
   obtain rfl := Option.some.inj h; exact p_treeinOrderq1_1 n c1_1 hc1
  | cons c1_0a c1_0t =>
   dsimp only at h
   by_cases hc2 : ((c1_1 : Nat) : Int) = (0 : Int)
   ·rw [if_pos hc2] at h
    obtain rfl := Option.some.inj h; exact p_treeinOrderq1_2 n c1_0a c1_0t c1_1 hc1 hc2
   ·rw [if_neg hc2] at h
    obtain rfl := Option.some.inj h; exact p_treeinOrderq1_3 n c1_0a c1_0t c1_1 hc1 hc2

noncomputable def A_treesoundq1 (a0 : Int) (a1 : Int) (a2 : Int) (a3 : Int) (a4 : Int) (a5 : Int) (a6 : NL) (a7 : Int) : List Value := [(Value.agg #[(i6 a0), (i6 a1), (i6 a2), (i6 a3), (i6 a4), (i6 a5), (nlV a6), (Value.int .u64 a7)])]
noncomputable def H_treesoundq1 (a0 : Int) (a1 : Int) (a2 : Int) (a3 : Int) (a4 : Int) (a5 : Int) (a6 : NL) (a7 : Int) : AH := ⟨sB [], 0, 0⟩
noncomputable def V_treesoundq1 (a0 : Int) (a1 : Int) (a2 : Int) (a3 : Int) (a4 : Int) (a5 : Int) (a6 : NL) (a7 : Int) (r : Bool) : Value := match r with
 | o0 => (bO o0)
noncomputable def R_treesoundq1 (a0 : Int) (a1 : Int) (a2 : Int) (a3 : Int) (a4 : Int) (a5 : Int) (a6 : NL) (a7 : Int) (r : Bool) : AH := match r with
 | o0 => ⟨sB [], 0, 0⟩
noncomputable abbrev G_treesoundq1 (a0 : Int) (a1 : Int) (a2 : Int) (a3 : Int) (a4 : Int) (a5 : Int) (a6 : NL) (a7 : Int) (r : Bool) : Prop := Gv P (.func 34) (A_treesoundq1 a0 a1 a2 a3 a4 a5 a6 a7) (H_treesoundq1 a0 a1 a2 a3 a4 a5 a6 a7) (V_treesoundq1 a0 a1 a2 a3 a4 a5 a6 a7 r) (R_treesoundq1 a0 a1 a2 a3 a4 a5 a6 a7 r)
noncomputable abbrev C_treesoundq1 (a0 : Int) (a1 : Int) (a2 : Int) (a3 : Int) (a4 : Int) (a5 : Int) (a6 : NL) (a7 : Int) (r : Bool) (ins outs : BL) : CallA := ⟨0, ins, V_treesoundq1 a0 a1 a2 a3 a4 a5 a6 a7 r, R_treesoundq1 a0 a1 a2 a3 a4 a5 a6 a7 r, outs⟩
def m_treesoundq1 (n : Nat) (a0 : Int) (a1 : Int) (a2 : Int) (a3 : Int) (a4 : Int) (a5 : Int) (a6 : NL) (a7 : Int) : Option (Bool) :=
 if a2 < (0 : Int) then
  some false
 else
  if a2 > a4 then
   some false
  else
   if a5 ≤ a2 then
    some false
   else
    if a1 = (1 : Int) then
     if a3 = a2 then
      some true
     else
      some false
    else
     if a1 = (2 : Int) then
      if a3 = a2 then
       some true
      else
       some false
     else
      if a1 = (4 : Int) then
       if a3 = a2 then
        if a4 = a2 then
         if (((a6).l.length : Nat) : Int) = (0 : Int) then
          some true
         else
          some false
        else
         some false
       else
        some false
      else
       if a1 = (3 : Int) then
        if a3 ≥ a2 then
         if a3 ≤ a4 then
          if (((a6).l.length : Nat) : Int) = (0 : Int) then
           some true
          else
           some false
         else
          some false
        else
         some false
       else
        if a1 = (5 : Int) then
         if a3 ≥ a2 then
          if a3 ≤ a4 then
           if (((a6).l.length : Nat) : Int) = (0 : Int) then
            some true
           else
            some false
          else
           some false
         else
          some false
        else
         if a1 = (6 : Int) then
          if a3 ≥ a2 then
           if a3 ≤ a4 then
            if (((a6).l.length : Nat) : Int) = (0 : Int) then
             some true
            else
             some false
           else
            some false
          else
           some false
         else
          some false
theorem p_treesoundq1_0 (n : Nat) (a0 a1 a2 a3 a4 a5 : Int) (a6 : NL) (a7 : Int) (hc1 : a2 < (0 : Int)) : G_treesoundq1 a0 a1 a2 a3 a4 a5 a6 a7 false :=
 runF2 hm (L := lT []) ⟨[2], [], 0, 0⟩ (zz 7 (xdT hc1) <|
ee) (by kernel_rfl)
theorem p_treesoundq1_1 (n : Nat) (a0 a1 a2 a3 a4 a5 : Int) (a6 : NL) (a7 : Int) (hc1 : ¬ (a2 < (0 : Int))) (hc2 : a2 > a4) : G_treesoundq1 a0 a1 a2 a3 a4 a5 a6 a7 false :=
 runF2 hm (L := lT []) ⟨[2], [], 0, 0⟩ (zz 7 (xdF hc1) <|
zz 13 (xdT hc2) <|
ee) (by kernel_rfl)
theorem p_treesoundq1_2 (n : Nat) (a0 a1 a2 a3 a4 a5 : Int) (a6 : NL) (a7 : Int) (hc1 : ¬ (a2 < (0 : Int))) (hc2 : ¬ (a2 > a4)) (hc3 : a5 ≤ a2) : G_treesoundq1 a0 a1 a2 a3 a4 a5 a6 a7 false :=
 runF2 hm (L := lT []) ⟨[2], [], 0, 0⟩ (zz 7 (xdF hc1) <|
zz 13 (xdF hc2) <|
zz 20 (xdT hc3) <|
ee) (by kernel_rfl)
theorem p_treesoundq1_3 (n : Nat) (a0 a1 a2 a3 a4 a5 : Int) (a6 : NL) (a7 : Int) (hc1 : ¬ (a2 < (0 : Int))) (hc2 : ¬ (a2 > a4)) (hc3 : ¬ (a5 ≤ a2)) (hc4 : a1 = (1 : Int)) (hc5 : a3 = a2) : G_treesoundq1 a0 a1 a2 a3 a4 a5 a6 a7 true :=
 runF2 hm (L := lT []) ⟨[2], [], 0, 0⟩ (zz 7 (xdF hc1) <|
zz 13 (xdF hc2) <|
zz 20 (xdF hc3) <|
zz 30 (xeT hc4) <|
zz 39 (xeT hc5) <|
ee) (by kernel_rfl)
theorem p_treesoundq1_4 (n : Nat) (a0 a1 a2 a3 a4 a5 : Int) (a6 : NL) (a7 : Int) (hc1 : ¬ (a2 < (0 : Int))) (hc2 : ¬ (a2 > a4)) (hc3 : ¬ (a5 ≤ a2)) (hc4 : a1 = (1 : Int)) (hc5 : ¬ (a3 = a2)) : G_treesoundq1 a0 a1 a2 a3 a4 a5 a6 a7 false :=
 runF2 hm (L := lT []) ⟨[2], [], 0, 0⟩ (zz 7 (xdF hc1) <|
zz 13 (xdF hc2) <|
zz 20 (xdF hc3) <|
zz 30 (xeT hc4) <|
zz 39 (xeF hc5) <|
ee) (by kernel_rfl)
theorem p_treesoundq1_5 (n : Nat) (a0 a1 a2 a3 a4 a5 : Int) (a6 : NL) (a7 : Int) (hc1 : ¬ (a2 < (0 : Int))) (hc2 : ¬ (a2 > a4)) (hc3 : ¬ (a5 ≤ a2)) (hc4 : ¬ (a1 = (1 : Int))) (hc5 : a1 = (2 : Int)) (hc6 : a3 = a2) : G_treesoundq1 a0 a1 a2 a3 a4 a5 a6 a7 true :=
 runF2 hm (L := lT []) ⟨[2], [], 0, 0⟩ (zz 7 (xdF hc1) <|
zz 13 (xdF hc2) <|
zz 20 (xdF hc3) <|
zz 30 (xeF hc4) <|
zz 33 (xeT hc5) <|
zz 41 (xeT hc6) <|
ee) (by kernel_rfl)
theorem p_treesoundq1_6 (n : Nat) (a0 a1 a2 a3 a4 a5 : Int) (a6 : NL) (a7 : Int) (hc1 : ¬ (a2 < (0 : Int))) (hc2 : ¬ (a2 > a4)) (hc3 : ¬ (a5 ≤ a2)) (hc4 : ¬ (a1 = (1 : Int))) (hc5 : a1 = (2 : Int)) (hc6 : ¬ (a3 = a2)) : G_treesoundq1 a0 a1 a2 a3 a4 a5 a6 a7 false :=
 runF2 hm (L := lT []) ⟨[2], [], 0, 0⟩ (zz 7 (xdF hc1) <|
zz 13 (xdF hc2) <|
zz 20 (xdF hc3) <|
zz 30 (xeF hc4) <|
zz 33 (xeT hc5) <|
zz 41 (xeF hc6) <|
ee) (by kernel_rfl)
theorem p_treesoundq1_7 (n : Nat) (a0 a1 a2 a3 a4 a5 : Int) (a6 : NL) (a7 : Int) (hc1 : ¬ (a2 < (0 : Int))) (hc2 : ¬ (a2 > a4)) (hc3 : ¬ (a5 ≤ a2)) (hc4 : ¬ (a1 = (1 : Int))) (hc5 : ¬ (a1 = (2 : Int))) (hc6 : a1 = (4 : Int)) (hc7 : a3 = a2) (hc8 : a4 = a2) (hc9 : (((a6).l.length : Nat) : Int) = (0 : Int)) : G_treesoundq1 a0 a1 a2 a3 a4 a5 a6 a7 true :=
 runF2 hm (L := lT []) ⟨[2], [], 0, 0⟩ (zz 7 (xdF hc1) <|
zz 13 (xdF hc2) <|
zz 20 (xdF hc3) <|
zz 30 (xeF hc4) <|
zz 33 (xeF hc5) <|
zz 37 (xeT hc6) <|
zz 45 (xeT hc7) <|
zz 51 (xeT hc8) <|
zz 57 (xeT hc9) <|
ee) (by kernel_rfl)
theorem p_treesoundq1_8 (n : Nat) (a0 a1 a2 a3 a4 a5 : Int) (a6 : NL) (a7 : Int) (hc1 : ¬ (a2 < (0 : Int))) (hc2 : ¬ (a2 > a4)) (hc3 : ¬ (a5 ≤ a2)) (hc4 : ¬ (a1 = (1 : Int))) (hc5 : ¬ (a1 = (2 : Int))) (hc6 : a1 = (4 : Int)) (hc7 : a3 = a2) (hc8 : a4 = a2) (hc9 : ¬ ((((a6).l.length : Nat) : Int) = (0 : Int))) : G_treesoundq1 a0 a1 a2 a3 a4 a5 a6 a7 false :=
 runF2 hm (L := lT []) ⟨[2], [], 0, 0⟩ (zz 7 (xdF hc1) <|
zz 13 (xdF hc2) <|
zz 20 (xdF hc3) <|
zz 30 (xeF hc4) <|
zz 33 (xeF hc5) <|
zz 37 (xeT hc6) <|
zz 45 (xeT hc7) <|
zz 51 (xeT hc8) <|
zz 57 (xeF hc9) <|
ee) (by kernel_rfl)
theorem p_treesoundq1_9 (n : Nat) (a0 a1 a2 a3 a4 a5 : Int) (a6 : NL) (a7 : Int) (hc1 : ¬ (a2 < (0 : Int))) (hc2 : ¬ (a2 > a4)) (hc3 : ¬ (a5 ≤ a2)) (hc4 : ¬ (a1 = (1 : Int))) (hc5 : ¬ (a1 = (2 : Int))) (hc6 : a1 = (4 : Int)) (hc7 : a3 = a2) (hc8 : ¬ (a4 = a2)) : G_treesoundq1 a0 a1 a2 a3 a4 a5 a6 a7 false :=
 runF2 hm (L := lT []) ⟨[2], [], 0, 0⟩ (zz 7 (xdF hc1) <|
zz 13 (xdF hc2) <|
zz 20 (xdF hc3) <|
zz 30 (xeF hc4) <|
zz 33 (xeF hc5) <|
zz 37 (xeT hc6) <|
zz 45 (xeT hc7) <|
zz 51 (xeF hc8) <|
ee) (by kernel_rfl)
theorem p_treesoundq1_10 (n : Nat) (a0 a1 a2 a3 a4 a5 : Int) (a6 : NL) (a7 : Int) (hc1 : ¬ (a2 < (0 : Int))) (hc2 : ¬ (a2 > a4)) (hc3 : ¬ (a5 ≤ a2)) (hc4 : ¬ (a1 = (1 : Int))) (hc5 : ¬ (a1 = (2 : Int))) (hc6 : a1 = (4 : Int)) (hc7 : ¬ (a3 = a2)) : G_treesoundq1 a0 a1 a2 a3 a4 a5 a6 a7 false :=
 runF2 hm (L := lT []) ⟨[2], [], 0, 0⟩ (zz 7 (xdF hc1) <|
zz 13 (xdF hc2) <|
zz 20 (xdF hc3) <|
zz 30 (xeF hc4) <|
zz 33 (xeF hc5) <|
zz 37 (xeT hc6) <|
zz 45 (xeF hc7) <|
ee) (by kernel_rfl)
theorem p_treesoundq1_11 (n : Nat) (a0 a1 a2 a3 a4 a5 : Int) (a6 : NL) (a7 : Int) (hc1 : ¬ (a2 < (0 : Int))) (hc2 : ¬ (a2 > a4)) (hc3 : ¬ (a5 ≤ a2)) (hc4 : ¬ (a1 = (1 : Int))) (hc5 : ¬ (a1 = (2 : Int))) (hc6 : ¬ (a1 = (4 : Int))) (hc7 : a1 = (3 : Int)) (hc8 : a3 ≥ a2) (hc9 : a3 ≤ a4) (hc10 : (((a6).l.length : Nat) : Int) = (0 : Int)) : G_treesoundq1 a0 a1 a2 a3 a4 a5 a6 a7 true :=
 runF2 hm (L := lT []) ⟨[2], [], 0, 0⟩ (zz 7 (xdF hc1) <|
zz 13 (xdF hc2) <|
zz 20 (xdF hc3) <|
zz 30 (xeF hc4) <|
zz 33 (xeF hc5) <|
zz 37 (xeF hc6) <|
zz 42 (xeT hc7) <|
zz 51 (xdT hc8) <|
zz 57 (xdT hc9) <|
zz 63 (xeT hc10) <|
ee) (by kernel_rfl)
theorem p_treesoundq1_12 (n : Nat) (a0 a1 a2 a3 a4 a5 : Int) (a6 : NL) (a7 : Int) (hc1 : ¬ (a2 < (0 : Int))) (hc2 : ¬ (a2 > a4)) (hc3 : ¬ (a5 ≤ a2)) (hc4 : ¬ (a1 = (1 : Int))) (hc5 : ¬ (a1 = (2 : Int))) (hc6 : ¬ (a1 = (4 : Int))) (hc7 : a1 = (3 : Int)) (hc8 : a3 ≥ a2) (hc9 : a3 ≤ a4) (hc10 : ¬ ((((a6).l.length : Nat) : Int) = (0 : Int))) : G_treesoundq1 a0 a1 a2 a3 a4 a5 a6 a7 false :=
 runF2 hm (L := lT []) ⟨[2], [], 0, 0⟩ (zz 7 (xdF hc1) <|
zz 13 (xdF hc2) <|
zz 20 (xdF hc3) <|
zz 30 (xeF hc4) <|
zz 33 (xeF hc5) <|
zz 37 (xeF hc6) <|
zz 42 (xeT hc7) <|
zz 51 (xdT hc8) <|
zz 57 (xdT hc9) <|
zz 63 (xeF hc10) <|
ee) (by kernel_rfl)
theorem p_treesoundq1_13 (n : Nat) (a0 a1 a2 a3 a4 a5 : Int) (a6 : NL) (a7 : Int) (hc1 : ¬ (a2 < (0 : Int))) (hc2 : ¬ (a2 > a4)) (hc3 : ¬ (a5 ≤ a2)) (hc4 : ¬ (a1 = (1 : Int))) (hc5 : ¬ (a1 = (2 : Int))) (hc6 : ¬ (a1 = (4 : Int))) (hc7 : a1 = (3 : Int)) (hc8 : a3 ≥ a2) (hc9 : ¬ (a3 ≤ a4)) : G_treesoundq1 a0 a1 a2 a3 a4 a5 a6 a7 false :=
 runF2 hm (L := lT []) ⟨[2], [], 0, 0⟩ (zz 7 (xdF hc1) <|
zz 13 (xdF hc2) <|
zz 20 (xdF hc3) <|
zz 30 (xeF hc4) <|
zz 33 (xeF hc5) <|
zz 37 (xeF hc6) <|
zz 42 (xeT hc7) <|
zz 51 (xdT hc8) <|
zz 57 (xdF hc9) <|
ee) (by kernel_rfl)
theorem p_treesoundq1_14 (n : Nat) (a0 a1 a2 a3 a4 a5 : Int) (a6 : NL) (a7 : Int) (hc1 : ¬ (a2 < (0 : Int))) (hc2 : ¬ (a2 > a4)) (hc3 : ¬ (a5 ≤ a2)) (hc4 : ¬ (a1 = (1 : Int))) (hc5 : ¬ (a1 = (2 : Int))) (hc6 : ¬ (a1 = (4 : Int))) (hc7 : a1 = (3 : Int)) (hc8 : ¬ (a3 ≥ a2)) : G_treesoundq1 a0 a1 a2 a3 a4 a5 a6 a7 false :=
 runF2 hm (L := lT []) ⟨[2], [], 0, 0⟩ (zz 7 (xdF hc1) <|
zz 13 (xdF hc2) <|
zz 20 (xdF hc3) <|
zz 30 (xeF hc4) <|
zz 33 (xeF hc5) <|
zz 37 (xeF hc6) <|
zz 42 (xeT hc7) <|
zz 51 (xdF hc8) <|
ee) (by kernel_rfl)
theorem p_treesoundq1_15 (n : Nat) (a0 a1 a2 a3 a4 a5 : Int) (a6 : NL) (a7 : Int) (hc1 : ¬ (a2 < (0 : Int))) (hc2 : ¬ (a2 > a4)) (hc3 : ¬ (a5 ≤ a2)) (hc4 : ¬ (a1 = (1 : Int))) (hc5 : ¬ (a1 = (2 : Int))) (hc6 : ¬ (a1 = (4 : Int))) (hc7 : ¬ (a1 = (3 : Int))) (hc8 : a1 = (5 : Int)) (hc9 : a3 ≥ a2) (hc10 : a3 ≤ a4) (hc11 : (((a6).l.length : Nat) : Int) = (0 : Int)) : G_treesoundq1 a0 a1 a2 a3 a4 a5 a6 a7 true :=
 runF2 hm (L := lT []) ⟨[2], [], 0, 0⟩ (zz 7 (xdF hc1) <|
zz 13 (xdF hc2) <|
zz 20 (xdF hc3) <|
zz 30 (xeF hc4) <|
zz 33 (xeF hc5) <|
zz 37 (xeF hc6) <|
zz 42 (xeF hc7) <|
zz 46 (xeT hc8) <|
zz 55 (xdT hc9) <|
zz 61 (xdT hc10) <|
zz 67 (xeT hc11) <|
ee) (by kernel_rfl)
theorem p_treesoundq1_16 (n : Nat) (a0 a1 a2 a3 a4 a5 : Int) (a6 : NL) (a7 : Int) (hc1 : ¬ (a2 < (0 : Int))) (hc2 : ¬ (a2 > a4)) (hc3 : ¬ (a5 ≤ a2)) (hc4 : ¬ (a1 = (1 : Int))) (hc5 : ¬ (a1 = (2 : Int))) (hc6 : ¬ (a1 = (4 : Int))) (hc7 : ¬ (a1 = (3 : Int))) (hc8 : a1 = (5 : Int)) (hc9 : a3 ≥ a2) (hc10 : a3 ≤ a4) (hc11 : ¬ ((((a6).l.length : Nat) : Int) = (0 : Int))) : G_treesoundq1 a0 a1 a2 a3 a4 a5 a6 a7 false :=
 runF2 hm (L := lT []) ⟨[2], [], 0, 0⟩ (zz 7 (xdF hc1) <|
zz 13 (xdF hc2) <|
zz 20 (xdF hc3) <|
zz 30 (xeF hc4) <|
zz 33 (xeF hc5) <|
zz 37 (xeF hc6) <|
zz 42 (xeF hc7) <|
zz 46 (xeT hc8) <|
zz 55 (xdT hc9) <|
zz 61 (xdT hc10) <|
zz 67 (xeF hc11) <|
ee) (by kernel_rfl)
theorem p_treesoundq1_17 (n : Nat) (a0 a1 a2 a3 a4 a5 : Int) (a6 : NL) (a7 : Int) (hc1 : ¬ (a2 < (0 : Int))) (hc2 : ¬ (a2 > a4)) (hc3 : ¬ (a5 ≤ a2)) (hc4 : ¬ (a1 = (1 : Int))) (hc5 : ¬ (a1 = (2 : Int))) (hc6 : ¬ (a1 = (4 : Int))) (hc7 : ¬ (a1 = (3 : Int))) (hc8 : a1 = (5 : Int)) (hc9 : a3 ≥ a2) (hc10 : ¬ (a3 ≤ a4)) : G_treesoundq1 a0 a1 a2 a3 a4 a5 a6 a7 false :=
 runF2 hm (L := lT []) ⟨[2], [], 0, 0⟩ (zz 7 (xdF hc1) <|
zz 13 (xdF hc2) <|
zz 20 (xdF hc3) <|
zz 30 (xeF hc4) <|
zz 33 (xeF hc5) <|
zz 37 (xeF hc6) <|
zz 42 (xeF hc7) <|
zz 46 (xeT hc8) <|
zz 55 (xdT hc9) <|
zz 61 (xdF hc10) <|
ee) (by kernel_rfl)
theorem p_treesoundq1_18 (n : Nat) (a0 a1 a2 a3 a4 a5 : Int) (a6 : NL) (a7 : Int) (hc1 : ¬ (a2 < (0 : Int))) (hc2 : ¬ (a2 > a4)) (hc3 : ¬ (a5 ≤ a2)) (hc4 : ¬ (a1 = (1 : Int))) (hc5 : ¬ (a1 = (2 : Int))) (hc6 : ¬ (a1 = (4 : Int))) (hc7 : ¬ (a1 = (3 : Int))) (hc8 : a1 = (5 : Int)) (hc9 : ¬ (a3 ≥ a2)) : G_treesoundq1 a0 a1 a2 a3 a4 a5 a6 a7 false :=
 runF2 hm (L := lT []) ⟨[2], [], 0, 0⟩ (zz 7 (xdF hc1) <|
zz 13 (xdF hc2) <|
zz 20 (xdF hc3) <|
zz 30 (xeF hc4) <|
zz 33 (xeF hc5) <|
zz 37 (xeF hc6) <|
zz 42 (xeF hc7) <|
zz 46 (xeT hc8) <|
zz 55 (xdF hc9) <|
ee) (by kernel_rfl)
theorem p_treesoundq1_19 (n : Nat) (a0 a1 a2 a3 a4 a5 : Int) (a6 : NL) (a7 : Int) (hc1 : ¬ (a2 < (0 : Int))) (hc2 : ¬ (a2 > a4)) (hc3 : ¬ (a5 ≤ a2)) (hc4 : ¬ (a1 = (1 : Int))) (hc5 : ¬ (a1 = (2 : Int))) (hc6 : ¬ (a1 = (4 : Int))) (hc7 : ¬ (a1 = (3 : Int))) (hc8 : ¬ (a1 = (5 : Int))) (hc9 : a1 = (6 : Int)) (hc10 : a3 ≥ a2) (hc11 : a3 ≤ a4) (hc12 : (((a6).l.length : Nat) : Int) = (0 : Int)) : G_treesoundq1 a0 a1 a2 a3 a4 a5 a6 a7 true :=
 runF2 hm (L := lT []) ⟨[2], [], 0, 0⟩ (zz 7 (xdF hc1) <|
zz 13 (xdF hc2) <|
zz 20 (xdF hc3) <|
zz 30 (xeF hc4) <|
zz 33 (xeF hc5) <|
zz 37 (xeF hc6) <|
zz 42 (xeF hc7) <|
zz 46 (xeF hc8) <|
zz 49 (xeT hc9) <|
zz 57 (xdT hc10) <|
zz 63 (xdT hc11) <|
zz 69 (xeT hc12) <|
ee) (by kernel_rfl)
theorem p_treesoundq1_20 (n : Nat) (a0 a1 a2 a3 a4 a5 : Int) (a6 : NL) (a7 : Int) (hc1 : ¬ (a2 < (0 : Int))) (hc2 : ¬ (a2 > a4)) (hc3 : ¬ (a5 ≤ a2)) (hc4 : ¬ (a1 = (1 : Int))) (hc5 : ¬ (a1 = (2 : Int))) (hc6 : ¬ (a1 = (4 : Int))) (hc7 : ¬ (a1 = (3 : Int))) (hc8 : ¬ (a1 = (5 : Int))) (hc9 : a1 = (6 : Int)) (hc10 : a3 ≥ a2) (hc11 : a3 ≤ a4) (hc12 : ¬ ((((a6).l.length : Nat) : Int) = (0 : Int))) : G_treesoundq1 a0 a1 a2 a3 a4 a5 a6 a7 false :=
 runF2 hm (L := lT []) ⟨[2], [], 0, 0⟩ (zz 7 (xdF hc1) <|
zz 13 (xdF hc2) <|
zz 20 (xdF hc3) <|
zz 30 (xeF hc4) <|
zz 33 (xeF hc5) <|
zz 37 (xeF hc6) <|
zz 42 (xeF hc7) <|
zz 46 (xeF hc8) <|
zz 49 (xeT hc9) <|
zz 57 (xdT hc10) <|
zz 63 (xdT hc11) <|
zz 69 (xeF hc12) <|
ee) (by kernel_rfl)
theorem p_treesoundq1_21 (n : Nat) (a0 a1 a2 a3 a4 a5 : Int) (a6 : NL) (a7 : Int) (hc1 : ¬ (a2 < (0 : Int))) (hc2 : ¬ (a2 > a4)) (hc3 : ¬ (a5 ≤ a2)) (hc4 : ¬ (a1 = (1 : Int))) (hc5 : ¬ (a1 = (2 : Int))) (hc6 : ¬ (a1 = (4 : Int))) (hc7 : ¬ (a1 = (3 : Int))) (hc8 : ¬ (a1 = (5 : Int))) (hc9 : a1 = (6 : Int)) (hc10 : a3 ≥ a2) (hc11 : ¬ (a3 ≤ a4)) : G_treesoundq1 a0 a1 a2 a3 a4 a5 a6 a7 false :=
 runF2 hm (L := lT []) ⟨[2], [], 0, 0⟩ (zz 7 (xdF hc1) <|
zz 13 (xdF hc2) <|
zz 20 (xdF hc3) <|
zz 30 (xeF hc4) <|
zz 33 (xeF hc5) <|
zz 37 (xeF hc6) <|
zz 42 (xeF hc7) <|
zz 46 (xeF hc8) <|
zz 49 (xeT hc9) <|
zz 57 (xdT hc10) <|
zz 63 (xdF hc11) <|
ee) (by kernel_rfl)
theorem p_treesoundq1_22 (n : Nat) (a0 a1 a2 a3 a4 a5 : Int) (a6 : NL) (a7 : Int) (hc1 : ¬ (a2 < (0 : Int))) (hc2 : ¬ (a2 > a4)) (hc3 : ¬ (a5 ≤ a2)) (hc4 : ¬ (a1 = (1 : Int))) (hc5 : ¬ (a1 = (2 : Int))) (hc6 : ¬ (a1 = (4 : Int))) (hc7 : ¬ (a1 = (3 : Int))) (hc8 : ¬ (a1 = (5 : Int))) (hc9 : a1 = (6 : Int)) (hc10 : ¬ (a3 ≥ a2)) : G_treesoundq1 a0 a1 a2 a3 a4 a5 a6 a7 false :=
 runF2 hm (L := lT []) ⟨[2], [], 0, 0⟩ (zz 7 (xdF hc1) <|
zz 13 (xdF hc2) <|
zz 20 (xdF hc3) <|
zz 30 (xeF hc4) <|
zz 33 (xeF hc5) <|
zz 37 (xeF hc6) <|
zz 42 (xeF hc7) <|
zz 46 (xeF hc8) <|
zz 49 (xeT hc9) <|
zz 57 (xdF hc10) <|
ee) (by kernel_rfl)
theorem p_treesoundq1_23 (n : Nat) (a0 a1 a2 a3 a4 a5 : Int) (a6 : NL) (a7 : Int) (hc1 : ¬ (a2 < (0 : Int))) (hc2 : ¬ (a2 > a4)) (hc3 : ¬ (a5 ≤ a2)) (hc4 : ¬ (a1 = (1 : Int))) (hc5 : ¬ (a1 = (2 : Int))) (hc6 : ¬ (a1 = (4 : Int))) (hc7 : ¬ (a1 = (3 : Int))) (hc8 : ¬ (a1 = (5 : Int))) (hc9 : ¬ (a1 = (6 : Int))) : G_treesoundq1 a0 a1 a2 a3 a4 a5 a6 a7 false :=
 runF2 hm (L := lT []) ⟨[2], [], 0, 0⟩ (zz 7 (xdF hc1) <|
zz 13 (xdF hc2) <|
zz 20 (xdF hc3) <|
zz 30 (xeF hc4) <|
zz 33 (xeF hc5) <|
zz 37 (xeF hc6) <|
zz 42 (xeF hc7) <|
zz 46 (xeF hc8) <|
zz 49 (xeF hc9) <|
ee) (by kernel_rfl)
theorem m_treesoundq1_ok (n : Nat) (a0 : Int) (a1 : Int) (a2 : Int) (a3 : Int) (a4 : Int) (a5 : Int) (a6 : NL) (a7 : Int) (r : Bool) (h : m_treesoundq1 n a0 a1 a2 a3 a4 a5 a6 a7 = some r) : Gv P (.func 34) (A_treesoundq1 a0 a1 a2 a3 a4 a5 a6 a7) (H_treesoundq1 a0 a1 a2 a3 a4 a5 a6 a7) (V_treesoundq1 a0 a1 a2 a3 a4 a5 a6 a7 r) (R_treesoundq1 a0 a1 a2 a3 a4 a5 a6 a7 r) := by
 unfold m_treesoundq1 at h
 by_cases hc1 : a2 < (0 : Int)
 ·rw [if_pos hc1] at h
  obtain rfl := Option.some.inj h; exact p_treesoundq1_0 n a0 a1 a2 a3 a4 a5 a6 a7 hc1
 ·rw [if_neg hc1] at h
  by_cases hc2 : a2 > a4
  ·rw [if_pos hc2] at h
   obtain rfl := Option.some.inj h; exact p_treesoundq1_1 n a0 a1 a2 a3 a4 a5 a6 a7 hc1 hc2
  ·rw [if_neg hc2] at h
   by_cases hc3 : a5 ≤ a2
   ·rw [if_pos hc3] at h
    obtain rfl := Option.some.inj h; exact p_treesoundq1_2 n a0 a1 a2 a3 a4 a5 a6 a7 hc1 hc2 hc3
   ·rw [if_neg hc3] at h
    by_cases hc4 : a1 = (1 : Int)
    ·rw [if_pos hc4] at h
     by_cases hc5 : a3 = a2
     ·rw [if_pos hc5] at h
      obtain rfl := Option.some.inj h; exact p_treesoundq1_3 n a0 a1 a2 a3 a4 a5 a6 a7 hc1 hc2 hc3 hc4 hc5
     ·rw [if_neg hc5] at h
      obtain rfl := Option.some.inj h; exact p_treesoundq1_4 n a0 a1 a2 a3 a4 a5 a6 a7 hc1 hc2 hc3 hc4 hc5
    ·rw [if_neg hc4] at h
     by_cases hc5 : a1 = (2 : Int)
     ·rw [if_pos hc5] at h
      by_cases hc6 : a3 = a2
      ·rw [if_pos hc6] at h
       obtain rfl := Option.some.inj h; exact p_treesoundq1_5 n a0 a1 a2 a3 a4 a5 a6 a7 hc1 hc2 hc3 hc4 hc5 hc6
      ·rw [if_neg hc6] at h
       obtain rfl := Option.some.inj h; exact p_treesoundq1_6 n a0 a1 a2 a3 a4 a5 a6 a7 hc1 hc2 hc3 hc4 hc5 hc6
     ·rw [if_neg hc5] at h
      by_cases hc6 : a1 = (4 : Int)
      ·rw [if_pos hc6] at h
       by_cases hc7 : a3 = a2
       ·rw [if_pos hc7] at h
        by_cases hc8 : a4 = a2
        ·rw [if_pos hc8] at h
         by_cases hc9 : (((a6).l.length : Nat) : Int) = (0 : Int)
         ·rw [if_pos hc9] at h
          obtain rfl := Option.some.inj h; exact p_treesoundq1_7 n a0 a1 a2 a3 a4 a5 a6 a7 hc1 hc2 hc3 hc4 hc5 hc6 hc7 hc8 hc9
         ·rw [if_neg hc9] at h
          obtain rfl := Option.some.inj h; exact p_treesoundq1_8 n a0 a1 a2 a3 a4 a5 a6 a7 hc1 hc2 hc3 hc4 hc5 hc6 hc7 hc8 hc9
        ·rw [if_neg hc8] at h
         obtain rfl := Option.some.inj h; exact p_treesoundq1_9 n a0 a1 a2 a3 a4 a5 a6 a7 hc1 hc2 hc3 hc4 hc5 hc6 hc7 hc8
       ·rw [if_neg hc7] at h
        obtain rfl := Option.some.inj h; exact p_treesoundq1_10 n a0 a1 a2 a3 a4 a5 a6 a7 hc1 hc2 hc3 hc4 hc5 hc6 hc7
      ·rw [if_neg hc6] at h
       by_cases hc7 : a1 = (3 : Int)
       ·rw [if_pos hc7] at h
        by_cases hc8 : a3 ≥ a2
        ·rw [if_pos hc8] at h
         by_cases hc9 : a3 ≤ a4
         ·rw [if_pos hc9] at h
          by_cases hc10 : (((a6).l.length : Nat) : Int) = (0 : Int)
          ·rw [if_pos hc10] at h
           obtain rfl := Option.some.inj h; exact p_treesoundq1_11 n a0 a1 a2 a3 a4 a5 a6 a7 hc1 hc2 hc3 hc4 hc5 hc6 hc7 hc8 hc9 hc10
          ·rw [if_neg hc10] at h
           obtain rfl := Option.some.inj h; exact p_treesoundq1_12 n a0 a1 a2 a3 a4 a5 a6 a7 hc1 hc2 hc3 hc4 hc5 hc6 hc7 hc8 hc9 hc10
         ·rw [if_neg hc9] at h
          obtain rfl := Option.some.inj h; exact p_treesoundq1_13 n a0 a1 a2 a3 a4 a5 a6 a7 hc1 hc2 hc3 hc4 hc5 hc6 hc7 hc8 hc9
        ·rw [if_neg hc8] at h
         obtain rfl := Option.some.inj h; exact p_treesoundq1_14 n a0 a1 a2 a3 a4 a5 a6 a7 hc1 hc2 hc3 hc4 hc5 hc6 hc7 hc8
       ·rw [if_neg hc7] at h
        by_cases hc8 : a1 = (5 : Int)
        ·rw [if_pos hc8] at h
         by_cases hc9 : a3 ≥ a2
         ·rw [if_pos hc9] at h
          by_cases hc10 : a3 ≤ a4
          ·rw [if_pos hc10] at h
           by_cases hc11 : (((a6).l.length : Nat) : Int) = (0 : Int)
           ·rw [if_pos hc11] at h
            obtain rfl := Option.some.inj h; exact p_treesoundq1_15 n a0 a1 a2 a3 a4 a5 a6 a7 hc1 hc2 hc3 hc4 hc5 hc6 hc7 hc8 hc9 hc10 hc11
           ·rw [if_neg hc11] at h
            obtain rfl := Option.some.inj h; exact p_treesoundq1_16 n a0 a1 a2 a3 a4 a5 a6 a7 hc1 hc2 hc3 hc4 hc5 hc6 hc7 hc8 hc9 hc10 hc11
          ·rw [if_neg hc10] at h
           obtain rfl := Option.some.inj h; exact p_treesoundq1_17 n a0 a1 a2 a3 a4 a5 a6 a7 hc1 hc2 hc3 hc4 hc5 hc6 hc7 hc8 hc9 hc10
         ·rw [if_neg hc9] at h
          obtain rfl := Option.some.inj h; exact p_treesoundq1_18 n a0 a1 a2 a3 a4 a5 a6 a7 hc1 hc2 hc3 hc4 hc5 hc6 hc7 hc8 hc9
        ·rw [if_neg hc8] at h
         by_cases hc9 : a1 = (6 : Int)
         ·rw [if_pos hc9] at h
          by_cases hc10 : a3 ≥ a2
          ·rw [if_pos hc10] at h
           by_cases hc11 : a3 ≤ a4
           ·rw [if_pos hc11] at h
            by_cases hc12 : (((a6).l.length : Nat) : Int) = (0 : Int)
            ·rw [if_pos hc12] at h
             obtain rfl := Option.some.inj h; exact p_treesoundq1_19 n a0 a1 a2 a3 a4 a5 a6 a7 hc1 hc2 hc3 hc4 hc5 hc6 hc7 hc8 hc9 hc10 hc11 hc12
            ·rw [if_neg hc12] at h
             obtain rfl := Option.some.inj h; exact p_treesoundq1_20 n a0 a1 a2 a3 a4 a5 a6 a7 hc1 hc2 hc3 hc4 hc5 hc6 hc7 hc8 hc9 hc10 hc11 hc12
           ·rw [if_neg hc11] at h
            obtain rfl := Option.some.inj h; exact p_treesoundq1_21 n a0 a1 a2 a3 a4 a5 a6 a7 hc1 hc2 hc3 hc4 hc5 hc6 hc7 hc8 hc9 hc10 hc11
          ·rw [if_neg hc10] at h
           obtain rfl := Option.some.inj h; exact p_treesoundq1_22 n a0 a1 a2 a3 a4 a5 a6 a7 hc1 hc2 hc3 hc4 hc5 hc6 hc7 hc8 hc9 hc10
         ·rw [if_neg hc9] at h
          obtain rfl := Option.some.inj h; exact p_treesoundq1_23 n a0 a1 a2 a3 a4 a5 a6 a7 hc1 hc2 hc3 hc4 hc5 hc6 hc7 hc8 hc9


end Go.Proofs.Ytiiionooieoniaa.stlw
