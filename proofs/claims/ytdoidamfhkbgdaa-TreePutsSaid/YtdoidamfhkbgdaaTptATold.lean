/-
  What functions do, told by pure functions. No condition.
-/
import Derived.Test.YtdoidamfhkbgdaaTptLives
set_option linter.unusedSimpArgs false
set_option linter.unusedVariables false
set_option linter.unusedSectionVars false
set_option linter.unnecessarySimpa false
set_option maxRecDepth 100000
noncomputable section
namespace Go.Proofs.Ytdoidamfhkbgdaa.tpt16
open Go Go.Proofs.Ytdoidamfhkbgdaa Ax
abbrev R8 [Nest] : Type := Int × Int × Int × Int × Int × Int × NL × Int
variable [Args]
def rw_iii (x : Int × Int × Int) : List Value := [Value.int .i64 (x.1), Value.int .i64 (x.2.1), Value.int .i64 (x.2.2)]
theorem rwf_iii : RowF rw_iii 3 := ⟨fun _ => rfl, fun a v h => by
 simp only [rw_iii, List.mem_cons, List.not_mem_nil, or_false] at h
 rcases h with rfl | rfl | rfl <;> rfl, fun _ => rfl⟩
theorem rwo_iiiiiiLu : ∀ a, okVs (rw_iiiiiiLu a) = true := fun _ => rfl
abbrev xp1 (b o n k : Nat) (i : Int) : Prop := IA P 22 (sW b o n k) i (pW b (Nat.add o (i.toNat * 8)))
theorem xk1 (b o k : Nat) {n : Nat} {i : Int} (h : 0 ≤ i ∧ i < (n : Int)) : OB (.pur (pW b (Nat.add o (i.toNat * 8)))) (xp1 b o n k i) := ⟨ixWO (e := 39) (by kernel_rfl) (by kernel_rfl) h⟩
abbrev lp2 (x : WL rw_iiiiiiLu) (i : Nat) (r : R8) : Prop := Lg P 39 (pW x.num (Nat.add x.off (i * 8))) (Value.agg #[(i6 (r.1)), (i6 (r.2.1)), (i6 (r.2.2.1)), (i6 (r.2.2.2.1)), (i6 (r.2.2.2.2.1)), (i6 (r.2.2.2.2.2.1)), (nlV (r.2.2.2.2.2.2.1)), (Value.int .u64 (r.2.2.2.2.2.2.2))])
theorem lk2 {x : WL rw_iiiiiiLu} {i : Nat} {r : Int × Int × Int × Int × Int × Int × NL × Int} (hr : some ((x.l).getD i (0, 0, 0, 0, 0, 0, nl0, 0)) = some r) (h : i < (x.l).length) : OB (.ld (Value.agg #[(i6 (r.1)), (i6 (r.2.1)), (i6 (r.2.2.1)), (i6 (r.2.2.2.1)), (i6 (r.2.2.2.2.1)), (i6 (r.2.2.2.2.2.1)), (nlV (r.2.2.2.2.2.2.1)), (Value.int .u64 (r.2.2.2.2.2.2.2))])) (lp2 x i r) := by cases hr; exact ⟨ldRA rwf_iiiiiiLu (0, 0, 0, 0, 0, 0, nl0, 0) (i := i) (q := 0) x (n := 8) (Nat.add x.off (i * 8)) rfl (by kernel_rfl) (by kernel_rfl) h (by decide) (by decide) rfl⟩
abbrev xp3 (b n k : Nat) (i : Int) : Prop := IA P 55 (sN b 0 n k) i (pN b (i.toNat * 3))
theorem xk3 (b k : Nat) {n : Nat} {i : Int} (h : 0 ≤ i ∧ i < (n : Int)) : OB (.pur (pN b (i.toNat * 3))) (xp3 b n k i) := ⟨ixS (e := 58) (by kernel_rfl) (by kernel_rfl) h.1 h.2⟩
abbrev op4 (L : List (Int × Int × Int)) (i : Nat) (r : Int × Int × Int) : Prop := (layT (rows rw_iii L)).get (Nat.add (i * 3) 0) = some (i6 (r.1))
theorem ok4 {L : List (Int × Int × Int)} {i : Nat} {r : Int × Int × Int} (hr : some (L.getD i (0, 0, 0)) = some r) (h : i < L.length) : OB (.ld (i6 (r.1))) (op4 L i r) := by cases hr; exact ⟨rows_ld rwf_iii (0, 0, 0) (i := i) (j := 0) (Nat.add (i * 3) 0) rfl h (by decide) rfl⟩
abbrev op5 (L : List (Int × Int × Int)) (i : Nat) (r : Int × Int × Int) : Prop := (layT (rows rw_iii L)).get (Nat.add (i * 3) 1) = some (i6 (r.2.1))
theorem ok5 {L : List (Int × Int × Int)} {i : Nat} {r : Int × Int × Int} (hr : some (L.getD i (0, 0, 0)) = some r) (h : i < L.length) : OB (.ld (i6 (r.2.1))) (op5 L i r) := by cases hr; exact ⟨rows_ld rwf_iii (0, 0, 0) (i := i) (j := 1) (Nat.add (i * 3) 1) rfl h (by decide) rfl⟩
abbrev xp6 (b o n k : Nat) (i : Int) : Prop := IA P 37 (sW b o n k) i (pW b (Nat.add o i.toNat))
theorem xk6 (b o k : Nat) {n : Nat} {i : Int} (h : 0 ≤ i ∧ i < (n : Int)) : OB (.pur (pW b (Nat.add o i.toNat))) (xp6 b o n k i) := ⟨ixWO1 (e := 3) (by kernel_rfl) (by kernel_rfl) h⟩
theorem nk7 {x : NL} {i : Nat} {v : Int} (hv : some (x.l.getD i 0) = some v) (h : i < x.l.length) : OB (.ld (i6 v)) (Lg P 3 (pW (Nat.add x.num 64) (Nat.add x.off i)) (i6 v)) := by cases hv; exact ⟨ldN x (by kernel_rfl) h⟩
abbrev op8 (L : List (Int × Int × Int)) (i : Nat) (r : Int × Int × Int) : Prop := (layT (rows rw_iii L)).get (Nat.add (i * 3) 2) = some (i6 (r.2.2))
theorem ok8 {L : List (Int × Int × Int)} {i : Nat} {r : Int × Int × Int} (hr : some (L.getD i (0, 0, 0)) = some r) (h : i < L.length) : OB (.ld (i6 (r.2.2))) (op8 L i r) := by cases hr; exact ⟨rows_ld rwf_iii (0, 0, 0) (i := i) (j := 2) (Nat.add (i * 3) 2) rfl h (by decide) rfl⟩
theorem snoc_cons {α : Type} (l : List α) (x : α) : ∃ a t, l ++ [x] = a :: t := by
 cases l with
 | nil => exact ⟨_, _, rfl⟩
 | cons a t => exact ⟨_, _, rfl⟩
theorem set_cons {α : Type} {x v : α} {l : List α} {n : Nat} : ∃ a t, (x :: l).set n v = a :: t := by cases n <;> exact ⟨_, _, rfl⟩
abbrev xp9 (b n k : Nat) (i : Int) : Prop := IA P 37 (sN b 0 n k) i (pN b i.toNat)
theorem xk9 (b k : Nat) {n : Nat} {i : Int} (h : 0 ≤ i ∧ i < (n : Int)) : OB (.pur (pN b i.toNat)) (xp9 b n k i) := ⟨ixS1 (e := 3) (by kernel_rfl) (by kernel_rfl) h⟩
abbrev fp10 (b o : Nat) : Prop := FA P 39 (pW b o) 6 (pW b (Nat.add o 6))
theorem fk10 (b o : Nat) : OB (.pur (pW b (Nat.add o 6))) (fp10 b o) := ⟨by unfold fp10 FA; kernel_rfl⟩
abbrev lp11 (x : WL rw_iiiiiiLu) (i : Nat) (r : R8) : Prop := Lg P 37 (pW x.num (Nat.add (Nat.add x.off (i * 8)) 6)) (nlV (r.2.2.2.2.2.2.1))
theorem lk11 {x : WL rw_iiiiiiLu} {i : Nat} {r : Int × Int × Int × Int × Int × Int × NL × Int} (hr : some ((x.l).getD i (0, 0, 0, 0, 0, 0, nl0, 0)) = some r) (h : i < (x.l).length) : OB (.ld (nlV (r.2.2.2.2.2.2.1))) (lp11 x i r) := by cases hr; exact ⟨ldRS rwf_iiiiiiLu (0, 0, 0, 0, 0, 0, nl0, 0) (i := i) (q := 6) x (Nat.add (Nat.add x.off (i * 8)) 6) rfl (by kernel_rfl) h (by decide) rfl⟩
abbrev xp12 (b n k : Nat) (i : Int) : Prop := IA P 22 (sN b 0 n k) i (pN b (i.toNat * 8))
theorem xk12 (b k : Nat) {n : Nat} {i : Int} (h : 0 ≤ i ∧ i < (n : Int)) : OB (.pur (pN b (i.toNat * 8))) (xp12 b n k i) := ⟨ixS (e := 39) (by kernel_rfl) (by kernel_rfl) h.1 h.2⟩
abbrev op13 (L : List R8) (i : Nat) (r : R8) : Prop := (layT (rows rw_iiiiiiLu L)).get (Nat.add (i * 8) 6) = some (nlV (r.2.2.2.2.2.2.1))
theorem ok13 {L : List R8} {i : Nat} {r : Int × Int × Int × Int × Int × Int × NL × Int} (hr : some (L.getD i (0, 0, 0, 0, 0, 0, nl0, 0)) = some r) (h : i < L.length) : OB (.ld (nlV (r.2.2.2.2.2.2.1))) (op13 L i r) := by cases hr; exact ⟨rows_ld rwf_iiiiiiLu (0, 0, 0, 0, 0, 0, nl0, 0) (i := i) (j := 6) (Nat.add (i * 8) 6) rfl h (by decide) rfl⟩

def m_viewportlaw16lives (n : Nat) : Option Unit := some ()
theorem m_viewportlaw16lives_ok (n : Nat) (r : Unit) (h : m_viewportlaw16lives n = some r) : Gv P (.func 4) [] Ax.h0 (.bool true) Ax.h0 := lives_gv

def A_viewportkitLightPartsq1 (a0 : WL rw_iiiiiiLu) (a1 : Int) : List Value := [(wlV a0), (i6 a1)]
def H_viewportkitLightPartsq1 (a0 : WL rw_iiiiiiLu) (a1 : Int) : AH := ⟨sB [], 0, 0⟩
def V_viewportkitLightPartsq1 (a0 : WL rw_iiiiiiLu) (a1 : Int) (r : Bool) : Value := match r with
 | o0 => (bO o0)
def R_viewportkitLightPartsq1 (a0 : WL rw_iiiiiiLu) (a1 : Int) (r : Bool) : AH := match r with
 | o0 => ⟨sB [], 0, 0⟩
abbrev G_viewportkitLightPartsq1 (a0 : WL rw_iiiiiiLu) (a1 : Int) (r : Bool) : Prop := Gv P (.func 16) (A_viewportkitLightPartsq1 a0 a1) (H_viewportkitLightPartsq1 a0 a1) (V_viewportkitLightPartsq1 a0 a1 r) (R_viewportkitLightPartsq1 a0 a1 r)
abbrev C_viewportkitLightPartsq1 (a0 : WL rw_iiiiiiLu) (a1 : Int) (r : Bool) (ins outs : BL) : CallA := ⟨0, ins, V_viewportkitLightPartsq1 a0 a1 r, R_viewportkitLightPartsq1 a0 a1 r, outs⟩
def S_viewportkitLightPartsq1_1 (x1_0 : WL rw_iiiiiiLu) (x1_1 : Int) (st : Int × Int) : XSt := match st with
 | (x1_2, x1_3) => (sT 66 [(0, (wlV x1_0)), (1, (i6 x1_1)), (5, (i6 x1_2)), (6, (i6 x1_3))], [], ⟨sB [], 0, 0⟩)
def X_viewportkitLightPartsq1_1 (x1_0 : WL rw_iiiiiiLu) (x1_1 : Int) (r : (Unit) ⊕ (Int)) : Ex × XSt := match r with
 | .inl _ => (.ret, (sT 66 [(4, (bO false))], [], ⟨sB [], 0, 0⟩))
 | .inr z1_0 => (.exit 0, (sT 66 [(0, (wlV x1_0)), (1, (i6 x1_1)), (5, (i6 z1_0))], [], ⟨sB [], 0, 0⟩))
abbrev Q_viewportkitLightPartsq1_1 (rnd : Option Nat) (x1_0 : WL rw_iiiiiiLu) (x1_1 : Int) (st : Int × Int) (c : Ex × XSt) : Prop := CG P rnd (fnN P 16) 0 (codeOf P 16 [false, false, true, false, true, true]) (S_viewportkitLightPartsq1_1 x1_0 x1_1 st) c
abbrev U_viewportkitLightPartsq1_1 (rd : Option Nat) (x1_0 : WL rw_iiiiiiLu) (x1_1 : Int) (st : Int × Int) (r : (Unit) ⊕ (Int)) : Prop := CG P rd (fnN P 16) 0 (codeOf P 16 [false, true, false, true, true]) (S_viewportkitLightPartsq1_1 x1_0 x1_1 st) (X_viewportkitLightPartsq1_1 x1_0 x1_1 r)
def B_viewportkitLightPartsq1_1 (n : Nat) (x1_0 : WL rw_iiiiiiLu) (x1_1 : Int) (st : Int × Int) : Option ((Int × Int) ⊕ ((Unit) ⊕ (Int))) := match st with
 | (x1_2, x1_3) =>
  if x1_3 < (((x1_0).l.length : Nat) : Int) then
   if x1_3 ≤ x1_1 then
    if 0 ≤ x1_3 ∧ x1_3 < (((x1_0).l.length : Nat) : Int) then
     ((some (((x1_0).l).getD (x1_3).toNat (0, 0, 0, 0, 0, 0, nl0, 0)))).bind fun y1_4_ =>
     ((some (w64 (x1_2 + ((((y1_4_.2.2.2.2.2.2.1)).l.length : Nat) : Int))))).bind fun y1_5_ =>
     if (y1_4_.2.2.1) > (1048576 : Int) then
      some (.inr (.inl ()))
     else
      if (y1_4_.2.2.2.2.1) > (1048576 : Int) then
       some (.inr (.inl ()))
      else
       if (y1_4_.2.2.2.2.2.1) > (1048576 : Int) then
        some (.inr (.inl ()))
       else
        if (y1_4_.2.2.1) < (-1048576 : Int) then
         some (.inr (.inl ()))
        else
         if (y1_4_.2.2.2.2.1) < (-1048576 : Int) then
          some (.inr (.inl ()))
         else
          if (y1_4_.2.2.2.2.2.1) < (-1048576 : Int) then
           some (.inr (.inl ()))
          else
           some (.inl (y1_5_, (w64 (x1_3 + (1 : Int)))))
    else none
   else
    some (.inr (.inr x1_2))
  else
   some (.inr (.inr x1_2))
def m_viewportkitLightPartsq1_1 (n : Nat) (x1_0 : WL rw_iiiiiiLu) (x1_1 : Int) (st : Int × Int) : Option ((Unit) ⊕ (Int)) := iterM (B_viewportkitLightPartsq1_1 n x1_0 x1_1) n st
theorem b_viewportkitLightPartsq1_1 (n : Nat) {rnd : Option Nat} (x1_0 : WL rw_iiiiiiLu) (x1_1 : Int) (st : Int × Int) (o : (Int × Int) ⊕ ((Unit) ⊕ (Int))) (h : B_viewportkitLightPartsq1_1 n x1_0 x1_1 st = some o) : CG P rnd (fnN P 16) 0 (codeOf P 16 [false, false, true, false, true, true]) (S_viewportkitLightPartsq1_1 x1_0 x1_1 st) (Sum.elim (fun s => (.normal, S_viewportkitLightPartsq1_1 x1_0 x1_1 s)) (fun r => X_viewportkitLightPartsq1_1 x1_0 x1_1 r) o) := by
 obtain ⟨x1_2, x1_3⟩ := st
 unfold B_viewportkitLightPartsq1_1 at h
 dsimp only at h
 by_cases hy1_1 : x1_3 < (((x1_0).l.length : Nat) : Int)
 ·rw [if_pos hy1_1] at h
  have k0 := fun {A L l} (k : PL A L l) => zz 5 (xdT hy1_1) <|
   k
  by_cases hy1_2 : x1_3 ≤ x1_1
  ·rw [if_pos hy1_2] at h
   obtain ⟨hy1_3, h⟩ := gd h
   obtain ⟨y1_4_, hy1_4, h⟩ := oB h
   obtain ⟨y1_5_, hy1_5, h⟩ := oB h
   have k1 := fun {A L l} (k : PL A L l) => zz 9 (xdT hy1_2) <|
    zz 17 (xk1 (x1_0).num (x1_0).off (x1_0).cap hy1_3) <|
    zz 18 (lk2 hy1_4 (toNatLt hy1_3)) <|
    zz 26 (xnm hy1_5) <|
    k
   by_cases hy1_6 : (y1_4_.2.2.1) > (1048576 : Int)
   ·rw [if_pos hy1_6] at h
    obtain rfl := oI h
    exact runC2 hm ⟨[4], [], 0, 0, [], false, [], [], []⟩ (k0 <|
     k1 <|
     zz 31 (xdT hy1_6) <|
     ee) (by kernel_rfl)
   ·rw [if_neg hy1_6] at h
    have k5 := fun {A L l} (k : PL A L l) => zz 31 (xdF hy1_6) <|
     k
    by_cases hy1_7 : (y1_4_.2.2.2.2.1) > (1048576 : Int)
    ·rw [if_pos hy1_7] at h
     obtain rfl := oI h
     exact runC2 hm ⟨[4], [], 0, 0, [], false, [], [], []⟩ (k0 <|
      k1 <|
      k5 <|
      zz 35 (xdT hy1_7) <|
      ee) (by kernel_rfl)
    ·rw [if_neg hy1_7] at h
     have k6 := fun {A L l} (k : PL A L l) => zz 35 (xdF hy1_7) <|
      k
     by_cases hy1_8 : (y1_4_.2.2.2.2.2.1) > (1048576 : Int)
     ·rw [if_pos hy1_8] at h
      obtain rfl := oI h
      exact runC2 hm ⟨[4], [], 0, 0, [], false, [], [], []⟩ (k0 <|
       k1 <|
       k5 <|
       k6 <|
       zz 40 (xdT hy1_8) <|
       ee) (by kernel_rfl)
     ·rw [if_neg hy1_8] at h
      have k7 := fun {A L l} (k : PL A L l) => zz 40 (xdF hy1_8) <|
       k
      by_cases hy1_9 : (y1_4_.2.2.1) < (-1048576 : Int)
      ·rw [if_pos hy1_9] at h
       obtain rfl := oI h
       exact runC2 hm ⟨[4], [], 0, 0, [], false, [], [], []⟩ (k0 <|
        k1 <|
        k5 <|
        k6 <|
        k7 <|
        zz 45 (xdT hy1_9) <|
        ee) (by kernel_rfl)
      ·rw [if_neg hy1_9] at h
       have k8 := fun {A L l} (k : PL A L l) => zz 45 (xdF hy1_9) <|
        k
       by_cases hy1_10 : (y1_4_.2.2.2.2.1) < (-1048576 : Int)
       ·rw [if_pos hy1_10] at h
        obtain rfl := oI h
        exact runC2 hm ⟨[4], [], 0, 0, [], false, [], [], []⟩ (k0 <|
         k1 <|
         k5 <|
         k6 <|
         k7 <|
         k8 <|
         zz 50 (xdT hy1_10) <|
         ee) (by kernel_rfl)
       ·rw [if_neg hy1_10] at h
        have k9 := fun {A L l} (k : PL A L l) => zz 50 (xdF hy1_10) <|
         k
        by_cases hy1_11 : (y1_4_.2.2.2.2.2.1) < (-1048576 : Int)
        ·rw [if_pos hy1_11] at h
         obtain rfl := oI h
         exact runC2 hm ⟨[4], [], 0, 0, [], false, [], [], []⟩ (k0 <|
          k1 <|
          k5 <|
          k6 <|
          k7 <|
          k8 <|
          k9 <|
          zz 55 (xdT hy1_11) <|
          ee) (by kernel_rfl)
        ·rw [if_neg hy1_11] at h
         obtain rfl := oI h
         exact runC2 hm ⟨[0, 1, 5, 6], [], 0, 0, [], false, [], [], []⟩ (k0 <|
          k1 <|
          k5 <|
          k6 <|
          k7 <|
          k8 <|
          k9 <|
          zz 55 (xdF hy1_11) <|
          ee) (by kernel_rfl)
  ·rw [if_neg hy1_2] at h
   obtain rfl := oI h
   exact runC2 hm ⟨[0, 1, 5], [], 0, 0, [], false, [], [], []⟩ (k0 <|
    zz 9 (xdF hy1_2) <|
    ee) (by kernel_rfl)
 ·rw [if_neg hy1_1] at h
  obtain rfl := oI h
  exact runC2 hm ⟨[0, 1, 5], [], 0, 0, [], false, [], [], []⟩ (zz 5 (xdF hy1_1) <|
   ee) (by kernel_rfl)
theorem m_viewportkitLightPartsq1_1_ok (n : Nat) {rnd : Option Nat} (x1_0 : WL rw_iiiiiiLu) (x1_1 : Int) (st : Int × Int) (r : (Unit) ⊕ (Int)) (h : m_viewportkitLightPartsq1_1 n x1_0 x1_1 st = some r) : CG P rnd (fnN P 16) 0 (codeOf P 16 [false, true, false, true, true]) (S_viewportkitLightPartsq1_1 x1_0 x1_1 st) (X_viewportkitLightPartsq1_1 x1_0 x1_1 r) :=
 CG.iter (b := codeOf P 16 [false, false, true, false, true, true]) (by kernel_rfl) (body := B_viewportkitLightPartsq1_1 n x1_0 x1_1) (S := S_viewportkitLightPartsq1_1 x1_0 x1_1) (X := X_viewportkitLightPartsq1_1 x1_0 x1_1)
  (fun s s' h => b_viewportkitLightPartsq1_1 n x1_0 x1_1 s (.inl s') h)
  (fun s r h => b_viewportkitLightPartsq1_1 n x1_0 x1_1 s (.inr r) h)
  (fun r => by intro hx; rcases r with _ | _ <;> cases hx) h
def m_viewportkitLightPartsq1 (n : Nat) (a0 : WL rw_iiiiiiLu) (a1 : Int) : Option (Bool) :=
 match m_viewportkitLightPartsq1_1 n a0 a1 (0, 0) with
 | none => none
 | some (.inl _) =>
  some false
 | some (.inr c1_) =>
  if (((a0).l.length : Nat) : Int) ≤ a1 then
   if c1_ ≤ (w64 ((2 : Int) * a1)) then
    some true
   else
    some false
  else
   some false
theorem m_viewportkitLightPartsq1_ok (n : Nat) (a0 : WL rw_iiiiiiLu) (a1 : Int) (r : Bool) (h : m_viewportkitLightPartsq1 n a0 a1 = some r) : Gv P (.func 16) (A_viewportkitLightPartsq1 a0 a1) (H_viewportkitLightPartsq1 a0 a1) (V_viewportkitLightPartsq1 a0 a1 r) (R_viewportkitLightPartsq1 a0 a1 r) := by
 unfold m_viewportkitLightPartsq1 at h
 rcases hc1 : m_viewportkitLightPartsq1_1 n a0 a1 (0, 0) with _ | (⟨⟩ | c1_)
 ·rw [hc1] at h; cases h
 ·rw [hc1] at h
  dsimp only at h
  obtain rfl := oI h
  exact runF2 hm ⟨[4], [], 0, 0, [], false, [], [], []⟩ (ww (p := U_viewportkitLightPartsq1_1 none a0 a1 (0, 0) (.inl ())) (m_viewportkitLightPartsq1_1_ok n a0 a1 (0, 0) (.inl ()) hc1) <|
   ll 8 ⟨⟨[0, 1, 5, 6], [], 0, 0, [], false, [], [], []⟩, (X_viewportkitLightPartsq1_1 a0 a1 (.inl ())).1, (X_viewportkitLightPartsq1_1 a0 a1 (.inl ())).2⟩ <|
   ee) (by kernel_rfl)
 ·rw [hc1] at h
  dsimp only at h
  have k0 := fun {A L l} (k : PL A L l) => ww (p := U_viewportkitLightPartsq1_1 none a0 a1 (0, 0) (.inr c1_)) (m_viewportkitLightPartsq1_1_ok n a0 a1 (0, 0) (.inr c1_) hc1) <|
   ll 8 ⟨⟨[0, 1, 5, 6], [], 0, 0, [], false, [], [], []⟩, (X_viewportkitLightPartsq1_1 a0 a1 (.inr c1_)).1, (X_viewportkitLightPartsq1_1 a0 a1 (.inr c1_)).2⟩ <|
   k
  by_cases hc2 : (((a0).l.length : Nat) : Int) ≤ a1
  ·rw [if_pos hc2] at h
   have k2 := fun {A L l} (k : PL A L l) => zz 13 (xdT hc2) <|
    k
   by_cases hc3 : c1_ ≤ (w64 ((2 : Int) * a1))
   ·rw [if_pos hc3] at h
    obtain rfl := oI h
    exact runF2 hm ⟨[4], [], 0, 0, [], false, [], [], []⟩ (k0 <|
     k2 <|
     zz 18 (xdT hc3) <|
     ee) (by kernel_rfl)
   ·rw [if_neg hc3] at h
    obtain rfl := oI h
    exact runF2 hm ⟨[4], [], 0, 0, [], false, [], [], []⟩ (k0 <|
     k2 <|
     zz 18 (xdF hc3) <|
     ee) (by kernel_rfl)
  ·rw [if_neg hc2] at h
   obtain rfl := oI h
   exact runF2 hm ⟨[4], [], 0, 0, [], false, [], [], []⟩ (k0 <|
    zz 13 (xdF hc2) <|
    ee) (by kernel_rfl)

def A_viewportkitLightPartsq2 (a0 : Int) : List Value := [(Value.slice none 0 0), (i6 a0)]
def H_viewportkitLightPartsq2 (a0 : Int) : AH := ⟨sB [], 0, 0⟩
def V_viewportkitLightPartsq2 (a0 : Int) (r : Bool) : Value := match r with
 | o0 => (bO o0)
def R_viewportkitLightPartsq2 (a0 : Int) (r : Bool) : AH := match r with
 | o0 => ⟨sB [], 0, 0⟩
abbrev G_viewportkitLightPartsq2 (a0 : Int) (r : Bool) : Prop := Gv P (.func 16) (A_viewportkitLightPartsq2 a0) (H_viewportkitLightPartsq2 a0) (V_viewportkitLightPartsq2 a0 r) (R_viewportkitLightPartsq2 a0 r)
abbrev C_viewportkitLightPartsq2 (a0 : Int) (r : Bool) (ins outs : BL) : CallA := ⟨0, ins, V_viewportkitLightPartsq2 a0 r, R_viewportkitLightPartsq2 a0 r, outs⟩
def S_viewportkitLightPartsq2_1 (x1_0 : Int) (st : Unit) : XSt := match st with
 | _ => (sT 66 [(0, (Value.slice none 0 0)), (1, (i6 x1_0)), (5, (i6 (0 : Int))), (6, (i6 (0 : Int)))], [], ⟨sB [], 0, 0⟩)
def X_viewportkitLightPartsq2_1 (x1_0 : Int) (r : Unit) : Ex × XSt := match r with
 | _ => (.exit 0, (sT 66 [(0, (Value.slice none 0 0)), (1, (i6 x1_0)), (5, (i6 (0 : Int)))], [], ⟨sB [], 0, 0⟩))
abbrev Q_viewportkitLightPartsq2_1 (rnd : Option Nat) (x1_0 : Int) (st : Unit) (c : Ex × XSt) : Prop := CG P rnd (fnN P 16) 0 (codeOf P 16 [false, false, true, false, true, true]) (S_viewportkitLightPartsq2_1 x1_0 st) c
abbrev U_viewportkitLightPartsq2_1 (rd : Option Nat) (x1_0 : Int) (st : Unit) (r : Unit) : Prop := CG P rd (fnN P 16) 0 (codeOf P 16 [false, true, false, true, true]) (S_viewportkitLightPartsq2_1 x1_0 st) (X_viewportkitLightPartsq2_1 x1_0 r)
def B_viewportkitLightPartsq2_1 (n : Nat) (x1_0 : Int) (st : Unit) : Option ((Unit) ⊕ (Unit)) := match st with
 | _ =>
  some (.inr ())
def m_viewportkitLightPartsq2_1 (n : Nat) (x1_0 : Int) (st : Unit) : Option (Unit) := iterM (B_viewportkitLightPartsq2_1 n x1_0) n st
theorem b_viewportkitLightPartsq2_1 (n : Nat) {rnd : Option Nat} (x1_0 : Int) (st : Unit) (o : (Unit) ⊕ (Unit)) (h : B_viewportkitLightPartsq2_1 n x1_0 st = some o) : CG P rnd (fnN P 16) 0 (codeOf P 16 [false, false, true, false, true, true]) (S_viewportkitLightPartsq2_1 x1_0 st) (Sum.elim (fun s => (.normal, S_viewportkitLightPartsq2_1 x1_0 s)) (fun r => X_viewportkitLightPartsq2_1 x1_0 r) o) := by
 unfold B_viewportkitLightPartsq2_1 at h
 dsimp only at h
 obtain rfl := oI h
 exact runC2 hm ⟨[0, 1, 5], [], 0, 0, [], false, [], [], []⟩ (ee) (by kernel_rfl)
theorem m_viewportkitLightPartsq2_1_ok (n : Nat) {rnd : Option Nat} (x1_0 : Int) (st : Unit) (r : Unit) (h : m_viewportkitLightPartsq2_1 n x1_0 st = some r) : CG P rnd (fnN P 16) 0 (codeOf P 16 [false, true, false, true, true]) (S_viewportkitLightPartsq2_1 x1_0 st) (X_viewportkitLightPartsq2_1 x1_0 r) :=
 CG.iter (b := codeOf P 16 [false, false, true, false, true, true]) (by kernel_rfl) (body := B_viewportkitLightPartsq2_1 n x1_0) (S := S_viewportkitLightPartsq2_1 x1_0) (X := X_viewportkitLightPartsq2_1 x1_0)
  (fun s s' h => b_viewportkitLightPartsq2_1 n x1_0 s (.inl s') h)
  (fun s r h => b_viewportkitLightPartsq2_1 n x1_0 s (.inr r) h)
  (fun r => by intro hx; cases hx) h
def m_viewportkitLightPartsq2 (n : Nat) (a0 : Int) : Option (Bool) :=
 (m_viewportkitLightPartsq2_1 n a0 ()).bind fun _ =>
 if (0 : Int) ≤ a0 then
  if (0 : Int) ≤ (w64 ((2 : Int) * a0)) then
   some true
  else
   some false
 else
  some false
theorem m_viewportkitLightPartsq2_ok (n : Nat) (a0 : Int) (r : Bool) (h : m_viewportkitLightPartsq2 n a0 = some r) : Gv P (.func 16) (A_viewportkitLightPartsq2 a0) (H_viewportkitLightPartsq2 a0) (V_viewportkitLightPartsq2 a0 r) (R_viewportkitLightPartsq2 a0 r) := by
 unfold m_viewportkitLightPartsq2 at h
 obtain ⟨_, hc1, h⟩ := oB h
 have k0 := fun {A L l} (k : PL A L l) => ww (p := U_viewportkitLightPartsq2_1 none a0 () ()) (m_viewportkitLightPartsq2_1_ok n a0 () () hc1) <|
  ll 8 ⟨⟨[0, 1, 5, 6], [], 0, 0, [], false, [], [], []⟩, (X_viewportkitLightPartsq2_1 a0 ()).1, (X_viewportkitLightPartsq2_1 a0 ()).2⟩ <|
  k
 by_cases hc2 : (0 : Int) ≤ a0
 ·rw [if_pos hc2] at h
  have k2 := fun {A L l} (k : PL A L l) => zz 13 (xdT hc2) <|
   k
  by_cases hc3 : (0 : Int) ≤ (w64 ((2 : Int) * a0))
  ·rw [if_pos hc3] at h
   obtain rfl := oI h
   exact runF2 hm ⟨[4], [], 0, 0, [], false, [], [], []⟩ (k0 <|
    k2 <|
    zz 18 (xdT hc3) <|
    ee) (by kernel_rfl)
  ·rw [if_neg hc3] at h
   obtain rfl := oI h
   exact runF2 hm ⟨[4], [], 0, 0, [], false, [], [], []⟩ (k0 <|
    k2 <|
    zz 18 (xdF hc3) <|
    ee) (by kernel_rfl)
 ·rw [if_neg hc2] at h
  obtain rfl := oI h
  exact runF2 hm ⟨[4], [], 0, 0, [], false, [], [], []⟩ (k0 <|
   zz 13 (xdF hc2) <|
   ee) (by kernel_rfl)

def A_viewportkitLightEditq1 (a0 : Int) (a1 : Int) (a2 : Int) : List Value := [(Value.agg #[(i6 a0), (i6 a1), (i6 a2)])]
def H_viewportkitLightEditq1 (a0 : Int) (a1 : Int) (a2 : Int) : AH := ⟨sB [], 0, 0⟩
def V_viewportkitLightEditq1 (a0 : Int) (a1 : Int) (a2 : Int) (r : Bool) : Value := match r with
 | o0 => (bO o0)
def R_viewportkitLightEditq1 (a0 : Int) (a1 : Int) (a2 : Int) (r : Bool) : AH := match r with
 | o0 => ⟨sB [], 0, 0⟩
abbrev G_viewportkitLightEditq1 (a0 : Int) (a1 : Int) (a2 : Int) (r : Bool) : Prop := Gv P (.func 17) (A_viewportkitLightEditq1 a0 a1 a2) (H_viewportkitLightEditq1 a0 a1 a2) (V_viewportkitLightEditq1 a0 a1 a2 r) (R_viewportkitLightEditq1 a0 a1 a2 r)
abbrev C_viewportkitLightEditq1 (a0 : Int) (a1 : Int) (a2 : Int) (r : Bool) (ins outs : BL) : CallA := ⟨0, ins, V_viewportkitLightEditq1 a0 a1 a2 r, R_viewportkitLightEditq1 a0 a1 a2 r, outs⟩
def m_viewportkitLightEditq1 (n : Nat) (a0 : Int) (a1 : Int) (a2 : Int) : Option (Bool) :=
 if a0 ≤ (1048576 : Int) then
  if a1 ≤ (1048576 : Int) then
   if a2 ≤ (1048576 : Int) then
    if a0 ≥ (-1048576 : Int) then
     if a1 ≥ (-1048576 : Int) then
      if a2 ≥ (-1048576 : Int) then
       some true
      else
       some false
     else
      some false
    else
     some false
   else
    some false
  else
   some false
 else
  some false
theorem m_viewportkitLightEditq1_ok (n : Nat) (a0 : Int) (a1 : Int) (a2 : Int) (r : Bool) (h : m_viewportkitLightEditq1 n a0 a1 a2 = some r) : Gv P (.func 17) (A_viewportkitLightEditq1 a0 a1 a2) (H_viewportkitLightEditq1 a0 a1 a2) (V_viewportkitLightEditq1 a0 a1 a2 r) (R_viewportkitLightEditq1 a0 a1 a2 r) := by
 unfold m_viewportkitLightEditq1 at h
 by_cases hc1 : a0 ≤ (1048576 : Int)
 ·rw [if_pos hc1] at h
  have k0 := fun {A L l} (k : PL A L l) => zz 6 (xdT hc1) <|
   k
  by_cases hc2 : a1 ≤ (1048576 : Int)
  ·rw [if_pos hc2] at h
   have k1 := fun {A L l} (k : PL A L l) => zz 10 (xdT hc2) <|
    k
   by_cases hc3 : a2 ≤ (1048576 : Int)
   ·rw [if_pos hc3] at h
    have k2 := fun {A L l} (k : PL A L l) => zz 15 (xdT hc3) <|
     k
    by_cases hc4 : a0 ≥ (-1048576 : Int)
    ·rw [if_pos hc4] at h
     have k3 := fun {A L l} (k : PL A L l) => zz 20 (xdT hc4) <|
      k
     by_cases hc5 : a1 ≥ (-1048576 : Int)
     ·rw [if_pos hc5] at h
      have k4 := fun {A L l} (k : PL A L l) => zz 25 (xdT hc5) <|
       k
      by_cases hc6 : a2 ≥ (-1048576 : Int)
      ·rw [if_pos hc6] at h
       obtain rfl := oI h
       exact runF2 hm ⟨[2], [], 0, 0, [], false, [], [], []⟩ (k0 <|
        k1 <|
        k2 <|
        k3 <|
        k4 <|
        zz 30 (xdT hc6) <|
        ee) (by kernel_rfl)
      ·rw [if_neg hc6] at h
       obtain rfl := oI h
       exact runF2 hm ⟨[2], [], 0, 0, [], false, [], [], []⟩ (k0 <|
        k1 <|
        k2 <|
        k3 <|
        k4 <|
        zz 30 (xdF hc6) <|
        ee) (by kernel_rfl)
     ·rw [if_neg hc5] at h
      obtain rfl := oI h
      exact runF2 hm ⟨[2], [], 0, 0, [], false, [], [], []⟩ (k0 <|
       k1 <|
       k2 <|
       k3 <|
       zz 25 (xdF hc5) <|
       ee) (by kernel_rfl)
    ·rw [if_neg hc4] at h
     obtain rfl := oI h
     exact runF2 hm ⟨[2], [], 0, 0, [], false, [], [], []⟩ (k0 <|
      k1 <|
      k2 <|
      zz 20 (xdF hc4) <|
      ee) (by kernel_rfl)
   ·rw [if_neg hc3] at h
    obtain rfl := oI h
    exact runF2 hm ⟨[2], [], 0, 0, [], false, [], [], []⟩ (k0 <|
     k1 <|
     zz 15 (xdF hc3) <|
     ee) (by kernel_rfl)
  ·rw [if_neg hc2] at h
   obtain rfl := oI h
   exact runF2 hm ⟨[2], [], 0, 0, [], false, [], [], []⟩ (k0 <|
    zz 10 (xdF hc2) <|
    ee) (by kernel_rfl)
 ·rw [if_neg hc1] at h
  obtain rfl := oI h
  exact runF2 hm ⟨[2], [], 0, 0, [], false, [], [], []⟩ (zz 6 (xdF hc1) <|
   ee) (by kernel_rfl)

def A_viewportlaw16lightq1 (a0 : WL rw_iiiiiiLu) (a1 : Int) (a2 : Int) (a3 : Int) : List Value := [(wlV a0), (Value.slice none 0 0), (Value.agg #[(i6 a1), (i6 a2), (i6 a3)])]
def H_viewportlaw16lightq1 (a0 : WL rw_iiiiiiLu) (a1 : Int) (a2 : Int) (a3 : Int) : AH := ⟨sB [], 0, 0⟩
def V_viewportlaw16lightq1 (a0 : WL rw_iiiiiiLu) (a1 : Int) (a2 : Int) (a3 : Int) (r : Bool) : Value := match r with
 | o0 => (bO o0)
def R_viewportlaw16lightq1 (a0 : WL rw_iiiiiiLu) (a1 : Int) (a2 : Int) (a3 : Int) (r : Bool) : AH := match r with
 | o0 => ⟨sB [], 0, 0⟩
abbrev G_viewportlaw16lightq1 (a0 : WL rw_iiiiiiLu) (a1 : Int) (a2 : Int) (a3 : Int) (r : Bool) : Prop := Gv P (.func 5) (A_viewportlaw16lightq1 a0 a1 a2 a3) (H_viewportlaw16lightq1 a0 a1 a2 a3) (V_viewportlaw16lightq1 a0 a1 a2 a3 r) (R_viewportlaw16lightq1 a0 a1 a2 a3 r)
abbrev C_viewportlaw16lightq1 (a0 : WL rw_iiiiiiLu) (a1 : Int) (a2 : Int) (a3 : Int) (r : Bool) (ins outs : BL) : CallA := ⟨0, ins, V_viewportlaw16lightq1 a0 a1 a2 a3 r, R_viewportlaw16lightq1 a0 a1 a2 a3 r, outs⟩
def m_viewportlaw16lightq1 (n : Nat) (a0 : WL rw_iiiiiiLu) (a1 : Int) (a2 : Int) (a3 : Int) : Option (Bool) :=
 (m_viewportkitLightPartsq1 n a0 120).bind fun c1_ =>
 if c1_ = true then
  (m_viewportkitLightPartsq2 n 120).bind fun c3_ =>
  if c3_ = true then
   (m_viewportkitLightEditq1 n a1 a2 a3).bind fun c5_ =>
   some c5_
  else
   some false
 else
  some false
theorem m_viewportlaw16lightq1_ok (n : Nat) (a0 : WL rw_iiiiiiLu) (a1 : Int) (a2 : Int) (a3 : Int) (r : Bool) (h : m_viewportlaw16lightq1 n a0 a1 a2 a3 = some r) : Gv P (.func 5) (A_viewportlaw16lightq1 a0 a1 a2 a3) (H_viewportlaw16lightq1 a0 a1 a2 a3) (V_viewportlaw16lightq1 a0 a1 a2 a3 r) (R_viewportlaw16lightq1 a0 a1 a2 a3 r) := by
 unfold m_viewportlaw16lightq1 at h
 obtain ⟨c1_, hc1, h⟩ := oB h
 have k0 := fun {A L l} (k : PL A L l) => yy 5 (.call (C_viewportkitLightPartsq1 a0 120 c1_ [] [])) <|
  ww (m_viewportkitLightPartsq1_ok n a0 120 c1_ hc1) <|
  k
 by_cases hc2 : c1_ = true
 ·rw [if_pos hc2] at h
  obtain ⟨c3_, hc3, h⟩ := oB h
  have k2 := fun {A L l} (k : PL A L l) => zz 6 (xbT hc2) <|
   yy 8 (.call (C_viewportkitLightPartsq2 120 c3_ [] [])) <|
   ww (m_viewportkitLightPartsq2_ok n 120 c3_ hc3) <|
   k
  by_cases hc4 : c3_ = true
  ·rw [if_pos hc4] at h
   obtain ⟨c5_, hc5, h⟩ := oB h
   obtain rfl := oI h
   exact runF2 hm ⟨[6], [], 0, 0, [], false, [], [], []⟩ (k0 <|
    k2 <|
    zz 10 (xbT hc4) <|
    yy 12 (.call (C_viewportkitLightEditq1 a1 a2 a3 c5_ [] [])) <|
    ww (m_viewportkitLightEditq1_ok n a1 a2 a3 c5_ hc5) <|
    ee) (by kernel_rfl)
  ·rw [if_neg hc4] at h
   obtain rfl := oI h
   exact runF2 hm ⟨[6], [], 0, 0, [], false, [], [], []⟩ (k0 <|
    k2 <|
    zz 10 (xbF hc4) <|
    ee) (by kernel_rfl)
 ·rw [if_neg hc2] at h
  obtain rfl := oI h
  exact runF2 hm ⟨[6], [], 0, 0, [], false, [], [], []⟩ (k0 <|
   zz 6 (xbF hc2) <|
   ee) (by kernel_rfl)

def A_treeinOrderq1 (a0 : WL rw_iiiiiiLu) : List Value := [(wlV a0)]
def H_treeinOrderq1 (a0 : WL rw_iiiiiiLu) : AH := ⟨sB [], 0, 0⟩
def V_treeinOrderq1 (a0 : WL rw_iiiiiiLu) (r : Bool) : Value := match r with
 | o0 => (bO o0)
def R_treeinOrderq1 (a0 : WL rw_iiiiiiLu) (r : Bool) : AH := match r with
 | o0 => ⟨sB [], 0, 0⟩
abbrev G_treeinOrderq1 (a0 : WL rw_iiiiiiLu) (r : Bool) : Prop := Gv P (.func 18) (A_treeinOrderq1 a0) (H_treeinOrderq1 a0) (V_treeinOrderq1 a0 r) (R_treeinOrderq1 a0 r)
abbrev C_treeinOrderq1 (a0 : WL rw_iiiiiiLu) (r : Bool) (ins outs : BL) : CallA := ⟨0, ins, V_treeinOrderq1 a0 r, R_treeinOrderq1 a0 r, outs⟩
def S_treeinOrderq1_1 (x1_0 : WL rw_iiiiiiLu) (x1_3 : Int) (st : List (Int × Int × Int) × Nat × Int) : XSt := match st with
 | (x1_1, x1_2, x1_4) => (sT 99 [(0, (wlV x1_0)), (3, (slQ x1_1 0 x1_2 3)), (8, (wlV x1_0)), (9, (i6 x1_3)), (10, (i6 x1_4))], [], ⟨sB [(0, (nblkR rw_iii x1_1 58))], 1, 0⟩)
def X_treeinOrderq1_1 (x1_0 : WL rw_iiiiiiLu) (x1_3 : Int) (r : (Unit) ⊕ (List (Int × Int × Int) × Nat)) : Ex × XSt := match r with
 | .inl _ => (.ret, (sT 99 [(2, (bO false))], [], ⟨sB [], 0, 0⟩))
 | .inr (z1_0, z1_1) => (.exit 0, (sT 99 [(3, (slQ z1_0 0 z1_1 3))], [], ⟨sB [(0, (nblkR rw_iii z1_0 58))], 1, 0⟩))
abbrev Q_treeinOrderq1_1 (rnd : Option Nat) (x1_0 : WL rw_iiiiiiLu) (x1_3 : Int) (st : List (Int × Int × Int) × Nat × Int) (c : Ex × XSt) : Prop := CG P rnd (fnN P 18) 0 (codeOf P 18 [false, false, true, false, true, true]) (S_treeinOrderq1_1 x1_0 x1_3 st) c
abbrev U_treeinOrderq1_1 (rd : Option Nat) (x1_0 : WL rw_iiiiiiLu) (x1_3 : Int) (st : List (Int × Int × Int) × Nat × Int) (r : (Unit) ⊕ (List (Int × Int × Int) × Nat)) : Prop := CG P rd (fnN P 18) 0 (codeOf P 18 [false, true, false, true, true]) (S_treeinOrderq1_1 x1_0 x1_3 st) (X_treeinOrderq1_1 x1_0 x1_3 r)
def B_treeinOrderq1_1 (n : Nat) (x1_0 : WL rw_iiiiiiLu) (x1_3 : Int) (st : List (Int × Int × Int) × Nat × Int) : Option ((List (Int × Int × Int) × Nat × Int) ⊕ ((Unit) ⊕ (List (Int × Int × Int) × Nat))) := match st with
 | (x1_1, x1_2, x1_4) =>
  match x1_1 with
  | [] =>
   if x1_4 < x1_3 then
    if 0 ≤ x1_4 ∧ x1_4 < (((x1_0).l.length : Nat) : Int) then
     ((some (((x1_0).l).getD (x1_4).toNat (0, 0, 0, 0, 0, 0, nl0, 0)))).bind fun y1_3_ =>
     if x1_4 > (0 : Int) then
      some (.inr (.inl ()))
     else
      if ((((y1_3_.2.2.2.2.2.2.1)).l.length : Nat) : Int) > (0 : Int) then
       some (.inl ([(x1_4, (0 : Int), (y1_3_.2.2.1))], 1, (w64 (x1_4 + (1 : Int)))))
      else
       some (.inl (([] : List (Int × Int × Int)), 0, (w64 (x1_4 + (1 : Int)))))
    else none
   else
    some (.inr (.inr (([] : List (Int × Int × Int)), 0)))
  | x1_1a :: x1_1t =>
   if x1_4 < x1_3 then
    if 0 ≤ x1_4 ∧ x1_4 < (((x1_0).l.length : Nat) : Int) then
     ((some (((x1_0).l).getD (x1_4).toNat (0, 0, 0, 0, 0, 0, nl0, 0)))).bind fun y1_3_ =>
     if x1_4 > (0 : Int) then
      if ((x1_2 : Nat) : Int) = (0 : Int) then
       some (.inr (.inl ()))
      else
       ((some (w64 (((x1_2 : Nat) : Int) - (1 : Int))))).bind fun y1_6_ =>
       if 0 ≤ y1_6_ ∧ y1_6_ < ((x1_2 : Nat) : Int) then
        if (y1_6_).toNat < ((x1_1a :: x1_1t)).length then
         ((some (((x1_1a :: x1_1t)).getD (y1_6_).toNat (0, 0, 0)))).bind fun y1_9_ =>
         if 0 ≤ (y1_9_.1) ∧ (y1_9_.1) < (((x1_0).l.length : Nat) : Int) then
          ((some (((x1_0).l).getD ((y1_9_.1)).toNat (0, 0, 0, 0, 0, 0, nl0, 0)))).bind fun y1_11_ =>
          if 0 ≤ (y1_9_.2.1) ∧ (y1_9_.2.1) < ((((y1_11_.2.2.2.2.2.2.1)).l.length : Nat) : Int) then
           if ((y1_9_.2.1)).toNat < (((y1_11_.2.2.2.2.2.2.1)).l).length then
            ((some ((((y1_11_.2.2.2.2.2.2.1)).l).getD ((y1_9_.2.1)).toNat 0))).bind fun y1_14_ =>
            if y1_14_ = x1_4 then
             if (y1_3_.2.2.1) < (y1_9_.2.2) then
              some (.inr (.inl ()))
             else
              if (y1_3_.2.2.2.2.1) > (y1_11_.2.2.2.2.1) then
               some (.inr (.inl ()))
              else
               if (w64 ((y1_9_.2.1) + (1 : Int))) = ((((y1_11_.2.2.2.2.2.2.1)).l.length : Nat) : Int) then
                if 0 ≤ y1_6_ ∧ y1_6_ ≤ ((x1_2 : Nat) : Int) then
                 if ((((y1_3_.2.2.2.2.2.2.1)).l.length : Nat) : Int) > (0 : Int) then
                  if (y1_6_).toNat ≤ ((((x1_1a :: x1_1t)).set (y1_6_).toNat ((y1_9_.1), (w64 ((y1_9_.2.1) + (1 : Int))), (y1_3_.2.2.2.2.1)))).length then
                   if ((y1_6_).toNat + 1) * 24 ≤ 140737488355328 then
                    some (.inl (((List.take (y1_6_).toNat (((x1_1a :: x1_1t)).set (y1_6_).toNat ((y1_9_.1), (w64 ((y1_9_.2.1) + (1 : Int))), (y1_3_.2.2.2.2.1)))) ++ [(x1_4, (0 : Int), (y1_3_.2.2.1))]), ((((List.take (y1_6_).toNat (((x1_1a :: x1_1t)).set (y1_6_).toNat ((y1_9_.1), (w64 ((y1_9_.2.1) + (1 : Int))), (y1_3_.2.2.2.2.1)))) ++ [(x1_4, (0 : Int), (y1_3_.2.2.1))])).length), (w64 (x1_4 + (1 : Int)))))
                   else none
                  else none
                 else
                  some (.inl ((((x1_1a :: x1_1t)).set (y1_6_).toNat ((y1_9_.1), (w64 ((y1_9_.2.1) + (1 : Int))), (y1_3_.2.2.2.2.1))), ((y1_6_).toNat), (w64 (x1_4 + (1 : Int)))))
                else none
               else
                if ((((y1_3_.2.2.2.2.2.2.1)).l.length : Nat) : Int) > (0 : Int) then
                 if x1_2 ≤ ((((x1_1a :: x1_1t)).set (y1_6_).toNat ((y1_9_.1), (w64 ((y1_9_.2.1) + (1 : Int))), (y1_3_.2.2.2.2.1)))).length then
                  if (x1_2 + 1) * 24 ≤ 140737488355328 then
                   some (.inl (((List.take x1_2 (((x1_1a :: x1_1t)).set (y1_6_).toNat ((y1_9_.1), (w64 ((y1_9_.2.1) + (1 : Int))), (y1_3_.2.2.2.2.1)))) ++ [(x1_4, (0 : Int), (y1_3_.2.2.1))]), ((((List.take x1_2 (((x1_1a :: x1_1t)).set (y1_6_).toNat ((y1_9_.1), (w64 ((y1_9_.2.1) + (1 : Int))), (y1_3_.2.2.2.2.1)))) ++ [(x1_4, (0 : Int), (y1_3_.2.2.1))])).length), (w64 (x1_4 + (1 : Int)))))
                  else none
                 else none
                else
                 some (.inl ((((x1_1a :: x1_1t)).set (y1_6_).toNat ((y1_9_.1), (w64 ((y1_9_.2.1) + (1 : Int))), (y1_3_.2.2.2.2.1))), x1_2, (w64 (x1_4 + (1 : Int)))))
            else
             some (.inr (.inl ()))
           else none
          else none
         else none
        else none
       else none
     else
      if ((((y1_3_.2.2.2.2.2.2.1)).l.length : Nat) : Int) > (0 : Int) then
       if x1_2 ≤ ((x1_1a :: x1_1t)).length then
        if (x1_2 + 1) * 24 ≤ 140737488355328 then
         some (.inl (((List.take x1_2 (x1_1a :: x1_1t)) ++ [(x1_4, (0 : Int), (y1_3_.2.2.1))]), ((((List.take x1_2 (x1_1a :: x1_1t)) ++ [(x1_4, (0 : Int), (y1_3_.2.2.1))])).length), (w64 (x1_4 + (1 : Int)))))
        else none
       else none
      else
       some (.inl ((x1_1a :: x1_1t), x1_2, (w64 (x1_4 + (1 : Int)))))
    else none
   else
    some (.inr (.inr ((x1_1a :: x1_1t), x1_2)))
def m_treeinOrderq1_1 (n : Nat) (x1_0 : WL rw_iiiiiiLu) (x1_3 : Int) (st : List (Int × Int × Int) × Nat × Int) : Option ((Unit) ⊕ (List (Int × Int × Int) × Nat)) := iterM (B_treeinOrderq1_1 n x1_0 x1_3) n st
theorem b_treeinOrderq1_1 (n : Nat) {rnd : Option Nat} (x1_0 : WL rw_iiiiiiLu) (x1_3 : Int) (st : List (Int × Int × Int) × Nat × Int) (o : (List (Int × Int × Int) × Nat × Int) ⊕ ((Unit) ⊕ (List (Int × Int × Int) × Nat))) (h : B_treeinOrderq1_1 n x1_0 x1_3 st = some o) : CG P rnd (fnN P 18) 0 (codeOf P 18 [false, false, true, false, true, true]) (S_treeinOrderq1_1 x1_0 x1_3 st) (Sum.elim (fun s => (.normal, S_treeinOrderq1_1 x1_0 x1_3 s)) (fun r => X_treeinOrderq1_1 x1_0 x1_3 r) o) := by
 obtain ⟨x1_1, x1_2, x1_4⟩ := st
 unfold B_treeinOrderq1_1 at h
 dsimp only at h
 cases x1_1 with
 | nil =>
  dsimp only at h
  by_cases hy1_1 : x1_4 < x1_3
  ·rw [if_pos hy1_1] at h
   obtain ⟨hy1_2, h⟩ := gd h
   obtain ⟨y1_3_, hy1_3, h⟩ := oB h
   have k0 := fun {A L l} (k : PL A L l) => zz 1 (xdT hy1_1) <|
    zz 8 (xk1 (x1_0).num (x1_0).off (x1_0).cap hy1_2) <|
    zz 9 (lk2 hy1_3 (toNatLt hy1_2)) <|
    k
   by_cases hy1_4 : x1_4 > (0 : Int)
   ·rw [if_pos hy1_4] at h
    obtain rfl := oI h
    exact runC2 hm ⟨[2], [], 0, 0, [], false, [], [], []⟩ (k0 <|
     zz 16 (xdT hy1_4) <|
     ee) (by kernel_rfl)
   ·rw [if_neg hy1_4] at h
    have k3 := fun {A L l} (k : PL A L l) => zz 16 (xdF hy1_4) <|
     k
    by_cases hy1_5 : ((((y1_3_.2.2.2.2.2.2.1)).l.length : Nat) : Int) > (0 : Int)
    ·rw [if_pos hy1_5] at h
     obtain rfl := oI h
     exact runC2 hm ⟨[0, 3, 8, 9, 10], [(0, 3, false)], 1, 0, [], false, [], [], []⟩ (k0 <|
      k3 <|
      zz 22 (xdT hy1_5) <|
      ee) (by kernel_rfl)
    ·rw [if_neg hy1_5] at h
     obtain rfl := oI h
     exact runC2 hm ⟨[0, 3, 8, 9, 10], [], 1, 0, [], false, [], [], []⟩ (k0 <|
      k3 <|
      zz 22 (xdF hy1_5) <|
      ee) (by kernel_rfl)
  ·rw [if_neg hy1_1] at h
   obtain rfl := oI h
   exact runC2 hm ⟨[3], [], 1, 0, [], false, [], [], []⟩ (zz 1 (xdF hy1_1) <|
    ee) (by kernel_rfl)
 | cons x1_1a x1_1t =>
  dsimp only at h
  by_cases hy1_1 : x1_4 < x1_3
  ·rw [if_pos hy1_1] at h
   obtain ⟨hy1_2, h⟩ := gd h
   obtain ⟨y1_3_, hy1_3, h⟩ := oB h
   have k0 := fun {A L l} (k : PL A L l) => zz 1 (xdT hy1_1) <|
    zz 8 (xk1 (x1_0).num (x1_0).off (x1_0).cap hy1_2) <|
    zz 9 (lk2 hy1_3 (toNatLt hy1_2)) <|
    k
   by_cases hy1_4 : x1_4 > (0 : Int)
   ·rw [if_pos hy1_4] at h
    have k3 := fun {A L l} (k : PL A L l) => zz 16 (xdT hy1_4) <|
     k
    by_cases hy1_5 : ((x1_2 : Nat) : Int) = (0 : Int)
    ·rw [if_pos hy1_5] at h
     obtain rfl := oI h
     exact runC2 hm ⟨[2], [], 0, 0, [], false, [], [], []⟩ (k0 <|
      k3 <|
      zz 22 (xeT hy1_5) <|
      ee) (by kernel_rfl)
    ·rw [if_neg hy1_5] at h
     obtain ⟨y1_6_, hy1_6, h⟩ := oB h
     obtain ⟨hy1_7, h⟩ := gd h
     obtain ⟨hy1_8, h⟩ := gd h
     obtain ⟨y1_9_, hy1_9, h⟩ := oB h
     obtain ⟨hy1_10, h⟩ := gd h
     obtain ⟨y1_11_, hy1_11, h⟩ := oB h
     obtain ⟨hy1_12, h⟩ := gd h
     obtain ⟨hy1_13, h⟩ := gd h
     obtain ⟨y1_14_, hy1_14, h⟩ := oB h
     have k4 := fun {A L l} (k : PL A L l) => zz 22 (xeF hy1_5) <|
      zz 28 (xnm hy1_6) <|
      zz 29 (xk3 0 U3 hy1_7) <|
      zz 36 (ok4 hy1_9 (hy1_8)) <|
      zz 37 (xk1 (x1_0).num (x1_0).off (x1_0).cap hy1_10) <|
      zz 38 (lk2 hy1_11 (toNatLt hy1_10)) <|
      zz 48 (ok5 hy1_9 (hy1_8)) <|
      zz 49 (xk6 (Nat.add ((y1_11_.2.2.2.2.2.2.1)).num 64) ((y1_11_.2.2.2.2.2.2.1)).off ((y1_11_.2.2.2.2.2.2.1)).cap hy1_12) <|
      zz 50 (nk7 hy1_14 hy1_13) <|
      k
     by_cases hy1_15 : y1_14_ = x1_4
     ·rw [if_pos hy1_15] at h
      have k13 := fun {A L l} (k : PL A L l) => zz 52 (xnF hy1_15) <|
       zz 59 (ok8 hy1_9 (hy1_8)) <|
       k
      by_cases hy1_16 : (y1_3_.2.2.1) < (y1_9_.2.2)
      ·rw [if_pos hy1_16] at h
       obtain rfl := oI h
       exact runC2 hm ⟨[2], [], 0, 0, [], false, [], [], []⟩ (k0 <|
        k3 <|
        k4 <|
        k13 <|
        zz 60 (xdT hy1_16) <|
        ee) (by kernel_rfl)
      ·rw [if_neg hy1_16] at h
       have k15 := fun {A L l} (k : PL A L l) => zz 60 (xdF hy1_16) <|
        k
       by_cases hy1_17 : (y1_3_.2.2.2.2.1) > (y1_11_.2.2.2.2.1)
       ·rw [if_pos hy1_17] at h
        obtain rfl := oI h
        exact runC2 hm ⟨[2], [], 0, 0, [], false, [], [], []⟩ (k0 <|
         k3 <|
         k4 <|
         k13 <|
         k15 <|
         zz 67 (xdT hy1_17) <|
         ee) (by kernel_rfl)
       ·rw [if_neg hy1_17] at h
        have k16 := fun {A L l} (k : PL A L l) => zz 67 (xdF hy1_17) <|
         zz 76 (ok5 hy1_9 (hy1_8)) <|
         yy 82 (.sto (layT (rows rw_iii (((x1_1a :: x1_1t)).set (y1_6_).toNat ((y1_9_.1), (w64 ((y1_9_.2.1) + (1 : Int))), (y1_9_.2.2)))))) <|
         ww (p := ∃ old, rdT (layT (rows rw_iii (x1_1a :: x1_1t))) 1 (Nat.add ((y1_6_).toNat * 3) 1) = some old) (Exists.elim (rows_stN rwf_iii (0, 0, 0) (hr := hy1_9) (i := (y1_6_).toNat) (j := 1) (l := [(i6 (w64 ((y1_9_.2.1) + (1 : Int))))]) ((y1_9_.1), (w64 ((y1_9_.2.1) + (1 : Int))), (y1_9_.2.2)) (Nat.add ((y1_6_).toNat * 3) 1) rfl (hy1_8) (Nat.le_of_ble_eq_true rfl) rfl) fun o h => ⟨o, h.1⟩) <|
         ww (p := layL [(i6 (w64 ((y1_9_.2.1) + (1 : Int))))] (Nat.add ((y1_6_).toNat * 3) 1) (layT (rows rw_iii (x1_1a :: x1_1t))) = layT (rows rw_iii (((x1_1a :: x1_1t)).set (y1_6_).toNat ((y1_9_.1), (w64 ((y1_9_.2.1) + (1 : Int))), (y1_9_.2.2))))) (Exists.elim (rows_stN rwf_iii (0, 0, 0) (hr := hy1_9) (i := (y1_6_).toNat) (j := 1) (l := [(i6 (w64 ((y1_9_.2.1) + (1 : Int))))]) ((y1_9_.1), (w64 ((y1_9_.2.1) + (1 : Int))), (y1_9_.2.2)) (Nat.add ((y1_6_).toNat * 3) 1) rfl (hy1_8) (Nat.le_of_ble_eq_true rfl) rfl) fun o h => h.2) <|
         yy 85 (.sto (layT (rows rw_iii (((x1_1a :: x1_1t)).set (y1_6_).toNat ((y1_9_.1), (w64 ((y1_9_.2.1) + (1 : Int))), (y1_3_.2.2.2.2.1)))))) <|
         ww (p := ∃ old, rdT (layT (rows rw_iii (((x1_1a :: x1_1t)).set (y1_6_).toNat ((y1_9_.1), (w64 ((y1_9_.2.1) + (1 : Int))), (y1_9_.2.2))))) 1 (Nat.add ((y1_6_).toNat * 3) 2) = some old) (Exists.elim (rows_stS rwf_iii (i := (y1_6_).toNat) (j := 2) (l := [(i6 (y1_3_.2.2.2.2.1))]) ((y1_9_.1), (w64 ((y1_9_.2.1) + (1 : Int))), (y1_9_.2.2)) ((y1_9_.1), (w64 ((y1_9_.2.1) + (1 : Int))), (y1_3_.2.2.2.2.1)) (Nat.add ((y1_6_).toNat * 3) 2) rfl (hy1_8) (Nat.le_of_ble_eq_true rfl) rfl) fun o h => ⟨o, h.1⟩) <|
         ww (p := layL [(i6 (y1_3_.2.2.2.2.1))] (Nat.add ((y1_6_).toNat * 3) 2) (layT (rows rw_iii (((x1_1a :: x1_1t)).set (y1_6_).toNat ((y1_9_.1), (w64 ((y1_9_.2.1) + (1 : Int))), (y1_9_.2.2))))) = layT (rows rw_iii (((x1_1a :: x1_1t)).set (y1_6_).toNat ((y1_9_.1), (w64 ((y1_9_.2.1) + (1 : Int))), (y1_3_.2.2.2.2.1))))) (Exists.elim (rows_stS rwf_iii (i := (y1_6_).toNat) (j := 2) (l := [(i6 (y1_3_.2.2.2.2.1))]) ((y1_9_.1), (w64 ((y1_9_.2.1) + (1 : Int))), (y1_9_.2.2)) ((y1_9_.1), (w64 ((y1_9_.2.1) + (1 : Int))), (y1_3_.2.2.2.2.1)) (Nat.add ((y1_6_).toNat * 3) 2) rfl (hy1_8) (Nat.le_of_ble_eq_true rfl) rfl) fun o h => h.2) <|
         yy 90 (.ld (i6 (w64 ((y1_9_.2.1) + (1 : Int))))) <|
         ww (p := (layT (rows rw_iii (((x1_1a :: x1_1t)).set (y1_6_).toNat ((y1_9_.1), (w64 ((y1_9_.2.1) + (1 : Int))), (y1_3_.2.2.2.2.1))))).get (Nat.add ((y1_6_).toNat * 3) 1) = some (i6 (w64 ((y1_9_.2.1) + (1 : Int))))) (rows_ldS rwf_iii (i := (y1_6_).toNat) (j := 1) ((y1_9_.1), (w64 ((y1_9_.2.1) + (1 : Int))), (y1_3_.2.2.2.2.1)) (Nat.add ((y1_6_).toNat * 3) 1) rfl (hy1_8) (by decide) rfl) <|
         k
        by_cases hy1_18 : (w64 ((y1_9_.2.1) + (1 : Int))) = ((((y1_11_.2.2.2.2.2.2.1)).l.length : Nat) : Int)
        ·rw [if_pos hy1_18] at h
         obtain ⟨hy1_19, h⟩ := gd h
         have k26 := fun {A L l} (k : PL A L l) => zz 94 (xeT hy1_18) <|
          zz 99 (xnm hy1_6) <|
          yy 100 (.pur (sN 0 0 (y1_6_).toNat (Nat.add big 3))) <|
          ww (p := opSlice P 55 (sN 0 0 x1_2 (Nat.add big 3)) none (some (i6 y1_6_)) none Ax.h0 = some ((sN 0 0 (y1_6_).toNat (Nat.add big 3)), Ax.h0)) (slRowHi (e := 58) (es := 3) (by kernel_rfl) (by kernel_rfl) rfl rfl hy1_19) <|
          k
         by_cases hy1_20 : ((((y1_3_.2.2.2.2.2.2.1)).l.length : Nat) : Int) > (0 : Int)
         ·rw [if_pos hy1_20] at h
          obtain ⟨hy1_21, h⟩ := gd h
          obtain ⟨hy1_22, h⟩ := gd h
          obtain rfl := oI h
          obtain ⟨za, zt, hz⟩ : ∃ a t, ((List.take (y1_6_).toNat (((x1_1a :: x1_1t)).set (y1_6_).toNat ((y1_9_.1), (w64 ((y1_9_.2.1) + (1 : Int))), (y1_3_.2.2.2.2.1)))) ++ [(x1_4, (0 : Int), (y1_3_.2.2.1))]) = a :: t := snoc_cons (List.take (y1_6_).toNat (((x1_1a :: x1_1t)).set (y1_6_).toNat ((y1_9_.1), (w64 ((y1_9_.2.1) + (1 : Int))), (y1_3_.2.2.2.2.1)))) (x1_4, (0 : Int), (y1_3_.2.2.1))
          rw [hz]
          try rw [hz] at k0
          try rw [hz] at k3
          try rw [hz] at k4
          try rw [hz] at k13
          try rw [hz] at k15
          try rw [hz] at k16
          try rw [hz] at k26
          exact runC2 hm ⟨[0, 3, 8, 9, 10], [(0, 4, true)], 1, 0, [], false, [], [], []⟩ (k0 <|
           k3 <|
           k4 <|
           k13 <|
           k15 <|
           k16 <|
           k26 <|
           zz 106 (xdT hy1_20) <|
           yy 114 (.app ⟨none, rows rw_iii (List.take (y1_6_).toNat (((x1_1a :: x1_1t)).set (y1_6_).toNat ((y1_9_.1), (w64 ((y1_9_.2.1) + (1 : Int))), (y1_3_.2.2.2.2.1)))), (rows rw_iii (za :: zt)), ((za :: zt)).length, false⟩) <|
           ww (p := 0 < 1) ((by decide)) <|
           ww (p := rdT (layT (rows rw_iii (((x1_1a :: x1_1t)).set (y1_6_).toNat ((y1_9_.1), (w64 ((y1_9_.2.1) + (1 : Int))), (y1_3_.2.2.2.2.1))))) (Nat.mul (y1_6_).toNat 3) 0 = some (rows rw_iii (List.take (y1_6_).toNat (((x1_1a :: x1_1t)).set (y1_6_).toNat ((y1_9_.1), (w64 ((y1_9_.2.1) + (1 : Int))), (y1_3_.2.2.2.2.1)))))) (rows_rdTake rwf_iii _ _ hy1_21) <|
           ww (p := fits (Nat.add (y1_6_).toNat 1) 24 = true) (fits_ok hy1_22 (by have := hy1_22; show (_ : Nat) + _ ≤ _; omega)) <|
           ww (p := allCells [(i6 x1_4), (i6 (0 : Int)), (i6 (y1_3_.2.2.1))] = true) (rfl) <|
           ww (p := allCells (rows rw_iii (List.take (y1_6_).toNat (((x1_1a :: x1_1t)).set (y1_6_).toNat ((y1_9_.1), (w64 ((y1_9_.2.1) + (1 : Int))), (y1_3_.2.2.2.2.1))))) = true) (rows_cells rwf_iii _) <|
           ww (p := rows rw_iii (List.take (y1_6_).toNat (((x1_1a :: x1_1t)).set (y1_6_).toNat ((y1_9_.1), (w64 ((y1_9_.2.1) + (1 : Int))), (y1_3_.2.2.2.2.1)))) ++ [(i6 x1_4), (i6 (0 : Int)), (i6 (y1_3_.2.2.1))] = (rows rw_iii (za :: zt))) (by rw [← hz]; exact (rows_app rw_iii (List.take (y1_6_).toNat (((x1_1a :: x1_1t)).set (y1_6_).toNat ((y1_9_.1), (w64 ((y1_9_.2.1) + (1 : Int))), (y1_3_.2.2.2.2.1)))) [(x1_4, (0 : Int), (y1_3_.2.2.1))])) <|
           ww (p := Nat.add (y1_6_).toNat 1 = ((za :: zt)).length) (by rw [← hz]; exact (take_len hy1_21 rfl)) <|
           ww (rows_flat rwf_iii (za :: zt) 58) <|
           ee) (by kernel_rfl)
         ·rw [if_neg hy1_20] at h
          obtain rfl := oI h
          obtain ⟨za, zt, hz⟩ : ∃ a t, (((x1_1a :: x1_1t)).set (y1_6_).toNat ((y1_9_.1), (w64 ((y1_9_.2.1) + (1 : Int))), (y1_3_.2.2.2.2.1))) = a :: t := set_cons
          rw [hz]
          try rw [hz] at k0
          try rw [hz] at k3
          try rw [hz] at k4
          try rw [hz] at k13
          try rw [hz] at k15
          try rw [hz] at k16
          try rw [hz] at k26
          exact runC2 hm ⟨[0, 3, 8, 9, 10], [(0, 0, true)], 1, 0, [], false, [], [], []⟩ (k0 <|
           k3 <|
           k4 <|
           k13 <|
           k15 <|
           k16 <|
           k26 <|
           zz 106 (xdF hy1_20) <|
           ww (rows_flat rwf_iii (za :: zt) 58) <|
           ee) (by kernel_rfl)
        ·rw [if_neg hy1_18] at h
         have k26 := fun {A L l} (k : PL A L l) => zz 94 (xeF hy1_18) <|
          k
         by_cases hy1_19 : ((((y1_3_.2.2.2.2.2.2.1)).l.length : Nat) : Int) > (0 : Int)
         ·rw [if_pos hy1_19] at h
          obtain ⟨hy1_20, h⟩ := gd h
          obtain ⟨hy1_21, h⟩ := gd h
          obtain rfl := oI h
          obtain ⟨za, zt, hz⟩ : ∃ a t, ((List.take x1_2 (((x1_1a :: x1_1t)).set (y1_6_).toNat ((y1_9_.1), (w64 ((y1_9_.2.1) + (1 : Int))), (y1_3_.2.2.2.2.1)))) ++ [(x1_4, (0 : Int), (y1_3_.2.2.1))]) = a :: t := snoc_cons (List.take x1_2 (((x1_1a :: x1_1t)).set (y1_6_).toNat ((y1_9_.1), (w64 ((y1_9_.2.1) + (1 : Int))), (y1_3_.2.2.2.2.1)))) (x1_4, (0 : Int), (y1_3_.2.2.1))
          rw [hz]
          try rw [hz] at k0
          try rw [hz] at k3
          try rw [hz] at k4
          try rw [hz] at k13
          try rw [hz] at k15
          try rw [hz] at k16
          try rw [hz] at k26
          exact runC2 hm ⟨[0, 3, 8, 9, 10], [(0, 4, true)], 1, 0, [], false, [], [], []⟩ (k0 <|
           k3 <|
           k4 <|
           k13 <|
           k15 <|
           k16 <|
           k26 <|
           zz 100 (xdT hy1_19) <|
           yy 108 (.app ⟨none, rows rw_iii (List.take x1_2 (((x1_1a :: x1_1t)).set (y1_6_).toNat ((y1_9_.1), (w64 ((y1_9_.2.1) + (1 : Int))), (y1_3_.2.2.2.2.1)))), (rows rw_iii (za :: zt)), ((za :: zt)).length, false⟩) <|
           ww (p := 0 < 1) ((by decide)) <|
           ww (p := rdT (layT (rows rw_iii (((x1_1a :: x1_1t)).set (y1_6_).toNat ((y1_9_.1), (w64 ((y1_9_.2.1) + (1 : Int))), (y1_3_.2.2.2.2.1))))) (Nat.mul x1_2 3) 0 = some (rows rw_iii (List.take x1_2 (((x1_1a :: x1_1t)).set (y1_6_).toNat ((y1_9_.1), (w64 ((y1_9_.2.1) + (1 : Int))), (y1_3_.2.2.2.2.1)))))) (rows_rdTake rwf_iii _ _ hy1_20) <|
           ww (p := fits (Nat.add x1_2 1) 24 = true) (fits_ok hy1_21 (by have := hy1_21; show (_ : Nat) + _ ≤ _; omega)) <|
           ww (p := allCells [(i6 x1_4), (i6 (0 : Int)), (i6 (y1_3_.2.2.1))] = true) (rfl) <|
           ww (p := allCells (rows rw_iii (List.take x1_2 (((x1_1a :: x1_1t)).set (y1_6_).toNat ((y1_9_.1), (w64 ((y1_9_.2.1) + (1 : Int))), (y1_3_.2.2.2.2.1))))) = true) (rows_cells rwf_iii _) <|
           ww (p := rows rw_iii (List.take x1_2 (((x1_1a :: x1_1t)).set (y1_6_).toNat ((y1_9_.1), (w64 ((y1_9_.2.1) + (1 : Int))), (y1_3_.2.2.2.2.1)))) ++ [(i6 x1_4), (i6 (0 : Int)), (i6 (y1_3_.2.2.1))] = (rows rw_iii (za :: zt))) (by rw [← hz]; exact (rows_app rw_iii (List.take x1_2 (((x1_1a :: x1_1t)).set (y1_6_).toNat ((y1_9_.1), (w64 ((y1_9_.2.1) + (1 : Int))), (y1_3_.2.2.2.2.1)))) [(x1_4, (0 : Int), (y1_3_.2.2.1))])) <|
           ww (p := Nat.add x1_2 1 = ((za :: zt)).length) (by rw [← hz]; exact (take_len hy1_20 rfl)) <|
           ww (rows_flat rwf_iii (za :: zt) 58) <|
           ee) (by kernel_rfl)
         ·rw [if_neg hy1_19] at h
          obtain rfl := oI h
          obtain ⟨za, zt, hz⟩ : ∃ a t, (((x1_1a :: x1_1t)).set (y1_6_).toNat ((y1_9_.1), (w64 ((y1_9_.2.1) + (1 : Int))), (y1_3_.2.2.2.2.1))) = a :: t := set_cons
          rw [hz]
          try rw [hz] at k0
          try rw [hz] at k3
          try rw [hz] at k4
          try rw [hz] at k13
          try rw [hz] at k15
          try rw [hz] at k16
          try rw [hz] at k26
          exact runC2 hm ⟨[0, 3, 8, 9, 10], [(0, 0, true)], 1, 0, [], false, [], [], []⟩ (k0 <|
           k3 <|
           k4 <|
           k13 <|
           k15 <|
           k16 <|
           k26 <|
           zz 100 (xdF hy1_19) <|
           ww (rows_flat rwf_iii (za :: zt) 58) <|
           ee) (by kernel_rfl)
     ·rw [if_neg hy1_15] at h
      obtain rfl := oI h
      exact runC2 hm ⟨[2], [], 0, 0, [], false, [], [], []⟩ (k0 <|
       k3 <|
       k4 <|
       zz 52 (xnT hy1_15) <|
       ee) (by kernel_rfl)
   ·rw [if_neg hy1_4] at h
    have k3 := fun {A L l} (k : PL A L l) => zz 16 (xdF hy1_4) <|
     k
    by_cases hy1_5 : ((((y1_3_.2.2.2.2.2.2.1)).l.length : Nat) : Int) > (0 : Int)
    ·rw [if_pos hy1_5] at h
     obtain ⟨hy1_6, h⟩ := gd h
     obtain ⟨hy1_7, h⟩ := gd h
     obtain rfl := oI h
     obtain ⟨za, zt, hz⟩ : ∃ a t, ((List.take x1_2 (x1_1a :: x1_1t)) ++ [(x1_4, (0 : Int), (y1_3_.2.2.1))]) = a :: t := snoc_cons (List.take x1_2 (x1_1a :: x1_1t)) (x1_4, (0 : Int), (y1_3_.2.2.1))
     rw [hz]
     try rw [hz] at k0
     try rw [hz] at k3
     exact runC2 hm ⟨[0, 3, 8, 9, 10], [(0, 3, true)], 1, 0, [], false, [], [], []⟩ (k0 <|
      k3 <|
      zz 22 (xdT hy1_5) <|
      yy 30 (.app ⟨none, rows rw_iii (List.take x1_2 (x1_1a :: x1_1t)), (rows rw_iii (za :: zt)), ((za :: zt)).length, false⟩) <|
      ww (p := 0 < 1) ((by decide)) <|
      ww (p := rdT (layT (rows rw_iii (x1_1a :: x1_1t))) (Nat.mul x1_2 3) 0 = some (rows rw_iii (List.take x1_2 (x1_1a :: x1_1t)))) (rows_rdTake rwf_iii _ _ hy1_6) <|
      ww (p := fits (Nat.add x1_2 1) 24 = true) (fits_ok hy1_7 (by have := hy1_7; show (_ : Nat) + _ ≤ _; omega)) <|
      ww (p := allCells [(i6 x1_4), (i6 (0 : Int)), (i6 (y1_3_.2.2.1))] = true) (rfl) <|
      ww (p := allCells (rows rw_iii (List.take x1_2 (x1_1a :: x1_1t))) = true) (rows_cells rwf_iii _) <|
      ww (p := rows rw_iii (List.take x1_2 (x1_1a :: x1_1t)) ++ [(i6 x1_4), (i6 (0 : Int)), (i6 (y1_3_.2.2.1))] = (rows rw_iii (za :: zt))) (by rw [← hz]; exact (rows_app rw_iii (List.take x1_2 (x1_1a :: x1_1t)) [(x1_4, (0 : Int), (y1_3_.2.2.1))])) <|
      ww (p := Nat.add x1_2 1 = ((za :: zt)).length) (by rw [← hz]; exact (take_len hy1_6 rfl)) <|
      ww (rows_flat rwf_iii (za :: zt) 58) <|
      ee) (by kernel_rfl)
    ·rw [if_neg hy1_5] at h
     obtain rfl := oI h
     exact runC2 hm ⟨[0, 3, 8, 9, 10], [(0, 0, true)], 1, 0, [], false, [], [], []⟩ (k0 <|
      k3 <|
      zz 22 (xdF hy1_5) <|
      ww (rows_flat rwf_iii (x1_1a :: x1_1t) 58) <|
      ee) (by kernel_rfl)
  ·rw [if_neg hy1_1] at h
   obtain rfl := oI h
   exact runC2 hm ⟨[3], [(0, 0, true)], 1, 0, [], false, [], [], []⟩ (zz 1 (xdF hy1_1) <|
    ww (rows_flat rwf_iii (x1_1a :: x1_1t) 58) <|
    ee) (by kernel_rfl)
theorem m_treeinOrderq1_1_ok (n : Nat) {rnd : Option Nat} (x1_0 : WL rw_iiiiiiLu) (x1_3 : Int) (st : List (Int × Int × Int) × Nat × Int) (r : (Unit) ⊕ (List (Int × Int × Int) × Nat)) (h : m_treeinOrderq1_1 n x1_0 x1_3 st = some r) : CG P rnd (fnN P 18) 0 (codeOf P 18 [false, true, false, true, true]) (S_treeinOrderq1_1 x1_0 x1_3 st) (X_treeinOrderq1_1 x1_0 x1_3 r) :=
 CG.iter (b := codeOf P 18 [false, false, true, false, true, true]) (by kernel_rfl) (body := B_treeinOrderq1_1 n x1_0 x1_3) (S := S_treeinOrderq1_1 x1_0 x1_3) (X := X_treeinOrderq1_1 x1_0 x1_3)
  (fun s s' h => b_treeinOrderq1_1 n x1_0 x1_3 s (.inl s') h)
  (fun s r h => b_treeinOrderq1_1 n x1_0 x1_3 s (.inr r) h)
  (fun r => by intro hx; rcases r with _ | _ <;> cases hx) h
def m_treeinOrderq1 (n : Nat) (a0 : WL rw_iiiiiiLu) : Option (Bool) :=
 match m_treeinOrderq1_1 n a0 (((a0).l.length : Nat) : Int) (([] : List (Int × Int × Int)), 0, 0) with
 | none => none
 | some (.inl _) =>
  some false
 | some (.inr (c1_0, c1_1)) =>
  match c1_0 with
  | [] =>
   some true
  | c1_0a :: c1_0t =>
   if ((c1_1 : Nat) : Int) = (0 : Int) then
    some true
   else
    some false
theorem m_treeinOrderq1_ok (n : Nat) (a0 : WL rw_iiiiiiLu) (r : Bool) (h : m_treeinOrderq1 n a0 = some r) : Gv P (.func 18) (A_treeinOrderq1 a0) (H_treeinOrderq1 a0) (V_treeinOrderq1 a0 r) (R_treeinOrderq1 a0 r) := by
 unfold m_treeinOrderq1 at h
 rcases hc1 : m_treeinOrderq1_1 n a0 (((a0).l.length : Nat) : Int) (([] : List (Int × Int × Int)), 0, 0) with _ | (⟨⟩ | ⟨c1_0, c1_1⟩)
 ·rw [hc1] at h; cases h
 ·rw [hc1] at h
  dsimp only at h
  obtain rfl := oI h
  exact runF2 hm ⟨[2], [], 0, 0, [], false, [], [], []⟩ (ww (p := U_treeinOrderq1_1 none a0 (((a0).l.length : Nat) : Int) (([] : List (Int × Int × Int)), 0, 0) (.inl ())) (m_treeinOrderq1_1_ok n a0 (((a0).l.length : Nat) : Int) (([] : List (Int × Int × Int)), 0, 0) (.inl ()) hc1) <|
   ll 10 ⟨⟨[0, 3, 8, 9, 10], [], 1, 0, [], false, [], [], []⟩, (X_treeinOrderq1_1 a0 (((a0).l.length : Nat) : Int) (.inl ())).1, (X_treeinOrderq1_1 a0 (((a0).l.length : Nat) : Int) (.inl ())).2⟩ <|
   ee) (by kernel_rfl)
 ·rw [hc1] at h
  dsimp only at h
  cases c1_0 with
  | nil =>
   dsimp only at h
   obtain rfl := oI h
   exact runF2 hm ⟨[2], [], 0, 0, [], false, [], [], []⟩ (ww (p := U_treeinOrderq1_1 none a0 (((a0).l.length : Nat) : Int) (([] : List (Int × Int × Int)), 0, 0) (.inr (([] : List (Int × Int × Int)), c1_1))) (m_treeinOrderq1_1_ok n a0 (((a0).l.length : Nat) : Int) (([] : List (Int × Int × Int)), 0, 0) (.inr (([] : List (Int × Int × Int)), c1_1)) hc1) <|
    ll 10 ⟨⟨[0, 3, 8, 9, 10], [], 1, 0, [], false, [], [], []⟩, (X_treeinOrderq1_1 a0 (((a0).l.length : Nat) : Int) (.inr (([] : List (Int × Int × Int)), c1_1))).1, (X_treeinOrderq1_1 a0 (((a0).l.length : Nat) : Int) (.inr (([] : List (Int × Int × Int)), c1_1))).2⟩ <|
    ee) (by kernel_rfl)
  | cons c1_0a c1_0t =>
   dsimp only at h
   have k0 := fun {A L l} (k : PL A L l) => ww (p := U_treeinOrderq1_1 none a0 (((a0).l.length : Nat) : Int) (([] : List (Int × Int × Int)), 0, 0) (.inr ((c1_0a :: c1_0t), c1_1))) (m_treeinOrderq1_1_ok n a0 (((a0).l.length : Nat) : Int) (([] : List (Int × Int × Int)), 0, 0) (.inr ((c1_0a :: c1_0t), c1_1)) hc1) <|
    ll 10 ⟨⟨[0, 3, 8, 9, 10], [], 1, 0, [], false, [], [], []⟩, (X_treeinOrderq1_1 a0 (((a0).l.length : Nat) : Int) (.inr ((c1_0a :: c1_0t), c1_1))).1, (X_treeinOrderq1_1 a0 (((a0).l.length : Nat) : Int) (.inr ((c1_0a :: c1_0t), c1_1))).2⟩ <|
    k
   by_cases hc2 : ((c1_1 : Nat) : Int) = (0 : Int)
   ·rw [if_pos hc2] at h
    obtain rfl := oI h
    exact runF2 hm ⟨[2], [], 0, 0, [], false, [], [], []⟩ (k0 <|
     zz 14 (xeT hc2) <|
     ee) (by kernel_rfl)
   ·rw [if_neg hc2] at h
    obtain rfl := oI h
    exact runF2 hm ⟨[2], [], 0, 0, [], false, [], [], []⟩ (k0 <|
     zz 14 (xeF hc2) <|
     ee) (by kernel_rfl)

def A_treesoundq1 (a0 : Int) (a1 : Int) (a2 : Int) (a3 : Int) (a4 : Int) (a5 : Int) (a6 : NL) (a7 : Int) : List Value := [(Value.agg #[(i6 a0), (i6 a1), (i6 a2), (i6 a3), (i6 a4), (i6 a5), (nlV a6), (Value.int .u64 a7)])]
def H_treesoundq1 (a0 : Int) (a1 : Int) (a2 : Int) (a3 : Int) (a4 : Int) (a5 : Int) (a6 : NL) (a7 : Int) : AH := ⟨sB [], 0, 0⟩
def V_treesoundq1 (a0 : Int) (a1 : Int) (a2 : Int) (a3 : Int) (a4 : Int) (a5 : Int) (a6 : NL) (a7 : Int) (r : Bool) : Value := match r with
 | o0 => (bO o0)
def R_treesoundq1 (a0 : Int) (a1 : Int) (a2 : Int) (a3 : Int) (a4 : Int) (a5 : Int) (a6 : NL) (a7 : Int) (r : Bool) : AH := match r with
 | o0 => ⟨sB [], 0, 0⟩
abbrev G_treesoundq1 (a0 : Int) (a1 : Int) (a2 : Int) (a3 : Int) (a4 : Int) (a5 : Int) (a6 : NL) (a7 : Int) (r : Bool) : Prop := Gv P (.func 19) (A_treesoundq1 a0 a1 a2 a3 a4 a5 a6 a7) (H_treesoundq1 a0 a1 a2 a3 a4 a5 a6 a7) (V_treesoundq1 a0 a1 a2 a3 a4 a5 a6 a7 r) (R_treesoundq1 a0 a1 a2 a3 a4 a5 a6 a7 r)
abbrev C_treesoundq1 (a0 : Int) (a1 : Int) (a2 : Int) (a3 : Int) (a4 : Int) (a5 : Int) (a6 : NL) (a7 : Int) (r : Bool) (ins outs : BL) : CallA := ⟨0, ins, V_treesoundq1 a0 a1 a2 a3 a4 a5 a6 a7 r, R_treesoundq1 a0 a1 a2 a3 a4 a5 a6 a7 r, outs⟩
def m_treesoundq1 (n : Nat) (a0 : Int) (a1 : Int) (a2 : Int) (a3 : Int) (a4 : Int) (a5 : Int) (a6 : NL) (a7 : Int) : Option (Bool) :=
 if a2 < (0 : Int) then
  some false
 else
  if a2 > a4 then
   some false
  else
   if a5 ≤ a2 then
    some false
   else
    if a1 = (1 : Int) then
     if a3 = a2 then
      some true
     else
      some false
    else
     if a1 = (2 : Int) then
      if a3 = a2 then
       some true
      else
       some false
     else
      if a1 = (4 : Int) then
       if a3 = a2 then
        if a4 = a2 then
         if (((a6).l.length : Nat) : Int) = (0 : Int) then
          some true
         else
          some false
        else
         some false
       else
        some false
      else
       if a1 = (3 : Int) then
        if a3 ≥ a2 then
         if a3 ≤ a4 then
          if (((a6).l.length : Nat) : Int) = (0 : Int) then
           some true
          else
           some false
         else
          some false
        else
         some false
       else
        if a1 = (5 : Int) then
         if a3 ≥ a2 then
          if a3 ≤ a4 then
           if (((a6).l.length : Nat) : Int) = (0 : Int) then
            some true
           else
            some false
          else
           some false
         else
          some false
        else
         if a1 = (6 : Int) then
          if a3 ≥ a2 then
           if a3 ≤ a4 then
            if (((a6).l.length : Nat) : Int) = (0 : Int) then
             some true
            else
             some false
           else
            some false
          else
           some false
         else
          some false
theorem m_treesoundq1_ok (n : Nat) (a0 : Int) (a1 : Int) (a2 : Int) (a3 : Int) (a4 : Int) (a5 : Int) (a6 : NL) (a7 : Int) (r : Bool) (h : m_treesoundq1 n a0 a1 a2 a3 a4 a5 a6 a7 = some r) : Gv P (.func 19) (A_treesoundq1 a0 a1 a2 a3 a4 a5 a6 a7) (H_treesoundq1 a0 a1 a2 a3 a4 a5 a6 a7) (V_treesoundq1 a0 a1 a2 a3 a4 a5 a6 a7 r) (R_treesoundq1 a0 a1 a2 a3 a4 a5 a6 a7 r) := by
 unfold m_treesoundq1 at h
 by_cases hc1 : a2 < (0 : Int)
 ·rw [if_pos hc1] at h
  obtain rfl := oI h
  exact runF2 hm ⟨[2], [], 0, 0, [], false, [], [], []⟩ (zz 7 (xdT hc1) <|
   ee) (by kernel_rfl)
 ·rw [if_neg hc1] at h
  have k0 := fun {A L l} (k : PL A L l) => zz 7 (xdF hc1) <|
   k
  by_cases hc2 : a2 > a4
  ·rw [if_pos hc2] at h
   obtain rfl := oI h
   exact runF2 hm ⟨[2], [], 0, 0, [], false, [], [], []⟩ (k0 <|
    zz 13 (xdT hc2) <|
    ee) (by kernel_rfl)
  ·rw [if_neg hc2] at h
   have k1 := fun {A L l} (k : PL A L l) => zz 13 (xdF hc2) <|
    k
   by_cases hc3 : a5 ≤ a2
   ·rw [if_pos hc3] at h
    obtain rfl := oI h
    exact runF2 hm ⟨[2], [], 0, 0, [], false, [], [], []⟩ (k0 <|
     k1 <|
     zz 20 (xdT hc3) <|
     ee) (by kernel_rfl)
   ·rw [if_neg hc3] at h
    have k2 := fun {A L l} (k : PL A L l) => zz 20 (xdF hc3) <|
     k
    by_cases hc4 : a1 = (1 : Int)
    ·rw [if_pos hc4] at h
     have k3 := fun {A L l} (k : PL A L l) => zz 30 (xeT hc4) <|
      k
     by_cases hc5 : a3 = a2
     ·rw [if_pos hc5] at h
      obtain rfl := oI h
      exact runF2 hm ⟨[2], [], 0, 0, [], false, [], [], []⟩ (k0 <|
       k1 <|
       k2 <|
       k3 <|
       zz 39 (xeT hc5) <|
       ee) (by kernel_rfl)
     ·rw [if_neg hc5] at h
      obtain rfl := oI h
      exact runF2 hm ⟨[2], [], 0, 0, [], false, [], [], []⟩ (k0 <|
       k1 <|
       k2 <|
       k3 <|
       zz 39 (xeF hc5) <|
       ee) (by kernel_rfl)
    ·rw [if_neg hc4] at h
     have k3 := fun {A L l} (k : PL A L l) => zz 30 (xeF hc4) <|
      k
     by_cases hc5 : a1 = (2 : Int)
     ·rw [if_pos hc5] at h
      have k4 := fun {A L l} (k : PL A L l) => zz 33 (xeT hc5) <|
       k
      by_cases hc6 : a3 = a2
      ·rw [if_pos hc6] at h
       obtain rfl := oI h
       exact runF2 hm ⟨[2], [], 0, 0, [], false, [], [], []⟩ (k0 <|
        k1 <|
        k2 <|
        k3 <|
        k4 <|
        zz 41 (xeT hc6) <|
        ee) (by kernel_rfl)
      ·rw [if_neg hc6] at h
       obtain rfl := oI h
       exact runF2 hm ⟨[2], [], 0, 0, [], false, [], [], []⟩ (k0 <|
        k1 <|
        k2 <|
        k3 <|
        k4 <|
        zz 41 (xeF hc6) <|
        ee) (by kernel_rfl)
     ·rw [if_neg hc5] at h
      have k4 := fun {A L l} (k : PL A L l) => zz 33 (xeF hc5) <|
       k
      by_cases hc6 : a1 = (4 : Int)
      ·rw [if_pos hc6] at h
       have k5 := fun {A L l} (k : PL A L l) => zz 37 (xeT hc6) <|
        k
       by_cases hc7 : a3 = a2
       ·rw [if_pos hc7] at h
        have k6 := fun {A L l} (k : PL A L l) => zz 45 (xeT hc7) <|
         k
        by_cases hc8 : a4 = a2
        ·rw [if_pos hc8] at h
         have k7 := fun {A L l} (k : PL A L l) => zz 51 (xeT hc8) <|
          k
         by_cases hc9 : (((a6).l.length : Nat) : Int) = (0 : Int)
         ·rw [if_pos hc9] at h
          obtain rfl := oI h
          exact runF2 hm ⟨[2], [], 0, 0, [], false, [], [], []⟩ (k0 <|
           k1 <|
           k2 <|
           k3 <|
           k4 <|
           k5 <|
           k6 <|
           k7 <|
           zz 57 (xeT hc9) <|
           ee) (by kernel_rfl)
         ·rw [if_neg hc9] at h
          obtain rfl := oI h
          exact runF2 hm ⟨[2], [], 0, 0, [], false, [], [], []⟩ (k0 <|
           k1 <|
           k2 <|
           k3 <|
           k4 <|
           k5 <|
           k6 <|
           k7 <|
           zz 57 (xeF hc9) <|
           ee) (by kernel_rfl)
        ·rw [if_neg hc8] at h
         obtain rfl := oI h
         exact runF2 hm ⟨[2], [], 0, 0, [], false, [], [], []⟩ (k0 <|
          k1 <|
          k2 <|
          k3 <|
          k4 <|
          k5 <|
          k6 <|
          zz 51 (xeF hc8) <|
          ee) (by kernel_rfl)
       ·rw [if_neg hc7] at h
        obtain rfl := oI h
        exact runF2 hm ⟨[2], [], 0, 0, [], false, [], [], []⟩ (k0 <|
         k1 <|
         k2 <|
         k3 <|
         k4 <|
         k5 <|
         zz 45 (xeF hc7) <|
         ee) (by kernel_rfl)
      ·rw [if_neg hc6] at h
       have k5 := fun {A L l} (k : PL A L l) => zz 37 (xeF hc6) <|
        k
       by_cases hc7 : a1 = (3 : Int)
       ·rw [if_pos hc7] at h
        have k6 := fun {A L l} (k : PL A L l) => zz 42 (xeT hc7) <|
         k
        by_cases hc8 : a3 ≥ a2
        ·rw [if_pos hc8] at h
         have k7 := fun {A L l} (k : PL A L l) => zz 51 (xdT hc8) <|
          k
         by_cases hc9 : a3 ≤ a4
         ·rw [if_pos hc9] at h
          have k8 := fun {A L l} (k : PL A L l) => zz 57 (xdT hc9) <|
           k
          by_cases hc10 : (((a6).l.length : Nat) : Int) = (0 : Int)
          ·rw [if_pos hc10] at h
           obtain rfl := oI h
           exact runF2 hm ⟨[2], [], 0, 0, [], false, [], [], []⟩ (k0 <|
            k1 <|
            k2 <|
            k3 <|
            k4 <|
            k5 <|
            k6 <|
            k7 <|
            k8 <|
            zz 63 (xeT hc10) <|
            ee) (by kernel_rfl)
          ·rw [if_neg hc10] at h
           obtain rfl := oI h
           exact runF2 hm ⟨[2], [], 0, 0, [], false, [], [], []⟩ (k0 <|
            k1 <|
            k2 <|
            k3 <|
            k4 <|
            k5 <|
            k6 <|
            k7 <|
            k8 <|
            zz 63 (xeF hc10) <|
            ee) (by kernel_rfl)
         ·rw [if_neg hc9] at h
          obtain rfl := oI h
          exact runF2 hm ⟨[2], [], 0, 0, [], false, [], [], []⟩ (k0 <|
           k1 <|
           k2 <|
           k3 <|
           k4 <|
           k5 <|
           k6 <|
           k7 <|
           zz 57 (xdF hc9) <|
           ee) (by kernel_rfl)
        ·rw [if_neg hc8] at h
         obtain rfl := oI h
         exact runF2 hm ⟨[2], [], 0, 0, [], false, [], [], []⟩ (k0 <|
          k1 <|
          k2 <|
          k3 <|
          k4 <|
          k5 <|
          k6 <|
          zz 51 (xdF hc8) <|
          ee) (by kernel_rfl)
       ·rw [if_neg hc7] at h
        have k6 := fun {A L l} (k : PL A L l) => zz 42 (xeF hc7) <|
         k
        by_cases hc8 : a1 = (5 : Int)
        ·rw [if_pos hc8] at h
         have k7 := fun {A L l} (k : PL A L l) => zz 46 (xeT hc8) <|
          k
         by_cases hc9 : a3 ≥ a2
         ·rw [if_pos hc9] at h
          have k8 := fun {A L l} (k : PL A L l) => zz 55 (xdT hc9) <|
           k
          by_cases hc10 : a3 ≤ a4
          ·rw [if_pos hc10] at h
           have k9 := fun {A L l} (k : PL A L l) => zz 61 (xdT hc10) <|
            k
           by_cases hc11 : (((a6).l.length : Nat) : Int) = (0 : Int)
           ·rw [if_pos hc11] at h
            obtain rfl := oI h
            exact runF2 hm ⟨[2], [], 0, 0, [], false, [], [], []⟩ (k0 <|
             k1 <|
             k2 <|
             k3 <|
             k4 <|
             k5 <|
             k6 <|
             k7 <|
             k8 <|
             k9 <|
             zz 67 (xeT hc11) <|
             ee) (by kernel_rfl)
           ·rw [if_neg hc11] at h
            obtain rfl := oI h
            exact runF2 hm ⟨[2], [], 0, 0, [], false, [], [], []⟩ (k0 <|
             k1 <|
             k2 <|
             k3 <|
             k4 <|
             k5 <|
             k6 <|
             k7 <|
             k8 <|
             k9 <|
             zz 67 (xeF hc11) <|
             ee) (by kernel_rfl)
          ·rw [if_neg hc10] at h
           obtain rfl := oI h
           exact runF2 hm ⟨[2], [], 0, 0, [], false, [], [], []⟩ (k0 <|
            k1 <|
            k2 <|
            k3 <|
            k4 <|
            k5 <|
            k6 <|
            k7 <|
            k8 <|
            zz 61 (xdF hc10) <|
            ee) (by kernel_rfl)
         ·rw [if_neg hc9] at h
          obtain rfl := oI h
          exact runF2 hm ⟨[2], [], 0, 0, [], false, [], [], []⟩ (k0 <|
           k1 <|
           k2 <|
           k3 <|
           k4 <|
           k5 <|
           k6 <|
           k7 <|
           zz 55 (xdF hc9) <|
           ee) (by kernel_rfl)
        ·rw [if_neg hc8] at h
         have k7 := fun {A L l} (k : PL A L l) => zz 46 (xeF hc8) <|
          k
         by_cases hc9 : a1 = (6 : Int)
         ·rw [if_pos hc9] at h
          have k8 := fun {A L l} (k : PL A L l) => zz 49 (xeT hc9) <|
           k
          by_cases hc10 : a3 ≥ a2
          ·rw [if_pos hc10] at h
           have k9 := fun {A L l} (k : PL A L l) => zz 57 (xdT hc10) <|
            k
           by_cases hc11 : a3 ≤ a4
           ·rw [if_pos hc11] at h
            have k10 := fun {A L l} (k : PL A L l) => zz 63 (xdT hc11) <|
             k
            by_cases hc12 : (((a6).l.length : Nat) : Int) = (0 : Int)
            ·rw [if_pos hc12] at h
             obtain rfl := oI h
             exact runF2 hm ⟨[2], [], 0, 0, [], false, [], [], []⟩ (k0 <|
              k1 <|
              k2 <|
              k3 <|
              k4 <|
              k5 <|
              k6 <|
              k7 <|
              k8 <|
              k9 <|
              k10 <|
              zz 69 (xeT hc12) <|
              ee) (by kernel_rfl)
            ·rw [if_neg hc12] at h
             obtain rfl := oI h
             exact runF2 hm ⟨[2], [], 0, 0, [], false, [], [], []⟩ (k0 <|
              k1 <|
              k2 <|
              k3 <|
              k4 <|
              k5 <|
              k6 <|
              k7 <|
              k8 <|
              k9 <|
              k10 <|
              zz 69 (xeF hc12) <|
              ee) (by kernel_rfl)
           ·rw [if_neg hc11] at h
            obtain rfl := oI h
            exact runF2 hm ⟨[2], [], 0, 0, [], false, [], [], []⟩ (k0 <|
             k1 <|
             k2 <|
             k3 <|
             k4 <|
             k5 <|
             k6 <|
             k7 <|
             k8 <|
             k9 <|
             zz 63 (xdF hc11) <|
             ee) (by kernel_rfl)
          ·rw [if_neg hc10] at h
           obtain rfl := oI h
           exact runF2 hm ⟨[2], [], 0, 0, [], false, [], [], []⟩ (k0 <|
            k1 <|
            k2 <|
            k3 <|
            k4 <|
            k5 <|
            k6 <|
            k7 <|
            k8 <|
            zz 57 (xdF hc10) <|
            ee) (by kernel_rfl)
         ·rw [if_neg hc9] at h
          obtain rfl := oI h
          exact runF2 hm ⟨[2], [], 0, 0, [], false, [], [], []⟩ (k0 <|
           k1 <|
           k2 <|
           k3 <|
           k4 <|
           k5 <|
           k6 <|
           k7 <|
           zz 49 (xeF hc9) <|
           ee) (by kernel_rfl)

def A_treeCheckq1 (a0 : WL rw_iiiiiiLu) : List Value := [(wlV a0)]
def H_treeCheckq1 (a0 : WL rw_iiiiiiLu) : AH := ⟨sB [], 0, 0⟩
def V_treeCheckq1 (a0 : WL rw_iiiiiiLu) (r : Int) : Value := match r with
 | o0 => (i6 o0)
def R_treeCheckq1 (a0 : WL rw_iiiiiiLu) (r : Int) : AH := match r with
 | o0 => ⟨sB [], 0, 0⟩
abbrev G_treeCheckq1 (a0 : WL rw_iiiiiiLu) (r : Int) : Prop := Gv P (.func 6) (A_treeCheckq1 a0) (H_treeCheckq1 a0) (V_treeCheckq1 a0 r) (R_treeCheckq1 a0 r)
abbrev C_treeCheckq1 (a0 : WL rw_iiiiiiLu) (r : Int) (ins outs : BL) : CallA := ⟨0, ins, V_treeCheckq1 a0 r, R_treeCheckq1 a0 r, outs⟩
def S_treeCheckq1_1 (x1_0 : WL rw_iiiiiiLu) (x1_1 : Int) (st : Int) : XSt := match st with
 | x1_2 => (sT 36 [(16, (wlV x1_0)), (17, (i6 x1_1)), (18, (i6 x1_2))], [], ⟨sB [], 0, 0⟩)
def X_treeCheckq1_1 (x1_0 : WL rw_iiiiiiLu) (x1_1 : Int) (r : (Unit) ⊕ (Unit)) : Ex × XSt := match r with
 | .inl _ => (.ret, (sT 36 [(2, (i6 (2 : Int)))], [], ⟨sB [], 0, 0⟩))
 | .inr _ => (.exit 0, (sT 36 [], [], ⟨sB [], 0, 0⟩))
abbrev Q_treeCheckq1_1 (rnd : Option Nat) (x1_0 : WL rw_iiiiiiLu) (x1_1 : Int) (st : Int) (c : Ex × XSt) : Prop := CG P rnd (fnN P 6) 0 (codeOf P 6 [false, false, true, false, true, true, true]) (S_treeCheckq1_1 x1_0 x1_1 st) c
abbrev U_treeCheckq1_1 (rd : Option Nat) (x1_0 : WL rw_iiiiiiLu) (x1_1 : Int) (st : Int) (r : (Unit) ⊕ (Unit)) : Prop := CG P rd (fnN P 6) 0 (codeOf P 6 [false, true, false, true, true, true]) (S_treeCheckq1_1 x1_0 x1_1 st) (X_treeCheckq1_1 x1_0 x1_1 r)
def B_treeCheckq1_1 (n : Nat) (x1_0 : WL rw_iiiiiiLu) (x1_1 : Int) (st : Int) : Option ((Int) ⊕ ((Unit) ⊕ (Unit))) := match st with
 | x1_2 =>
  if x1_2 < x1_1 then
   if 0 ≤ x1_2 ∧ x1_2 < (((x1_0).l.length : Nat) : Int) then
    ((some (((x1_0).l).getD (x1_2).toNat (0, 0, 0, 0, 0, 0, nl0, 0)))).bind fun y1_3_ =>
    (m_treesoundq1 n (y1_3_.1) (y1_3_.2.1) (y1_3_.2.2.1) (y1_3_.2.2.2.1) (y1_3_.2.2.2.2.1) (y1_3_.2.2.2.2.2.1) (y1_3_.2.2.2.2.2.2.1) (y1_3_.2.2.2.2.2.2.2)).bind fun y1_4_ =>
    if y1_4_ = true then
     if (y1_3_.2.1) = (1 : Int) then
      if x1_2 > (0 : Int) then
       some (.inr (.inl ()))
      else
       some (.inl (w64 (x1_2 + (1 : Int))))
     else
      some (.inl (w64 (x1_2 + (1 : Int))))
    else
     some (.inr (.inl ()))
   else none
  else
   some (.inr (.inr ()))
def m_treeCheckq1_1 (n : Nat) (x1_0 : WL rw_iiiiiiLu) (x1_1 : Int) (st : Int) : Option ((Unit) ⊕ (Unit)) := iterM (B_treeCheckq1_1 n x1_0 x1_1) n st
theorem b_treeCheckq1_1 (n : Nat) {rnd : Option Nat} (x1_0 : WL rw_iiiiiiLu) (x1_1 : Int) (x1_2 : Int) (o : (Int) ⊕ ((Unit) ⊕ (Unit))) (h : B_treeCheckq1_1 n x1_0 x1_1 x1_2 = some o) : CG P rnd (fnN P 6) 0 (codeOf P 6 [false, false, true, false, true, true, true]) (S_treeCheckq1_1 x1_0 x1_1 x1_2) (Sum.elim (fun s => (.normal, S_treeCheckq1_1 x1_0 x1_1 s)) (fun r => X_treeCheckq1_1 x1_0 x1_1 r) o) := by
 unfold B_treeCheckq1_1 at h
 dsimp only at h
 by_cases hy1_1 : x1_2 < x1_1
 ·rw [if_pos hy1_1] at h
  obtain ⟨hy1_2, h⟩ := gd h
  obtain ⟨y1_3_, hy1_3, h⟩ := oB h
  obtain ⟨y1_4_, hy1_4, h⟩ := oB h
  have k0 := fun {A L l} (k : PL A L l) => zz 1 (xdT hy1_1) <|
   zz 8 (xk1 (x1_0).num (x1_0).off (x1_0).cap hy1_2) <|
   zz 9 (lk2 hy1_3 (toNatLt hy1_2)) <|
   yy 15 (.call (C_treesoundq1 (y1_3_.1) (y1_3_.2.1) (y1_3_.2.2.1) (y1_3_.2.2.2.1) (y1_3_.2.2.2.2.1) (y1_3_.2.2.2.2.2.1) (y1_3_.2.2.2.2.2.2.1) (y1_3_.2.2.2.2.2.2.2) y1_4_ [] [])) <|
   ww (m_treesoundq1_ok n (y1_3_.1) (y1_3_.2.1) (y1_3_.2.2.1) (y1_3_.2.2.2.1) (y1_3_.2.2.2.2.1) (y1_3_.2.2.2.2.2.1) (y1_3_.2.2.2.2.2.2.1) (y1_3_.2.2.2.2.2.2.2) y1_4_ hy1_4) <|
   k
  by_cases hy1_5 : y1_4_ = true
  ·rw [if_pos hy1_5] at h
   have k5 := fun {A L l} (k : PL A L l) => yy 16 (vf) <|
    ww (p := (Value.bool (!y1_4_)) = (Value.bool false)) (vBn hy1_5) <|
    k
   by_cases hy1_6 : (y1_3_.2.1) = (1 : Int)
   ·rw [if_pos hy1_6] at h
    have k7 := fun {A L l} (k : PL A L l) => zz 20 (xeT hy1_6) <|
     k
    by_cases hy1_7 : x1_2 > (0 : Int)
    ·rw [if_pos hy1_7] at h
     obtain rfl := oI h
     exact runC2 hm ⟨[2], [], 0, 0, [], false, [], [], []⟩ (k0 <|
      k5 <|
      k7 <|
      zz 23 (xdT hy1_7) <|
      ee) (by kernel_rfl)
    ·rw [if_neg hy1_7] at h
     obtain rfl := oI h
     exact runC2 hm ⟨[16, 17, 18], [], 0, 0, [], false, [], [], []⟩ (k0 <|
      k5 <|
      k7 <|
      zz 23 (xdF hy1_7) <|
      ee) (by kernel_rfl)
   ·rw [if_neg hy1_6] at h
    obtain rfl := oI h
    exact runC2 hm ⟨[16, 17, 18], [], 0, 0, [], false, [], [], []⟩ (k0 <|
     k5 <|
     zz 20 (xeF hy1_6) <|
     ee) (by kernel_rfl)
  ·rw [if_neg hy1_5] at h
   obtain rfl := oI h
   exact runC2 hm ⟨[2], [], 0, 0, [], false, [], [], []⟩ (k0 <|
    yy 16 (vt) <|
    ww (p := (Value.bool (!y1_4_)) = (Value.bool true)) (vBn (Bool.eq_false_iff.2 hy1_5)) <|
    ee) (by kernel_rfl)
 ·rw [if_neg hy1_1] at h
  obtain rfl := oI h
  exact runC2 hm ⟨[], [], 0, 0, [], false, [], [], []⟩ (zz 1 (xdF hy1_1) <|
   ee) (by kernel_rfl)
theorem m_treeCheckq1_1_ok (n : Nat) {rnd : Option Nat} (x1_0 : WL rw_iiiiiiLu) (x1_1 : Int) (st : Int) (r : (Unit) ⊕ (Unit)) (h : m_treeCheckq1_1 n x1_0 x1_1 st = some r) : CG P rnd (fnN P 6) 0 (codeOf P 6 [false, true, false, true, true, true]) (S_treeCheckq1_1 x1_0 x1_1 st) (X_treeCheckq1_1 x1_0 x1_1 r) :=
 CG.iter (b := codeOf P 6 [false, false, true, false, true, true, true]) (by kernel_rfl) (body := B_treeCheckq1_1 n x1_0 x1_1) (S := S_treeCheckq1_1 x1_0 x1_1) (X := X_treeCheckq1_1 x1_0 x1_1)
  (fun s s' h => b_treeCheckq1_1 n x1_0 x1_1 s (.inl s') h)
  (fun s r h => b_treeCheckq1_1 n x1_0 x1_1 s (.inr r) h)
  (fun r => by intro hx; rcases r with _ | _ <;> cases hx) h
def m_treeCheckq1 (n : Nat) (a0 : WL rw_iiiiiiLu) : Option (Int) :=
 if (((a0).l.length : Nat) : Int) > (524288 : Int) then
  some 3
 else
  if (((a0).l.length : Nat) : Int) = (0 : Int) then
   some 2
  else
   (m_treeinOrderq1 n a0).bind fun c3_ =>
   if c3_ = true then
    match m_treeCheckq1_1 n a0 (((a0).l.length : Nat) : Int) 0 with
    | none => none
    | some (.inl _) =>
     some 2
    | some (.inr _) =>
     some 0
   else
    some 2
theorem m_treeCheckq1_ok (n : Nat) (a0 : WL rw_iiiiiiLu) (r : Int) (h : m_treeCheckq1 n a0 = some r) : Gv P (.func 6) (A_treeCheckq1 a0) (H_treeCheckq1 a0) (V_treeCheckq1 a0 r) (R_treeCheckq1 a0 r) := by
 unfold m_treeCheckq1 at h
 by_cases hc1 : (((a0).l.length : Nat) : Int) > (524288 : Int)
 ·rw [if_pos hc1] at h
  obtain rfl := oI h
  exact runF2 hm ⟨[2], [], 0, 0, [], false, [], [], []⟩ (zz 6 (xdT hc1) <|
   ee) (by kernel_rfl)
 ·rw [if_neg hc1] at h
  have k0 := fun {A L l} (k : PL A L l) => zz 6 (xdF hc1) <|
   k
  by_cases hc2 : (((a0).l.length : Nat) : Int) = (0 : Int)
  ·rw [if_pos hc2] at h
   obtain rfl := oI h
   exact runF2 hm ⟨[2], [], 0, 0, [], false, [], [], []⟩ (k0 <|
    zz 12 (xeT hc2) <|
    ee) (by kernel_rfl)
  ·rw [if_neg hc2] at h
   obtain ⟨c3_, hc3, h⟩ := oB h
   have k1 := fun {A L l} (k : PL A L l) => zz 12 (xeF hc2) <|
    yy 15 (.call (C_treeinOrderq1 a0 c3_ [] [])) <|
    ww (m_treeinOrderq1_ok n a0 c3_ hc3) <|
    k
   by_cases hc4 : c3_ = true
   ·rw [if_pos hc4] at h
    have k4 := fun {A L l} (k : PL A L l) => yy 16 (vf) <|
     ww (p := (Value.bool (!c3_)) = (Value.bool false)) (vBn hc4) <|
     k
    rcases hc5 : m_treeCheckq1_1 n a0 (((a0).l.length : Nat) : Int) 0 with _ | (⟨⟩ | ⟨⟩)
    ·rw [hc5] at h; cases h
    ·rw [hc5] at h
     dsimp only at h
     obtain rfl := oI h
     exact runF2 hm ⟨[2], [], 0, 0, [], false, [], [], []⟩ (k0 <|
      k1 <|
      k4 <|
      ww (p := U_treeCheckq1_1 none a0 (((a0).l.length : Nat) : Int) 0 (.inl ())) (m_treeCheckq1_1_ok n a0 (((a0).l.length : Nat) : Int) 0 (.inl ()) hc5) <|
      ll 25 ⟨⟨[16, 17, 18], [], 0, 0, [], false, [], [], []⟩, (X_treeCheckq1_1 a0 (((a0).l.length : Nat) : Int) (.inl ())).1, (X_treeCheckq1_1 a0 (((a0).l.length : Nat) : Int) (.inl ())).2⟩ <|
      ee) (by kernel_rfl)
    ·rw [hc5] at h
     dsimp only at h
     obtain rfl := oI h
     exact runF2 hm ⟨[2], [], 0, 0, [], false, [], [], []⟩ (k0 <|
      k1 <|
      k4 <|
      ww (p := U_treeCheckq1_1 none a0 (((a0).l.length : Nat) : Int) 0 (.inr ())) (m_treeCheckq1_1_ok n a0 (((a0).l.length : Nat) : Int) 0 (.inr ()) hc5) <|
      ll 25 ⟨⟨[16, 17, 18], [], 0, 0, [], false, [], [], []⟩, (X_treeCheckq1_1 a0 (((a0).l.length : Nat) : Int) (.inr ())).1, (X_treeCheckq1_1 a0 (((a0).l.length : Nat) : Int) (.inr ())).2⟩ <|
      ee) (by kernel_rfl)
   ·rw [if_neg hc4] at h
    obtain rfl := oI h
    exact runF2 hm ⟨[2], [], 0, 0, [], false, [], [], []⟩ (k0 <|
     k1 <|
     yy 16 (vt) <|
     ww (p := (Value.bool (!c3_)) = (Value.bool true)) (vBn (Bool.eq_false_iff.2 hc4)) <|
     ee) (by kernel_rfl)

def A_viewportkitPickq1 (a0 : Int) (a1 : Int) : List Value := [(i6 a0), (i6 a1)]
def H_viewportkitPickq1 (a0 : Int) (a1 : Int) : AH := ⟨sB [], 0, 0⟩
def V_viewportkitPickq1 (a0 : Int) (a1 : Int) (r : Int) : Value := match r with
 | o0 => (i6 o0)
def R_viewportkitPickq1 (a0 : Int) (a1 : Int) (r : Int) : AH := match r with
 | o0 => ⟨sB [], 0, 0⟩
abbrev G_viewportkitPickq1 (a0 : Int) (a1 : Int) (r : Int) : Prop := Gv P (.func 7) (A_viewportkitPickq1 a0 a1) (H_viewportkitPickq1 a0 a1) (V_viewportkitPickq1 a0 a1 r) (R_viewportkitPickq1 a0 a1 r)
abbrev C_viewportkitPickq1 (a0 : Int) (a1 : Int) (r : Int) (ins outs : BL) : CallA := ⟨0, ins, V_viewportkitPickq1 a0 a1 r, R_viewportkitPickq1 a0 a1 r, outs⟩
def m_viewportkitPickq1 (n : Nat) (a0 : Int) (a1 : Int) : Option (Int) :=
 if a1 < (1 : Int) then
  some 0
 else
  if ¬ (a1 = 0) then
   if (Int.tmod a0 a1) < (0 : Int) then
    some (w64 ((Int.tmod a0 a1) + a1))
   else
    some (Int.tmod a0 a1)
  else none
theorem m_viewportkitPickq1_ok (n : Nat) (a0 : Int) (a1 : Int) (r : Int) (h : m_viewportkitPickq1 n a0 a1 = some r) : Gv P (.func 7) (A_viewportkitPickq1 a0 a1) (H_viewportkitPickq1 a0 a1) (V_viewportkitPickq1 a0 a1 r) (R_viewportkitPickq1 a0 a1 r) := by
 unfold m_viewportkitPickq1 at h
 by_cases hc1 : a1 < (1 : Int)
 ·rw [if_pos hc1] at h
  obtain rfl := oI h
  exact runF2 hm ⟨[4], [], 0, 0, [], false, [], [], []⟩ (zz 5 (xdT hc1) <|
   ee) (by kernel_rfl)
 ·rw [if_neg hc1] at h
  obtain ⟨hc2, h⟩ := gd h
  have k0 := fun {A L l} (k : PL A L l) => zz 5 (xdF hc1) <|
   yy 10 (.pur (i6 (Int.tmod a0 a1))) <|
   ww (p := opBin P .rem 3 (.tmp 8) (.tmp 9) (i6 a0) (i6 a1) Ax.h0 = some ((i6 (Int.tmod a0 a1)), Ax.h0)) (remI hc2) <|
   k
  by_cases hc3 : (Int.tmod a0 a1) < (0 : Int)
  ·rw [if_pos hc3] at h
   obtain rfl := oI h
   exact runF2 hm ⟨[4], [], 0, 0, [], false, [], [], []⟩ (k0 <|
    zz 15 (xdT hc3) <|
    ee) (by kernel_rfl)
  ·rw [if_neg hc3] at h
   obtain rfl := oI h
   exact runF2 hm ⟨[4], [], 0, 0, [], false, [], [], []⟩ (k0 <|
    zz 15 (xdF hc3) <|
    ee) (by kernel_rfl)

def A_treehasq1 (a0 : WL rw_iiiiiiLu) (a1 : Int) : List Value := [(wlV a0), (i6 a1)]
def H_treehasq1 (a0 : WL rw_iiiiiiLu) (a1 : Int) : AH := ⟨sB [], 0, 0⟩
def V_treehasq1 (a0 : WL rw_iiiiiiLu) (a1 : Int) (r : Bool) : Value := match r with
 | o0 => (bO o0)
def R_treehasq1 (a0 : WL rw_iiiiiiLu) (a1 : Int) (r : Bool) : AH := match r with
 | o0 => ⟨sB [], 0, 0⟩
abbrev G_treehasq1 (a0 : WL rw_iiiiiiLu) (a1 : Int) (r : Bool) : Prop := Gv P (.func 20) (A_treehasq1 a0 a1) (H_treehasq1 a0 a1) (V_treehasq1 a0 a1 r) (R_treehasq1 a0 a1 r)
abbrev C_treehasq1 (a0 : WL rw_iiiiiiLu) (a1 : Int) (r : Bool) (ins outs : BL) : CallA := ⟨0, ins, V_treehasq1 a0 a1 r, R_treehasq1 a0 a1 r, outs⟩
def m_treehasq1 (n : Nat) (a0 : WL rw_iiiiiiLu) (a1 : Int) : Option (Bool) :=
 if a1 ≥ (0 : Int) then
  if a1 < (((a0).l.length : Nat) : Int) then
   (m_treeCheckq1 n a0).bind fun c3_ =>
   if c3_ = (0 : Int) then
    some true
   else
    some false
  else
   some false
 else
  some false
theorem m_treehasq1_ok (n : Nat) (a0 : WL rw_iiiiiiLu) (a1 : Int) (r : Bool) (h : m_treehasq1 n a0 a1 = some r) : Gv P (.func 20) (A_treehasq1 a0 a1) (H_treehasq1 a0 a1) (V_treehasq1 a0 a1 r) (R_treehasq1 a0 a1 r) := by
 unfold m_treehasq1 at h
 by_cases hc1 : a1 ≥ (0 : Int)
 ·rw [if_pos hc1] at h
  have k0 := fun {A L l} (k : PL A L l) => zz 4 (xdT hc1) <|
   k
  by_cases hc2 : a1 < (((a0).l.length : Nat) : Int)
  ·rw [if_pos hc2] at h
   obtain ⟨c3_, hc3, h⟩ := oB h
   have k1 := fun {A L l} (k : PL A L l) => zz 9 (xdT hc2) <|
    yy 13 (.call (C_treeCheckq1 a0 c3_ [] [])) <|
    ww (m_treeCheckq1_ok n a0 c3_ hc3) <|
    k
   by_cases hc4 : c3_ = (0 : Int)
   ·rw [if_pos hc4] at h
    obtain rfl := oI h
    exact runF2 hm ⟨[4], [], 0, 0, [], false, [], [], []⟩ (k0 <|
     k1 <|
     zz 14 (xeT hc4) <|
     ee) (by kernel_rfl)
   ·rw [if_neg hc4] at h
    obtain rfl := oI h
    exact runF2 hm ⟨[4], [], 0, 0, [], false, [], [], []⟩ (k0 <|
     k1 <|
     zz 14 (xeF hc4) <|
     ee) (by kernel_rfl)
  ·rw [if_neg hc2] at h
   obtain rfl := oI h
   exact runF2 hm ⟨[4], [], 0, 0, [], false, [], [], []⟩ (k0 <|
    zz 9 (xdF hc2) <|
    ee) (by kernel_rfl)
 ·rw [if_neg hc1] at h
  obtain rfl := oI h
  exact runF2 hm ⟨[4], [], 0, 0, [], false, [], [], []⟩ (zz 4 (xdF hc1) <|
   ee) (by kernel_rfl)

def A_treeplacesq1 (a0 : WL rw_iiiiiiLu) (a1 : Int) : List Value := [(wlV a0), (i6 a1)]
def H_treeplacesq1 (a0 : WL rw_iiiiiiLu) (a1 : Int) : AH := ⟨sB [], 0, 0⟩
def V_treeplacesq1 (a0 : WL rw_iiiiiiLu) (a1 : Int) (r : Unit) : Value := match r with
 | _ => (Value.func (.func 32) #[] #[(pN 0 0), (pN 1 0)])
def R_treeplacesq1 (a0 : WL rw_iiiiiiLu) (a1 : Int) (r : Unit) : AH := match r with
 | _ => ⟨sB [(0, (some (.cells (layT [(wlV a0)]) 22))), (1, (some (.cells (layT [(i6 a1)]) 3)))], 2, 0⟩
abbrev G_treeplacesq1 (a0 : WL rw_iiiiiiLu) (a1 : Int) (r : Unit) : Prop := Gv P (.func 21) (A_treeplacesq1 a0 a1) (H_treeplacesq1 a0 a1) (V_treeplacesq1 a0 a1 r) (R_treeplacesq1 a0 a1 r)
abbrev C_treeplacesq1 (a0 : WL rw_iiiiiiLu) (a1 : Int) (r : Unit) (ins outs : BL) : CallA := ⟨0, ins, V_treeplacesq1 a0 a1 r, R_treeplacesq1 a0 a1 r, outs⟩
def m_treeplacesq1 (n : Nat) (a0 : WL rw_iiiiiiLu) (a1 : Int) : Option (Unit) :=
 some ()
theorem m_treeplacesq1_ok (n : Nat) (a0 : WL rw_iiiiiiLu) (a1 : Int) (r : Unit) (h : m_treeplacesq1 n a0 a1 = some r) : Gv P (.func 21) (A_treeplacesq1 a0 a1) (H_treeplacesq1 a0 a1) (V_treeplacesq1 a0 a1 r) (R_treeplacesq1 a0 a1 r) := by
 unfold m_treeplacesq1 at h
 obtain rfl := oI h
 exact runF2 hm ⟨[4], [(0, 0, false), (1, 1, false)], 2, 0, [], false, [], [], []⟩ (ee) (by kernel_rfl)

def A_treeSub1q1 (a0 : Int) (a1 : Int) : List Value := [(i6 a0), (pN 0 0)]
def H_treeSub1q1 (a0 : Int) (a1 : Int) : AH := ⟨sB [(0, (some (.cells (layT [(i6 a1)]) 3)))], 1, 1⟩
def V_treeSub1q1 (a0 : Int) (a1 : Int) (r : Unit) : Value := match r with
 | _ => (i6 (w64 (a0 - a1)))
def R_treeSub1q1 (a0 : Int) (a1 : Int) (r : Unit) : AH := match r with
 | _ => ⟨sB [], 1, 1⟩
abbrev G_treeSub1q1 (a0 : Int) (a1 : Int) (r : Unit) : Prop := Gv P (.func 23) (A_treeSub1q1 a0 a1) (H_treeSub1q1 a0 a1) (V_treeSub1q1 a0 a1 r) (R_treeSub1q1 a0 a1 r)
abbrev C_treeSub1q1 (a0 : Int) (a1 : Int) (r : Unit) (ins outs : BL) : CallA := ⟨1, ins, V_treeSub1q1 a0 a1 r, R_treeSub1q1 a0 a1 r, outs⟩
def m_treeSub1q1 (n : Nat) (a0 : Int) (a1 : Int) : Option (Unit) :=
 some ()
theorem m_treeSub1q1_ok (n : Nat) (a0 : Int) (a1 : Int) (r : Unit) (h : m_treeSub1q1 n a0 a1 = some r) : Gv P (.func 23) (A_treeSub1q1 a0 a1) (H_treeSub1q1 a0 a1) (V_treeSub1q1 a0 a1 r) (R_treeSub1q1 a0 a1 r) := by
 unfold m_treeSub1q1 at h
 obtain rfl := oI h
 exact runF2 hm ⟨[3], [], 1, 1, [], false, [], [], []⟩ (ee) (by kernel_rfl)

def A_treeSub1q2 (a0 : Int) (a1 : List Int) : List Value := [(i6 a0), (pN 0 0)]
def H_treeSub1q2 (a0 : Int) (a1 : List Int) : AH := ⟨sB [(0, (some (.cells (layT (iv a1)) 3)))], 1, 1⟩
def V_treeSub1q2 (a0 : Int) (a1 : List Int) (r : Int) : Value := match r with
 | o0 => (i6 o0)
def R_treeSub1q2 (a0 : Int) (a1 : List Int) (r : Int) : AH := match r with
 | o0 => ⟨sB [], 1, 1⟩
abbrev G_treeSub1q2 (a0 : Int) (a1 : List Int) (r : Int) : Prop := Gv P (.func 23) (A_treeSub1q2 a0 a1) (H_treeSub1q2 a0 a1) (V_treeSub1q2 a0 a1 r) (R_treeSub1q2 a0 a1 r)
abbrev C_treeSub1q2 (a0 : Int) (a1 : List Int) (r : Int) (ins outs : BL) : CallA := ⟨1, ins, V_treeSub1q2 a0 a1 r, R_treeSub1q2 a0 a1 r, outs⟩
def m_treeSub1q2 (n : Nat) (a0 : Int) (a1 : List Int) : Option (Int) :=
 if 0 < (a1).length then
  ((some ((a1).getD 0 0))).bind fun c2_ =>
  some (w64 (a0 - c2_))
 else none
theorem m_treeSub1q2_ok (n : Nat) (a0 : Int) (a1 : List Int) (r : Int) (h : m_treeSub1q2 n a0 a1 = some r) : Gv P (.func 23) (A_treeSub1q2 a0 a1) (H_treeSub1q2 a0 a1) (V_treeSub1q2 a0 a1 r) (R_treeSub1q2 a0 a1 r) := by
 unfold m_treeSub1q2 at h
 obtain ⟨hc1, h⟩ := gd h
 obtain ⟨c2_, hc2, h⟩ := oB h
 obtain rfl := oI h
 exact runF2 hm ⟨[3], [], 1, 1, [], false, [], [], []⟩ (zz 4 (xivN hc2 (hc1)) <|
  ee) (by kernel_rfl)

def A_treeeachintintq1 (a0 : NL) (a1 : Int) : List Value := [(nlV a0), (Value.func (.func 23) #[] #[(pN 0 0)])]
def H_treeeachintintq1 (a0 : NL) (a1 : Int) : AH := ⟨sB [(0, (some (.cells (layT [(i6 a1)]) 3)))], 1, 1⟩
def V_treeeachintintq1 (a0 : NL) (a1 : Int) (r : NL) : Value := match r with
 | o0 => (nlV o0)
def R_treeeachintintq1 (a0 : NL) (a1 : Int) (r : NL) : AH := match r with
 | o0 => ⟨sB [], 1, 1⟩
abbrev G_treeeachintintq1 (a0 : NL) (a1 : Int) (r : NL) : Prop := Gv P (.func 34) (A_treeeachintintq1 a0 a1) (H_treeeachintintq1 a0 a1) (V_treeeachintintq1 a0 a1 r) (R_treeeachintintq1 a0 a1 r)
abbrev C_treeeachintintq1 (a0 : NL) (a1 : Int) (r : NL) (ins outs : BL) : CallA := ⟨1, ins, V_treeeachintintq1 a0 a1 r, R_treeeachintintq1 a0 a1 r, outs⟩
def S_treeeachintintq1_1 (x1_0 : List Int) (x1_2 : Nat) (x1_3 : NL) (x1_4 : Int) (st : List Int × Int) : XSt := match st with
 | (x1_1, x1_5) => (sT 29 [(1, (Value.func (.func 23) #[] #[(pN 0 0)])), (5, (sN 1 0 x1_2 x1_2)), (14, (nlV x1_3)), (15, (i6 x1_4)), (16, (i6 x1_5))], [], ⟨sB [(0, (some (.cells (layT (iv x1_0)) 3))), (1, (some (.cells (layT (iv x1_1)) 3)))], 2, 1⟩)
def X_treeeachintintq1_1 (x1_0 : List Int) (x1_2 : Nat) (x1_3 : NL) (x1_4 : Int) (r : List Int) : Ex × XSt := match r with
 | z1_0 => (.exit 0, (sT 29 [(5, (sN 1 0 x1_2 x1_2))], [], ⟨sB [(0, (some (.cells (layT (iv x1_0)) 3))), (1, (some (.cells (layT (iv z1_0)) 3)))], 2, 1⟩))
abbrev Q_treeeachintintq1_1 (rnd : Option Nat) (x1_0 : List Int) (x1_2 : Nat) (x1_3 : NL) (x1_4 : Int) (st : List Int × Int) (c : Ex × XSt) : Prop := CG P rnd (fnN P 34) 1 (codeOf P 34 [false, false, true, false, true, true, true]) (S_treeeachintintq1_1 x1_0 x1_2 x1_3 x1_4 st) c
abbrev U_treeeachintintq1_1 (rd : Option Nat) (x1_0 : List Int) (x1_2 : Nat) (x1_3 : NL) (x1_4 : Int) (st : List Int × Int) (r : List Int) : Prop := CG P rd (fnN P 34) 1 (codeOf P 34 [false, true, false, true, true, true]) (S_treeeachintintq1_1 x1_0 x1_2 x1_3 x1_4 st) (X_treeeachintintq1_1 x1_0 x1_2 x1_3 x1_4 r)
def B_treeeachintintq1_1 (n : Nat) (x1_0 : List Int) (x1_2 : Nat) (x1_3 : NL) (x1_4 : Int) (st : List Int × Int) : Option ((List Int × Int) ⊕ (List Int)) := match st with
 | (x1_1, x1_5) =>
  if x1_5 < x1_4 then
   if 0 ≤ x1_5 ∧ x1_5 < (((x1_3).l.length : Nat) : Int) then
    if (x1_5).toNat < ((x1_3).l).length then
     ((some (((x1_3).l).getD (x1_5).toNat 0))).bind fun y1_4_ =>
     (m_treeSub1q2 n y1_4_ x1_0).bind fun y1_5_ =>
     if 0 ≤ x1_5 ∧ x1_5 < ((x1_2 : Nat) : Int) then
      if (x1_5).toNat < (x1_1).length then
       some (.inl (((x1_1).set (x1_5).toNat y1_5_), (w64 (x1_5 + (1 : Int)))))
      else none
     else none
    else none
   else none
  else
   some (.inr x1_1)
def m_treeeachintintq1_1 (n : Nat) (x1_0 : List Int) (x1_2 : Nat) (x1_3 : NL) (x1_4 : Int) (st : List Int × Int) : Option (List Int) := iterM (B_treeeachintintq1_1 n x1_0 x1_2 x1_3 x1_4) n st
theorem b_treeeachintintq1_1 (n : Nat) {rnd : Option Nat} (x1_0 : List Int) (x1_2 : Nat) (x1_3 : NL) (x1_4 : Int) (st : List Int × Int) (o : (List Int × Int) ⊕ (List Int)) (h : B_treeeachintintq1_1 n x1_0 x1_2 x1_3 x1_4 st = some o) : CG P rnd (fnN P 34) 1 (codeOf P 34 [false, false, true, false, true, true, true]) (S_treeeachintintq1_1 x1_0 x1_2 x1_3 x1_4 st) (Sum.elim (fun s => (.normal, S_treeeachintintq1_1 x1_0 x1_2 x1_3 x1_4 s)) (fun r => X_treeeachintintq1_1 x1_0 x1_2 x1_3 x1_4 r) o) := by
 obtain ⟨x1_1, x1_5⟩ := st
 unfold B_treeeachintintq1_1 at h
 dsimp only at h
 by_cases hy1_1 : x1_5 < x1_4
 ·rw [if_pos hy1_1] at h
  obtain ⟨hy1_2, h⟩ := gd h
  obtain ⟨hy1_3, h⟩ := gd h
  obtain ⟨y1_4_, hy1_4, h⟩ := oB h
  obtain ⟨y1_5_, hy1_5, h⟩ := oB h
  obtain ⟨hy1_6, h⟩ := gd h
  obtain ⟨hy1_7, h⟩ := gd h
  obtain rfl := oI h
  exact runC2 hm ⟨[1, 5, 14, 15, 16], [(0, 0, true), (1, 1, true)], 2, 1, [], false, [], [], []⟩ (zz 1 (xdT hy1_1) <|
   zz 8 (xk6 (Nat.add (x1_3).num 64) (x1_3).off (x1_3).cap hy1_2) <|
   zz 9 (nk7 hy1_4 hy1_3) <|
   yy 16 (.call (C_treeSub1q2 y1_4_ x1_0 y1_5_ [(0, 0, true)] [])) <|
   ww (m_treeSub1q2_ok n y1_4_ x1_0 y1_5_ hy1_5) <|
   ww (iv_flat x1_0 3) <|
   zz 17 (xk9 1 x1_2 hy1_6) <|
   yy 18 (.sto (layT (iv ((x1_1).set (x1_5).toNat y1_5_)))) <|
   ww (p := ∃ old, rdT (layT (iv x1_1)) 1 (x1_5).toNat = some old) (Exists.elim (iv_st (x1_1) ((x1_5).toNat) (y1_5_) hy1_7) fun o h => ⟨o, h.1⟩) <|
   ww (p := layL [(i6 y1_5_)] (x1_5).toNat (layT (iv x1_1)) = layT (iv ((x1_1).set (x1_5).toNat y1_5_))) (Exists.elim (iv_st (x1_1) ((x1_5).toNat) (y1_5_) hy1_7) fun o h => h.2) <|
   ww (iv_flat x1_0 3) <|
   ww (iv_flat ((x1_1).set (x1_5).toNat y1_5_) 3) <|
   ee) (by kernel_rfl)
 ·rw [if_neg hy1_1] at h
  obtain rfl := oI h
  exact runC2 hm ⟨[5], [(0, 0, true), (1, 1, true)], 2, 1, [], false, [], [], []⟩ (zz 1 (xdF hy1_1) <|
   ww (iv_flat x1_0 3) <|
   ww (iv_flat x1_1 3) <|
   ee) (by kernel_rfl)
theorem m_treeeachintintq1_1_ok (n : Nat) {rnd : Option Nat} (x1_0 : List Int) (x1_2 : Nat) (x1_3 : NL) (x1_4 : Int) (st : List Int × Int) (r : List Int) (h : m_treeeachintintq1_1 n x1_0 x1_2 x1_3 x1_4 st = some r) : CG P rnd (fnN P 34) 1 (codeOf P 34 [false, true, false, true, true, true]) (S_treeeachintintq1_1 x1_0 x1_2 x1_3 x1_4 st) (X_treeeachintintq1_1 x1_0 x1_2 x1_3 x1_4 r) :=
 CG.iter (b := codeOf P 34 [false, false, true, false, true, true, true]) (by kernel_rfl) (body := B_treeeachintintq1_1 n x1_0 x1_2 x1_3 x1_4) (S := S_treeeachintintq1_1 x1_0 x1_2 x1_3 x1_4) (X := X_treeeachintintq1_1 x1_0 x1_2 x1_3 x1_4)
  (fun s s' h => b_treeeachintintq1_1 n x1_0 x1_2 x1_3 x1_4 s (.inl s') h)
  (fun s r h => b_treeeachintintq1_1 n x1_0 x1_2 x1_3 x1_4 s (.inr r) h)
  (fun r => by intro hx; cases hx) h
def m_treeeachintintq1 (n : Nat) (a0 : NL) (a1 : Int) : Option (NL) :=
 if (((a0).l.length : Nat) : Int) = (0 : Int) then
  some nl0
 else
  if 0 ≤ (((a0).l.length : Nat) : Int) then
   if ((((a0).l.length : Nat) : Int)).toNat * 8 ≤ 140737488355328 then
    (m_treeeachintintq1_1 n [a1] (((((a0).l.length : Nat) : Int)).toNat) a0 (((a0).l.length : Nat) : Int) ((List.replicate ((((a0).l.length : Nat) : Int)).toNat (0 : Int)), 0)).bind fun c4_ =>
    if (((((a0).l.length : Nat) : Int)).toNat) = c4_.length then
     if hc6 : c4_.length ≤ 140737488355328 then
      some (frzL c4_ hc6)
     else none
    else none
   else none
  else none
theorem m_treeeachintintq1_ok (n : Nat) (a0 : NL) (a1 : Int) (r : NL) (h : m_treeeachintintq1 n a0 a1 = some r) : Gv P (.func 34) (A_treeeachintintq1 a0 a1) (H_treeeachintintq1 a0 a1) (V_treeeachintintq1 a0 a1 r) (R_treeeachintintq1 a0 a1 r) := by
 unfold m_treeeachintintq1 at h
 by_cases hc1 : (((a0).l.length : Nat) : Int) = (0 : Int)
 ·rw [if_pos hc1] at h
  obtain rfl := oI h
  exact runF2 hm ⟨[4], [], 1, 1, [], true, [], [], [4]⟩ (zz 6 (xeT hc1) <|
   ee) (by kernel_rfl)
 ·rw [if_neg hc1] at h
  obtain ⟨hc2, h⟩ := gd h
  obtain ⟨hc3, h⟩ := gd h
  obtain ⟨c4_, hc4, h⟩ := oB h
  obtain ⟨hc5, h⟩ := gd h
  obtain ⟨hc6, h⟩ := gdD h
  obtain rfl := oI h
  have k0_ : Gv P (.func 34) (A_treeeachintintq1 a0 a1) (H_treeeachintintq1 a0 a1) (Value.slice (some ⟨Nat.add (2 * cod c4_ + 1) 64, 0, some 1⟩) (((((a0).l.length : Nat) : Int)).toNat) (Nat.add big (((((a0).l.length : Nat) : Int)).toNat))) (R_treeeachintintq1 a0 a1 (frzL c4_ hc6)) := runF2 hm ⟨[4], [], 1, 1, [(1, Nat.add (2 * cod c4_ + 1) 64)], true, [], [], []⟩ (zz 6 (xeF hc1) <|
  yy 11 (.mk ((((a0).l.length : Nat) : Int)).toNat (iv (List.replicate ((((a0).l.length : Nat) : Int)).toNat (0 : Int)))) <|
  ww (p := natOf (i6 (((a0).l.length : Nat) : Int)) = some ((((a0).l.length : Nat) : Int)).toNat) (natOf_toNat hc2) <|
  ww (p := natOf (i6 (((a0).l.length : Nat) : Int)) = some ((((a0).l.length : Nat) : Int)).toNat) (natOf_toNat hc2) <|
  ww (p := fits ((((a0).l.length : Nat) : Int)).toNat 8 = true) (fits_ok hc3 (by omega)) <|
  ww (p := isZ8 [(i6 (0 : Int))] = false) (rfl) <|
  ww (p := reps [(i6 (0 : Int))] ((((a0).l.length : Nat) : Int)).toNat = (iv (List.replicate ((((a0).l.length : Nat) : Int)).toNat (0 : Int)))) (reps_iv _) <|
  ww (p := U_treeeachintintq1_1 none [a1] (((((a0).l.length : Nat) : Int)).toNat) a0 (((a0).l.length : Nat) : Int) ((List.replicate ((((a0).l.length : Nat) : Int)).toNat (0 : Int)), 0) c4_) (m_treeeachintintq1_1_ok n [a1] (((((a0).l.length : Nat) : Int)).toNat) a0 (((a0).l.length : Nat) : Int) ((List.replicate ((((a0).l.length : Nat) : Int)).toNat (0 : Int)), 0) c4_ hc4) <|
  ww (iv_flat (List.replicate ((((a0).l.length : Nat) : Int)).toNat (0 : Int)) 3) <|
  ll 19 ⟨⟨[1, 5, 14, 15, 16], [(0, 0, false), (1, 1, true)], 2, 1, [], false, [], [], []⟩, (X_treeeachintintq1_1 [a1] (((((a0).l.length : Nat) : Int)).toNat) a0 (((a0).l.length : Nat) : Int) c4_).1, (X_treeeachintintq1_1 [a1] (((((a0).l.length : Nat) : Int)).toNat) a0 (((a0).l.length : Nat) : Int) c4_).2⟩ <|
  ww (frz_ok wins_nest wins_odd c4_) <|
  ee) (by kernel_rfl)
  have k1_ := gvLen (fn := fun m_ => (Value.slice (some ⟨Nat.add (2 * cod c4_ + 1) 64, 0, some 1⟩) m_ (Nat.add big m_))) hc5 k0_
  exact k1_

def A_treemovedq1 (a0 : Int) (a1 : Int) (a2 : Int) (a3 : Int) (a4 : Int) (a5 : Int) (a6 : NL) (a7 : Int) (a8 : Int) : List Value := [(Value.agg #[(i6 a0), (i6 a1), (i6 a2), (i6 a3), (i6 a4), (i6 a5), (nlV a6), (Value.int .u64 a7)]), (Value.func (.func 23) #[] #[(pN 0 0)])]
def H_treemovedq1 (a0 : Int) (a1 : Int) (a2 : Int) (a3 : Int) (a4 : Int) (a5 : Int) (a6 : NL) (a7 : Int) (a8 : Int) : AH := ⟨sB [(0, (some (.cells (layT [(i6 a8)]) 3)))], 1, 1⟩
def V_treemovedq1 (a0 : Int) (a1 : Int) (a2 : Int) (a3 : Int) (a4 : Int) (a5 : Int) (a6 : NL) (a7 : Int) (a8 : Int) (r : NL) : Value := match r with
 | o0 => (Value.agg #[(i6 a0), (i6 a1), (i6 a2), (i6 a3), (i6 a4), (i6 a5), (nlV o0), (Value.int .u64 a7)])
def R_treemovedq1 (a0 : Int) (a1 : Int) (a2 : Int) (a3 : Int) (a4 : Int) (a5 : Int) (a6 : NL) (a7 : Int) (a8 : Int) (r : NL) : AH := match r with
 | o0 => ⟨sB [(1, (some (.cells (layT [(i6 a0), (i6 a1), (i6 a2), (i6 a3), (i6 a4), (i6 a5), (nlV o0), (Value.int .u64 a7)]) 39)))], 2, 1⟩
abbrev G_treemovedq1 (a0 : Int) (a1 : Int) (a2 : Int) (a3 : Int) (a4 : Int) (a5 : Int) (a6 : NL) (a7 : Int) (a8 : Int) (r : NL) : Prop := Gv P (.func 22) (A_treemovedq1 a0 a1 a2 a3 a4 a5 a6 a7 a8) (H_treemovedq1 a0 a1 a2 a3 a4 a5 a6 a7 a8) (V_treemovedq1 a0 a1 a2 a3 a4 a5 a6 a7 a8 r) (R_treemovedq1 a0 a1 a2 a3 a4 a5 a6 a7 a8 r)
abbrev C_treemovedq1 (a0 : Int) (a1 : Int) (a2 : Int) (a3 : Int) (a4 : Int) (a5 : Int) (a6 : NL) (a7 : Int) (a8 : Int) (r : NL) (ins outs : BL) : CallA := ⟨1, ins, V_treemovedq1 a0 a1 a2 a3 a4 a5 a6 a7 a8 r, R_treemovedq1 a0 a1 a2 a3 a4 a5 a6 a7 a8 r, outs⟩
def m_treemovedq1 (n : Nat) (a0 : Int) (a1 : Int) (a2 : Int) (a3 : Int) (a4 : Int) (a5 : Int) (a6 : NL) (a7 : Int) (a8 : Int) : Option (NL) :=
 (m_treeeachintintq1 n a6 a8).bind fun c1_ =>
 some c1_
theorem m_treemovedq1_ok (n : Nat) (a0 : Int) (a1 : Int) (a2 : Int) (a3 : Int) (a4 : Int) (a5 : Int) (a6 : NL) (a7 : Int) (a8 : Int) (r : NL) (h : m_treemovedq1 n a0 a1 a2 a3 a4 a5 a6 a7 a8 = some r) : Gv P (.func 22) (A_treemovedq1 a0 a1 a2 a3 a4 a5 a6 a7 a8) (H_treemovedq1 a0 a1 a2 a3 a4 a5 a6 a7 a8) (V_treemovedq1 a0 a1 a2 a3 a4 a5 a6 a7 a8 r) (R_treemovedq1 a0 a1 a2 a3 a4 a5 a6 a7 a8 r) := by
 unfold m_treemovedq1 at h
 obtain ⟨c1_, hc1, h⟩ := oB h
 obtain rfl := oI h
 exact runF2 hm ⟨[4], [(1, 2, false)], 2, 1, [], false, [], [], []⟩ (yy 7 (.call (C_treeeachintintq1 a6 a8 c1_ [(0, 0, false)] [])) <|
  ww (m_treeeachintintq1_ok n a6 a8 c1_ hc1) <|
  ee) (by kernel_rfl)

def A_treeSub_111010y1 (a0 : WL rw_iiiiiiLu) (a1 : Int) (a2 : WL rw_iiiiiiLu) (a3 : Int) (a4 : Int) : List Value := [(i6 a4)]
def H_treeSub_111010y1 (a0 : WL rw_iiiiiiLu) (a1 : Int) (a2 : WL rw_iiiiiiLu) (a3 : Int) (a4 : Int) : AH := ⟨sB [(0, (some (rblk P 8 [false, true, false, true, true, true] .ready none [(2, (pN 2 0)), (3, (pN 3 0)), (5, (pN 4 0)), (13, (Value.func (.func 32) #[] #[(pN 5 0), (pN 6 0)]))] 1))), (1, (some (.marks true))), (2, (some (.cells (layT [(wlV a0)]) 22))), (3, (some (.cells (layT [(i6 a1)]) 3))), (4, (some (.cells (layT [(Value.slice none 0 0)]) 22))), (5, (some (.cells (layT [(wlV a2)]) 22))), (6, (some (.cells (layT [(i6 a3)]) 3)))], 7, 7⟩
def V_treeSub_111010y1 (a0 : WL rw_iiiiiiLu) (a1 : Int) (a2 : WL rw_iiiiiiLu) (a3 : Int) (a4 : Int) (r : R8) : Value := match r with
 | (o0, o1, o2, o3, o4, o5, o6, o7) => (bO true)
def R_treeSub_111010y1 (a0 : WL rw_iiiiiiLu) (a1 : Int) (a2 : WL rw_iiiiiiLu) (a3 : Int) (a4 : Int) (r : R8) : AH := match r with
 | (o0, o1, o2, o3, o4, o5, o6, o7) => ⟨sB [(0, (some (rblk P 8 [false, true, false, true, true, true] .ready none [(2, (pN 2 0)), (3, (pN 3 0)), (5, (pN 4 0)), (13, (Value.func (.func 32) #[] #[(pN 5 0), (pN 6 0)]))] 1))), (1, (some (.marks true))), (2, (some (.cells (layT [(wlV a0)]) 22))), (3, (some (.cells (layT [(i6 a1)]) 3))), (4, (some (.cells (layT [(sN 7 0 1 (Nat.add big 8))]) 22))), (5, (some (.cells (layT [(wlV a2)]) 22))), (6, (some (.cells (layT [(i6 a3)]) 3))), (7, (some (.cells (layT [(i6 o0), (i6 o1), (i6 o2), (i6 o3), (i6 o4), (i6 o5), (nlV o6), (Value.int .u64 o7)]) 39)))], 8, 0⟩
abbrev G_treeSub_111010y1 (a0 : WL rw_iiiiiiLu) (a1 : Int) (a2 : WL rw_iiiiiiLu) (a3 : Int) (a4 : Int) (r : R8) : Prop := Gv P (.yield 0) (A_treeSub_111010y1 a0 a1 a2 a3 a4) (H_treeSub_111010y1 a0 a1 a2 a3 a4) (V_treeSub_111010y1 a0 a1 a2 a3 a4 r) (R_treeSub_111010y1 a0 a1 a2 a3 a4 r)
abbrev C_treeSub_111010y1 (a0 : WL rw_iiiiiiLu) (a1 : Int) (a2 : WL rw_iiiiiiLu) (a3 : Int) (a4 : Int) (r : R8) (ins outs : BL) : CallA := ⟨7, ins, V_treeSub_111010y1 a0 a1 a2 a3 a4 r, R_treeSub_111010y1 a0 a1 a2 a3 a4 r, outs⟩
def m_treeSub_111010y1 (n : Nat) (a0 : WL rw_iiiiiiLu) (a1 : Int) (a2 : WL rw_iiiiiiLu) (a3 : Int) (a4 : Int) : Option R8 :=
 if 0 ≤ a4 ∧ a4 < (((a0).l.length : Nat) : Int) then
  ((some (((a0).l).getD (a4).toNat (0, 0, 0, 0, 0, 0, nl0, 0)))).bind fun c2_ =>
  (m_treemovedq1 n (c2_.1) (c2_.2.1) (c2_.2.2.1) (c2_.2.2.2.1) (c2_.2.2.2.2.1) (c2_.2.2.2.2.2.1) (c2_.2.2.2.2.2.2.1) (c2_.2.2.2.2.2.2.2) a1).bind fun c3_ =>
  some ((c2_.1), (c2_.2.1), (c2_.2.2.1), (c2_.2.2.2.1), (c2_.2.2.2.2.1), (c2_.2.2.2.2.2.1), c3_, (c2_.2.2.2.2.2.2.2))
 else none
theorem m_treeSub_111010y1_ok (n : Nat) (a0 : WL rw_iiiiiiLu) (a1 : Int) (a2 : WL rw_iiiiiiLu) (a3 : Int) (a4 : Int) (r : R8) (h : m_treeSub_111010y1 n a0 a1 a2 a3 a4 = some r) : Gv P (.yield 0) (A_treeSub_111010y1 a0 a1 a2 a3 a4) (H_treeSub_111010y1 a0 a1 a2 a3 a4) (V_treeSub_111010y1 a0 a1 a2 a3 a4 r) (R_treeSub_111010y1 a0 a1 a2 a3 a4 r) := by
 unfold m_treeSub_111010y1 at h
 obtain ⟨hc1, h⟩ := gd h
 obtain ⟨c2_, hc2, h⟩ := oB h
 obtain ⟨c3_, hc3, h⟩ := oB h
 obtain rfl := oI h
 exact runY2 hm ⟨[], [(0, 0, false), (1, 1, false), (2, 2, false), (3, 3, false), (4, 4, false), (5, 5, false), (6, 6, false), (7, 16, false)], 8, 0, [], false, [], [], []⟩ (ee) (zz 4 (xk1 (a0).num (a0).off (a0).cap hc1) <|
  zz 5 (lk2 hc2 (toNatLt hc1)) <|
  yy 7 (.call (C_treemovedq1 (c2_.1) (c2_.2.1) (c2_.2.2.1) (c2_.2.2.2.1) (c2_.2.2.2.2.1) (c2_.2.2.2.2.2.1) (c2_.2.2.2.2.2.2.1) (c2_.2.2.2.2.2.2.2) a1 c3_ [(0, 3, false)] [(15, 1, false)])) <|
  ww (m_treemovedq1_ok n (c2_.1) (c2_.2.1) (c2_.2.2.1) (c2_.2.2.2.1) (c2_.2.2.2.2.1) (c2_.2.2.2.2.2.1) (c2_.2.2.2.2.2.2.1) (c2_.2.2.2.2.2.2.2) a1 c3_ hc3) <|
  ee) (by kernel_rfl)

def A_treeSub_111010y2 (a0 : WL rw_iiiiiiLu) (a1 : Int) (a2 : List R8) (a3 : WL rw_iiiiiiLu) (a4 : Int) (a5 : Int) : List Value := [(i6 a5)]
def H_treeSub_111010y2 (a0 : WL rw_iiiiiiLu) (a1 : Int) (a2 : List R8) (a3 : WL rw_iiiiiiLu) (a4 : Int) (a5 : Int) : AH := ⟨sB [(0, (some (rblk P 8 [false, true, false, true, true, true] .ready none [(2, (pN 2 0)), (3, (pN 3 0)), (5, (pN 4 0)), (13, (Value.func (.func 32) #[] #[(pN 6 0), (pN 7 0)]))] 1))), (1, (some (.marks true))), (2, (some (.cells (layT [(wlV a0)]) 22))), (3, (some (.cells (layT [(i6 a1)]) 3))), (4, (some (.cells (layT [(sN 5 0 (a2).length (Nat.add big 8))]) 22))), (5, (some (.cells (layT (rows rw_iiiiiiLu a2)) 39))), (6, (some (.cells (layT [(wlV a3)]) 22))), (7, (some (.cells (layT [(i6 a4)]) 3)))], 8, 8⟩
def V_treeSub_111010y2 (a0 : WL rw_iiiiiiLu) (a1 : Int) (a2 : List R8) (a3 : WL rw_iiiiiiLu) (a4 : Int) (a5 : Int) (r : List R8) : Value := match r with
 | o0 => (bO true)
def R_treeSub_111010y2 (a0 : WL rw_iiiiiiLu) (a1 : Int) (a2 : List R8) (a3 : WL rw_iiiiiiLu) (a4 : Int) (a5 : Int) (r : List R8) : AH := match r with
 | o0 => ⟨sB [(0, (some (rblk P 8 [false, true, false, true, true, true] .ready none [(2, (pN 2 0)), (3, (pN 3 0)), (5, (pN 4 0)), (13, (Value.func (.func 32) #[] #[(pN 6 0), (pN 7 0)]))] 1))), (1, (some (.marks true))), (2, (some (.cells (layT [(wlV a0)]) 22))), (3, (some (.cells (layT [(i6 a1)]) 3))), (4, (some (.cells (layT [(sN 8 0 (o0).length (Nat.add big 8))]) 22))), (6, (some (.cells (layT [(wlV a3)]) 22))), (7, (some (.cells (layT [(i6 a4)]) 3))), (8, (some (.cells (layT (rows rw_iiiiiiLu o0)) 39)))], 9, 0⟩
abbrev G_treeSub_111010y2 (a0 : WL rw_iiiiiiLu) (a1 : Int) (a2 : List R8) (a3 : WL rw_iiiiiiLu) (a4 : Int) (a5 : Int) (r : List R8) : Prop := Gv P (.yield 0) (A_treeSub_111010y2 a0 a1 a2 a3 a4 a5) (H_treeSub_111010y2 a0 a1 a2 a3 a4 a5) (V_treeSub_111010y2 a0 a1 a2 a3 a4 a5 r) (R_treeSub_111010y2 a0 a1 a2 a3 a4 a5 r)
abbrev C_treeSub_111010y2 (a0 : WL rw_iiiiiiLu) (a1 : Int) (a2 : List R8) (a3 : WL rw_iiiiiiLu) (a4 : Int) (a5 : Int) (r : List R8) (ins outs : BL) : CallA := ⟨8, ins, V_treeSub_111010y2 a0 a1 a2 a3 a4 a5 r, R_treeSub_111010y2 a0 a1 a2 a3 a4 a5 r, outs⟩
def m_treeSub_111010y2 (n : Nat) (a0 : WL rw_iiiiiiLu) (a1 : Int) (a2 : List R8) (a3 : WL rw_iiiiiiLu) (a4 : Int) (a5 : Int) : Option (List R8) :=
 if 0 ≤ a5 ∧ a5 < (((a0).l.length : Nat) : Int) then
  ((some (((a0).l).getD (a5).toNat (0, 0, 0, 0, 0, 0, nl0, 0)))).bind fun c2_ =>
  (m_treemovedq1 n (c2_.1) (c2_.2.1) (c2_.2.2.1) (c2_.2.2.2.1) (c2_.2.2.2.2.1) (c2_.2.2.2.2.2.1) (c2_.2.2.2.2.2.2.1) (c2_.2.2.2.2.2.2.2) a1).bind fun c3_ =>
  if ((a2).length + 1) * 80 ≤ 140737488355328 then
   some (a2 ++ [((c2_.1), (c2_.2.1), (c2_.2.2.1), (c2_.2.2.2.1), (c2_.2.2.2.2.1), (c2_.2.2.2.2.2.1), c3_, (c2_.2.2.2.2.2.2.2))])
  else none
 else none
theorem m_treeSub_111010y2_ok (n : Nat) (a0 : WL rw_iiiiiiLu) (a1 : Int) (a2 : List R8) (a3 : WL rw_iiiiiiLu) (a4 : Int) (a5 : Int) (r : List R8) (h : m_treeSub_111010y2 n a0 a1 a2 a3 a4 a5 = some r) : Gv P (.yield 0) (A_treeSub_111010y2 a0 a1 a2 a3 a4 a5) (H_treeSub_111010y2 a0 a1 a2 a3 a4 a5) (V_treeSub_111010y2 a0 a1 a2 a3 a4 a5 r) (R_treeSub_111010y2 a0 a1 a2 a3 a4 a5 r) := by
 unfold m_treeSub_111010y2 at h
 obtain ⟨hc1, h⟩ := gd h
 obtain ⟨c2_, hc2, h⟩ := oB h
 obtain ⟨c3_, hc3, h⟩ := oB h
 obtain ⟨hc4, h⟩ := gd h
 obtain rfl := oI h
 exact runY2 hm ⟨[], [(0, 0, false), (1, 1, false), (2, 2, false), (3, 3, false), (4, 4, false), (6, 6, false), (7, 7, false), (8, 17, true)], 9, 0, [], false, [], [], []⟩ (ee) (zz 4 (xk1 (a0).num (a0).off (a0).cap hc1) <|
  zz 5 (lk2 hc2 (toNatLt hc1)) <|
  yy 7 (.call (C_treemovedq1 (c2_.1) (c2_.2.1) (c2_.2.2.1) (c2_.2.2.2.1) (c2_.2.2.2.2.1) (c2_.2.2.2.2.2.1) (c2_.2.2.2.2.2.2.1) (c2_.2.2.2.2.2.2.2) a1 c3_ [(0, 3, false)] [(16, 1, false)])) <|
  ww (m_treemovedq1_ok n (c2_.1) (c2_.2.1) (c2_.2.2.1) (c2_.2.2.2.1) (c2_.2.2.2.2.1) (c2_.2.2.2.2.2.1) (c2_.2.2.2.2.2.2.1) (c2_.2.2.2.2.2.2.2) a1 c3_ hc3) <|
  yy 9 (.app ⟨none, rows rw_iiiiiiLu a2, (rows rw_iiiiiiLu (a2 ++ [((c2_.1), (c2_.2.1), (c2_.2.2.1), (c2_.2.2.2.1), (c2_.2.2.2.2.1), (c2_.2.2.2.2.2.1), c3_, (c2_.2.2.2.2.2.2.2))])), ((a2 ++ [((c2_.1), (c2_.2.1), (c2_.2.2.1), (c2_.2.2.2.1), (c2_.2.2.2.2.1), (c2_.2.2.2.2.2.1), c3_, (c2_.2.2.2.2.2.2.2))])).length, false⟩) <|
  ww (p := 0 < 1) ((by decide)) <|
  ww (p := rdT (layT (rows rw_iiiiiiLu a2)) (Nat.mul (a2).length 8) 0 = some (rows rw_iiiiiiLu a2)) (rows_rd rwf_iiiiiiLu _ _ rfl) <|
  ww (p := fits (Nat.add (a2).length 1) 80 = true) (fits_ok hc4 (by have := hc4; show (_ : Nat) + _ ≤ _; omega)) <|
  ww (p := allCells [(i6 (c2_.1)), (i6 (c2_.2.1)), (i6 (c2_.2.2.1)), (i6 (c2_.2.2.2.1)), (i6 (c2_.2.2.2.2.1)), (i6 (c2_.2.2.2.2.2.1)), (nlV c3_), (Value.int .u64 (c2_.2.2.2.2.2.2.2))] = true) (rfl) <|
  ww (p := allCells (rows rw_iiiiiiLu a2) = true) (rows_cells rwf_iiiiiiLu _) <|
  ww (p := rows rw_iiiiiiLu a2 ++ [(i6 (c2_.1)), (i6 (c2_.2.1)), (i6 (c2_.2.2.1)), (i6 (c2_.2.2.2.1)), (i6 (c2_.2.2.2.2.1)), (i6 (c2_.2.2.2.2.2.1)), (nlV c3_), (Value.int .u64 (c2_.2.2.2.2.2.2.2))] = (rows rw_iiiiiiLu (a2 ++ [((c2_.1), (c2_.2.1), (c2_.2.2.1), (c2_.2.2.2.1), (c2_.2.2.2.2.1), (c2_.2.2.2.2.2.1), c3_, (c2_.2.2.2.2.2.2.2))]))) (rows_app rw_iiiiiiLu a2 [((c2_.1), (c2_.2.1), (c2_.2.2.1), (c2_.2.2.2.1), (c2_.2.2.2.2.1), (c2_.2.2.2.2.2.1), c3_, (c2_.2.2.2.2.2.2.2))]) <|
  ww (p := Nat.add (a2).length 1 = ((a2 ++ [((c2_.1), (c2_.2.1), (c2_.2.2.1), (c2_.2.2.2.1), (c2_.2.2.2.2.1), (c2_.2.2.2.2.2.1), c3_, (c2_.2.2.2.2.2.2.2))])).length) (by simp) <|
  ww (rows_flat rwf_iiiiiiLu (a2 ++ [((c2_.1), (c2_.2.1), (c2_.2.2.1), (c2_.2.2.2.1), (c2_.2.2.2.2.1), (c2_.2.2.2.2.2.1), c3_, (c2_.2.2.2.2.2.2.2))]) 39) <|
  ee) (by kernel_rfl)

def A_treevisitq2 (a0 : WL rw_iiiiiiLu) (a1 : Int) (a2 : WL rw_iiiiiiLu) (a3 : Int) (a4 : List R8) (a5 : WL rw_iiiiiiLu) (a6 : Int) : List Value := [(wlV a0), (i6 a1), (Value.func (.yield 0) #[] #[])]
def H_treevisitq2 (a0 : WL rw_iiiiiiLu) (a1 : Int) (a2 : WL rw_iiiiiiLu) (a3 : Int) (a4 : List R8) (a5 : WL rw_iiiiiiLu) (a6 : Int) : AH := ⟨sB [(0, (some (rblk P 8 [false, true, false, true, true, true] .ready none [(2, (pN 2 0)), (3, (pN 3 0)), (5, (pN 4 0)), (13, (Value.func (.func 32) #[] #[(pN 6 0), (pN 7 0)]))] 1))), (1, (some (.marks true))), (2, (some (.cells (layT [(wlV a2)]) 22))), (3, (some (.cells (layT [(i6 a3)]) 3))), (4, (some (.cells (layT [(sN 5 0 (a4).length (Nat.add big 8))]) 22))), (5, (some (.cells (layT (rows rw_iiiiiiLu a4)) 39))), (6, (some (.cells (layT [(wlV a5)]) 22))), (7, (some (.cells (layT [(i6 a6)]) 3)))], 8, 8⟩
def V_treevisitq2 (a0 : WL rw_iiiiiiLu) (a1 : Int) (a2 : WL rw_iiiiiiLu) (a3 : Int) (a4 : List R8) (a5 : WL rw_iiiiiiLu) (a6 : Int) (r : List R8) : Value := match r with
 | o0 => (bO true)
def R_treevisitq2 (a0 : WL rw_iiiiiiLu) (a1 : Int) (a2 : WL rw_iiiiiiLu) (a3 : Int) (a4 : List R8) (a5 : WL rw_iiiiiiLu) (a6 : Int) (r : List R8) : AH := match r with
 | o0 => ⟨sB [(0, (some (rblk P 8 [false, true, false, true, true, true] .ready none [(2, (pN 2 0)), (3, (pN 3 0)), (5, (pN 4 0)), (13, (Value.func (.func 32) #[] #[(pN 6 0), (pN 7 0)]))] 1))), (1, (some (.marks true))), (2, (some (.cells (layT [(wlV a2)]) 22))), (3, (some (.cells (layT [(i6 a3)]) 3))), (4, (some (.cells (layT [(sN 8 0 (o0).length (Nat.add big 8))]) 22))), (6, (some (.cells (layT [(wlV a5)]) 22))), (7, (some (.cells (layT [(i6 a6)]) 3))), (8, (some (.cells (layT (rows rw_iiiiiiLu o0)) 39)))], 9, 0⟩
abbrev G_treevisitq2 (a0 : WL rw_iiiiiiLu) (a1 : Int) (a2 : WL rw_iiiiiiLu) (a3 : Int) (a4 : List R8) (a5 : WL rw_iiiiiiLu) (a6 : Int) (r : List R8) : Prop := Gv P (.func 33) (A_treevisitq2 a0 a1 a2 a3 a4 a5 a6) (H_treevisitq2 a0 a1 a2 a3 a4 a5 a6) (V_treevisitq2 a0 a1 a2 a3 a4 a5 a6 r) (R_treevisitq2 a0 a1 a2 a3 a4 a5 a6 r)
abbrev C_treevisitq2 (a0 : WL rw_iiiiiiLu) (a1 : Int) (a2 : WL rw_iiiiiiLu) (a3 : Int) (a4 : List R8) (a5 : WL rw_iiiiiiLu) (a6 : Int) (r : List R8) (ins outs : BL) : CallA := ⟨8, ins, V_treevisitq2 a0 a1 a2 a3 a4 a5 a6 r, R_treevisitq2 a0 a1 a2 a3 a4 a5 a6 r, outs⟩
def S_treevisitq2_1 (x1_0 : WL rw_iiiiiiLu) (x1_1 : Int) (x1_3 : WL rw_iiiiiiLu) (x1_4 : Int) (x1_5 : WL rw_iiiiiiLu) (x1_6 : NL) (x1_7 : Int) (st : List R8 × Int) : XSt := match st with
 | (x1_2, x1_8) => (sT 29 [(0, (wlV x1_5)), (2, (Value.func (.yield 0) #[] #[])), (17, (nlV x1_6)), (18, (i6 x1_7)), (19, (i6 x1_8))], [], ⟨sB [(0, (some (rblk P 8 [false, true, false, true, true, true] .ready none [(2, (pN 2 0)), (3, (pN 3 0)), (5, (pN 4 0)), (13, (Value.func (.func 32) #[] #[(pN 6 0), (pN 7 0)]))] 1))), (1, (some (.marks true))), (2, (some (.cells (layT [(wlV x1_0)]) 22))), (3, (some (.cells (layT [(i6 x1_1)]) 3))), (4, (some (.cells (layT [(sN 8 0 (x1_2).length (Nat.add big 8))]) 22))), (6, (some (.cells (layT [(wlV x1_3)]) 22))), (7, (some (.cells (layT [(i6 x1_4)]) 3))), (8, (some (.cells (layT (rows rw_iiiiiiLu x1_2)) 39)))], 9, 0⟩)
def X_treevisitq2_1 (x1_0 : WL rw_iiiiiiLu) (x1_1 : Int) (x1_3 : WL rw_iiiiiiLu) (x1_4 : Int) (x1_5 : WL rw_iiiiiiLu) (x1_6 : NL) (x1_7 : Int) (r : List R8) : Ex × XSt := match r with
 | z1_0 => (.exit 0, (sT 29 [], [], ⟨sB [(0, (some (rblk P 8 [false, true, false, true, true, true] .ready none [(2, (pN 2 0)), (3, (pN 3 0)), (5, (pN 4 0)), (13, (Value.func (.func 32) #[] #[(pN 6 0), (pN 7 0)]))] 1))), (1, (some (.marks true))), (2, (some (.cells (layT [(wlV x1_0)]) 22))), (3, (some (.cells (layT [(i6 x1_1)]) 3))), (4, (some (.cells (layT [(sN 8 0 (z1_0).length (Nat.add big 8))]) 22))), (6, (some (.cells (layT [(wlV x1_3)]) 22))), (7, (some (.cells (layT [(i6 x1_4)]) 3))), (8, (some (.cells (layT (rows rw_iiiiiiLu z1_0)) 39)))], 9, 0⟩))
abbrev Q_treevisitq2_1 (rnd : Option Nat) (x1_0 : WL rw_iiiiiiLu) (x1_1 : Int) (x1_3 : WL rw_iiiiiiLu) (x1_4 : Int) (x1_5 : WL rw_iiiiiiLu) (x1_6 : NL) (x1_7 : Int) (st : List R8 × Int) (c : Ex × XSt) : Prop := CG P rnd (fnN P 33) 8 (codeOf P 33 [false, false, true, false, true, true]) (S_treevisitq2_1 x1_0 x1_1 x1_3 x1_4 x1_5 x1_6 x1_7 st) c
abbrev U_treevisitq2_1 (rd : Option Nat) (x1_0 : WL rw_iiiiiiLu) (x1_1 : Int) (x1_3 : WL rw_iiiiiiLu) (x1_4 : Int) (x1_5 : WL rw_iiiiiiLu) (x1_6 : NL) (x1_7 : Int) (st : List R8 × Int) (r : List R8) : Prop := CG P rd (fnN P 33) 8 (codeOf P 33 [false, true, false, true, true]) (S_treevisitq2_1 x1_0 x1_1 x1_3 x1_4 x1_5 x1_6 x1_7 st) (X_treevisitq2_1 x1_0 x1_1 x1_3 x1_4 x1_5 x1_6 x1_7 r)
def B_treevisitq2_1 (rec_treevisitq2 : (WL rw_iiiiiiLu) → (Int) → (WL rw_iiiiiiLu) → (Int) → (List R8) → (WL rw_iiiiiiLu) → (Int) → Option (List R8)) (n : Nat) (x1_0 : WL rw_iiiiiiLu) (x1_1 : Int) (x1_3 : WL rw_iiiiiiLu) (x1_4 : Int) (x1_5 : WL rw_iiiiiiLu) (x1_6 : NL) (x1_7 : Int) (st : List R8 × Int) : Option ((List R8 × Int) ⊕ (List R8)) := match st with
 | (x1_2, x1_8) =>
  if x1_8 < x1_7 then
   if 0 ≤ x1_8 ∧ x1_8 < (((x1_6).l.length : Nat) : Int) then
    if (x1_8).toNat < ((x1_6).l).length then
     ((some (((x1_6).l).getD (x1_8).toNat 0))).bind fun y1_4_ =>
     (rec_treevisitq2 x1_5 y1_4_ x1_0 x1_1 x1_2 x1_3 x1_4).bind fun y1_5_ =>
     some (.inl (y1_5_, (w64 (x1_8 + (1 : Int)))))
    else none
   else none
  else
   some (.inr x1_2)
def m_treevisitq2_1 (rec_treevisitq2 : (WL rw_iiiiiiLu) → (Int) → (WL rw_iiiiiiLu) → (Int) → (List R8) → (WL rw_iiiiiiLu) → (Int) → Option (List R8)) (n : Nat) (x1_0 : WL rw_iiiiiiLu) (x1_1 : Int) (x1_3 : WL rw_iiiiiiLu) (x1_4 : Int) (x1_5 : WL rw_iiiiiiLu) (x1_6 : NL) (x1_7 : Int) (st : List R8 × Int) : Option (List R8) := iterM (B_treevisitq2_1 rec_treevisitq2 n x1_0 x1_1 x1_3 x1_4 x1_5 x1_6 x1_7) n st
theorem b_treevisitq2_1 (rec_treevisitq2 : (WL rw_iiiiiiLu) → (Int) → (WL rw_iiiiiiLu) → (Int) → (List R8) → (WL rw_iiiiiiLu) → (Int) → Option (List R8)) (hrec_treevisitq2 : ∀ (a0 : WL rw_iiiiiiLu) (a1 : Int) (a2 : WL rw_iiiiiiLu) (a3 : Int) (a4 : List R8) (a5 : WL rw_iiiiiiLu) (a6 : Int) (r : List R8), rec_treevisitq2 a0 a1 a2 a3 a4 a5 a6 = some r → Gv P (.func 33) (A_treevisitq2 a0 a1 a2 a3 a4 a5 a6) (H_treevisitq2 a0 a1 a2 a3 a4 a5 a6) (V_treevisitq2 a0 a1 a2 a3 a4 a5 a6 r) (R_treevisitq2 a0 a1 a2 a3 a4 a5 a6 r)) (n : Nat) {rnd : Option Nat} (x1_0 : WL rw_iiiiiiLu) (x1_1 : Int) (x1_3 : WL rw_iiiiiiLu) (x1_4 : Int) (x1_5 : WL rw_iiiiiiLu) (x1_6 : NL) (x1_7 : Int) (st : List R8 × Int) (o : (List R8 × Int) ⊕ (List R8)) (h : B_treevisitq2_1 rec_treevisitq2 n x1_0 x1_1 x1_3 x1_4 x1_5 x1_6 x1_7 st = some o) : CG P rnd (fnN P 33) 8 (codeOf P 33 [false, false, true, false, true, true]) (S_treevisitq2_1 x1_0 x1_1 x1_3 x1_4 x1_5 x1_6 x1_7 st) (Sum.elim (fun s => (.normal, S_treevisitq2_1 x1_0 x1_1 x1_3 x1_4 x1_5 x1_6 x1_7 s)) (fun r => X_treevisitq2_1 x1_0 x1_1 x1_3 x1_4 x1_5 x1_6 x1_7 r) o) := by
 obtain ⟨x1_2, x1_8⟩ := st
 unfold B_treevisitq2_1 at h
 dsimp only at h
 by_cases hy1_1 : x1_8 < x1_7
 ·rw [if_pos hy1_1] at h
  obtain ⟨hy1_2, h⟩ := gd h
  obtain ⟨hy1_3, h⟩ := gd h
  obtain ⟨y1_4_, hy1_4, h⟩ := oB h
  obtain ⟨y1_5_, hy1_5, h⟩ := oB h
  obtain rfl := oI h
  exact runC2 hm ⟨[0, 2, 17, 18, 19], [(0, 0, false), (1, 1, false), (2, 2, false), (3, 3, false), (4, 4, false), (6, 6, false), (7, 7, false), (8, 9, true)], 9, 0, [], false, [], [], []⟩ (zz 1 (xdT hy1_1) <|
   zz 7 (xk6 (Nat.add (x1_6).num 64) (x1_6).off (x1_6).cap hy1_2) <|
   zz 8 (nk7 hy1_4 hy1_3) <|
   yy 14 (.call (C_treevisitq2 x1_5 y1_4_ x1_0 x1_1 x1_2 x1_3 x1_4 y1_5_ [(0, 0, false), (1, 1, false), (2, 2, false), (3, 3, false), (4, 4, false), (5, 8, true), (6, 6, false), (7, 7, false)] [(0, 0, false), (1, 1, false), (2, 2, false), (3, 3, false), (4, 4, false), (6, 6, false), (7, 7, false), (9, 8, true)])) <|
   ww (hrec_treevisitq2 x1_5 y1_4_ x1_0 x1_1 x1_2 x1_3 x1_4 y1_5_ hy1_5) <|
   ww (rows_flat rwf_iiiiiiLu x1_2 39) <|
   ww (rows_flat rwf_iiiiiiLu y1_5_ 39) <|
   ww (rows_flat rwf_iiiiiiLu y1_5_ 39) <|
   ee) (by kernel_rfl)
 ·rw [if_neg hy1_1] at h
  obtain rfl := oI h
  exact runC2 hm ⟨[], [(0, 0, false), (1, 1, false), (2, 2, false), (3, 3, false), (4, 4, false), (6, 6, false), (7, 7, false), (8, 8, true)], 9, 0, [], false, [], [], []⟩ (zz 1 (xdF hy1_1) <|
   ww (rows_flat rwf_iiiiiiLu x1_2 39) <|
   ee) (by kernel_rfl)
theorem m_treevisitq2_1_ok (rec_treevisitq2 : (WL rw_iiiiiiLu) → (Int) → (WL rw_iiiiiiLu) → (Int) → (List R8) → (WL rw_iiiiiiLu) → (Int) → Option (List R8)) (hrec_treevisitq2 : ∀ (a0 : WL rw_iiiiiiLu) (a1 : Int) (a2 : WL rw_iiiiiiLu) (a3 : Int) (a4 : List R8) (a5 : WL rw_iiiiiiLu) (a6 : Int) (r : List R8), rec_treevisitq2 a0 a1 a2 a3 a4 a5 a6 = some r → Gv P (.func 33) (A_treevisitq2 a0 a1 a2 a3 a4 a5 a6) (H_treevisitq2 a0 a1 a2 a3 a4 a5 a6) (V_treevisitq2 a0 a1 a2 a3 a4 a5 a6 r) (R_treevisitq2 a0 a1 a2 a3 a4 a5 a6 r)) (n : Nat) {rnd : Option Nat} (x1_0 : WL rw_iiiiiiLu) (x1_1 : Int) (x1_3 : WL rw_iiiiiiLu) (x1_4 : Int) (x1_5 : WL rw_iiiiiiLu) (x1_6 : NL) (x1_7 : Int) (st : List R8 × Int) (r : List R8) (h : m_treevisitq2_1 rec_treevisitq2 n x1_0 x1_1 x1_3 x1_4 x1_5 x1_6 x1_7 st = some r) : CG P rnd (fnN P 33) 8 (codeOf P 33 [false, true, false, true, true]) (S_treevisitq2_1 x1_0 x1_1 x1_3 x1_4 x1_5 x1_6 x1_7 st) (X_treevisitq2_1 x1_0 x1_1 x1_3 x1_4 x1_5 x1_6 x1_7 r) :=
 CG.iter (b := codeOf P 33 [false, false, true, false, true, true]) (by kernel_rfl) (body := B_treevisitq2_1 rec_treevisitq2 n x1_0 x1_1 x1_3 x1_4 x1_5 x1_6 x1_7) (S := S_treevisitq2_1 x1_0 x1_1 x1_3 x1_4 x1_5 x1_6 x1_7) (X := X_treevisitq2_1 x1_0 x1_1 x1_3 x1_4 x1_5 x1_6 x1_7)
  (fun s s' h => b_treevisitq2_1 rec_treevisitq2 hrec_treevisitq2 n x1_0 x1_1 x1_3 x1_4 x1_5 x1_6 x1_7 s (.inl s') h)
  (fun s r h => b_treevisitq2_1 rec_treevisitq2 hrec_treevisitq2 n x1_0 x1_1 x1_3 x1_4 x1_5 x1_6 x1_7 s (.inr r) h)
  (fun r => by intro hx; cases hx) h
def s_treevisitq2 (rec_treevisitq2 : (WL rw_iiiiiiLu) → (Int) → (WL rw_iiiiiiLu) → (Int) → (List R8) → (WL rw_iiiiiiLu) → (Int) → Option (List R8)) (n : Nat) (a0 : WL rw_iiiiiiLu) (a1 : Int) (a2 : WL rw_iiiiiiLu) (a3 : Int) (a4 : List R8) (a5 : WL rw_iiiiiiLu) (a6 : Int) : Option (List R8) :=
 (m_treeSub_111010y2 n a2 a3 a4 a5 a6 a1).bind fun c1_ =>
 if 0 ≤ a1 ∧ a1 < (((a0).l.length : Nat) : Int) then
  ((some (((a0).l).getD (a1).toNat (0, 0, 0, 0, 0, 0, nl0, 0)))).bind fun c3_ =>
  (m_treevisitq2_1 rec_treevisitq2 n a2 a3 a5 a6 a0 (c3_.2.2.2.2.2.2.1) ((((c3_.2.2.2.2.2.2.1)).l.length : Nat) : Int) (c1_, 0)).bind fun c4_ =>
  some c4_
 else none
theorem s_treevisitq2_ok (rec_treevisitq2 : (WL rw_iiiiiiLu) → (Int) → (WL rw_iiiiiiLu) → (Int) → (List R8) → (WL rw_iiiiiiLu) → (Int) → Option (List R8)) (hrec_treevisitq2 : ∀ (a0 : WL rw_iiiiiiLu) (a1 : Int) (a2 : WL rw_iiiiiiLu) (a3 : Int) (a4 : List R8) (a5 : WL rw_iiiiiiLu) (a6 : Int) (r : List R8), rec_treevisitq2 a0 a1 a2 a3 a4 a5 a6 = some r → Gv P (.func 33) (A_treevisitq2 a0 a1 a2 a3 a4 a5 a6) (H_treevisitq2 a0 a1 a2 a3 a4 a5 a6) (V_treevisitq2 a0 a1 a2 a3 a4 a5 a6 r) (R_treevisitq2 a0 a1 a2 a3 a4 a5 a6 r)) (n : Nat) (a0 : WL rw_iiiiiiLu) (a1 : Int) (a2 : WL rw_iiiiiiLu) (a3 : Int) (a4 : List R8) (a5 : WL rw_iiiiiiLu) (a6 : Int) (r : List R8) (h : s_treevisitq2 rec_treevisitq2 n a0 a1 a2 a3 a4 a5 a6 = some r) : Gv P (.func 33) (A_treevisitq2 a0 a1 a2 a3 a4 a5 a6) (H_treevisitq2 a0 a1 a2 a3 a4 a5 a6) (V_treevisitq2 a0 a1 a2 a3 a4 a5 a6 r) (R_treevisitq2 a0 a1 a2 a3 a4 a5 a6 r) := by
 unfold s_treevisitq2 at h
 obtain ⟨c1_, hc1, h⟩ := oB h
 obtain ⟨hc2, h⟩ := gd h
 obtain ⟨c3_, hc3, h⟩ := oB h
 obtain ⟨c4_, hc4, h⟩ := oB h
 obtain rfl := oI h
 exact runF2 hm ⟨[6], [(0, 0, false), (1, 1, false), (2, 2, false), (3, 3, false), (4, 4, false), (6, 6, false), (7, 7, false), (8, 8, true)], 9, 0, [], false, [], [], []⟩ (yy 6 (.call (C_treeSub_111010y2 a2 a3 a4 a5 a6 a1 c1_ [(0, 0, false), (1, 1, false), (2, 2, false), (3, 3, false), (4, 4, false), (5, 5, true), (6, 6, false), (7, 7, false)] [(0, 0, false), (1, 1, false), (2, 2, false), (3, 3, false), (4, 4, false), (6, 6, false), (7, 7, false), (8, 8, true)])) <|
  ww (m_treeSub_111010y2_ok n a2 a3 a4 a5 a6 a1 c1_ hc1) <|
  ww (rows_flat rwf_iiiiiiLu a4 39) <|
  ww (rows_flat rwf_iiiiiiLu c1_ 39) <|
  zz 13 (xk1 (a0).num (a0).off (a0).cap hc2) <|
  zz 14 (fk10 (a0).num (Nat.add (a0).off ((a1).toNat * 8))) <|
  zz 15 (lk11 hc3 (toNatLt hc2)) <|
  ww (p := U_treevisitq2_1 none a2 a3 a5 a6 a0 (c3_.2.2.2.2.2.2.1) ((((c3_.2.2.2.2.2.2.1)).l.length : Nat) : Int) (c1_, 0) c4_) (m_treevisitq2_1_ok rec_treevisitq2 hrec_treevisitq2 n a2 a3 a5 a6 a0 (c3_.2.2.2.2.2.2.1) ((((c3_.2.2.2.2.2.2.1)).l.length : Nat) : Int) (c1_, 0) c4_ hc4) <|
  ww (rows_flat rwf_iiiiiiLu c1_ 39) <|
  ll 19 ⟨⟨[0, 2, 17, 18, 19], [(0, 0, false), (1, 1, false), (2, 2, false), (3, 3, false), (4, 4, false), (6, 6, false), (7, 7, false), (8, 8, true)], 9, 0, [], false, [], [], []⟩, (X_treevisitq2_1 a2 a3 a5 a6 a0 (c3_.2.2.2.2.2.2.1) ((((c3_.2.2.2.2.2.2.1)).l.length : Nat) : Int) c4_).1, (X_treevisitq2_1 a2 a3 a5 a6 a0 (c3_.2.2.2.2.2.2.1) ((((c3_.2.2.2.2.2.2.1)).l.length : Nat) : Int) c4_).2⟩ <|
  ww (rows_flat rwf_iiiiiiLu c4_ 39) <|
  ee) (by kernel_rfl)
def m_treevisitq2 : Nat → (WL rw_iiiiiiLu) → (Int) → (WL rw_iiiiiiLu) → (Int) → (List R8) → (WL rw_iiiiiiLu) → (Int) → Option (List R8)
 | 0 => fun _ _ _ _ _ _ _ => none
 | n + 1 => fun a0 a1 a2 a3 a4 a5 a6 => s_treevisitq2 (m_treevisitq2 n) n a0 a1 a2 a3 a4 a5 a6
theorem m_treevisitq2_ok : ∀ (n : Nat) (a0 : WL rw_iiiiiiLu) (a1 : Int) (a2 : WL rw_iiiiiiLu) (a3 : Int) (a4 : List R8) (a5 : WL rw_iiiiiiLu) (a6 : Int) (r : List R8) (h : m_treevisitq2 n a0 a1 a2 a3 a4 a5 a6 = some r), Gv P (.func 33) (A_treevisitq2 a0 a1 a2 a3 a4 a5 a6) (H_treevisitq2 a0 a1 a2 a3 a4 a5 a6) (V_treevisitq2 a0 a1 a2 a3 a4 a5 a6 r) (R_treevisitq2 a0 a1 a2 a3 a4 a5 a6 r)
 | 0, _, _, _, _, _, _, _, _, h => nomatch h
 | n + 1, a0, a1, a2, a3, a4, a5, a6, r, h => s_treevisitq2_ok (m_treevisitq2 n) (m_treevisitq2_ok n) n a0 a1 a2 a3 a4 a5 a6 r h

def A_treevisitq1 (a0 : WL rw_iiiiiiLu) (a1 : Int) (a2 : WL rw_iiiiiiLu) (a3 : Int) (a4 : WL rw_iiiiiiLu) (a5 : Int) : List Value := [(wlV a0), (i6 a1), (Value.func (.yield 0) #[] #[])]
def H_treevisitq1 (a0 : WL rw_iiiiiiLu) (a1 : Int) (a2 : WL rw_iiiiiiLu) (a3 : Int) (a4 : WL rw_iiiiiiLu) (a5 : Int) : AH := ⟨sB [(0, (some (rblk P 8 [false, true, false, true, true, true] .ready none [(2, (pN 2 0)), (3, (pN 3 0)), (5, (pN 4 0)), (13, (Value.func (.func 32) #[] #[(pN 5 0), (pN 6 0)]))] 1))), (1, (some (.marks true))), (2, (some (.cells (layT [(wlV a2)]) 22))), (3, (some (.cells (layT [(i6 a3)]) 3))), (4, (some (.cells (layT [(Value.slice none 0 0)]) 22))), (5, (some (.cells (layT [(wlV a4)]) 22))), (6, (some (.cells (layT [(i6 a5)]) 3)))], 7, 7⟩
def V_treevisitq1 (a0 : WL rw_iiiiiiLu) (a1 : Int) (a2 : WL rw_iiiiiiLu) (a3 : Int) (a4 : WL rw_iiiiiiLu) (a5 : Int) (r : List R8) : Value := match r with
 | o0 => (bO true)
def R_treevisitq1 (a0 : WL rw_iiiiiiLu) (a1 : Int) (a2 : WL rw_iiiiiiLu) (a3 : Int) (a4 : WL rw_iiiiiiLu) (a5 : Int) (r : List R8) : AH := match r with
 | o0 => ⟨sB [(0, (some (rblk P 8 [false, true, false, true, true, true] .ready none [(2, (pN 2 0)), (3, (pN 3 0)), (5, (pN 4 0)), (13, (Value.func (.func 32) #[] #[(pN 5 0), (pN 6 0)]))] 1))), (1, (some (.marks true))), (2, (some (.cells (layT [(wlV a2)]) 22))), (3, (some (.cells (layT [(i6 a3)]) 3))), (4, (some (.cells (layT [(sN 7 0 (o0).length (Nat.add big 8))]) 22))), (5, (some (.cells (layT [(wlV a4)]) 22))), (6, (some (.cells (layT [(i6 a5)]) 3))), (7, (some (.cells (layT (rows rw_iiiiiiLu o0)) 39)))], 8, 0⟩
abbrev G_treevisitq1 (a0 : WL rw_iiiiiiLu) (a1 : Int) (a2 : WL rw_iiiiiiLu) (a3 : Int) (a4 : WL rw_iiiiiiLu) (a5 : Int) (r : List R8) : Prop := Gv P (.func 33) (A_treevisitq1 a0 a1 a2 a3 a4 a5) (H_treevisitq1 a0 a1 a2 a3 a4 a5) (V_treevisitq1 a0 a1 a2 a3 a4 a5 r) (R_treevisitq1 a0 a1 a2 a3 a4 a5 r)
abbrev C_treevisitq1 (a0 : WL rw_iiiiiiLu) (a1 : Int) (a2 : WL rw_iiiiiiLu) (a3 : Int) (a4 : WL rw_iiiiiiLu) (a5 : Int) (r : List R8) (ins outs : BL) : CallA := ⟨7, ins, V_treevisitq1 a0 a1 a2 a3 a4 a5 r, R_treevisitq1 a0 a1 a2 a3 a4 a5 r, outs⟩
def S_treevisitq1_1 (x1_0 : WL rw_iiiiiiLu) (x1_1 : Int) (x1_3 : WL rw_iiiiiiLu) (x1_4 : Int) (x1_5 : WL rw_iiiiiiLu) (x1_6 : NL) (x1_7 : Int) (st : List R8 × Int) : XSt := match st with
 | (x1_2, x1_8) => (sT 29 [(0, (wlV x1_5)), (2, (Value.func (.yield 0) #[] #[])), (17, (nlV x1_6)), (18, (i6 x1_7)), (19, (i6 x1_8))], [], ⟨sB [(0, (some (rblk P 8 [false, true, false, true, true, true] .ready none [(2, (pN 2 0)), (3, (pN 3 0)), (5, (pN 4 0)), (13, (Value.func (.func 32) #[] #[(pN 5 0), (pN 6 0)]))] 1))), (1, (some (.marks true))), (2, (some (.cells (layT [(wlV x1_0)]) 22))), (3, (some (.cells (layT [(i6 x1_1)]) 3))), (4, (some (.cells (layT [(sN 7 0 (x1_2).length (Nat.add big 8))]) 22))), (5, (some (.cells (layT [(wlV x1_3)]) 22))), (6, (some (.cells (layT [(i6 x1_4)]) 3))), (7, (some (.cells (layT (rows rw_iiiiiiLu x1_2)) 39)))], 8, 0⟩)
def X_treevisitq1_1 (x1_0 : WL rw_iiiiiiLu) (x1_1 : Int) (x1_3 : WL rw_iiiiiiLu) (x1_4 : Int) (x1_5 : WL rw_iiiiiiLu) (x1_6 : NL) (x1_7 : Int) (r : List R8) : Ex × XSt := match r with
 | z1_0 => (.exit 0, (sT 29 [], [], ⟨sB [(0, (some (rblk P 8 [false, true, false, true, true, true] .ready none [(2, (pN 2 0)), (3, (pN 3 0)), (5, (pN 4 0)), (13, (Value.func (.func 32) #[] #[(pN 5 0), (pN 6 0)]))] 1))), (1, (some (.marks true))), (2, (some (.cells (layT [(wlV x1_0)]) 22))), (3, (some (.cells (layT [(i6 x1_1)]) 3))), (4, (some (.cells (layT [(sN 7 0 (z1_0).length (Nat.add big 8))]) 22))), (5, (some (.cells (layT [(wlV x1_3)]) 22))), (6, (some (.cells (layT [(i6 x1_4)]) 3))), (7, (some (.cells (layT (rows rw_iiiiiiLu z1_0)) 39)))], 8, 0⟩))
abbrev Q_treevisitq1_1 (rnd : Option Nat) (x1_0 : WL rw_iiiiiiLu) (x1_1 : Int) (x1_3 : WL rw_iiiiiiLu) (x1_4 : Int) (x1_5 : WL rw_iiiiiiLu) (x1_6 : NL) (x1_7 : Int) (st : List R8 × Int) (c : Ex × XSt) : Prop := CG P rnd (fnN P 33) 7 (codeOf P 33 [false, false, true, false, true, true]) (S_treevisitq1_1 x1_0 x1_1 x1_3 x1_4 x1_5 x1_6 x1_7 st) c
abbrev U_treevisitq1_1 (rd : Option Nat) (x1_0 : WL rw_iiiiiiLu) (x1_1 : Int) (x1_3 : WL rw_iiiiiiLu) (x1_4 : Int) (x1_5 : WL rw_iiiiiiLu) (x1_6 : NL) (x1_7 : Int) (st : List R8 × Int) (r : List R8) : Prop := CG P rd (fnN P 33) 7 (codeOf P 33 [false, true, false, true, true]) (S_treevisitq1_1 x1_0 x1_1 x1_3 x1_4 x1_5 x1_6 x1_7 st) (X_treevisitq1_1 x1_0 x1_1 x1_3 x1_4 x1_5 x1_6 x1_7 r)
def B_treevisitq1_1 (n : Nat) (x1_0 : WL rw_iiiiiiLu) (x1_1 : Int) (x1_3 : WL rw_iiiiiiLu) (x1_4 : Int) (x1_5 : WL rw_iiiiiiLu) (x1_6 : NL) (x1_7 : Int) (st : List R8 × Int) : Option ((List R8 × Int) ⊕ (List R8)) := match st with
 | (x1_2, x1_8) =>
  if x1_8 < x1_7 then
   if 0 ≤ x1_8 ∧ x1_8 < (((x1_6).l.length : Nat) : Int) then
    if (x1_8).toNat < ((x1_6).l).length then
     ((some (((x1_6).l).getD (x1_8).toNat 0))).bind fun y1_4_ =>
     (m_treevisitq2 n x1_5 y1_4_ x1_0 x1_1 x1_2 x1_3 x1_4).bind fun y1_5_ =>
     some (.inl (y1_5_, (w64 (x1_8 + (1 : Int)))))
    else none
   else none
  else
   some (.inr x1_2)
def m_treevisitq1_1 (n : Nat) (x1_0 : WL rw_iiiiiiLu) (x1_1 : Int) (x1_3 : WL rw_iiiiiiLu) (x1_4 : Int) (x1_5 : WL rw_iiiiiiLu) (x1_6 : NL) (x1_7 : Int) (st : List R8 × Int) : Option (List R8) := iterM (B_treevisitq1_1 n x1_0 x1_1 x1_3 x1_4 x1_5 x1_6 x1_7) n st
theorem b_treevisitq1_1 (n : Nat) {rnd : Option Nat} (x1_0 : WL rw_iiiiiiLu) (x1_1 : Int) (x1_3 : WL rw_iiiiiiLu) (x1_4 : Int) (x1_5 : WL rw_iiiiiiLu) (x1_6 : NL) (x1_7 : Int) (st : List R8 × Int) (o : (List R8 × Int) ⊕ (List R8)) (h : B_treevisitq1_1 n x1_0 x1_1 x1_3 x1_4 x1_5 x1_6 x1_7 st = some o) : CG P rnd (fnN P 33) 7 (codeOf P 33 [false, false, true, false, true, true]) (S_treevisitq1_1 x1_0 x1_1 x1_3 x1_4 x1_5 x1_6 x1_7 st) (Sum.elim (fun s => (.normal, S_treevisitq1_1 x1_0 x1_1 x1_3 x1_4 x1_5 x1_6 x1_7 s)) (fun r => X_treevisitq1_1 x1_0 x1_1 x1_3 x1_4 x1_5 x1_6 x1_7 r) o) := by
 obtain ⟨x1_2, x1_8⟩ := st
 unfold B_treevisitq1_1 at h
 dsimp only at h
 by_cases hy1_1 : x1_8 < x1_7
 ·rw [if_pos hy1_1] at h
  obtain ⟨hy1_2, h⟩ := gd h
  obtain ⟨hy1_3, h⟩ := gd h
  obtain ⟨y1_4_, hy1_4, h⟩ := oB h
  obtain ⟨y1_5_, hy1_5, h⟩ := oB h
  obtain rfl := oI h
  exact runC2 hm ⟨[0, 2, 17, 18, 19], [(0, 0, false), (1, 1, false), (2, 2, false), (3, 3, false), (4, 4, false), (5, 5, false), (6, 6, false), (7, 8, true)], 8, 0, [], false, [], [], []⟩ (zz 1 (xdT hy1_1) <|
   zz 7 (xk6 (Nat.add (x1_6).num 64) (x1_6).off (x1_6).cap hy1_2) <|
   zz 8 (nk7 hy1_4 hy1_3) <|
   yy 14 (.call (C_treevisitq2 x1_5 y1_4_ x1_0 x1_1 x1_2 x1_3 x1_4 y1_5_ [(0, 0, false), (1, 1, false), (2, 2, false), (3, 3, false), (4, 4, false), (5, 7, true), (6, 5, false), (7, 6, false)] [(0, 0, false), (1, 1, false), (2, 2, false), (3, 3, false), (4, 4, false), (5, 6, false), (6, 7, false), (8, 8, true)])) <|
   ww (m_treevisitq2_ok n x1_5 y1_4_ x1_0 x1_1 x1_2 x1_3 x1_4 y1_5_ hy1_5) <|
   ww (rows_flat rwf_iiiiiiLu x1_2 39) <|
   ww (rows_flat rwf_iiiiiiLu y1_5_ 39) <|
   ww (rows_flat rwf_iiiiiiLu y1_5_ 39) <|
   ee) (by kernel_rfl)
 ·rw [if_neg hy1_1] at h
  obtain rfl := oI h
  exact runC2 hm ⟨[], [(0, 0, false), (1, 1, false), (2, 2, false), (3, 3, false), (4, 4, false), (5, 5, false), (6, 6, false), (7, 7, true)], 8, 0, [], false, [], [], []⟩ (zz 1 (xdF hy1_1) <|
   ww (rows_flat rwf_iiiiiiLu x1_2 39) <|
   ee) (by kernel_rfl)
theorem m_treevisitq1_1_ok (n : Nat) {rnd : Option Nat} (x1_0 : WL rw_iiiiiiLu) (x1_1 : Int) (x1_3 : WL rw_iiiiiiLu) (x1_4 : Int) (x1_5 : WL rw_iiiiiiLu) (x1_6 : NL) (x1_7 : Int) (st : List R8 × Int) (r : List R8) (h : m_treevisitq1_1 n x1_0 x1_1 x1_3 x1_4 x1_5 x1_6 x1_7 st = some r) : CG P rnd (fnN P 33) 7 (codeOf P 33 [false, true, false, true, true]) (S_treevisitq1_1 x1_0 x1_1 x1_3 x1_4 x1_5 x1_6 x1_7 st) (X_treevisitq1_1 x1_0 x1_1 x1_3 x1_4 x1_5 x1_6 x1_7 r) :=
 CG.iter (b := codeOf P 33 [false, false, true, false, true, true]) (by kernel_rfl) (body := B_treevisitq1_1 n x1_0 x1_1 x1_3 x1_4 x1_5 x1_6 x1_7) (S := S_treevisitq1_1 x1_0 x1_1 x1_3 x1_4 x1_5 x1_6 x1_7) (X := X_treevisitq1_1 x1_0 x1_1 x1_3 x1_4 x1_5 x1_6 x1_7)
  (fun s s' h => b_treevisitq1_1 n x1_0 x1_1 x1_3 x1_4 x1_5 x1_6 x1_7 s (.inl s') h)
  (fun s r h => b_treevisitq1_1 n x1_0 x1_1 x1_3 x1_4 x1_5 x1_6 x1_7 s (.inr r) h)
  (fun r => by intro hx; cases hx) h
def m_treevisitq1 (n : Nat) (a0 : WL rw_iiiiiiLu) (a1 : Int) (a2 : WL rw_iiiiiiLu) (a3 : Int) (a4 : WL rw_iiiiiiLu) (a5 : Int) : Option (List R8) :=
 (m_treeSub_111010y1 n a2 a3 a4 a5 a1).bind fun t => match t with
 | (c1_0, c1_1, c1_2, c1_3, c1_4, c1_5, c1_6, c1_7) =>
  if 0 ≤ a1 ∧ a1 < (((a0).l.length : Nat) : Int) then
   ((some (((a0).l).getD (a1).toNat (0, 0, 0, 0, 0, 0, nl0, 0)))).bind fun c3_ =>
   (m_treevisitq1_1 n a2 a3 a4 a5 a0 (c3_.2.2.2.2.2.2.1) ((((c3_.2.2.2.2.2.2.1)).l.length : Nat) : Int) ([(c1_0, c1_1, c1_2, c1_3, c1_4, c1_5, c1_6, c1_7)], 0)).bind fun c4_ =>
   some c4_
  else none
theorem m_treevisitq1_ok (n : Nat) (a0 : WL rw_iiiiiiLu) (a1 : Int) (a2 : WL rw_iiiiiiLu) (a3 : Int) (a4 : WL rw_iiiiiiLu) (a5 : Int) (r : List R8) (h : m_treevisitq1 n a0 a1 a2 a3 a4 a5 = some r) : Gv P (.func 33) (A_treevisitq1 a0 a1 a2 a3 a4 a5) (H_treevisitq1 a0 a1 a2 a3 a4 a5) (V_treevisitq1 a0 a1 a2 a3 a4 a5 r) (R_treevisitq1 a0 a1 a2 a3 a4 a5 r) := by
 unfold m_treevisitq1 at h
 obtain ⟨⟨c1_0, c1_1, c1_2, c1_3, c1_4, c1_5, c1_6, c1_7⟩, hc1, h⟩ := oB h
 dsimp only at h
 obtain ⟨hc2, h⟩ := gd h
 obtain ⟨c3_, hc3, h⟩ := oB h
 obtain ⟨c4_, hc4, h⟩ := oB h
 obtain rfl := oI h
 exact runF2 hm ⟨[6], [(0, 0, false), (1, 1, false), (2, 2, false), (3, 3, false), (4, 4, false), (5, 5, false), (6, 6, false), (7, 7, true)], 8, 0, [], false, [], [], []⟩ (yy 6 (.call (C_treeSub_111010y1 a2 a3 a4 a5 a1 (c1_0, c1_1, c1_2, c1_3, c1_4, c1_5, c1_6, c1_7) [(0, 0, false), (1, 1, false), (2, 2, false), (3, 3, false), (4, 4, false), (5, 5, false), (6, 6, false)] [(0, 0, false), (1, 1, false), (2, 2, false), (3, 3, false), (4, 4, false), (5, 5, false), (6, 6, false), (7, 7, false)])) <|
  ww (m_treeSub_111010y1_ok n a2 a3 a4 a5 a1 (c1_0, c1_1, c1_2, c1_3, c1_4, c1_5, c1_6, c1_7) hc1) <|
  zz 13 (xk1 (a0).num (a0).off (a0).cap hc2) <|
  zz 14 (fk10 (a0).num (Nat.add (a0).off ((a1).toNat * 8))) <|
  zz 15 (lk11 hc3 (toNatLt hc2)) <|
  ww (p := U_treevisitq1_1 none a2 a3 a4 a5 a0 (c3_.2.2.2.2.2.2.1) ((((c3_.2.2.2.2.2.2.1)).l.length : Nat) : Int) ([(c1_0, c1_1, c1_2, c1_3, c1_4, c1_5, c1_6, c1_7)], 0) c4_) (m_treevisitq1_1_ok n a2 a3 a4 a5 a0 (c3_.2.2.2.2.2.2.1) ((((c3_.2.2.2.2.2.2.1)).l.length : Nat) : Int) ([(c1_0, c1_1, c1_2, c1_3, c1_4, c1_5, c1_6, c1_7)], 0) c4_ hc4) <|
  ll 19 ⟨⟨[0, 2, 17, 18, 19], [(0, 0, false), (1, 1, false), (2, 2, false), (3, 3, false), (4, 4, false), (5, 5, false), (6, 6, false), (7, 7, false)], 8, 0, [], false, [], [], []⟩, (X_treevisitq1_1 a2 a3 a4 a5 a0 (c3_.2.2.2.2.2.2.1) ((((c3_.2.2.2.2.2.2.1)).l.length : Nat) : Int) c4_).1, (X_treevisitq1_1 a2 a3 a4 a5 a0 (c3_.2.2.2.2.2.2.1) ((((c3_.2.2.2.2.2.2.1)).l.length : Nat) : Int) c4_).2⟩ <|
  ww (rows_flat rwf_iiiiiiLu c4_ 39) <|
  ee) (by kernel_rfl)


end Go.Proofs.Ytdoidamfhkbgdaa.tpt16
