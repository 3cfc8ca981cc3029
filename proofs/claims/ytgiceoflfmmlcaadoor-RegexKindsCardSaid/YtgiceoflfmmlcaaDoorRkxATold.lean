/-
  What functions do, told by pure functions. No condition.
-/
import Derived.Test.YtgiceoflfmmlcaaDoorRkxLives
set_option linter.unusedSimpArgs false
set_option linter.unusedVariables false
set_option linter.unusedSectionVars false
set_option linter.unnecessarySimpa false
set_option maxRecDepth 100000
noncomputable section
namespace Go.Proofs.YtgiceoflfmmlcaaDoor.rkx02
open Go Go.Proofs.YtgiceoflfmmlcaaDoor Ax
abbrev R6 [Nest] : Type := Int × Int × Int × Int × Int × NL
variable [Args]
def kW (s : List Nat) (b : List (Nat × Nat × Bool)) (n l : Nat) : WkS := ⟨s, b, n, l, [], false, [], [], []⟩
def iD (n : Nat) : List (Nat × Nat × Bool) := (List.range n).map fun i => (i, i, false)
def cB (l : List Value) (t : TypeId) : Option ABlk := some (.cells (layT l) t)
def rw_b (x : Bool) : List Value := [Value.bool x]
theorem rwf_b : RowF rw_b 1 := ⟨fun _ => rfl, fun a v h => by
 simp only [rw_b, List.mem_cons, List.not_mem_nil, or_false] at h
 rcases h with rfl <;> rfl, fun _ => rfl⟩
def rw_u (x : Int) : List Value := [Value.int .u64 x]
theorem rwf_u : RowF rw_u 1 := ⟨fun _ => rfl, fun a v h => by
 simp only [rw_u, List.mem_cons, List.not_mem_nil, or_false] at h
 rcases h with rfl <;> rfl, fun _ => rfl⟩
theorem qfg_ : ∀ a, okVs (rw_iuuuuL a) = true := fun _ => rfl
abbrev xp1 (b o n k : Nat) (i : Int) : Prop := IA P 23 (sW b o n k) i (pW b (Nat.add o (i.toNat * 6)))
theorem xk1 (b o k : Nat) {n : Nat} {i : Int} (h : 0 ≤ i ∧ i < (n : Int)) : OB (.pur (pW b (Nat.add o (i.toNat * 6)))) (xp1 b o n k i) := ⟨ixWO (e := 37) (by kernel_rfl) (by kernel_rfl) h⟩
abbrev fp2 (b o : Nat) : Prop := FA P 37 (pW b o) 2 (pW b (Nat.add o 5))
theorem fk2 (b o : Nat) : OB (.pur (pW b (Nat.add o 5))) (fp2 b o) := ⟨by unfold fp2 FA; kernel_rfl⟩
abbrev lp3 (x : WL rw_iuuuuL) (i : Nat) (r : R6) : Prop := Lg P 35 (pW x.num (Nat.add (Nat.add x.off (i * 6)) 5)) (nlV (r.2.2.2.2.2))
theorem lk3 {x : WL rw_iuuuuL} {i : Nat} {r : Int × Int × Int × Int × Int × NL} (hr : some ((x.l).getD i (0, 0, 0, 0, 0, nl0)) = some r) (h : i < (x.l).length) : OB (.ld (nlV (r.2.2.2.2.2))) (lp3 x i r) := by cases hr; exact ⟨ldRS rwf_iuuuuL (0, 0, 0, 0, 0, nl0) (i := i) (q := 5) x (Nat.add (Nat.add x.off (i * 6)) 5) rfl (by kernel_rfl) h (by decide) rfl⟩
abbrev lp4 (x : WL rw_iuuuuL) (i : Nat) (r : R6) : Prop := Lg P 37 (pW x.num (Nat.add x.off (i * 6))) (Value.agg #[(i6 (r.1)), (Value.int .u64 (r.2.1)), (Value.int .u64 (r.2.2.1)), (Value.int .u64 (r.2.2.2.1)), (Value.int .u64 (r.2.2.2.2.1)), (nlV (r.2.2.2.2.2))])
theorem lk4 {x : WL rw_iuuuuL} {i : Nat} {r : Int × Int × Int × Int × Int × NL} (hr : some ((x.l).getD i (0, 0, 0, 0, 0, nl0)) = some r) (h : i < (x.l).length) : OB (.ld (Value.agg #[(i6 (r.1)), (Value.int .u64 (r.2.1)), (Value.int .u64 (r.2.2.1)), (Value.int .u64 (r.2.2.2.1)), (Value.int .u64 (r.2.2.2.2.1)), (nlV (r.2.2.2.2.2))])) (lp4 x i r) := by cases hr; exact ⟨ldRA rwf_iuuuuL (0, 0, 0, 0, 0, nl0) (i := i) (q := 0) x (n := 6) (Nat.add x.off (i * 6)) rfl (by kernel_rfl) (by kernel_rfl) h (by decide) (by decide) rfl⟩
abbrev xp5 (b o n k : Nat) (i : Int) : Prop := IA P 35 (sW b o n k) i (pW b (Nat.add o i.toNat))
theorem xk5 (b o k : Nat) {n : Nat} {i : Int} (h : 0 ≤ i ∧ i < (n : Int)) : OB (.pur (pW b (Nat.add o i.toNat))) (xp5 b o n k i) := ⟨ixWO1 (e := 3) (by kernel_rfl) (by kernel_rfl) h⟩
theorem nk6 {x : NL} {i : Nat} {v : Int} (hv : some (x.l.getD i 0) = some v) (h : i < x.l.length) : OB (.ld (i6 v)) (Lg P 3 (pW (Nat.add x.num 64) (Nat.add x.off i)) (i6 v)) := by cases hv; exact ⟨ldN x (by kernel_rfl) h⟩
abbrev xp7 (b n k : Nat) (i : Int) : Prop := IA P 43 (sN b 0 n k) i (pN b (i.toNat * 1))
theorem xk7 (b k : Nat) {n : Nat} {i : Int} (h : 0 ≤ i ∧ i < (n : Int)) : OB (.pur (pN b (i.toNat * 1))) (xp7 b n k i) := ⟨ixS (e := 4) (by kernel_rfl) (by kernel_rfl) h.1 h.2⟩
abbrev op8 (L : List (Bool)) (i : Nat) (r : Bool) : Prop := (layT (rows rw_b L)).get (i * 1) = some (bO r)
theorem ok8 {L : List (Bool)} {i : Nat} {r : Bool} (hr : some (L.getD i (false)) = some r) (h : i < L.length) : OB (.ld (bO r)) (op8 L i r) := by cases hr; exact ⟨rows_ld rwf_b (false) (i := i) (j := 0) (i * 1) rfl h (by decide) rfl⟩
abbrev op9 (L : List (Int)) (i : Nat) (r : Int) : Prop := (layT (rows rw_u L)).get (i * 1) = some (Value.int .u64 r)
theorem ok9 {L : List (Int)} {i : Nat} {r : Int} (hr : some (L.getD i (0)) = some r) (h : i < L.length) : OB (.ld (Value.int .u64 r)) (op9 L i r) := by cases hr; exact ⟨rows_ld rwf_u (0) (i := i) (j := 0) (i * 1) rfl h (by decide) rfl⟩

def qfq_ (n : Nat) : Option Unit := some ()
theorem qk0_ (n : Nat) (r : Unit) (h : qfq_ n = some r) : Gv P (.func 5) [] Ax.h0 (.bool true) Ax.h0 := lives_gv

def qfu_ (a0 : WL rw_iuuuuL) (a1 : Int) (r : Bool) : Value := match r with
 | o0 => (bO o0)
def qfv_ (a0 : WL rw_iuuuuL) (a1 : Int) (r : Bool) : AH := match r with
 | o0 => ⟨sB [], 0, 0⟩
abbrev qjq_ (a0 : WL rw_iuuuuL) (a1 : Int) (r : Bool) : Prop := Gv P (.func 6) [(wlV a0), (i6 a1)] ⟨sB [], 0, 0⟩ (qfu_ a0 a1 r) (qfv_ a0 a1 r)
abbrev qfw_ (a0 : WL rw_iuuuuL) (a1 : Int) (r : Bool) (ins outs : BL) : CallA := ⟨0, ins, qfu_ a0 a1 r, qfv_ a0 a1 r, outs⟩
def qcc_ (x0 : WL rw_iuuuuL) (x1 : Int) (st : Int × Int) : XSt := match st with
 | (x2, x3) => (sT 36 [(0, (wlV x0)), (1, (i6 x1)), (5, (i6 x2)), (6, (i6 x3))], [], ⟨sB [], 0, 0⟩)
def qbr_ (x0 : WL rw_iuuuuL) (x1 : Int) (r : Int) : Ex × XSt := match r with
 | z0 => (.exit 0, (sT 36 [(0, (wlV x0)), (1, (i6 x1)), (5, (i6 z0))], [], ⟨sB [], 0, 0⟩))
abbrev qib_ (rnd : Option Nat) (x0 : WL rw_iuuuuL) (x1 : Int) (st : Int × Int) (c : Ex × XSt) : Prop := CG P rnd (fnN P 6) 0 (qbl_ P 6 [false, false, true, false, true, true]) (qcc_ x0 x1 st) c
abbrev qic_ (rd : Option Nat) (x0 : WL rw_iuuuuL) (x1 : Int) (st : Int × Int) (r : Int) : Prop := CG P rd (fnN P 6) 0 (qbl_ P 6 [false, true, false, true, true]) (qcc_ x0 x1 st) (qbr_ x0 x1 r)
def q2_ (n : Nat) (x0 : WL rw_iuuuuL) (x1 : Int) (st : Int × Int) : Option ((Int × Int) ⊕ (Int)) := match st with
 | (x2, x3) =>
  if x3 < (((x0).l.length : Nat) : Int) then
   if x3 ≤ x1 then
    if 0 ≤ x3 ∧ x3 < (((x0).l.length : Nat) : Int) then
     ((some (((x0).l).getD (x3).toNat (0, 0, 0, 0, 0, nl0)))).bind fun y4_ =>
     ((some (w64 (x2 + ((((y4_.2.2.2.2.2)).l.length : Nat) : Int))))).bind fun y5_ =>
     some (.inl (y5_, (w64 (x3 + 1))))
    else none
   else
    some (.inr x2)
  else
   some (.inr x2)
def qdj_ (n : Nat) (x0 : WL rw_iuuuuL) (x1 : Int) (st : Int × Int) : Option (Int) := iterM (q2_ n x0 x1) n st
theorem qe7_ (n : Nat) {rnd : Option Nat} (x0 : WL rw_iuuuuL) (x1 : Int) (st : Int × Int) (o : (Int × Int) ⊕ (Int)) (h : q2_ n x0 x1 st = some o) : qib_ rnd x0 x1 st (Sum.elim (fun s => (.normal, qcc_ x0 x1 s)) (fun r => qbr_ x0 x1 r) o) := by
 obtain ⟨x2, x3⟩ := st
 unfold q2_ at h
 dsimp only at h
 by_cases hy1 : x3 < (((x0).l.length : Nat) : Int)
 ·rw [if_pos hy1] at h
  have k0 := fun {A L l} (k : PL A L l) => zz 5 (xdT hy1) <|
   k
  by_cases hy2 : x3 ≤ x1
  ·rw [if_pos hy2] at h
   obtain ⟨hy3, h⟩ := gd h
   obtain ⟨y4_, hy4, h⟩ := oB h
   obtain ⟨y5_, hy5, h⟩ := oB h
   obtain rfl := oI h
   exact runC2 hm (kW [0, 1, 5, 6] [] 0 0) (k0 <|
    zz 9 (xdT hy2) <|
    zz 17 (xk1 (x0).num (x0).off (x0).cap hy3) <|
    zz 18 (fk2 (x0).num (Nat.add (x0).off ((x3).toNat * 6))) <|
    zz 19 (lk3 hy4 (qlm_ hy3)) <|
    zz 21 (xnm hy5) <|
    ee) (by kernel_rfl)
  ·rw [if_neg hy2] at h
   obtain rfl := oI h
   exact runC2 hm (kW [0, 1, 5] [] 0 0) (k0 <|
    zz 9 (xdF hy2) <|
    ee) (by kernel_rfl)
 ·rw [if_neg hy1] at h
  obtain rfl := oI h
  exact runC2 hm (kW [0, 1, 5] [] 0 0) (zz 5 (xdF hy1) <|
   ee) (by kernel_rfl)
theorem qg3_ (n : Nat) {rnd : Option Nat} (x0 : WL rw_iuuuuL) (x1 : Int) (st : Int × Int) (r : Int) (h : qdj_ n x0 x1 st = some r) : qic_ rnd x0 x1 st r :=
 CG.iter (b := qbl_ P 6 [false, false, true, false, true, true]) (by kernel_rfl) (body := q2_ n x0 x1) (S := qcc_ x0 x1) (X := qbr_ x0 x1)
  (fun s s' h => qe7_ n x0 x1 s (.inl s') h)
  (fun s r h => qe7_ n x0 x1 s (.inr r) h)
  (fun r => by intro hx; cases hx) h
def qbm_ (n : Nat) (a0 : WL rw_iuuuuL) (a1 : Int) : Option (Bool) :=
 (qdj_ n a0 a1 (0, 0)).bind fun c1_ =>
 if (((a0).l.length : Nat) : Int) ≤ a1 then
  if c1_ ≤ (w64 ((2 : Int) * a1)) then
   some true
  else
   some false
 else
  some false
theorem qer_ (n : Nat) (a0 : WL rw_iuuuuL) (a1 : Int) (r : Bool) (h : qbm_ n a0 a1 = some r) : qjq_ a0 a1 r := by
 unfold qbm_ at h
 obtain ⟨c1_, hc1, h⟩ := oB h
 have k0 := fun {A L l} (k : PL A L l) => ww (qg3_ n (rnd := none) a0 a1 (0, 0) c1_ hc1) <|
  ll 8 ⟨(kW [0, 1, 5, 6] [] 0 0), (qbr_ a0 a1 c1_).1, (qbr_ a0 a1 c1_).2⟩ <|
  k
 by_cases hc2 : (((a0).l.length : Nat) : Int) ≤ a1
 ·rw [if_pos hc2] at h
  have k2 := fun {A L l} (k : PL A L l) => zz 13 (xdT hc2) <|
   k
  by_cases hc3 : c1_ ≤ (w64 ((2 : Int) * a1))
  ·rw [if_pos hc3] at h
   obtain rfl := oI h
   exact runF2 hm (kW [4] [] 0 0) (k0 <|
    k2 <|
    zz 18 (xdT hc3) <|
    ee) (by kernel_rfl)
  ·rw [if_neg hc3] at h
   obtain rfl := oI h
   exact runF2 hm (kW [4] [] 0 0) (k0 <|
    k2 <|
    zz 18 (xdF hc3) <|
    ee) (by kernel_rfl)
 ·rw [if_neg hc2] at h
  obtain rfl := oI h
  exact runF2 hm (kW [4] [] 0 0) (k0 <|
   zz 13 (xdF hc2) <|
   ee) (by kernel_rfl)

def qmc_ (a0 : Int) (a1 : Int) (a2 : Int) (a3 : Int) (a4 : Int) (a5 : NL) (a6 : Int) (a7 : Int) (r : (Unit) ⊕ (List (Bool))) : Value := match r with
 | .inl _ => (Value.tuple #[(Value.slice none 0 0), (bO false)])
 | .inr o0 => (Value.tuple #[(sN 0 0 ((a7).toNat) ((a7).toNat)), (bO true)])
def qmd_ (a0 : Int) (a1 : Int) (a2 : Int) (a3 : Int) (a4 : Int) (a5 : NL) (a6 : Int) (a7 : Int) (r : (Unit) ⊕ (List (Bool))) : AH := match r with
 | .inl _ => ⟨sB [], 0, 0⟩
 | .inr o0 => ⟨sB [(0, (cB (rows rw_b o0) 4))], 1, 0⟩
abbrev qqy_ (a0 : Int) (a1 : Int) (a2 : Int) (a3 : Int) (a4 : Int) (a5 : NL) (a6 : Int) (a7 : Int) (r : (Unit) ⊕ (List (Bool))) : Prop := Gv P (.func 13) [(Value.agg #[(i6 a0), (Value.int .u64 a1), (Value.int .u64 a2), (Value.int .u64 a3), (Value.int .u64 a4), (nlV a5)]), (i6 a6), (i6 a7)] ⟨sB [], 0, 0⟩ (qmc_ a0 a1 a2 a3 a4 a5 a6 a7 r) (qmd_ a0 a1 a2 a3 a4 a5 a6 a7 r)
abbrev qme_ (a0 : Int) (a1 : Int) (a2 : Int) (a3 : Int) (a4 : Int) (a5 : NL) (a6 : Int) (a7 : Int) (r : (Unit) ⊕ (List (Bool))) (ins outs : BL) : CallA := ⟨0, ins, qmc_ a0 a1 a2 a3 a4 a5 a6 a7 r, qmd_ a0 a1 a2 a3 a4 a5 a6 a7 r, outs⟩
def qfm_ (x0 : Int) (x2 : Nat) (x3 : NL) (x4 : Int) (st : List (Bool) × Int) : XSt := match st with
 | (x1, x5) => (sT 38 [(1, (i6 x0)), (8, (sN 0 0 x2 x2)), (14, (nlV x3)), (15, (i6 x4)), (16, (i6 x5))], [], ⟨sB [(0, (cB (rows rw_b x1) 4))], 1, 0⟩)
def qc8_ (x0 : Int) (x2 : Nat) (x3 : NL) (x4 : Int) (r : (Unit) ⊕ (List (Bool))) : Ex × XSt := match r with
 | .inl _ => (.ret, (sT 38 [(6, (Value.slice none 0 0)), (7, (bO false))], [], ⟨sB [], 0, 0⟩))
 | .inr z0 => (.exit 0, (sT 38 [(8, (sN 0 0 x2 x2))], [], ⟨sB [(0, (cB (rows rw_b z0) 4))], 1, 0⟩))
abbrev qov_ (rnd : Option Nat) (x0 : Int) (x2 : Nat) (x3 : NL) (x4 : Int) (st : List (Bool) × Int) (c : Ex × XSt) : Prop := CG P rnd (fnN P 13) 0 (qbl_ P 13 [false, false, true, false, true, true]) (qfm_ x0 x2 x3 x4 st) c
abbrev qow_ (rd : Option Nat) (x0 : Int) (x2 : Nat) (x3 : NL) (x4 : Int) (st : List (Bool) × Int) (r : (Unit) ⊕ (List (Bool))) : Prop := CG P rd (fnN P 13) 0 (qbl_ P 13 [false, true, false, true, true]) (qfm_ x0 x2 x3 x4 st) (qc8_ x0 x2 x3 x4 r)
def qca_ (n : Nat) (x0 : Int) (x2 : Nat) (x3 : NL) (x4 : Int) (st : List (Bool) × Int) : Option ((List (Bool) × Int) ⊕ ((Unit) ⊕ (List (Bool)))) := match st with
 | (x1, x5) =>
  if x5 < x4 then
   if 0 ≤ x5 ∧ x5 < (((x3).l.length : Nat) : Int) then
    if (x5).toNat < ((x3).l).length then
     ((some (((x3).l).getD (x5).toNat 0))).bind fun y4_ =>
     if y4_ < 0 then
      some (.inr (.inl ()))
     else
      if y4_ ≥ x0 then
       some (.inr (.inl ()))
      else
       if 0 ≤ y4_ ∧ y4_ < ((x2 : Nat) : Int) then
        if (y4_).toNat < (x1).length then
         ((some ((x1).getD (y4_).toNat (false)))).bind fun y9_ =>
         if y9_ = true then
          some (.inr (.inl ()))
         else
          some (.inl (((x1).set (y4_).toNat true), (w64 (x5 + 1))))
        else none
       else none
    else none
   else none
  else
   some (.inr (.inr x1))
def qfn_ (n : Nat) (x0 : Int) (x2 : Nat) (x3 : NL) (x4 : Int) (st : List (Bool) × Int) : Option ((Unit) ⊕ (List (Bool))) := iterM (qca_ n x0 x2 x3 x4) n st
theorem qkw_ (n : Nat) {rnd : Option Nat} (x0 : Int) (x2 : Nat) (x3 : NL) (x4 : Int) (st : List (Bool) × Int) (o : (List (Bool) × Int) ⊕ ((Unit) ⊕ (List (Bool)))) (h : qca_ n x0 x2 x3 x4 st = some o) : qov_ rnd x0 x2 x3 x4 st (Sum.elim (fun s => (.normal, qfm_ x0 x2 x3 x4 s)) (fun r => qc8_ x0 x2 x3 x4 r) o) := by
 obtain ⟨x1, x5⟩ := st
 unfold qca_ at h
 dsimp only at h
 by_cases hy1 : x5 < x4
 ·rw [if_pos hy1] at h
  obtain ⟨hy2, h⟩ := gd h
  obtain ⟨hy3, h⟩ := gd h
  obtain ⟨y4_, hy4, h⟩ := oB h
  have k0 := fun {A L l} (k : PL A L l) => zz 1 (xdT hy1) <|
   zz 7 (xk5 (Nat.add (x3).num 64) (x3).off (x3).cap hy2) <|
   zz 8 (nk6 hy4 hy3) <|
   k
  by_cases hy5 : y4_ < 0
  ·rw [if_pos hy5] at h
   obtain rfl := oI h
   exact runC2 hm (kW [6, 7] [] 0 0) (k0 <|
    zz 13 (xdT hy5) <|
    ee) (by kernel_rfl)
  ·rw [if_neg hy5] at h
   have k3 := fun {A L l} (k : PL A L l) => zz 13 (xdF hy5) <|
    k
   by_cases hy6 : y4_ ≥ x0
   ·rw [if_pos hy6] at h
    obtain rfl := oI h
    exact runC2 hm (kW [6, 7] [] 0 0) (k0 <|
     k3 <|
     zz 17 (xdT hy6) <|
     ee) (by kernel_rfl)
   ·rw [if_neg hy6] at h
    obtain ⟨hy7, h⟩ := gd h
    obtain ⟨hy8, h⟩ := gd h
    obtain ⟨y9_, hy9, h⟩ := oB h
    have k4 := fun {A L l} (k : PL A L l) => zz 17 (xdF hy6) <|
     zz 22 (xk7 0 x2 hy7) <|
     zz 23 (ok8 hy9 (hy8)) <|
     k
    by_cases hy10 : y9_ = true
    ·rw [if_pos hy10] at h
     obtain rfl := oI h
     exact runC2 hm (kW [6, 7] [] 0 0) (k0 <|
      k3 <|
      k4 <|
      zz 25 (xbT hy10) <|
      ee) (by kernel_rfl)
    ·rw [if_neg hy10] at h
     obtain rfl := oI h
     exact runC2 hm (kW [1, 8, 14, 15, 16] [(0, 0, true)] 1 0) (k0 <|
      k3 <|
      k4 <|
      zz 25 (xbF hy10) <|
      zz 28 (xk7 0 x2 hy7) <|
      yy 29 (.sto (layT (rows rw_b ((x1).set (y4_).toNat true)))) <|
      ww (p := ∃ old, rdT (layT (rows rw_b x1)) 1 ((y4_).toNat * 1) = some old) (Exists.elim (qbi_ rwf_b (false) (i := (y4_).toNat) (j := 0) (l := [(bO true)]) true ((y4_).toNat * 1) rfl (hy8) (Nat.le_of_ble_eq_true rfl) rfl) fun o h => ⟨o, h.1⟩) <|
      ww (p := layL [(bO true)] ((y4_).toNat * 1) (layT (rows rw_b x1)) = layT (rows rw_b ((x1).set (y4_).toNat true))) (Exists.elim (qbi_ rwf_b (false) (i := (y4_).toNat) (j := 0) (l := [(bO true)]) true ((y4_).toNat * 1) rfl (hy8) (Nat.le_of_ble_eq_true rfl) rfl) fun o h => h.2) <|
      ww (qa_ rwf_b ((x1).set (y4_).toNat true) 4) <|
      ee) (by kernel_rfl)
 ·rw [if_neg hy1] at h
  obtain rfl := oI h
  exact runC2 hm (kW [8] [(0, 0, true)] 1 0) (zz 1 (xdF hy1) <|
   ww (qa_ rwf_b x1 4) <|
   ee) (by kernel_rfl)
theorem qhx_ (n : Nat) {rnd : Option Nat} (x0 : Int) (x2 : Nat) (x3 : NL) (x4 : Int) (st : List (Bool) × Int) (r : (Unit) ⊕ (List (Bool))) (h : qfn_ n x0 x2 x3 x4 st = some r) : qow_ rnd x0 x2 x3 x4 st r :=
 CG.iter (b := qbl_ P 13 [false, false, true, false, true, true]) (by kernel_rfl) (body := qca_ n x0 x2 x3 x4) (S := qfm_ x0 x2 x3 x4) (X := qc8_ x0 x2 x3 x4)
  (fun s s' h => qkw_ n x0 x2 x3 x4 s (.inl s') h)
  (fun s r h => qkw_ n x0 x2 x3 x4 s (.inr r) h)
  (fun r => by intro hx; rcases r with _ | _ <;> cases hx) h
def qda_ (n : Nat) (a0 : Int) (a1 : Int) (a2 : Int) (a3 : Int) (a4 : Int) (a5 : NL) (a6 : Int) (a7 : Int) : Option ((Unit) ⊕ (List (Bool))) :=
 if 0 ≤ a7 then
  if (a7).toNat * 1 ≤ 140737488355328 then
   match qfn_ n a6 ((a7).toNat) a5 (((a5).l.length : Nat) : Int) ((List.replicate (a7).toNat (false)), 0) with
   | none => none
   | some (.inl _) =>
    some (.inl ())
   | some (.inr c3_) =>
    some (.inr c3_)
  else none
 else none
theorem qjr_ (n : Nat) (a0 : Int) (a1 : Int) (a2 : Int) (a3 : Int) (a4 : Int) (a5 : NL) (a6 : Int) (a7 : Int) (r : (Unit) ⊕ (List (Bool))) (h : qda_ n a0 a1 a2 a3 a4 a5 a6 a7 = some r) : qqy_ a0 a1 a2 a3 a4 a5 a6 a7 r := by
 unfold qda_ at h
 obtain ⟨hc1, h⟩ := gd h
 obtain ⟨hc2, h⟩ := gd h
 have k0 := fun {A L l} (k : PL A L l) => yy 6 (.mk (a7).toNat (rows rw_b (List.replicate (a7).toNat (false)))) <|
  ww (p := natOf (i6 a7) = some (a7).toNat) (qcr_ hc1) <|
  ww (p := natOf (i6 a7) = some (a7).toNat) (qcr_ hc1) <|
  ww (p := fits (a7).toNat 1 = true) (fits_ok hc2 (by omega)) <|
  ww (p := isZ8 [(bO false)] = false) (rfl) <|
  ww (p := reps [(bO false)] (a7).toNat = (rows rw_b (List.replicate (a7).toNat (false)))) (qi3_ rw_b (false) _ rfl _) <|
  k
 rcases hc3 : qfn_ n a6 ((a7).toNat) a5 (((a5).l.length : Nat) : Int) ((List.replicate (a7).toNat (false)), 0) with _ | (⟨⟩ | c3_)
 ·rw [hc3] at h; cases h
 ·rw [hc3] at h
  dsimp only at h
  obtain rfl := oI h
  exact runF2 hm (kW [6, 7] [] 0 0) (k0 <|
   ww (qhx_ n (rnd := none) a6 ((a7).toNat) a5 (((a5).l.length : Nat) : Int) ((List.replicate (a7).toNat (false)), 0) (.inl ()) hc3) <|
   ww (qa_ rwf_b (List.replicate (a7).toNat (false)) 4) <|
   ll 15 ⟨(kW [1, 8, 14, 15, 16] [(0, 1, true)] 1 0), (qc8_ a6 ((a7).toNat) a5 (((a5).l.length : Nat) : Int) (.inl ())).1, (qc8_ a6 ((a7).toNat) a5 (((a5).l.length : Nat) : Int) (.inl ())).2⟩ <|
   ee) (by kernel_rfl)
 ·rw [hc3] at h
  dsimp only at h
  obtain rfl := oI h
  exact runF2 hm (kW [6, 7] [(0, 0, true)] 1 0) (k0 <|
   ww (qhx_ n (rnd := none) a6 ((a7).toNat) a5 (((a5).l.length : Nat) : Int) ((List.replicate (a7).toNat (false)), 0) (.inr c3_) hc3) <|
   ww (qa_ rwf_b (List.replicate (a7).toNat (false)) 4) <|
   ll 15 ⟨(kW [1, 8, 14, 15, 16] [(0, 1, true)] 1 0), (qc8_ a6 ((a7).toNat) a5 (((a5).l.length : Nat) : Int) (.inr c3_)).1, (qc8_ a6 ((a7).toNat) a5 (((a5).l.length : Nat) : Int) (.inr c3_)).2⟩ <|
   ww (qa_ rwf_b c3_ 4) <|
   ee) (by kernel_rfl)

def qon_ (a0 : Int) (a1 : Int) (a2 : Int) (a3 : Int) (a4 : Int) (a5 : NL) (r : Bool) : Value := match r with
 | o0 => (bO o0)
def qoo_ (a0 : Int) (a1 : Int) (a2 : Int) (a3 : Int) (a4 : Int) (a5 : NL) (r : Bool) : AH := match r with
 | o0 => ⟨sB [], 0, 0⟩
abbrev G_regexfitsq1 (a0 : Int) (a1 : Int) (a2 : Int) (a3 : Int) (a4 : Int) (a5 : NL) (r : Bool) : Prop := Gv P (.func 14) [(Value.agg #[(i6 a0), (Value.int .u64 a1), (Value.int .u64 a2), (Value.int .u64 a3), (Value.int .u64 a4), (nlV a5)])] ⟨sB [], 0, 0⟩ (qon_ a0 a1 a2 a3 a4 a5 r) (qoo_ a0 a1 a2 a3 a4 a5 r)
abbrev C_regexfitsq1 (a0 : Int) (a1 : Int) (a2 : Int) (a3 : Int) (a4 : Int) (a5 : NL) (r : Bool) (ins outs : BL) : CallA := ⟨0, ins, qon_ a0 a1 a2 a3 a4 a5 r, qoo_ a0 a1 a2 a3 a4 a5 r, outs⟩
def qfx_ (n : Nat) (a0 : Int) (a1 : Int) (a2 : Int) (a3 : Int) (a4 : Int) (a5 : NL) : Option (Bool) :=
 if a0 = 2 then
  if a0 = 1 then
   if (((a5).l.length : Nat) : Int) = 0 then
    some true
   else
    some false
  else
   if (((a5).l.length : Nat) : Int) = 0 then
    some true
   else
    some false
 else
  if (!((a1 == 0) && ((a2 == 0) && ((a3 == 0) && ((a4 == 0) && true))))) = true then
   some false
  else
   if a0 = 1 then
    if (((a5).l.length : Nat) : Int) = 0 then
     some true
    else
     some false
   else
    if a0 = 3 then
     if (((a5).l.length : Nat) : Int) ≥ 2 then
      some true
     else
      some false
    else
     if a0 = 4 then
      if (((a5).l.length : Nat) : Int) ≥ 2 then
       some true
      else
       some false
     else
      if a0 = 5 then
       if (((a5).l.length : Nat) : Int) = 1 then
        some true
       else
        some false
      else
       if a0 = 6 then
        if (((a5).l.length : Nat) : Int) = 1 then
         some true
        else
         some false
       else
        if a0 = 7 then
         if (((a5).l.length : Nat) : Int) = 1 then
          some true
         else
          some false
        else
         some false
theorem qql_ (n : Nat) (a0 : Int) (a1 : Int) (a2 : Int) (a3 : Int) (a4 : Int) (a5 : NL) (r : Bool) (h : qfx_ n a0 a1 a2 a3 a4 a5 = some r) : G_regexfitsq1 a0 a1 a2 a3 a4 a5 r := by
 unfold qfx_ at h
 by_cases hc1 : a0 = 2
 ·rw [if_pos hc1] at h
  have k0 := fun {A L l} (k : PL A L l) => zz 7 (xnF hc1) <|
   k
  by_cases hc2 : a0 = 1
  ·rw [if_pos hc2] at h
   have k1 := fun {A L l} (k : PL A L l) => zz 22 (xeT hc2) <|
    k
   by_cases hc3 : (((a5).l.length : Nat) : Int) = 0
   ·rw [if_pos hc3] at h
    obtain rfl := oI h
    exact runF2 hm (kW [2] [] 0 0) (k0 <|
     k1 <|
     zz 30 (xeT hc3) <|
     ee) (by kernel_rfl)
   ·rw [if_neg hc3] at h
    obtain rfl := oI h
    exact runF2 hm (kW [2] [] 0 0) (k0 <|
     k1 <|
     zz 30 (xeF hc3) <|
     ee) (by kernel_rfl)
  ·rw [if_neg hc2] at h
   have k1 := fun {A L l} (k : PL A L l) => zz 22 (xeF hc2) <|
    zz 25 (xeT hc1) <|
    k
   by_cases hc3 : (((a5).l.length : Nat) : Int) = 0
   ·rw [if_pos hc3] at h
    obtain rfl := oI h
    exact runF2 hm (kW [2] [] 0 0) (k0 <|
     k1 <|
     zz 32 (xeT hc3) <|
     ee) (by kernel_rfl)
   ·rw [if_neg hc3] at h
    obtain rfl := oI h
    exact runF2 hm (kW [2] [] 0 0) (k0 <|
     k1 <|
     zz 32 (xeF hc3) <|
     ee) (by kernel_rfl)
 ·rw [if_neg hc1] at h
  have k0 := fun {A L l} (k : PL A L l) => zz 7 (xnT hc1) <|
   k
  by_cases hc2 : (!((a1 == 0) && ((a2 == 0) && ((a3 == 0) && ((a4 == 0) && true))))) = true
  ·rw [if_pos hc2] at h
   obtain rfl := oI h
   exact runF2 hm (kW [2] [] 0 0) (k0 <|
    zz 14 (xbT hc2) <|
    ee) (by kernel_rfl)
  ·rw [if_neg hc2] at h
   have k1 := fun {A L l} (k : PL A L l) => zz 14 (xbF hc2) <|
    k
   by_cases hc3 : a0 = 1
   ·rw [if_pos hc3] at h
    have k2 := fun {A L l} (k : PL A L l) => zz 22 (xeT hc3) <|
     k
    by_cases hc4 : (((a5).l.length : Nat) : Int) = 0
    ·rw [if_pos hc4] at h
     obtain rfl := oI h
     exact runF2 hm (kW [2] [] 0 0) (k0 <|
      k1 <|
      k2 <|
      zz 30 (xeT hc4) <|
      ee) (by kernel_rfl)
    ·rw [if_neg hc4] at h
     obtain rfl := oI h
     exact runF2 hm (kW [2] [] 0 0) (k0 <|
      k1 <|
      k2 <|
      zz 30 (xeF hc4) <|
      ee) (by kernel_rfl)
   ·rw [if_neg hc3] at h
    have k2 := fun {A L l} (k : PL A L l) => zz 22 (xeF hc3) <|
     zz 25 (xeF hc1) <|
     k
    by_cases hc4 : a0 = 3
    ·rw [if_pos hc4] at h
     have k4 := fun {A L l} (k : PL A L l) => zz 30 (xeT hc4) <|
      k
     by_cases hc5 : (((a5).l.length : Nat) : Int) ≥ 2
     ·rw [if_pos hc5] at h
      obtain rfl := oI h
      exact runF2 hm (kW [2] [] 0 0) (k0 <|
       k1 <|
       k2 <|
       k4 <|
       zz 38 (xdT hc5) <|
       ee) (by kernel_rfl)
     ·rw [if_neg hc5] at h
      obtain rfl := oI h
      exact runF2 hm (kW [2] [] 0 0) (k0 <|
       k1 <|
       k2 <|
       k4 <|
       zz 38 (xdF hc5) <|
       ee) (by kernel_rfl)
    ·rw [if_neg hc4] at h
     have k4 := fun {A L l} (k : PL A L l) => zz 30 (xeF hc4) <|
      k
     by_cases hc5 : a0 = 4
     ·rw [if_pos hc5] at h
      have k5 := fun {A L l} (k : PL A L l) => zz 33 (xeT hc5) <|
       k
      by_cases hc6 : (((a5).l.length : Nat) : Int) ≥ 2
      ·rw [if_pos hc6] at h
       obtain rfl := oI h
       exact runF2 hm (kW [2] [] 0 0) (k0 <|
        k1 <|
        k2 <|
        k4 <|
        k5 <|
        zz 40 (xdT hc6) <|
        ee) (by kernel_rfl)
      ·rw [if_neg hc6] at h
       obtain rfl := oI h
       exact runF2 hm (kW [2] [] 0 0) (k0 <|
        k1 <|
        k2 <|
        k4 <|
        k5 <|
        zz 40 (xdF hc6) <|
        ee) (by kernel_rfl)
     ·rw [if_neg hc5] at h
      have k5 := fun {A L l} (k : PL A L l) => zz 33 (xeF hc5) <|
       k
      by_cases hc6 : a0 = 5
      ·rw [if_pos hc6] at h
       have k6 := fun {A L l} (k : PL A L l) => zz 38 (xeT hc6) <|
        k
       by_cases hc7 : (((a5).l.length : Nat) : Int) = 1
       ·rw [if_pos hc7] at h
        obtain rfl := oI h
        exact runF2 hm (kW [2] [] 0 0) (k0 <|
         k1 <|
         k2 <|
         k4 <|
         k5 <|
         k6 <|
         zz 46 (xeT hc7) <|
         ee) (by kernel_rfl)
       ·rw [if_neg hc7] at h
        obtain rfl := oI h
        exact runF2 hm (kW [2] [] 0 0) (k0 <|
         k1 <|
         k2 <|
         k4 <|
         k5 <|
         k6 <|
         zz 46 (xeF hc7) <|
         ee) (by kernel_rfl)
      ·rw [if_neg hc6] at h
       have k6 := fun {A L l} (k : PL A L l) => zz 38 (xeF hc6) <|
        k
       by_cases hc7 : a0 = 6
       ·rw [if_pos hc7] at h
        have k7 := fun {A L l} (k : PL A L l) => zz 42 (xeT hc7) <|
         k
        by_cases hc8 : (((a5).l.length : Nat) : Int) = 1
        ·rw [if_pos hc8] at h
         obtain rfl := oI h
         exact runF2 hm (kW [2] [] 0 0) (k0 <|
          k1 <|
          k2 <|
          k4 <|
          k5 <|
          k6 <|
          k7 <|
          zz 50 (xeT hc8) <|
          ee) (by kernel_rfl)
        ·rw [if_neg hc8] at h
         obtain rfl := oI h
         exact runF2 hm (kW [2] [] 0 0) (k0 <|
          k1 <|
          k2 <|
          k4 <|
          k5 <|
          k6 <|
          k7 <|
          zz 50 (xeF hc8) <|
          ee) (by kernel_rfl)
       ·rw [if_neg hc7] at h
        have k7 := fun {A L l} (k : PL A L l) => zz 42 (xeF hc7) <|
         k
        by_cases hc8 : a0 = 7
        ·rw [if_pos hc8] at h
         have k8 := fun {A L l} (k : PL A L l) => zz 45 (xeT hc8) <|
          k
         by_cases hc9 : (((a5).l.length : Nat) : Int) = 1
         ·rw [if_pos hc9] at h
          obtain rfl := oI h
          exact runF2 hm (kW [2] [] 0 0) (k0 <|
           k1 <|
           k2 <|
           k4 <|
           k5 <|
           k6 <|
           k7 <|
           k8 <|
           zz 52 (xeT hc9) <|
           ee) (by kernel_rfl)
         ·rw [if_neg hc9] at h
          obtain rfl := oI h
          exact runF2 hm (kW [2] [] 0 0) (k0 <|
           k1 <|
           k2 <|
           k4 <|
           k5 <|
           k6 <|
           k7 <|
           k8 <|
           zz 52 (xeF hc9) <|
           ee) (by kernel_rfl)
        ·rw [if_neg hc8] at h
         obtain rfl := oI h
         exact runF2 hm (kW [2] [] 0 0) (k0 <|
          k1 <|
          k2 <|
          k4 <|
          k5 <|
          k6 <|
          k7 <|
          zz 45 (xeF hc8) <|
          ee) (by kernel_rfl)

def qlo_ (a0 : List (Bool)) (a1 : Nat) (a2 : Nat) (a3 : List (Bool)) (a4 : Nat) (a5 : Nat) (r : List (Bool) × Bool) : Value := match r with
 | (o0, o1) => (bO o1)
def qlp_ (a0 : List (Bool)) (a1 : Nat) (a2 : Nat) (a3 : List (Bool)) (a4 : Nat) (a5 : Nat) (r : List (Bool) × Bool) : AH := match r with
 | (o0, o1) => ⟨sB [(0, (cB (rows rw_b o0) 4)), (1, (cB (rows rw_b a3) 4))], 2, 0⟩
abbrev qqm_ (a0 : List (Bool)) (a1 : Nat) (a2 : Nat) (a3 : List (Bool)) (a4 : Nat) (a5 : Nat) (r : List (Bool) × Bool) : Prop := Gv P (.func 15) [(sN 0 0 a1 a2), (sN 1 0 a4 a5)] ⟨sB [(0, (cB (rows rw_b a0) 4)), (1, (cB (rows rw_b a3) 4))], 2, 2⟩ (qlo_ a0 a1 a2 a3 a4 a5 r) (qlp_ a0 a1 a2 a3 a4 a5 r)
abbrev qqn_ (a0 : List (Bool)) (a1 : Nat) (a2 : Nat) (a3 : List (Bool)) (a4 : Nat) (a5 : Nat) (r : List (Bool) × Bool) (ins outs : BL) : CallA := ⟨2, ins, qlo_ a0 a1 a2 a3 a4 a5 r, qlp_ a0 a1 a2 a3 a4 a5 r, outs⟩
def qe3_ (x1 : List (Bool)) (x2 : Nat) (x3 : Nat) (x5 : Nat) (x6 : Nat) (x7 : Int) (st : List (Bool) × Bool × Int) : XSt := match st with
 | (x0, x4, x8) => (sT 38 [(0, (sN 0 0 x2 x3)), (5, (bO x4)), (8, (sN 1 0 x5 x6)), (9, (i6 x7)), (10, (i6 x8))], [], ⟨sB [(0, (cB (rows rw_b x0) 4)), (1, (cB (rows rw_b x1) 4))], 2, 0⟩)
def qdw_ (x1 : List (Bool)) (x2 : Nat) (x3 : Nat) (x5 : Nat) (x6 : Nat) (x7 : Int) (r : List (Bool) × Bool) : Ex × XSt := match r with
 | (z0, z1) => (.exit 0, (sT 38 [(5, (bO z1))], [], ⟨sB [(0, (cB (rows rw_b z0) 4)), (1, (cB (rows rw_b x1) 4))], 2, 0⟩))
abbrev qn1_ (rnd : Option Nat) (x1 : List (Bool)) (x2 : Nat) (x3 : Nat) (x5 : Nat) (x6 : Nat) (x7 : Int) (st : List (Bool) × Bool × Int) (c : Ex × XSt) : Prop := CG P rnd (fnN P 15) 2 (qbl_ P 15 [false, false, true, false, true, true]) (qe3_ x1 x2 x3 x5 x6 x7 st) c
abbrev qn2_ (rd : Option Nat) (x1 : List (Bool)) (x2 : Nat) (x3 : Nat) (x5 : Nat) (x6 : Nat) (x7 : Int) (st : List (Bool) × Bool × Int) (r : List (Bool) × Bool) : Prop := CG P rd (fnN P 15) 2 (qbl_ P 15 [false, true, false, true, true]) (qe3_ x1 x2 x3 x5 x6 x7 st) (qdw_ x1 x2 x3 x5 x6 x7 r)
def qbx_ (n : Nat) (x1 : List (Bool)) (x2 : Nat) (x3 : Nat) (x5 : Nat) (x6 : Nat) (x7 : Int) (st : List (Bool) × Bool × Int) : Option ((List (Bool) × Bool × Int) ⊕ (List (Bool) × Bool)) := match st with
 | (x0, x4, x8) =>
  if x8 < x7 then
   if 0 ≤ x8 ∧ x8 < ((x5 : Nat) : Int) then
    if (x8).toNat < (x1).length then
     ((some ((x1).getD (x8).toNat (false)))).bind fun y4_ =>
     if x4 = true then
      if 0 ≤ x8 ∧ x8 < ((x2 : Nat) : Int) then
       if (x8).toNat < (x0).length then
        ((some ((x0).getD (x8).toNat (false)))).bind fun y8_ =>
        if y8_ = true then
         if y4_ = true then
          some (.inl (((x0).set (x8).toNat true), false, (w64 (x8 + 1))))
         else
          some (.inl (((x0).set (x8).toNat true), true, (w64 (x8 + 1))))
        else
         some (.inl (((x0).set (x8).toNat y4_), true, (w64 (x8 + 1))))
       else none
      else none
     else
      if 0 ≤ x8 ∧ x8 < ((x2 : Nat) : Int) then
       if (x8).toNat < (x0).length then
        ((some ((x0).getD (x8).toNat (false)))).bind fun y8_ =>
        if y8_ = true then
         some (.inl (((x0).set (x8).toNat true), false, (w64 (x8 + 1))))
        else
         some (.inl (((x0).set (x8).toNat y4_), false, (w64 (x8 + 1))))
       else none
      else none
    else none
   else none
  else
   some (.inr (x0, x4))
def qgq_ (n : Nat) (x1 : List (Bool)) (x2 : Nat) (x3 : Nat) (x5 : Nat) (x6 : Nat) (x7 : Int) (st : List (Bool) × Bool × Int) : Option (List (Bool) × Bool) := iterM (qbx_ n x1 x2 x3 x5 x6 x7) n st
theorem qjs_ (n : Nat) {rnd : Option Nat} (x1 : List (Bool)) (x2 : Nat) (x3 : Nat) (x5 : Nat) (x6 : Nat) (x7 : Int) (st : List (Bool) × Bool × Int) (o : (List (Bool) × Bool × Int) ⊕ (List (Bool) × Bool)) (h : qbx_ n x1 x2 x3 x5 x6 x7 st = some o) : qn1_ rnd x1 x2 x3 x5 x6 x7 st (Sum.elim (fun s => (.normal, qe3_ x1 x2 x3 x5 x6 x7 s)) (fun r => qdw_ x1 x2 x3 x5 x6 x7 r) o) := by
 obtain ⟨x0, x4, x8⟩ := st
 unfold qbx_ at h
 dsimp only at h
 by_cases hy1 : x8 < x7
 ·rw [if_pos hy1] at h
  obtain ⟨hy2, h⟩ := gd h
  obtain ⟨hy3, h⟩ := gd h
  obtain ⟨y4_, hy4, h⟩ := oB h
  have k0 := fun {A L l} (k : PL A L l) => zz 1 (xdT hy1) <|
   zz 8 (xk7 1 x6 hy2) <|
   zz 9 (ok8 hy4 (hy3)) <|
   k
  by_cases hy5 : x4 = true
  ·rw [if_pos hy5] at h
   obtain ⟨hy6, h⟩ := gd h
   obtain ⟨hy7, h⟩ := gd h
   obtain ⟨y8_, hy8, h⟩ := oB h
   have k3 := fun {A L l} (k : PL A L l) => zz 14 (xbT hy5) <|
    zz 17 (xk7 0 x3 hy6) <|
    zz 18 (ok8 hy8 (hy7)) <|
    k
   by_cases hy9 : y8_ = true
   ·rw [if_pos hy9] at h
    have k6 := fun {A L l} (k : PL A L l) => zz 19 (xbT hy9) <|
     k
    by_cases hy10 : y4_ = true
    ·rw [if_pos hy10] at h
     obtain rfl := oI h
     exact runC2 hm (kW [0, 5, 8, 9, 10] [(0, 0, true), (1, 1, true)] 2 0) (k0 <|
      k3 <|
      k6 <|
      yy 22 (vf) <|
      ww (p := (Value.bool (!y4_)) = (Value.bool false)) (vBn hy10) <|
      zz 29 (xk7 0 x3 hy6) <|
      zz 30 (ok8 hy8 (hy7)) <|
      zz 31 (xbT hy9) <|
      zz 34 (xk7 0 x3 hy6) <|
      yy 35 (.sto (layT (rows rw_b ((x0).set (x8).toNat true)))) <|
      ww (p := ∃ old, rdT (layT (rows rw_b x0)) 1 ((x8).toNat * 1) = some old) (Exists.elim (qbi_ rwf_b (false) (i := (x8).toNat) (j := 0) (l := [(bO true)]) true ((x8).toNat * 1) rfl (hy7) (Nat.le_of_ble_eq_true rfl) rfl) fun o h => ⟨o, h.1⟩) <|
      ww (p := layL [(bO true)] ((x8).toNat * 1) (layT (rows rw_b x0)) = layT (rows rw_b ((x0).set (x8).toNat true))) (Exists.elim (qbi_ rwf_b (false) (i := (x8).toNat) (j := 0) (l := [(bO true)]) true ((x8).toNat * 1) rfl (hy7) (Nat.le_of_ble_eq_true rfl) rfl) fun o h => h.2) <|
      ww (qa_ rwf_b ((x0).set (x8).toNat true) 4) <|
      ww (qa_ rwf_b x1 4) <|
      ee) (by kernel_rfl)
    ·rw [if_neg hy10] at h
     obtain rfl := oI h
     exact runC2 hm (kW [0, 5, 8, 9, 10] [(0, 0, true), (1, 1, true)] 2 0) (k0 <|
      k3 <|
      k6 <|
      yy 22 (vt) <|
      ww (p := (Value.bool (!y4_)) = (Value.bool true)) (vBn (Bool.eq_false_iff.2 hy10)) <|
      zz 29 (xk7 0 x3 hy6) <|
      zz 30 (ok8 hy8 (hy7)) <|
      zz 31 (xbT hy9) <|
      zz 34 (xk7 0 x3 hy6) <|
      yy 35 (.sto (layT (rows rw_b ((x0).set (x8).toNat true)))) <|
      ww (p := ∃ old, rdT (layT (rows rw_b x0)) 1 ((x8).toNat * 1) = some old) (Exists.elim (qbi_ rwf_b (false) (i := (x8).toNat) (j := 0) (l := [(bO true)]) true ((x8).toNat * 1) rfl (hy7) (Nat.le_of_ble_eq_true rfl) rfl) fun o h => ⟨o, h.1⟩) <|
      ww (p := layL [(bO true)] ((x8).toNat * 1) (layT (rows rw_b x0)) = layT (rows rw_b ((x0).set (x8).toNat true))) (Exists.elim (qbi_ rwf_b (false) (i := (x8).toNat) (j := 0) (l := [(bO true)]) true ((x8).toNat * 1) rfl (hy7) (Nat.le_of_ble_eq_true rfl) rfl) fun o h => h.2) <|
      ww (qa_ rwf_b ((x0).set (x8).toNat true) 4) <|
      ww (qa_ rwf_b x1 4) <|
      ee) (by kernel_rfl)
   ·rw [if_neg hy9] at h
    obtain rfl := oI h
    exact runC2 hm (kW [0, 5, 8, 9, 10] [(0, 0, true), (1, 1, true)] 2 0) (k0 <|
     k3 <|
     zz 19 (xbF hy9) <|
     zz 29 (xk7 0 x3 hy6) <|
     zz 30 (ok8 hy8 (hy7)) <|
     zz 31 (xbF hy9) <|
     zz 34 (xk7 0 x3 hy6) <|
     yy 35 (.sto (layT (rows rw_b ((x0).set (x8).toNat y4_)))) <|
     ww (p := ∃ old, rdT (layT (rows rw_b x0)) 1 ((x8).toNat * 1) = some old) (Exists.elim (qbi_ rwf_b (false) (i := (x8).toNat) (j := 0) (l := [(bO y4_)]) y4_ ((x8).toNat * 1) rfl (hy7) (Nat.le_of_ble_eq_true rfl) rfl) fun o h => ⟨o, h.1⟩) <|
     ww (p := layL [(bO y4_)] ((x8).toNat * 1) (layT (rows rw_b x0)) = layT (rows rw_b ((x0).set (x8).toNat y4_))) (Exists.elim (qbi_ rwf_b (false) (i := (x8).toNat) (j := 0) (l := [(bO y4_)]) y4_ ((x8).toNat * 1) rfl (hy7) (Nat.le_of_ble_eq_true rfl) rfl) fun o h => h.2) <|
     ww (qa_ rwf_b ((x0).set (x8).toNat y4_) 4) <|
     ww (qa_ rwf_b x1 4) <|
     ee) (by kernel_rfl)
  ·rw [if_neg hy5] at h
   obtain ⟨hy6, h⟩ := gd h
   obtain ⟨hy7, h⟩ := gd h
   obtain ⟨y8_, hy8, h⟩ := oB h
   have k3 := fun {A L l} (k : PL A L l) => zz 14 (xbF hy5) <|
    zz 29 (xk7 0 x3 hy6) <|
    zz 30 (ok8 hy8 (hy7)) <|
    k
   by_cases hy9 : y8_ = true
   ·rw [if_pos hy9] at h
    obtain rfl := oI h
    exact runC2 hm (kW [0, 5, 8, 9, 10] [(0, 0, true), (1, 1, true)] 2 0) (k0 <|
     k3 <|
     zz 31 (xbT hy9) <|
     zz 34 (xk7 0 x3 hy6) <|
     yy 35 (.sto (layT (rows rw_b ((x0).set (x8).toNat true)))) <|
     ww (p := ∃ old, rdT (layT (rows rw_b x0)) 1 ((x8).toNat * 1) = some old) (Exists.elim (qbi_ rwf_b (false) (i := (x8).toNat) (j := 0) (l := [(bO true)]) true ((x8).toNat * 1) rfl (hy7) (Nat.le_of_ble_eq_true rfl) rfl) fun o h => ⟨o, h.1⟩) <|
     ww (p := layL [(bO true)] ((x8).toNat * 1) (layT (rows rw_b x0)) = layT (rows rw_b ((x0).set (x8).toNat true))) (Exists.elim (qbi_ rwf_b (false) (i := (x8).toNat) (j := 0) (l := [(bO true)]) true ((x8).toNat * 1) rfl (hy7) (Nat.le_of_ble_eq_true rfl) rfl) fun o h => h.2) <|
     ww (qa_ rwf_b ((x0).set (x8).toNat true) 4) <|
     ww (qa_ rwf_b x1 4) <|
     ee) (by kernel_rfl)
   ·rw [if_neg hy9] at h
    obtain rfl := oI h
    exact runC2 hm (kW [0, 5, 8, 9, 10] [(0, 0, true), (1, 1, true)] 2 0) (k0 <|
     k3 <|
     zz 31 (xbF hy9) <|
     zz 34 (xk7 0 x3 hy6) <|
     yy 35 (.sto (layT (rows rw_b ((x0).set (x8).toNat y4_)))) <|
     ww (p := ∃ old, rdT (layT (rows rw_b x0)) 1 ((x8).toNat * 1) = some old) (Exists.elim (qbi_ rwf_b (false) (i := (x8).toNat) (j := 0) (l := [(bO y4_)]) y4_ ((x8).toNat * 1) rfl (hy7) (Nat.le_of_ble_eq_true rfl) rfl) fun o h => ⟨o, h.1⟩) <|
     ww (p := layL [(bO y4_)] ((x8).toNat * 1) (layT (rows rw_b x0)) = layT (rows rw_b ((x0).set (x8).toNat y4_))) (Exists.elim (qbi_ rwf_b (false) (i := (x8).toNat) (j := 0) (l := [(bO y4_)]) y4_ ((x8).toNat * 1) rfl (hy7) (Nat.le_of_ble_eq_true rfl) rfl) fun o h => h.2) <|
     ww (qa_ rwf_b ((x0).set (x8).toNat y4_) 4) <|
     ww (qa_ rwf_b x1 4) <|
     ee) (by kernel_rfl)
 ·rw [if_neg hy1] at h
  obtain rfl := oI h
  exact runC2 hm (kW [5] [(0, 0, true), (1, 1, true)] 2 0) (zz 1 (xdF hy1) <|
   ww (qa_ rwf_b x0 4) <|
   ww (qa_ rwf_b x1 4) <|
   ee) (by kernel_rfl)
theorem ql2_ (n : Nat) {rnd : Option Nat} (x1 : List (Bool)) (x2 : Nat) (x3 : Nat) (x5 : Nat) (x6 : Nat) (x7 : Int) (st : List (Bool) × Bool × Int) (r : List (Bool) × Bool) (h : qgq_ n x1 x2 x3 x5 x6 x7 st = some r) : qn2_ rnd x1 x2 x3 x5 x6 x7 st r :=
 CG.iter (b := qbl_ P 15 [false, false, true, false, true, true]) (by kernel_rfl) (body := qbx_ n x1 x2 x3 x5 x6 x7) (S := qe3_ x1 x2 x3 x5 x6 x7) (X := qdw_ x1 x2 x3 x5 x6 x7)
  (fun s s' h => qjs_ n x1 x2 x3 x5 x6 x7 s (.inl s') h)
  (fun s r h => qjs_ n x1 x2 x3 x5 x6 x7 s (.inr r) h)
  (fun r => by intro hx; cases hx) h
def qdx_ (n : Nat) (a0 : List (Bool)) (a1 : Nat) (a2 : Nat) (a3 : List (Bool)) (a4 : Nat) (a5 : Nat) : Option (List (Bool) × Bool) :=
 (qgq_ n a3 a1 a2 a4 a5 ((a4 : Nat) : Int) (a0, true, 0)).bind fun t => match t with
 | (c1_0, c1_1) =>
  some (c1_0, c1_1)
theorem qnc_ (n : Nat) (a0 : List (Bool)) (a1 : Nat) (a2 : Nat) (a3 : List (Bool)) (a4 : Nat) (a5 : Nat) (r : List (Bool) × Bool) (h : qdx_ n a0 a1 a2 a3 a4 a5 = some r) : qqm_ a0 a1 a2 a3 a4 a5 r := by
 unfold qdx_ at h
 obtain ⟨⟨c1_0, c1_1⟩, hc1, h⟩ := oB h
 dsimp only at h
 obtain rfl := oI h
 exact runF2 hm (kW [4] [(0, 0, true), (1, 1, true)] 2 0) (ww (ql2_ n (rnd := none) a3 a1 a2 a4 a5 ((a4 : Nat) : Int) (a0, true, 0) (c1_0, c1_1) hc1) <|
  ww (qa_ rwf_b a0 4) <|
  ww (qa_ rwf_b a3 4) <|
  ll 10 ⟨(kW [0, 5, 8, 9, 10] [(0, 0, true), (1, 1, true)] 2 0), (qdw_ a3 a1 a2 a4 a5 ((a4 : Nat) : Int) (c1_0, c1_1)).1, (qdw_ a3 a1 a2 a4 a5 ((a4 : Nat) : Int) (c1_0, c1_1)).2⟩ <|
  ww (qa_ rwf_b c1_0 4) <|
  ww (qa_ rwf_b a3 4) <|
  ee) (by kernel_rfl)

def qe8_ (a0 : List (Bool)) (a1 : Nat) (a2 : Nat) (a3 : Bool) (r : Int) : Value := match r with
 | o0 => (i6 o0)
def qe9_ (a0 : List (Bool)) (a1 : Nat) (a2 : Nat) (a3 : Bool) (r : Int) : AH := match r with
 | o0 => ⟨sB [], 1, 1⟩
abbrev qid_ (a0 : List (Bool)) (a1 : Nat) (a2 : Nat) (a3 : Bool) (r : Int) : Prop := Gv P (.func 26) [(sN 0 0 a1 a2), (bO a3)] ⟨sB [(0, (cB (rows rw_b a0) 4))], 1, 1⟩ (qe8_ a0 a1 a2 a3 r) (qe9_ a0 a1 a2 a3 r)
abbrev qie_ (a0 : List (Bool)) (a1 : Nat) (a2 : Nat) (a3 : Bool) (r : Int) (ins outs : BL) : CallA := ⟨1, ins, qe8_ a0 a1 a2 a3 r, qe9_ a0 a1 a2 a3 r, outs⟩
def qb1_ (x0 : List (Bool)) (x1 : Nat) (x2 : Nat) (x3 : Bool) (x4 : Int) (st : Int) : XSt := match st with
 | x5 => (sT 19 [(0, (sN 0 0 x1 x2)), (1, (bO x3)), (7, (i6 x4)), (8, (i6 x5))], [], ⟨sB [(0, (cB (rows rw_b x0) 4))], 1, 1⟩)
def qx_ (x0 : List (Bool)) (x1 : Nat) (x2 : Nat) (x3 : Bool) (x4 : Int) (r : (Int) ⊕ (Unit)) : Ex × XSt := match r with
 | .inl z0 => (.ret, (sT 19 [(4, (i6 z0))], [], ⟨sB [(0, (cB (rows rw_b x0) 4))], 1, 1⟩))
 | .inr _ => (.exit 0, (sT 19 [], [], ⟨sB [(0, (cB (rows rw_b x0) 4))], 1, 1⟩))
abbrev qhe_ (rd : Option Nat) (x0 : List (Bool)) (x1 : Nat) (x2 : Nat) (x3 : Bool) (x4 : Int) (st : Int) (r : (Int) ⊕ (Unit)) : Prop := CG P rd (fnN P 26) 1 (qbl_ P 26 [false, true, false, true]) (qb1_ x0 x1 x2 x3 x4 st) (qx_ x0 x1 x2 x3 x4 r)
def qt_ (n : Nat) (x0 : List (Bool)) (x1 : Nat) (x2 : Nat) (x3 : Bool) (x4 : Int) (st : Int) : Option ((Int) ⊕ ((Int) ⊕ (Unit))) := match st with
 | x5 =>
  if x5 < x4 then
   if 0 ≤ x5 ∧ x5 < ((x1 : Nat) : Int) then
    if (x5).toNat < (x0).length then
     ((some ((x0).getD (x5).toNat (false)))).bind fun y4_ =>
     if x3 = y4_ then
      some (.inr (.inl x5))
     else
      some (.inl (w64 (x5 + 1)))
    else none
   else none
  else
   some (.inr (.inr ()))
def qb2_ (n : Nat) (x0 : List (Bool)) (x1 : Nat) (x2 : Nat) (x3 : Bool) (x4 : Int) (st : Int) : Option ((Int) ⊕ (Unit)) := iterM (qt_ n x0 x1 x2 x3 x4) n st
theorem qem_ (n : Nat) {rnd : Option Nat} (x0 : List (Bool)) (x1 : Nat) (x2 : Nat) (x3 : Bool) (x4 : Int) (x5 : Int) (o : (Int) ⊕ ((Int) ⊕ (Unit))) (h : qt_ n x0 x1 x2 x3 x4 x5 = some o) : CG P rnd (fnN P 26) 1 (qbl_ P 26 [false, false, true, false, true]) (qb1_ x0 x1 x2 x3 x4 x5) (Sum.elim (fun s => (.normal, qb1_ x0 x1 x2 x3 x4 s)) (fun r => qx_ x0 x1 x2 x3 x4 r) o) := by
 unfold qt_ at h
 dsimp only at h
 by_cases hy1 : x5 < x4
 ·rw [if_pos hy1] at h
  obtain ⟨hy2, h⟩ := gd h
  obtain ⟨hy3, h⟩ := gd h
  obtain ⟨y4_, hy4, h⟩ := oB h
  have k0 := fun {A L l} (k : PL A L l) => zz 1 (xdT hy1) <|
   zz 13 (xk7 0 x2 hy2) <|
   zz 14 (ok8 hy4 (hy3)) <|
   k
  by_cases hy5 : x3 = y4_
  ·rw [if_pos hy5] at h
   obtain rfl := oI h
   exact runC2 hm (kW [4] [(0, 0, true)] 1 1) (k0 <|
    yy 15 (vt) <|
    ww (p := (Value.bool (x3 == y4_)) = (Value.bool true)) (congrArg Value.bool (beq_iff_eq.2 hy5)) <|
    ww (qa_ rwf_b x0 4) <|
    ee) (by kernel_rfl)
  ·rw [if_neg hy5] at h
   obtain rfl := oI h
   exact runC2 hm (kW [0, 1, 7, 8] [(0, 0, true)] 1 1) (k0 <|
    yy 15 (vf) <|
    ww (p := (Value.bool (x3 == y4_)) = (Value.bool false)) (congrArg Value.bool (beq_eq_false_iff_ne.2 hy5)) <|
    ww (qa_ rwf_b x0 4) <|
    ee) (by kernel_rfl)
 ·rw [if_neg hy1] at h
  obtain rfl := oI h
  exact runC2 hm (kW [] [(0, 0, true)] 1 1) (zz 1 (xdF hy1) <|
   ww (qa_ rwf_b x0 4) <|
   ee) (by kernel_rfl)
theorem qdy_ (n : Nat) {rnd : Option Nat} (x0 : List (Bool)) (x1 : Nat) (x2 : Nat) (x3 : Bool) (x4 : Int) (st : Int) (r : (Int) ⊕ (Unit)) (h : qb2_ n x0 x1 x2 x3 x4 st = some r) : qhe_ rnd x0 x1 x2 x3 x4 st r :=
 CG.iter (b := qbl_ P 26 [false, false, true, false, true]) (by kernel_rfl) (body := qt_ n x0 x1 x2 x3 x4) (S := qb1_ x0 x1 x2 x3 x4) (X := qx_ x0 x1 x2 x3 x4)
  (fun s s' h => qem_ n x0 x1 x2 x3 x4 s (.inl s') h)
  (fun s r h => qem_ n x0 x1 x2 x3 x4 s (.inr r) h)
  (fun r => by intro hx; rcases r with _ | _ <;> cases hx) h
def qcd_ (n : Nat) (a0 : List (Bool)) (a1 : Nat) (a2 : Nat) (a3 : Bool) : Option (Int) :=
 match qb2_ n a0 a1 a2 a3 ((a1 : Nat) : Int) 0 with
 | none => none
 | some (.inl c1_) =>
  some c1_
 | some (.inr _) =>
  some (-1)
theorem qg4_ (n : Nat) (a0 : List (Bool)) (a1 : Nat) (a2 : Nat) (a3 : Bool) (r : Int) (h : qcd_ n a0 a1 a2 a3 = some r) : qid_ a0 a1 a2 a3 r := by
 unfold qcd_ at h
 rcases hc1 : qb2_ n a0 a1 a2 a3 ((a1 : Nat) : Int) 0 with _ | (c1_ | ⟨⟩)
 ·rw [hc1] at h; cases h
 ·rw [hc1] at h
  dsimp only at h
  obtain rfl := oI h
  exact runF2 hm (kW [4] [] 1 1) (ww (qdy_ n (rnd := none) a0 a1 a2 a3 ((a1 : Nat) : Int) 0 (.inl c1_) hc1) <|
   ww (qa_ rwf_b a0 4) <|
   ll 8 ⟨(kW [0, 1, 7, 8] [(0, 0, true)] 1 1), (qx_ a0 a1 a2 a3 ((a1 : Nat) : Int) (.inl c1_)).1, (qx_ a0 a1 a2 a3 ((a1 : Nat) : Int) (.inl c1_)).2⟩ <|
   ee) (by kernel_rfl)
 ·rw [hc1] at h
  dsimp only at h
  obtain rfl := oI h
  exact runF2 hm (kW [4] [] 1 1) (ww (qdy_ n (rnd := none) a0 a1 a2 a3 ((a1 : Nat) : Int) 0 (.inr ()) hc1) <|
   ww (qa_ rwf_b a0 4) <|
   ll 8 ⟨(kW [0, 1, 7, 8] [(0, 0, true)] 1 1), (qx_ a0 a1 a2 a3 ((a1 : Nat) : Int) (.inr ())).1, (qx_ a0 a1 a2 a3 ((a1 : Nat) : Int) (.inr ())).2⟩ <|
   ee) (by kernel_rfl)

def qec_ (a0 : List (Bool)) (a1 : Nat) (a2 : Nat) (a3 : Bool) (r : Bool) : Value := match r with
 | o0 => (bO o0)
def qed_ (a0 : List (Bool)) (a1 : Nat) (a2 : Nat) (a3 : Bool) (r : Bool) : AH := match r with
 | o0 => ⟨sB [], 1, 1⟩
abbrev qg5_ (a0 : List (Bool)) (a1 : Nat) (a2 : Nat) (a3 : Bool) (r : Bool) : Prop := Gv P (.func 16) [(sN 0 0 a1 a2), (bO a3)] ⟨sB [(0, (cB (rows rw_b a0) 4))], 1, 1⟩ (qec_ a0 a1 a2 a3 r) (qed_ a0 a1 a2 a3 r)
abbrev qg6_ (a0 : List (Bool)) (a1 : Nat) (a2 : Nat) (a3 : Bool) (r : Bool) (ins outs : BL) : CallA := ⟨1, ins, qec_ a0 a1 a2 a3 r, qed_ a0 a1 a2 a3 r, outs⟩
def q8_ (n : Nat) (a0 : List (Bool)) (a1 : Nat) (a2 : Nat) (a3 : Bool) : Option (Bool) :=
 (qcd_ n a0 a1 a2 a3).bind fun c1_ =>
 if c1_ ≥ 0 then
  some true
 else
  some false
theorem qgh_ (n : Nat) (a0 : List (Bool)) (a1 : Nat) (a2 : Nat) (a3 : Bool) (r : Bool) (h : q8_ n a0 a1 a2 a3 = some r) : qg5_ a0 a1 a2 a3 r := by
 unfold q8_ at h
 obtain ⟨c1_, hc1, h⟩ := oB h
 have k0 := fun {A L l} (k : PL A L l) => yy 5 (.call (qie_ a0 a1 a2 a3 c1_ [(0, 0, true)] [])) <|
  ww (qg4_ n a0 a1 a2 a3 c1_ hc1) <|
  ww (qa_ rwf_b a0 4) <|
  k
 by_cases hc2 : c1_ ≥ 0
 ·rw [if_pos hc2] at h
  obtain rfl := oI h
  exact runF2 hm (kW [4] [] 1 1) (k0 <|
   zz 6 (xdT hc2) <|
   ee) (by kernel_rfl)
 ·rw [if_neg hc2] at h
  obtain rfl := oI h
  exact runF2 hm (kW [4] [] 1 1) (k0 <|
   zz 6 (xdF hc2) <|
   ee) (by kernel_rfl)

def qnd_ (a0 : WL rw_iuuuuL) (r : Int) : Value := match r with
 | o0 => (i6 o0)
def qne_ (a0 : WL rw_iuuuuL) (r : Int) : AH := match r with
 | o0 => ⟨sB [], 0, 0⟩
abbrev qsu_ (a0 : WL rw_iuuuuL) (r : Int) : Prop := Gv P (.func 7) [(wlV a0)] ⟨sB [], 0, 0⟩ (qnd_ a0 r) (qne_ a0 r)
abbrev qhf_ (a0 : WL rw_iuuuuL) (r : Int) (ins outs : BL) : CallA := ⟨0, ins, qnd_ a0 r, qne_ a0 r, outs⟩
def qgf_ (x0 : WL rw_iuuuuL) (x2 : Nat) (x3 : Int) (st : List (Bool) × Int) : XSt := match st with
 | (x1, x4) => (sT 54 [(0, (wlV x0)), (3, (sN 0 0 x2 x2)), (19, (wlV x0)), (20, (i6 x3)), (21, (i6 x4))], [], ⟨sB [(0, (cB (rows rw_b x1) 4))], 1, 0⟩)
def qde_ (x0 : WL rw_iuuuuL) (x2 : Nat) (x3 : Int) (r : (Unit) ⊕ (List (Bool))) : Ex × XSt := match r with
 | .inl _ => (.ret, (sT 54 [(2, (i6 (2 : Int)))], [], ⟨sB [], 0, 0⟩))
 | .inr z0 => (.exit 0, (sT 54 [(0, (wlV x0)), (3, (sN 0 0 x2 x2))], [], ⟨sB [(0, (cB (rows rw_b z0) 4))], 1, 0⟩))
abbrev qqo_ (rnd : Option Nat) (x0 : WL rw_iuuuuL) (x2 : Nat) (x3 : Int) (st : List (Bool) × Int) (c : Ex × XSt) : Prop := CG P rnd (fnN P 7) 0 (qbl_ P 7 [false, false, true, false, true, true, true]) (qgf_ x0 x2 x3 st) c
abbrev qqp_ (rd : Option Nat) (x0 : WL rw_iuuuuL) (x2 : Nat) (x3 : Int) (st : List (Bool) × Int) (r : (Unit) ⊕ (List (Bool))) : Prop := CG P rd (fnN P 7) 0 (qbl_ P 7 [false, true, false, true, true, true]) (qgf_ x0 x2 x3 st) (qde_ x0 x2 x3 r)
def qcp_ (n : Nat) (x0 : WL rw_iuuuuL) (x2 : Nat) (x3 : Int) (st : List (Bool) × Int) : Option ((List (Bool) × Int) ⊕ ((Unit) ⊕ (List (Bool)))) := match st with
 | (x1, x4) =>
  if x4 < x3 then
   if 0 ≤ x4 ∧ x4 < (((x0).l.length : Nat) : Int) then
    ((some (((x0).l).getD (x4).toNat (0, 0, 0, 0, 0, nl0)))).bind fun y3_ =>
    match qda_ n (y3_.1) (y3_.2.1) (y3_.2.2.1) (y3_.2.2.2.1) (y3_.2.2.2.2.1) (y3_.2.2.2.2.2) x4 (((x0).l.length : Nat) : Int) with
    | none => none
    | some (.inl _) =>
     some (.inr (.inl ()))
    | some (.inr y4_) =>
     (qfx_ n (y3_.1) (y3_.2.1) (y3_.2.2.1) (y3_.2.2.2.1) (y3_.2.2.2.2.1) (y3_.2.2.2.2.2)).bind fun y5_ =>
     if y5_ = true then
      (qdx_ n x1 x2 x2 y4_ (((((x0).l.length : Nat) : Int)).toNat) (((((x0).l.length : Nat) : Int)).toNat)).bind fun t => match t with
      | (y7_0, y7_1) =>
       if y7_1 = true then
        some (.inl (y7_0, (w64 (x4 + 1))))
       else
        some (.inr (.inl ()))
     else
      some (.inr (.inl ()))
   else none
  else
   some (.inr (.inr x1))
def qdz_ (n : Nat) (x0 : WL rw_iuuuuL) (x2 : Nat) (x3 : Int) (st : List (Bool) × Int) : Option ((Unit) ⊕ (List (Bool))) := iterM (qcp_ n x0 x2 x3) n st
theorem qlq_ (n : Nat) {rnd : Option Nat} (x0 : WL rw_iuuuuL) (x2 : Nat) (x3 : Int) (st : List (Bool) × Int) (o : (List (Bool) × Int) ⊕ ((Unit) ⊕ (List (Bool)))) (h : qcp_ n x0 x2 x3 st = some o) : qqo_ rnd x0 x2 x3 st (Sum.elim (fun s => (.normal, qgf_ x0 x2 x3 s)) (fun r => qde_ x0 x2 x3 r) o) := by
 obtain ⟨x1, x4⟩ := st
 unfold qcp_ at h
 dsimp only at h
 by_cases hy1 : x4 < x3
 ·rw [if_pos hy1] at h
  obtain ⟨hy2, h⟩ := gd h
  obtain ⟨y3_, hy3, h⟩ := oB h
  have k0 := fun {A L l} (k : PL A L l) => zz 1 (xdT hy1) <|
   zz 8 (xk1 (x0).num (x0).off (x0).cap hy2) <|
   zz 9 (lk4 hy3 (qlm_ hy2)) <|
   k
  rcases hy4 : qda_ n (y3_.1) (y3_.2.1) (y3_.2.2.1) (y3_.2.2.2.1) (y3_.2.2.2.2.1) (y3_.2.2.2.2.2) x4 (((x0).l.length : Nat) : Int) with _ | (⟨⟩ | y4_)
  ·rw [hy4] at h; cases h
  ·rw [hy4] at h
   dsimp only at h
   obtain rfl := oI h
   exact runC2 hm (kW [2] [] 0 0) (k0 <|
    yy 18 (.call (qme_ (y3_.1) (y3_.2.1) (y3_.2.2.1) (y3_.2.2.2.1) (y3_.2.2.2.2.1) (y3_.2.2.2.2.2) x4 (((x0).l.length : Nat) : Int) (.inl ()) [] [])) <|
    ww (qjr_ n (y3_.1) (y3_.2.1) (y3_.2.2.1) (y3_.2.2.2.1) (y3_.2.2.2.2.1) (y3_.2.2.2.2.2) x4 (((x0).l.length : Nat) : Int) (.inl ()) hy4) <|
    ee) (by kernel_rfl)
  ·rw [hy4] at h
   dsimp only at h
   obtain ⟨y5_, hy5, h⟩ := oB h
   have k3 := fun {A L l} (k : PL A L l) => yy 18 (.call (qme_ (y3_.1) (y3_.2.1) (y3_.2.2.1) (y3_.2.2.2.1) (y3_.2.2.2.2.1) (y3_.2.2.2.2.2) x4 (((x0).l.length : Nat) : Int) (.inr y4_) [] [(2, 0, true)])) <|
    ww (qjr_ n (y3_.1) (y3_.2.1) (y3_.2.2.1) (y3_.2.2.2.1) (y3_.2.2.2.2.1) (y3_.2.2.2.2.2) x4 (((x0).l.length : Nat) : Int) (.inr y4_) hy4) <|
    ww (qa_ rwf_b y4_ 4) <|
    yy 29 (.call (C_regexfitsq1 (y3_.1) (y3_.2.1) (y3_.2.2.1) (y3_.2.2.2.1) (y3_.2.2.2.2.1) (y3_.2.2.2.2.2) y5_ [] [])) <|
    ww (qql_ n (y3_.1) (y3_.2.1) (y3_.2.2.1) (y3_.2.2.2.1) (y3_.2.2.2.2.1) (y3_.2.2.2.2.2) y5_ hy5) <|
    k
   by_cases hy6 : y5_ = true
   ·rw [if_pos hy6] at h
    obtain ⟨⟨y7_0, y7_1⟩, hy7, h⟩ := oB h
    dsimp only at h
    have k8 := fun {A L l} (k : PL A L l) => yy 30 (vf) <|
     ww (p := (Value.bool (!y5_)) = (Value.bool false)) (vBn hy6) <|
     yy 35 (.call (qqn_ x1 x2 x2 y4_ (((((x0).l.length : Nat) : Int)).toNat) (((((x0).l.length : Nat) : Int)).toNat) (y7_0, y7_1) [(0, 0, true), (1, 2, true)] [(0, 0, true), (2, 1, true)])) <|
     ww (qnc_ n x1 x2 x2 y4_ (((((x0).l.length : Nat) : Int)).toNat) (((((x0).l.length : Nat) : Int)).toNat) (y7_0, y7_1) hy7) <|
     ww (qa_ rwf_b x1 4) <|
     ww (qa_ rwf_b y4_ 4) <|
     ww (qa_ rwf_b y7_0 4) <|
     ww (qa_ rwf_b y4_ 4) <|
     k
    by_cases hy8 : y7_1 = true
    ·rw [if_pos hy8] at h
     obtain rfl := oI h
     exact runC2 hm (kW [0, 3, 19, 20, 21] [(0, 0, true)] 1 0) (k0 <|
      k3 <|
      k8 <|
      yy 36 (vf) <|
      ww (p := (Value.bool (!y7_1)) = (Value.bool false)) (vBn hy8) <|
      ww (qa_ rwf_b y7_0 4) <|
      ee) (by kernel_rfl)
    ·rw [if_neg hy8] at h
     obtain rfl := oI h
     exact runC2 hm (kW [2] [] 0 0) (k0 <|
      k3 <|
      k8 <|
      yy 36 (vt) <|
      ww (p := (Value.bool (!y7_1)) = (Value.bool true)) (vBn (Bool.eq_false_iff.2 hy8)) <|
      ee) (by kernel_rfl)
   ·rw [if_neg hy6] at h
    obtain rfl := oI h
    exact runC2 hm (kW [2] [] 0 0) (k0 <|
     k3 <|
     yy 30 (vt) <|
     ww (p := (Value.bool (!y5_)) = (Value.bool true)) (vBn (Bool.eq_false_iff.2 hy6)) <|
     ee) (by kernel_rfl)
 ·rw [if_neg hy1] at h
  obtain rfl := oI h
  exact runC2 hm (kW [0, 3] [(0, 0, true)] 1 0) (zz 1 (xdF hy1) <|
   ww (qa_ rwf_b x1 4) <|
   ee) (by kernel_rfl)
theorem qi5_ (n : Nat) {rnd : Option Nat} (x0 : WL rw_iuuuuL) (x2 : Nat) (x3 : Int) (st : List (Bool) × Int) (r : (Unit) ⊕ (List (Bool))) (h : qdz_ n x0 x2 x3 st = some r) : qqp_ rnd x0 x2 x3 st r :=
 CG.iter (b := qbl_ P 7 [false, false, true, false, true, true, true]) (by kernel_rfl) (body := qcp_ n x0 x2 x3) (S := qgf_ x0 x2 x3) (X := qde_ x0 x2 x3)
  (fun s s' h => qlq_ n x0 x2 x3 s (.inl s') h)
  (fun s r h => qlq_ n x0 x2 x3 s (.inr r) h)
  (fun r => by intro hx; rcases r with _ | _ <;> cases hx) h
def qdr_ (n : Nat) (a0 : WL rw_iuuuuL) : Option (Int) :=
 if (((a0).l.length : Nat) : Int) < 1 then
  some 2
 else
  if (((a0).l.length : Nat) : Int) > 512 then
   some 2
  else
   if 0 ≤ (((a0).l.length : Nat) : Int) then
    if ((((a0).l.length : Nat) : Int)).toNat * 1 ≤ 140737488355328 then
     match qdz_ n a0 (((((a0).l.length : Nat) : Int)).toNat) (((a0).l.length : Nat) : Int) ((List.replicate ((((a0).l.length : Nat) : Int)).toNat (false)), 0) with
     | none => none
     | some (.inl _) =>
      some 2
     | some (.inr c5_) =>
      ((some (w64 ((((a0).l.length : Nat) : Int) - 1)))).bind fun c6_ =>
      if 0 ≤ c6_ ∧ c6_ ≤ (((((((a0).l.length : Nat) : Int)).toNat) : Nat) : Int) then
       if (((((a0).l.length : Nat) : Int)).toNat) ≤ (((((a0).l.length : Nat) : Int)).toNat) ∧ ((((((a0).l.length : Nat) : Int)).toNat) < big ∨ (((((a0).l.length : Nat) : Int)).toNat) = Nat.add big 1) then
        (q8_ n c5_ ((c6_).toNat) (((((a0).l.length : Nat) : Int)).toNat) false).bind fun c9_ =>
        if c9_ = true then
         some 2
        else
         some 0
       else none
      else none
    else none
   else none
theorem qfo_ (n : Nat) (a0 : WL rw_iuuuuL) (r : Int) (h : qdr_ n a0 = some r) : qsu_ a0 r := by
 unfold qdr_ at h
 by_cases hc1 : (((a0).l.length : Nat) : Int) < 1
 ·rw [if_pos hc1] at h
  obtain rfl := oI h
  exact runF2 hm (kW [2] [] 0 0) (zz 6 (xdT hc1) <|
   ee) (by kernel_rfl)
 ·rw [if_neg hc1] at h
  have k0 := fun {A L l} (k : PL A L l) => zz 6 (xdF hc1) <|
   k
  by_cases hc2 : (((a0).l.length : Nat) : Int) > 512
  ·rw [if_pos hc2] at h
   obtain rfl := oI h
   exact runF2 hm (kW [2] [] 0 0) (k0 <|
    zz 10 (xdT hc2) <|
    ee) (by kernel_rfl)
  ·rw [if_neg hc2] at h
   obtain ⟨hc3, h⟩ := gd h
   obtain ⟨hc4, h⟩ := gd h
   have k1 := fun {A L l} (k : PL A L l) => zz 10 (xdF hc2) <|
    yy 16 (.mk ((((a0).l.length : Nat) : Int)).toNat (rows rw_b (List.replicate ((((a0).l.length : Nat) : Int)).toNat (false)))) <|
    ww (p := natOf (i6 (((a0).l.length : Nat) : Int)) = some ((((a0).l.length : Nat) : Int)).toNat) (qcr_ hc3) <|
    ww (p := natOf (i6 (((a0).l.length : Nat) : Int)) = some ((((a0).l.length : Nat) : Int)).toNat) (qcr_ hc3) <|
    ww (p := fits ((((a0).l.length : Nat) : Int)).toNat 1 = true) (fits_ok hc4 (by omega)) <|
    ww (p := isZ8 [(bO false)] = false) (rfl) <|
    ww (p := reps [(bO false)] ((((a0).l.length : Nat) : Int)).toNat = (rows rw_b (List.replicate ((((a0).l.length : Nat) : Int)).toNat (false)))) (qi3_ rw_b (false) _ rfl _) <|
    k
   rcases hc5 : qdz_ n a0 (((((a0).l.length : Nat) : Int)).toNat) (((a0).l.length : Nat) : Int) ((List.replicate ((((a0).l.length : Nat) : Int)).toNat (false)), 0) with _ | (⟨⟩ | c5_)
   ·rw [hc5] at h; cases h
   ·rw [hc5] at h
    dsimp only at h
    obtain rfl := oI h
    exact runF2 hm (kW [2] [] 0 0) (k0 <|
     k1 <|
     ww (qi5_ n (rnd := none) a0 (((((a0).l.length : Nat) : Int)).toNat) (((a0).l.length : Nat) : Int) ((List.replicate ((((a0).l.length : Nat) : Int)).toNat (false)), 0) (.inl ()) hc5) <|
     ww (qa_ rwf_b (List.replicate ((((a0).l.length : Nat) : Int)).toNat (false)) 4) <|
     ll 24 ⟨(kW [0, 3, 19, 20, 21] [(0, 0, true)] 1 0), (qde_ a0 (((((a0).l.length : Nat) : Int)).toNat) (((a0).l.length : Nat) : Int) (.inl ())).1, (qde_ a0 (((((a0).l.length : Nat) : Int)).toNat) (((a0).l.length : Nat) : Int) (.inl ())).2⟩ <|
     ee) (by kernel_rfl)
   ·rw [hc5] at h
    dsimp only at h
    obtain ⟨c6_, hc6, h⟩ := oB h
    obtain ⟨hc7, h⟩ := gd h
    obtain ⟨hc8, h⟩ := gd h
    obtain ⟨c9_, hc9, h⟩ := oB h
    have k8 := fun {A L l} (k : PL A L l) => ww (qi5_ n (rnd := none) a0 (((((a0).l.length : Nat) : Int)).toNat) (((a0).l.length : Nat) : Int) ((List.replicate ((((a0).l.length : Nat) : Int)).toNat (false)), 0) (.inr c5_) hc5) <|
     ww (qa_ rwf_b (List.replicate ((((a0).l.length : Nat) : Int)).toNat (false)) 4) <|
     ll 24 ⟨(kW [0, 3, 19, 20, 21] [(0, 0, true)] 1 0), (qde_ a0 (((((a0).l.length : Nat) : Int)).toNat) (((a0).l.length : Nat) : Int) (.inr c5_)).1, (qde_ a0 (((((a0).l.length : Nat) : Int)).toNat) (((a0).l.length : Nat) : Int) (.inr c5_)).2⟩ <|
     zz 30 (xnm hc6) <|
     yy 31 (.pur (sN 0 0 (c6_).toNat (((((a0).l.length : Nat) : Int)).toNat))) <|
     ww (p := qe5_ P 43 (sN 0 0 (((((a0).l.length : Nat) : Int)).toNat) (((((a0).l.length : Nat) : Int)).toNat)) none (some (i6 c6_)) none Ax.h0 = some ((sN 0 0 (c6_).toNat (((((a0).l.length : Nat) : Int)).toNat)), Ax.h0)) (slHiV (e := 4) (es := 1) (by kernel_rfl) (by kernel_rfl) rfl rfl hc7 hc8) <|
     yy 32 (.call (qg6_ c5_ ((c6_).toNat) (((((a0).l.length : Nat) : Int)).toNat) false c9_ [(0, 0, true)] [])) <|
     ww (qgh_ n c5_ ((c6_).toNat) (((((a0).l.length : Nat) : Int)).toNat) false c9_ hc9) <|
     ww (qa_ rwf_b c5_ 4) <|
     k
    by_cases hc10 : c9_ = true
    ·rw [if_pos hc10] at h
     obtain rfl := oI h
     exact runF2 hm (kW [2] [] 0 0) (k0 <|
      k1 <|
      k8 <|
      zz 33 (xbT hc10) <|
      ee) (by kernel_rfl)
    ·rw [if_neg hc10] at h
     obtain rfl := oI h
     exact runF2 hm (kW [2] [] 0 0) (k0 <|
      k1 <|
      k8 <|
      zz 33 (xbF hc10) <|
      ee) (by kernel_rfl)

def qi6_ (a0 : Int) (a1 : List (Bool)) (a2 : Nat) (a3 : Nat) (r : Bool) : Value := match r with
 | o0 => (bO o0)
def qi7_ (a0 : Int) (a1 : List (Bool)) (a2 : Nat) (a3 : Nat) (r : Bool) : AH := match r with
 | o0 => ⟨sB [], 2, 2⟩
abbrev qnf_ (a0 : Int) (a1 : List (Bool)) (a2 : Nat) (a3 : Nat) (r : Bool) : Prop := Gv P (.func 28) [(i6 a0), (pN 0 0)] ⟨sB [(0, (cB [(sN 1 0 a2 a3)] 43)), (1, (cB (rows rw_b a1) 4))], 2, 2⟩ (qi6_ a0 a1 a2 a3 r) (qi7_ a0 a1 a2 a3 r)
abbrev qng_ (a0 : Int) (a1 : List (Bool)) (a2 : Nat) (a3 : Nat) (r : Bool) (ins outs : BL) : CallA := ⟨2, ins, qi6_ a0 a1 a2 a3 r, qi7_ a0 a1 a2 a3 r, outs⟩
def qen_ (n : Nat) (a0 : Int) (a1 : List (Bool)) (a2 : Nat) (a3 : Nat) : Option (Bool) :=
 if 0 ≤ a0 ∧ a0 < ((a2 : Nat) : Int) then
  if (a0).toNat < (a1).length then
   ((some ((a1).getD (a0).toNat (false)))).bind fun c3_ =>
   if c3_ = true then
    some false
   else
    some true
  else none
 else none
theorem qlr_ (n : Nat) (a0 : Int) (a1 : List (Bool)) (a2 : Nat) (a3 : Nat) (r : Bool) (h : qen_ n a0 a1 a2 a3 = some r) : qnf_ a0 a1 a2 a3 r := by
 unfold qen_ at h
 obtain ⟨hc1, h⟩ := gd h
 obtain ⟨hc2, h⟩ := gd h
 obtain ⟨c3_, hc3, h⟩ := oB h
 have k0 := fun {A L l} (k : PL A L l) => zz 5 (xk7 1 a3 hc1) <|
  zz 6 (ok8 hc3 (hc2)) <|
  k
 by_cases hc4 : c3_ = true
 ·rw [if_pos hc4] at h
  obtain rfl := oI h
  exact runF2 hm (kW [3] [] 2 2) (k0 <|
   yy 7 (vf) <|
   ww (p := (Value.bool (!c3_)) = (Value.bool false)) (vBn hc4) <|
   ee) (by kernel_rfl)
 ·rw [if_neg hc4] at h
  obtain rfl := oI h
  exact runF2 hm (kW [3] [] 2 2) (k0 <|
   yy 7 (vt) <|
   ww (p := (Value.bool (!c3_)) = (Value.bool true)) (vBn (Bool.eq_false_iff.2 hc4)) <|
   ee) (by kernel_rfl)

def qfy_ (a0 : NL) (a1 : List (Bool)) (a2 : Nat) (a3 : Nat) (r : Int) : Value := match r with
 | o0 => (i6 o0)
def qfz_ (a0 : NL) (a1 : List (Bool)) (a2 : Nat) (a3 : Nat) (r : Int) : AH := match r with
 | o0 => ⟨sB [], 2, 2⟩
abbrev qjt_ (a0 : NL) (a1 : List (Bool)) (a2 : Nat) (a3 : Nat) (r : Int) : Prop := Gv P (.func 48) [(nlV a0), (Value.func (.func 28) #[] #[(pN 0 0)])] ⟨sB [(0, (cB [(sN 1 0 a2 a3)] 43)), (1, (cB (rows rw_b a1) 4))], 2, 2⟩ (qfy_ a0 a1 a2 a3 r) (qfz_ a0 a1 a2 a3 r)
abbrev qju_ (a0 : NL) (a1 : List (Bool)) (a2 : Nat) (a3 : Nat) (r : Int) (ins outs : BL) : CallA := ⟨2, ins, qfy_ a0 a1 a2 a3 r, qfz_ a0 a1 a2 a3 r, outs⟩
def qce_ (x0 : List (Bool)) (x1 : Nat) (x2 : Nat) (x3 : NL) (x4 : Int) (st : Int) : XSt := match st with
 | x5 => (sT 19 [(0, (nlV x3)), (1, (Value.func (.func 28) #[] #[(pN 0 0)])), (7, (i6 x4)), (8, (i6 x5))], [], ⟨sB [(0, (cB [(sN 1 0 x1 x2)] 43)), (1, (cB (rows rw_b x0) 4))], 2, 2⟩)
def q3_ (x0 : List (Bool)) (x1 : Nat) (x2 : Nat) (x3 : NL) (x4 : Int) (r : (Int) ⊕ (Unit)) : Ex × XSt := match r with
 | .inl z0 => (.ret, (sT 19 [(4, (i6 z0))], [], ⟨sB [(0, (cB [(sN 1 0 x1 x2)] 43)), (1, (cB (rows rw_b x0) 4))], 2, 2⟩))
 | .inr _ => (.exit 0, (sT 19 [], [], ⟨sB [(0, (cB [(sN 1 0 x1 x2)] 43)), (1, (cB (rows rw_b x0) 4))], 2, 2⟩))
abbrev qif_ (rd : Option Nat) (x0 : List (Bool)) (x1 : Nat) (x2 : Nat) (x3 : NL) (x4 : Int) (st : Int) (r : (Int) ⊕ (Unit)) : Prop := CG P rd (fnN P 48) 2 (qbl_ P 48 [false, true, false, true]) (qce_ x0 x1 x2 x3 x4 st) (q3_ x0 x1 x2 x3 x4 r)
def qv_ (n : Nat) (x0 : List (Bool)) (x1 : Nat) (x2 : Nat) (x3 : NL) (x4 : Int) (st : Int) : Option ((Int) ⊕ ((Int) ⊕ (Unit))) := match st with
 | x5 =>
  if x5 < x4 then
   if 0 ≤ x5 ∧ x5 < (((x3).l.length : Nat) : Int) then
    if (x5).toNat < ((x3).l).length then
     ((some (((x3).l).getD (x5).toNat 0))).bind fun y4_ =>
     (qen_ n y4_ x0 x1 x2).bind fun y5_ =>
     if y5_ = true then
      some (.inr (.inl x5))
     else
      some (.inl (w64 (x5 + 1)))
    else none
   else none
  else
   some (.inr (.inr ()))
def qcf_ (n : Nat) (x0 : List (Bool)) (x1 : Nat) (x2 : Nat) (x3 : NL) (x4 : Int) (st : Int) : Option ((Int) ⊕ (Unit)) := iterM (qv_ n x0 x1 x2 x3 x4) n st
theorem qfa_ (n : Nat) {rnd : Option Nat} (x0 : List (Bool)) (x1 : Nat) (x2 : Nat) (x3 : NL) (x4 : Int) (x5 : Int) (o : (Int) ⊕ ((Int) ⊕ (Unit))) (h : qv_ n x0 x1 x2 x3 x4 x5 = some o) : CG P rnd (fnN P 48) 2 (qbl_ P 48 [false, false, true, false, true]) (qce_ x0 x1 x2 x3 x4 x5) (Sum.elim (fun s => (.normal, qce_ x0 x1 x2 x3 x4 s)) (fun r => q3_ x0 x1 x2 x3 x4 r) o) := by
 unfold qv_ at h
 dsimp only at h
 by_cases hy1 : x5 < x4
 ·rw [if_pos hy1] at h
  obtain ⟨hy2, h⟩ := gd h
  obtain ⟨hy3, h⟩ := gd h
  obtain ⟨y4_, hy4, h⟩ := oB h
  obtain ⟨y5_, hy5, h⟩ := oB h
  have k0 := fun {A L l} (k : PL A L l) => zz 1 (xdT hy1) <|
   zz 13 (xk5 (Nat.add (x3).num 64) (x3).off (x3).cap hy2) <|
   zz 14 (nk6 hy4 hy3) <|
   yy 15 (.call (qng_ y4_ x0 x1 x2 y5_ [(0, 0, false), (1, 1, true)] [])) <|
   ww (qlr_ n y4_ x0 x1 x2 y5_ hy5) <|
   ww (qa_ rwf_b x0 4) <|
   k
  by_cases hy6 : y5_ = true
  ·rw [if_pos hy6] at h
   obtain rfl := oI h
   exact runC2 hm (kW [4] [(0, 0, false), (1, 1, true)] 2 2) (k0 <|
    zz 16 (xbT hy6) <|
    ww (qa_ rwf_b x0 4) <|
    ee) (by kernel_rfl)
  ·rw [if_neg hy6] at h
   obtain rfl := oI h
   exact runC2 hm (kW [0, 1, 7, 8] [(0, 0, false), (1, 1, true)] 2 2) (k0 <|
    zz 16 (xbF hy6) <|
    ww (qa_ rwf_b x0 4) <|
    ee) (by kernel_rfl)
 ·rw [if_neg hy1] at h
  obtain rfl := oI h
  exact runC2 hm (kW [] [(0, 0, false), (1, 1, true)] 2 2) (zz 1 (xdF hy1) <|
   ww (qa_ rwf_b x0 4) <|
   ee) (by kernel_rfl)
theorem qee_ (n : Nat) {rnd : Option Nat} (x0 : List (Bool)) (x1 : Nat) (x2 : Nat) (x3 : NL) (x4 : Int) (st : Int) (r : (Int) ⊕ (Unit)) (h : qcf_ n x0 x1 x2 x3 x4 st = some r) : qif_ rnd x0 x1 x2 x3 x4 st r :=
 CG.iter (b := qbl_ P 48 [false, false, true, false, true]) (by kernel_rfl) (body := qv_ n x0 x1 x2 x3 x4) (S := qce_ x0 x1 x2 x3 x4) (X := q3_ x0 x1 x2 x3 x4)
  (fun s s' h => qfa_ n x0 x1 x2 x3 x4 s (.inl s') h)
  (fun s r h => qfa_ n x0 x1 x2 x3 x4 s (.inr r) h)
  (fun r => by intro hx; rcases r with _ | _ <;> cases hx) h
def qct_ (n : Nat) (a0 : NL) (a1 : List (Bool)) (a2 : Nat) (a3 : Nat) : Option (Int) :=
 match qcf_ n a1 a2 a3 a0 (((a0).l.length : Nat) : Int) 0 with
 | none => none
 | some (.inl c1_) =>
  some c1_
 | some (.inr _) =>
  some (-1)
theorem qhy_ (n : Nat) (a0 : NL) (a1 : List (Bool)) (a2 : Nat) (a3 : Nat) (r : Int) (h : qct_ n a0 a1 a2 a3 = some r) : qjt_ a0 a1 a2 a3 r := by
 unfold qct_ at h
 rcases hc1 : qcf_ n a1 a2 a3 a0 (((a0).l.length : Nat) : Int) 0 with _ | (c1_ | ⟨⟩)
 ·rw [hc1] at h; cases h
 ·rw [hc1] at h
  dsimp only at h
  obtain rfl := oI h
  exact runF2 hm (kW [4] [] 2 2) (ww (qee_ n (rnd := none) a1 a2 a3 a0 (((a0).l.length : Nat) : Int) 0 (.inl c1_) hc1) <|
   ww (qa_ rwf_b a1 4) <|
   ll 8 ⟨(kW [0, 1, 7, 8] [(0, 0, false), (1, 1, true)] 2 2), (q3_ a1 a2 a3 a0 (((a0).l.length : Nat) : Int) (.inl c1_)).1, (q3_ a1 a2 a3 a0 (((a0).l.length : Nat) : Int) (.inl c1_)).2⟩ <|
   ee) (by kernel_rfl)
 ·rw [hc1] at h
  dsimp only at h
  obtain rfl := oI h
  exact runF2 hm (kW [4] [] 2 2) (ww (qee_ n (rnd := none) a1 a2 a3 a0 (((a0).l.length : Nat) : Int) 0 (.inr ()) hc1) <|
   ww (qa_ rwf_b a1 4) <|
   ll 8 ⟨(kW [0, 1, 7, 8] [(0, 0, false), (1, 1, true)] 2 2), (q3_ a1 a2 a3 a0 (((a0).l.length : Nat) : Int) (.inr ())).1, (q3_ a1 a2 a3 a0 (((a0).l.length : Nat) : Int) (.inr ())).2⟩ <|
   ee) (by kernel_rfl)

def qes_ (a0 : NL) (a1 : List (Bool)) (a2 : Nat) (a3 : Nat) (r : Bool) : Value := match r with
 | o0 => (bO o0)
def qet_ (a0 : NL) (a1 : List (Bool)) (a2 : Nat) (a3 : Nat) (r : Bool) : AH := match r with
 | o0 => ⟨sB [], 2, 2⟩
abbrev qhz_ (a0 : NL) (a1 : List (Bool)) (a2 : Nat) (a3 : Nat) (r : Bool) : Prop := Gv P (.func 29) [(nlV a0), (Value.func (.func 28) #[] #[(pN 0 0)])] ⟨sB [(0, (cB [(sN 1 0 a2 a3)] 43)), (1, (cB (rows rw_b a1) 4))], 2, 2⟩ (qes_ a0 a1 a2 a3 r) (qet_ a0 a1 a2 a3 r)
abbrev qh0_ (a0 : NL) (a1 : List (Bool)) (a2 : Nat) (a3 : Nat) (r : Bool) (ins outs : BL) : CallA := ⟨2, ins, qes_ a0 a1 a2 a3 r, qet_ a0 a1 a2 a3 r, outs⟩
def qbn_ (n : Nat) (a0 : NL) (a1 : List (Bool)) (a2 : Nat) (a3 : Nat) : Option (Bool) :=
 (qct_ n a0 a1 a2 a3).bind fun c1_ =>
 if c1_ ≥ 0 then
  some true
 else
  some false
theorem qg0_ (n : Nat) (a0 : NL) (a1 : List (Bool)) (a2 : Nat) (a3 : Nat) (r : Bool) (h : qbn_ n a0 a1 a2 a3 = some r) : qhz_ a0 a1 a2 a3 r := by
 unfold qbn_ at h
 obtain ⟨c1_, hc1, h⟩ := oB h
 have k0 := fun {A L l} (k : PL A L l) => yy 5 (.call (qju_ a0 a1 a2 a3 c1_ [(0, 0, false), (1, 1, true)] [])) <|
  ww (qhy_ n a0 a1 a2 a3 c1_ hc1) <|
  ww (qa_ rwf_b a1 4) <|
  k
 by_cases hc2 : c1_ ≥ 0
 ·rw [if_pos hc2] at h
  obtain rfl := oI h
  exact runF2 hm (kW [4] [] 2 2) (k0 <|
   zz 6 (xdT hc2) <|
   ee) (by kernel_rfl)
 ·rw [if_neg hc2] at h
  obtain rfl := oI h
  exact runF2 hm (kW [4] [] 2 2) (k0 <|
   zz 6 (xdF hc2) <|
   ee) (by kernel_rfl)

def qi8_ (a0 : Int) (a1 : List (Bool)) (a2 : Nat) (a3 : Nat) (r : Bool) : Value := match r with
 | o0 => (bO o0)
def qi9_ (a0 : Int) (a1 : List (Bool)) (a2 : Nat) (a3 : Nat) (r : Bool) : AH := match r with
 | o0 => ⟨sB [], 2, 2⟩
abbrev qnh_ (a0 : Int) (a1 : List (Bool)) (a2 : Nat) (a3 : Nat) (r : Bool) : Prop := Gv P (.func 27) [(i6 a0), (pN 0 0)] ⟨sB [(0, (cB [(sN 1 0 a2 a3)] 43)), (1, (cB (rows rw_b a1) 4))], 2, 2⟩ (qi8_ a0 a1 a2 a3 r) (qi9_ a0 a1 a2 a3 r)
abbrev qni_ (a0 : Int) (a1 : List (Bool)) (a2 : Nat) (a3 : Nat) (r : Bool) (ins outs : BL) : CallA := ⟨2, ins, qi8_ a0 a1 a2 a3 r, qi9_ a0 a1 a2 a3 r, outs⟩
def qeo_ (n : Nat) (a0 : Int) (a1 : List (Bool)) (a2 : Nat) (a3 : Nat) : Option (Bool) :=
 if 0 ≤ a0 ∧ a0 < ((a2 : Nat) : Int) then
  if (a0).toNat < (a1).length then
   ((some ((a1).getD (a0).toNat (false)))).bind fun c3_ =>
   some c3_
  else none
 else none
theorem qls_ (n : Nat) (a0 : Int) (a1 : List (Bool)) (a2 : Nat) (a3 : Nat) (r : Bool) (h : qeo_ n a0 a1 a2 a3 = some r) : qnh_ a0 a1 a2 a3 r := by
 unfold qeo_ at h
 obtain ⟨hc1, h⟩ := gd h
 obtain ⟨hc2, h⟩ := gd h
 obtain ⟨c3_, hc3, h⟩ := oB h
 obtain rfl := oI h
 exact runF2 hm (kW [3] [] 2 2) (zz 5 (xk7 1 a3 hc1) <|
  zz 6 (ok8 hc3 (hc2)) <|
  ee) (by kernel_rfl)

def qf0_ (a0 : NL) (a1 : List (Bool)) (a2 : Nat) (a3 : Nat) (r : Int) : Value := match r with
 | o0 => (i6 o0)
def qf1_ (a0 : NL) (a1 : List (Bool)) (a2 : Nat) (a3 : Nat) (r : Int) : AH := match r with
 | o0 => ⟨sB [], 2, 2⟩
abbrev qjv_ (a0 : NL) (a1 : List (Bool)) (a2 : Nat) (a3 : Nat) (r : Int) : Prop := Gv P (.func 48) [(nlV a0), (Value.func (.func 27) #[] #[(pN 0 0)])] ⟨sB [(0, (cB [(sN 1 0 a2 a3)] 43)), (1, (cB (rows rw_b a1) 4))], 2, 2⟩ (qf0_ a0 a1 a2 a3 r) (qf1_ a0 a1 a2 a3 r)
abbrev qjw_ (a0 : NL) (a1 : List (Bool)) (a2 : Nat) (a3 : Nat) (r : Int) (ins outs : BL) : CallA := ⟨2, ins, qf0_ a0 a1 a2 a3 r, qf1_ a0 a1 a2 a3 r, outs⟩
def qcg_ (x0 : List (Bool)) (x1 : Nat) (x2 : Nat) (x3 : NL) (x4 : Int) (st : Int) : XSt := match st with
 | x5 => (sT 19 [(0, (nlV x3)), (1, (Value.func (.func 27) #[] #[(pN 0 0)])), (7, (i6 x4)), (8, (i6 x5))], [], ⟨sB [(0, (cB [(sN 1 0 x1 x2)] 43)), (1, (cB (rows rw_b x0) 4))], 2, 2⟩)
def q4_ (x0 : List (Bool)) (x1 : Nat) (x2 : Nat) (x3 : NL) (x4 : Int) (r : (Int) ⊕ (Unit)) : Ex × XSt := match r with
 | .inl z0 => (.ret, (sT 19 [(4, (i6 z0))], [], ⟨sB [(0, (cB [(sN 1 0 x1 x2)] 43)), (1, (cB (rows rw_b x0) 4))], 2, 2⟩))
 | .inr _ => (.exit 0, (sT 19 [], [], ⟨sB [(0, (cB [(sN 1 0 x1 x2)] 43)), (1, (cB (rows rw_b x0) 4))], 2, 2⟩))
abbrev qig_ (rd : Option Nat) (x0 : List (Bool)) (x1 : Nat) (x2 : Nat) (x3 : NL) (x4 : Int) (st : Int) (r : (Int) ⊕ (Unit)) : Prop := CG P rd (fnN P 48) 2 (qbl_ P 48 [false, true, false, true]) (qcg_ x0 x1 x2 x3 x4 st) (q4_ x0 x1 x2 x3 x4 r)
def qw_ (n : Nat) (x0 : List (Bool)) (x1 : Nat) (x2 : Nat) (x3 : NL) (x4 : Int) (st : Int) : Option ((Int) ⊕ ((Int) ⊕ (Unit))) := match st with
 | x5 =>
  if x5 < x4 then
   if 0 ≤ x5 ∧ x5 < (((x3).l.length : Nat) : Int) then
    if (x5).toNat < ((x3).l).length then
     ((some (((x3).l).getD (x5).toNat 0))).bind fun y4_ =>
     (qeo_ n y4_ x0 x1 x2).bind fun y5_ =>
     if y5_ = true then
      some (.inr (.inl x5))
     else
      some (.inl (w64 (x5 + 1)))
    else none
   else none
  else
   some (.inr (.inr ()))
def qch_ (n : Nat) (x0 : List (Bool)) (x1 : Nat) (x2 : Nat) (x3 : NL) (x4 : Int) (st : Int) : Option ((Int) ⊕ (Unit)) := iterM (qw_ n x0 x1 x2 x3 x4) n st
theorem qfb_ (n : Nat) {rnd : Option Nat} (x0 : List (Bool)) (x1 : Nat) (x2 : Nat) (x3 : NL) (x4 : Int) (x5 : Int) (o : (Int) ⊕ ((Int) ⊕ (Unit))) (h : qw_ n x0 x1 x2 x3 x4 x5 = some o) : CG P rnd (fnN P 48) 2 (qbl_ P 48 [false, false, true, false, true]) (qcg_ x0 x1 x2 x3 x4 x5) (Sum.elim (fun s => (.normal, qcg_ x0 x1 x2 x3 x4 s)) (fun r => q4_ x0 x1 x2 x3 x4 r) o) := by
 unfold qw_ at h
 dsimp only at h
 by_cases hy1 : x5 < x4
 ·rw [if_pos hy1] at h
  obtain ⟨hy2, h⟩ := gd h
  obtain ⟨hy3, h⟩ := gd h
  obtain ⟨y4_, hy4, h⟩ := oB h
  obtain ⟨y5_, hy5, h⟩ := oB h
  have k0 := fun {A L l} (k : PL A L l) => zz 1 (xdT hy1) <|
   zz 13 (xk5 (Nat.add (x3).num 64) (x3).off (x3).cap hy2) <|
   zz 14 (nk6 hy4 hy3) <|
   yy 15 (.call (qni_ y4_ x0 x1 x2 y5_ [(0, 0, false), (1, 1, true)] [])) <|
   ww (qls_ n y4_ x0 x1 x2 y5_ hy5) <|
   ww (qa_ rwf_b x0 4) <|
   k
  by_cases hy6 : y5_ = true
  ·rw [if_pos hy6] at h
   obtain rfl := oI h
   exact runC2 hm (kW [4] [(0, 0, false), (1, 1, true)] 2 2) (k0 <|
    zz 16 (xbT hy6) <|
    ww (qa_ rwf_b x0 4) <|
    ee) (by kernel_rfl)
  ·rw [if_neg hy6] at h
   obtain rfl := oI h
   exact runC2 hm (kW [0, 1, 7, 8] [(0, 0, false), (1, 1, true)] 2 2) (k0 <|
    zz 16 (xbF hy6) <|
    ww (qa_ rwf_b x0 4) <|
    ee) (by kernel_rfl)
 ·rw [if_neg hy1] at h
  obtain rfl := oI h
  exact runC2 hm (kW [] [(0, 0, false), (1, 1, true)] 2 2) (zz 1 (xdF hy1) <|
   ww (qa_ rwf_b x0 4) <|
   ee) (by kernel_rfl)
theorem qef_ (n : Nat) {rnd : Option Nat} (x0 : List (Bool)) (x1 : Nat) (x2 : Nat) (x3 : NL) (x4 : Int) (st : Int) (r : (Int) ⊕ (Unit)) (h : qch_ n x0 x1 x2 x3 x4 st = some r) : qig_ rnd x0 x1 x2 x3 x4 st r :=
 CG.iter (b := qbl_ P 48 [false, false, true, false, true]) (by kernel_rfl) (body := qw_ n x0 x1 x2 x3 x4) (S := qcg_ x0 x1 x2 x3 x4) (X := q4_ x0 x1 x2 x3 x4)
  (fun s s' h => qfb_ n x0 x1 x2 x3 x4 s (.inl s') h)
  (fun s r h => qfb_ n x0 x1 x2 x3 x4 s (.inr r) h)
  (fun r => by intro hx; rcases r with _ | _ <;> cases hx) h
def qcu_ (n : Nat) (a0 : NL) (a1 : List (Bool)) (a2 : Nat) (a3 : Nat) : Option (Int) :=
 match qch_ n a1 a2 a3 a0 (((a0).l.length : Nat) : Int) 0 with
 | none => none
 | some (.inl c1_) =>
  some c1_
 | some (.inr _) =>
  some (-1)
theorem qh1_ (n : Nat) (a0 : NL) (a1 : List (Bool)) (a2 : Nat) (a3 : Nat) (r : Int) (h : qcu_ n a0 a1 a2 a3 = some r) : qjv_ a0 a1 a2 a3 r := by
 unfold qcu_ at h
 rcases hc1 : qch_ n a1 a2 a3 a0 (((a0).l.length : Nat) : Int) 0 with _ | (c1_ | ⟨⟩)
 ·rw [hc1] at h; cases h
 ·rw [hc1] at h
  dsimp only at h
  obtain rfl := oI h
  exact runF2 hm (kW [4] [] 2 2) (ww (qef_ n (rnd := none) a1 a2 a3 a0 (((a0).l.length : Nat) : Int) 0 (.inl c1_) hc1) <|
   ww (qa_ rwf_b a1 4) <|
   ll 8 ⟨(kW [0, 1, 7, 8] [(0, 0, false), (1, 1, true)] 2 2), (q4_ a1 a2 a3 a0 (((a0).l.length : Nat) : Int) (.inl c1_)).1, (q4_ a1 a2 a3 a0 (((a0).l.length : Nat) : Int) (.inl c1_)).2⟩ <|
   ee) (by kernel_rfl)
 ·rw [hc1] at h
  dsimp only at h
  obtain rfl := oI h
  exact runF2 hm (kW [4] [] 2 2) (ww (qef_ n (rnd := none) a1 a2 a3 a0 (((a0).l.length : Nat) : Int) 0 (.inr ()) hc1) <|
   ww (qa_ rwf_b a1 4) <|
   ll 8 ⟨(kW [0, 1, 7, 8] [(0, 0, false), (1, 1, true)] 2 2), (q4_ a1 a2 a3 a0 (((a0).l.length : Nat) : Int) (.inr ())).1, (q4_ a1 a2 a3 a0 (((a0).l.length : Nat) : Int) (.inr ())).2⟩ <|
   ee) (by kernel_rfl)

def qeu_ (a0 : NL) (a1 : List (Bool)) (a2 : Nat) (a3 : Nat) (r : Bool) : Value := match r with
 | o0 => (bO o0)
def qev_ (a0 : NL) (a1 : List (Bool)) (a2 : Nat) (a3 : Nat) (r : Bool) : AH := match r with
 | o0 => ⟨sB [], 2, 2⟩
abbrev qh2_ (a0 : NL) (a1 : List (Bool)) (a2 : Nat) (a3 : Nat) (r : Bool) : Prop := Gv P (.func 29) [(nlV a0), (Value.func (.func 27) #[] #[(pN 0 0)])] ⟨sB [(0, (cB [(sN 1 0 a2 a3)] 43)), (1, (cB (rows rw_b a1) 4))], 2, 2⟩ (qeu_ a0 a1 a2 a3 r) (qev_ a0 a1 a2 a3 r)
abbrev qew_ (a0 : NL) (a1 : List (Bool)) (a2 : Nat) (a3 : Nat) (r : Bool) (ins outs : BL) : CallA := ⟨2, ins, qeu_ a0 a1 a2 a3 r, qev_ a0 a1 a2 a3 r, outs⟩
def qbb_ (n : Nat) (a0 : NL) (a1 : List (Bool)) (a2 : Nat) (a3 : Nat) : Option (Bool) :=
 (qcu_ n a0 a1 a2 a3).bind fun c1_ =>
 if c1_ ≥ 0 then
  some true
 else
  some false
theorem qd5_ (n : Nat) (a0 : NL) (a1 : List (Bool)) (a2 : Nat) (a3 : Nat) (r : Bool) (h : qbb_ n a0 a1 a2 a3 = some r) : qh2_ a0 a1 a2 a3 r := by
 unfold qbb_ at h
 obtain ⟨c1_, hc1, h⟩ := oB h
 have k0 := fun {A L l} (k : PL A L l) => yy 5 (.call (qjw_ a0 a1 a2 a3 c1_ [(0, 0, false), (1, 1, true)] [])) <|
  ww (qh1_ n a0 a1 a2 a3 c1_ hc1) <|
  ww (qa_ rwf_b a1 4) <|
  k
 by_cases hc2 : c1_ ≥ 0
 ·rw [if_pos hc2] at h
  obtain rfl := oI h
  exact runF2 hm (kW [4] [] 2 2) (k0 <|
   zz 6 (xdT hc2) <|
   ee) (by kernel_rfl)
 ·rw [if_neg hc2] at h
  obtain rfl := oI h
  exact runF2 hm (kW [4] [] 2 2) (k0 <|
   zz 6 (xdF hc2) <|
   ee) (by kernel_rfl)

def qjx_ (a0 : WL rw_iuuuuL) (r : List (Bool)) : Value := match r with
 | o0 => (sN 0 0 (((((a0).l.length : Nat) : Int)).toNat) (((((a0).l.length : Nat) : Int)).toNat))
def qjy_ (a0 : WL rw_iuuuuL) (r : List (Bool)) : AH := match r with
 | o0 => ⟨sB [(0, (cB (rows rw_b o0) 4))], 1, 0⟩
abbrev qn3_ (a0 : WL rw_iuuuuL) (r : List (Bool)) : Prop := Gv P (.func 17) [(wlV a0)] ⟨sB [], 0, 0⟩ (qjx_ a0 r) (qjy_ a0 r)
abbrev qjz_ (a0 : WL rw_iuuuuL) (r : List (Bool)) (ins outs : BL) : CallA := ⟨0, ins, qjx_ a0 r, qjy_ a0 r, outs⟩
def qea_ (x1 : Nat) (x2 : WL rw_iuuuuL) (x3 : Int) (st : List (Bool) × Int) : XSt := match st with
 | (x0, x4) => (sT 51 [(3, (pN 0 0)), (11, (wlV x2)), (12, (i6 x3)), (13, (i6 x4))], [], ⟨sB [(0, (cB [(sN 1 0 x1 x1)] 43)), (1, (cB (rows rw_b x0) 4))], 2, 0⟩)
def qdf_ (x1 : Nat) (x2 : WL rw_iuuuuL) (x3 : Int) (r : List (Bool)) : Ex × XSt := match r with
 | z0 => (.exit 0, (sT 51 [(3, (pN 0 0))], [], ⟨sB [(0, (cB [(sN 1 0 x1 x1)] 43)), (1, (cB (rows rw_b z0) 4))], 2, 0⟩))
abbrev qms_ (rnd : Option Nat) (x1 : Nat) (x2 : WL rw_iuuuuL) (x3 : Int) (st : List (Bool) × Int) (c : Ex × XSt) : Prop := CG P rnd (fnN P 17) 0 (qbl_ P 17 [false, false, true, false, true, true]) (qea_ x1 x2 x3 st) c
abbrev qmt_ (rd : Option Nat) (x1 : Nat) (x2 : WL rw_iuuuuL) (x3 : Int) (st : List (Bool) × Int) (r : List (Bool)) : Prop := CG P rd (fnN P 17) 0 (qbl_ P 17 [false, true, false, true, true]) (qea_ x1 x2 x3 st) (qdf_ x1 x2 x3 r)
def qbo_ (n : Nat) (x1 : Nat) (x2 : WL rw_iuuuuL) (x3 : Int) (st : List (Bool) × Int) : Option ((List (Bool) × Int) ⊕ (List (Bool))) := match st with
 | (x0, x4) =>
  if x4 < x3 then
   if 0 ≤ x4 ∧ x4 < (((x2).l.length : Nat) : Int) then
    ((some (((x2).l).getD (x4).toNat (0, 0, 0, 0, 0, nl0)))).bind fun y3_ =>
    if (y3_.1) = 1 then
     if 0 ≤ x4 ∧ x4 < ((x1 : Nat) : Int) then
      if (x4).toNat < (x0).length then
       some (.inl (((x0).set (x4).toNat true), (w64 (x4 + 1))))
      else none
     else none
    else
     if (y3_.1) = 5 then
      if 0 ≤ x4 ∧ x4 < ((x1 : Nat) : Int) then
       if (x4).toNat < (x0).length then
        some (.inl (((x0).set (x4).toNat true), (w64 (x4 + 1))))
       else none
      else none
     else
      if (y3_.1) = 7 then
       if 0 ≤ x4 ∧ x4 < ((x1 : Nat) : Int) then
        if (x4).toNat < (x0).length then
         some (.inl (((x0).set (x4).toNat true), (w64 (x4 + 1))))
        else none
       else none
      else
       if (y3_.1) = 3 then
        (qbn_ n (y3_.2.2.2.2.2) x0 x1 x1).bind fun y8_ =>
        if y8_ = true then
         if 0 ≤ x4 ∧ x4 < ((x1 : Nat) : Int) then
          if (x4).toNat < (x0).length then
           some (.inl (((x0).set (x4).toNat false), (w64 (x4 + 1))))
          else none
         else none
        else
         if 0 ≤ x4 ∧ x4 < ((x1 : Nat) : Int) then
          if (x4).toNat < (x0).length then
           some (.inl (((x0).set (x4).toNat true), (w64 (x4 + 1))))
          else none
         else none
       else
        if (y3_.1) = 4 then
         (qbb_ n (y3_.2.2.2.2.2) x0 x1 x1).bind fun y9_ =>
         if 0 ≤ x4 ∧ x4 < ((x1 : Nat) : Int) then
          if (x4).toNat < (x0).length then
           some (.inl (((x0).set (x4).toNat y9_), (w64 (x4 + 1))))
          else none
         else none
        else
         if (y3_.1) = 6 then
          (qbb_ n (y3_.2.2.2.2.2) x0 x1 x1).bind fun y10_ =>
          if 0 ≤ x4 ∧ x4 < ((x1 : Nat) : Int) then
           if (x4).toNat < (x0).length then
            some (.inl (((x0).set (x4).toNat y10_), (w64 (x4 + 1))))
           else none
          else none
         else
          some (.inl (x0, (w64 (x4 + 1))))
   else none
  else
   some (.inr x0)
def qfr_ (n : Nat) (x1 : Nat) (x2 : WL rw_iuuuuL) (x3 : Int) (st : List (Bool) × Int) : Option (List (Bool)) := iterM (qbo_ n x1 x2 x3) n st
theorem qh3_ (n : Nat) {rnd : Option Nat} (x1 : Nat) (x2 : WL rw_iuuuuL) (x3 : Int) (st : List (Bool) × Int) (o : (List (Bool) × Int) ⊕ (List (Bool))) (h : qbo_ n x1 x2 x3 st = some o) : qms_ rnd x1 x2 x3 st (Sum.elim (fun s => (.normal, qea_ x1 x2 x3 s)) (fun r => qdf_ x1 x2 x3 r) o) := by
 obtain ⟨x0, x4⟩ := st
 unfold qbo_ at h
 dsimp only at h
 by_cases hy1 : x4 < x3
 ·rw [if_pos hy1] at h
  obtain ⟨hy2, h⟩ := gd h
  obtain ⟨y3_, hy3, h⟩ := oB h
  have k0 := fun {A L l} (k : PL A L l) => zz 1 (xdT hy1) <|
   zz 8 (xk1 (x2).num (x2).off (x2).cap hy2) <|
   zz 9 (lk4 hy3 (qlm_ hy2)) <|
   k
  by_cases hy4 : (y3_.1) = 1
  ·rw [if_pos hy4] at h
   obtain ⟨hy5, h⟩ := gd h
   obtain ⟨hy6, h⟩ := gd h
   obtain rfl := oI h
   exact runC2 hm (kW [3, 11, 12, 13] [(0, 0, false), (1, 1, true)] 2 0) (k0 <|
    zz 25 (xeT hy4) <|
    zz 31 (xk7 1 x1 hy5) <|
    yy 32 (.sto (layT (rows rw_b ((x0).set (x4).toNat true)))) <|
    ww (p := ∃ old, rdT (layT (rows rw_b x0)) 1 ((x4).toNat * 1) = some old) (Exists.elim (qbi_ rwf_b (false) (i := (x4).toNat) (j := 0) (l := [(bO true)]) true ((x4).toNat * 1) rfl (hy6) (Nat.le_of_ble_eq_true rfl) rfl) fun o h => ⟨o, h.1⟩) <|
    ww (p := layL [(bO true)] ((x4).toNat * 1) (layT (rows rw_b x0)) = layT (rows rw_b ((x0).set (x4).toNat true))) (Exists.elim (qbi_ rwf_b (false) (i := (x4).toNat) (j := 0) (l := [(bO true)]) true ((x4).toNat * 1) rfl (hy6) (Nat.le_of_ble_eq_true rfl) rfl) fun o h => h.2) <|
    ww (qa_ rwf_b ((x0).set (x4).toNat true) 4) <|
    ee) (by kernel_rfl)
  ·rw [if_neg hy4] at h
   have k3 := fun {A L l} (k : PL A L l) => zz 25 (xeF hy4) <|
    k
   by_cases hy5 : (y3_.1) = 5
   ·rw [if_pos hy5] at h
    obtain ⟨hy6, h⟩ := gd h
    obtain ⟨hy7, h⟩ := gd h
    obtain rfl := oI h
    exact runC2 hm (kW [3, 11, 12, 13] [(0, 0, false), (1, 1, true)] 2 0) (k0 <|
     k3 <|
     zz 29 (xeT hy5) <|
     zz 35 (xk7 1 x1 hy6) <|
     yy 36 (.sto (layT (rows rw_b ((x0).set (x4).toNat true)))) <|
     ww (p := ∃ old, rdT (layT (rows rw_b x0)) 1 ((x4).toNat * 1) = some old) (Exists.elim (qbi_ rwf_b (false) (i := (x4).toNat) (j := 0) (l := [(bO true)]) true ((x4).toNat * 1) rfl (hy7) (Nat.le_of_ble_eq_true rfl) rfl) fun o h => ⟨o, h.1⟩) <|
     ww (p := layL [(bO true)] ((x4).toNat * 1) (layT (rows rw_b x0)) = layT (rows rw_b ((x0).set (x4).toNat true))) (Exists.elim (qbi_ rwf_b (false) (i := (x4).toNat) (j := 0) (l := [(bO true)]) true ((x4).toNat * 1) rfl (hy7) (Nat.le_of_ble_eq_true rfl) rfl) fun o h => h.2) <|
     ww (qa_ rwf_b ((x0).set (x4).toNat true) 4) <|
     ee) (by kernel_rfl)
   ·rw [if_neg hy5] at h
    have k4 := fun {A L l} (k : PL A L l) => zz 29 (xeF hy5) <|
     k
    by_cases hy6 : (y3_.1) = 7
    ·rw [if_pos hy6] at h
     obtain ⟨hy7, h⟩ := gd h
     obtain ⟨hy8, h⟩ := gd h
     obtain rfl := oI h
     exact runC2 hm (kW [3, 11, 12, 13] [(0, 0, false), (1, 1, true)] 2 0) (k0 <|
      k3 <|
      k4 <|
      zz 32 (xeT hy6) <|
      zz 37 (xk7 1 x1 hy7) <|
      yy 38 (.sto (layT (rows rw_b ((x0).set (x4).toNat true)))) <|
      ww (p := ∃ old, rdT (layT (rows rw_b x0)) 1 ((x4).toNat * 1) = some old) (Exists.elim (qbi_ rwf_b (false) (i := (x4).toNat) (j := 0) (l := [(bO true)]) true ((x4).toNat * 1) rfl (hy8) (Nat.le_of_ble_eq_true rfl) rfl) fun o h => ⟨o, h.1⟩) <|
      ww (p := layL [(bO true)] ((x4).toNat * 1) (layT (rows rw_b x0)) = layT (rows rw_b ((x0).set (x4).toNat true))) (Exists.elim (qbi_ rwf_b (false) (i := (x4).toNat) (j := 0) (l := [(bO true)]) true ((x4).toNat * 1) rfl (hy8) (Nat.le_of_ble_eq_true rfl) rfl) fun o h => h.2) <|
      ww (qa_ rwf_b ((x0).set (x4).toNat true) 4) <|
      ee) (by kernel_rfl)
    ·rw [if_neg hy6] at h
     have k5 := fun {A L l} (k : PL A L l) => zz 32 (xeF hy6) <|
      k
     by_cases hy7 : (y3_.1) = 3
     ·rw [if_pos hy7] at h
      obtain ⟨y8_, hy8, h⟩ := oB h
      have k6 := fun {A L l} (k : PL A L l) => zz 36 (xeT hy7) <|
       yy 44 (.call (qh0_ (y3_.2.2.2.2.2) x0 x1 x1 y8_ [(0, 0, false), (1, 1, true)] [])) <|
       ww (qg0_ n (y3_.2.2.2.2.2) x0 x1 x1 y8_ hy8) <|
       ww (qa_ rwf_b x0 4) <|
       k
      by_cases hy9 : y8_ = true
      ·rw [if_pos hy9] at h
       obtain ⟨hy10, h⟩ := gd h
       obtain ⟨hy11, h⟩ := gd h
       obtain rfl := oI h
       exact runC2 hm (kW [3, 11, 12, 13] [(0, 0, false), (1, 1, true)] 2 0) (k0 <|
        k3 <|
        k4 <|
        k5 <|
        k6 <|
        yy 45 (vf) <|
        ww (p := (Value.bool (!y8_)) = (Value.bool false)) (vBn hy9) <|
        zz 46 (xk7 1 x1 hy10) <|
        yy 47 (.sto (layT (rows rw_b ((x0).set (x4).toNat false)))) <|
        ww (p := ∃ old, rdT (layT (rows rw_b x0)) 1 ((x4).toNat * 1) = some old) (Exists.elim (qbi_ rwf_b (false) (i := (x4).toNat) (j := 0) (l := [(bO false)]) false ((x4).toNat * 1) rfl (hy11) (Nat.le_of_ble_eq_true rfl) rfl) fun o h => ⟨o, h.1⟩) <|
        ww (p := layL [(bO false)] ((x4).toNat * 1) (layT (rows rw_b x0)) = layT (rows rw_b ((x0).set (x4).toNat false))) (Exists.elim (qbi_ rwf_b (false) (i := (x4).toNat) (j := 0) (l := [(bO false)]) false ((x4).toNat * 1) rfl (hy11) (Nat.le_of_ble_eq_true rfl) rfl) fun o h => h.2) <|
        ww (qa_ rwf_b ((x0).set (x4).toNat false) 4) <|
        ee) (by kernel_rfl)
      ·rw [if_neg hy9] at h
       obtain ⟨hy10, h⟩ := gd h
       obtain ⟨hy11, h⟩ := gd h
       obtain rfl := oI h
       exact runC2 hm (kW [3, 11, 12, 13] [(0, 0, false), (1, 1, true)] 2 0) (k0 <|
        k3 <|
        k4 <|
        k5 <|
        k6 <|
        yy 45 (vt) <|
        ww (p := (Value.bool (!y8_)) = (Value.bool true)) (vBn (Bool.eq_false_iff.2 hy9)) <|
        zz 46 (xk7 1 x1 hy10) <|
        yy 47 (.sto (layT (rows rw_b ((x0).set (x4).toNat true)))) <|
        ww (p := ∃ old, rdT (layT (rows rw_b x0)) 1 ((x4).toNat * 1) = some old) (Exists.elim (qbi_ rwf_b (false) (i := (x4).toNat) (j := 0) (l := [(bO true)]) true ((x4).toNat * 1) rfl (hy11) (Nat.le_of_ble_eq_true rfl) rfl) fun o h => ⟨o, h.1⟩) <|
        ww (p := layL [(bO true)] ((x4).toNat * 1) (layT (rows rw_b x0)) = layT (rows rw_b ((x0).set (x4).toNat true))) (Exists.elim (qbi_ rwf_b (false) (i := (x4).toNat) (j := 0) (l := [(bO true)]) true ((x4).toNat * 1) rfl (hy11) (Nat.le_of_ble_eq_true rfl) rfl) fun o h => h.2) <|
        ww (qa_ rwf_b ((x0).set (x4).toNat true) 4) <|
        ee) (by kernel_rfl)
     ·rw [if_neg hy7] at h
      have k6 := fun {A L l} (k : PL A L l) => zz 36 (xeF hy7) <|
       k
      by_cases hy8 : (y3_.1) = 4
      ·rw [if_pos hy8] at h
       obtain ⟨y9_, hy9, h⟩ := oB h
       obtain ⟨hy10, h⟩ := gd h
       obtain ⟨hy11, h⟩ := gd h
       obtain rfl := oI h
       exact runC2 hm (kW [3, 11, 12, 13] [(0, 0, false), (1, 1, true)] 2 0) (k0 <|
        k3 <|
        k4 <|
        k5 <|
        k6 <|
        zz 41 (xeT hy8) <|
        yy 50 (.call (qew_ (y3_.2.2.2.2.2) x0 x1 x1 y9_ [(0, 0, false), (1, 1, true)] [])) <|
        ww (qd5_ n (y3_.2.2.2.2.2) x0 x1 x1 y9_ hy9) <|
        ww (qa_ rwf_b x0 4) <|
        zz 51 (xk7 1 x1 hy10) <|
        yy 52 (.sto (layT (rows rw_b ((x0).set (x4).toNat y9_)))) <|
        ww (p := ∃ old, rdT (layT (rows rw_b x0)) 1 ((x4).toNat * 1) = some old) (Exists.elim (qbi_ rwf_b (false) (i := (x4).toNat) (j := 0) (l := [(bO y9_)]) y9_ ((x4).toNat * 1) rfl (hy11) (Nat.le_of_ble_eq_true rfl) rfl) fun o h => ⟨o, h.1⟩) <|
        ww (p := layL [(bO y9_)] ((x4).toNat * 1) (layT (rows rw_b x0)) = layT (rows rw_b ((x0).set (x4).toNat y9_))) (Exists.elim (qbi_ rwf_b (false) (i := (x4).toNat) (j := 0) (l := [(bO y9_)]) y9_ ((x4).toNat * 1) rfl (hy11) (Nat.le_of_ble_eq_true rfl) rfl) fun o h => h.2) <|
        ww (qa_ rwf_b ((x0).set (x4).toNat y9_) 4) <|
        ee) (by kernel_rfl)
      ·rw [if_neg hy8] at h
       have k7 := fun {A L l} (k : PL A L l) => zz 41 (xeF hy8) <|
        k
       by_cases hy9 : (y3_.1) = 6
       ·rw [if_pos hy9] at h
        obtain ⟨y10_, hy10, h⟩ := oB h
        obtain ⟨hy11, h⟩ := gd h
        obtain ⟨hy12, h⟩ := gd h
        obtain rfl := oI h
        exact runC2 hm (kW [3, 11, 12, 13] [(0, 0, false), (1, 1, true)] 2 0) (k0 <|
         k3 <|
         k4 <|
         k5 <|
         k6 <|
         k7 <|
         zz 44 (xeT hy9) <|
         yy 52 (.call (qew_ (y3_.2.2.2.2.2) x0 x1 x1 y10_ [(0, 0, false), (1, 1, true)] [])) <|
         ww (qd5_ n (y3_.2.2.2.2.2) x0 x1 x1 y10_ hy10) <|
         ww (qa_ rwf_b x0 4) <|
         zz 53 (xk7 1 x1 hy11) <|
         yy 54 (.sto (layT (rows rw_b ((x0).set (x4).toNat y10_)))) <|
         ww (p := ∃ old, rdT (layT (rows rw_b x0)) 1 ((x4).toNat * 1) = some old) (Exists.elim (qbi_ rwf_b (false) (i := (x4).toNat) (j := 0) (l := [(bO y10_)]) y10_ ((x4).toNat * 1) rfl (hy12) (Nat.le_of_ble_eq_true rfl) rfl) fun o h => ⟨o, h.1⟩) <|
         ww (p := layL [(bO y10_)] ((x4).toNat * 1) (layT (rows rw_b x0)) = layT (rows rw_b ((x0).set (x4).toNat y10_))) (Exists.elim (qbi_ rwf_b (false) (i := (x4).toNat) (j := 0) (l := [(bO y10_)]) y10_ ((x4).toNat * 1) rfl (hy12) (Nat.le_of_ble_eq_true rfl) rfl) fun o h => h.2) <|
         ww (qa_ rwf_b ((x0).set (x4).toNat y10_) 4) <|
         ee) (by kernel_rfl)
       ·rw [if_neg hy9] at h
        obtain rfl := oI h
        exact runC2 hm (kW [3, 11, 12, 13] [(0, 0, false), (1, 1, true)] 2 0) (k0 <|
         k3 <|
         k4 <|
         k5 <|
         k6 <|
         k7 <|
         zz 44 (xeF hy9) <|
         ww (qa_ rwf_b x0 4) <|
         ee) (by kernel_rfl)
 ·rw [if_neg hy1] at h
  obtain rfl := oI h
  exact runC2 hm (kW [3] [(0, 0, false), (1, 1, true)] 2 0) (zz 1 (xdF hy1) <|
   ww (qa_ rwf_b x0 4) <|
   ee) (by kernel_rfl)
theorem qk1_ (n : Nat) {rnd : Option Nat} (x1 : Nat) (x2 : WL rw_iuuuuL) (x3 : Int) (st : List (Bool) × Int) (r : List (Bool)) (h : qfr_ n x1 x2 x3 st = some r) : qmt_ rnd x1 x2 x3 st r :=
 CG.iter (b := qbl_ P 17 [false, false, true, false, true, true]) (by kernel_rfl) (body := qbo_ n x1 x2 x3) (S := qea_ x1 x2 x3) (X := qdf_ x1 x2 x3)
  (fun s s' h => qh3_ n x1 x2 x3 s (.inl s') h)
  (fun s r h => qh3_ n x1 x2 x3 s (.inr r) h)
  (fun r => by intro hx; cases hx) h
def qdd_ (n : Nat) (a0 : WL rw_iuuuuL) : Option (List (Bool)) :=
 if 0 ≤ (((a0).l.length : Nat) : Int) then
  if ((((a0).l.length : Nat) : Int)).toNat * 1 ≤ 140737488355328 then
   (qfr_ n (((((a0).l.length : Nat) : Int)).toNat) a0 (((a0).l.length : Nat) : Int) ((List.replicate ((((a0).l.length : Nat) : Int)).toNat (false)), 0)).bind fun c3_ =>
   some c3_
  else none
 else none
theorem qhb_ (n : Nat) (a0 : WL rw_iuuuuL) (r : List (Bool)) (h : qdd_ n a0 = some r) : qn3_ a0 r := by
 unfold qdd_ at h
 obtain ⟨hc1, h⟩ := gd h
 obtain ⟨hc2, h⟩ := gd h
 obtain ⟨c3_, hc3, h⟩ := oB h
 obtain rfl := oI h
 exact runF2 hm (kW [2] [(0, 1, true)] 1 0) (yy 5 (.mk ((((a0).l.length : Nat) : Int)).toNat (rows rw_b (List.replicate ((((a0).l.length : Nat) : Int)).toNat (false)))) <|
  ww (p := natOf (i6 (((a0).l.length : Nat) : Int)) = some ((((a0).l.length : Nat) : Int)).toNat) (qcr_ hc1) <|
  ww (p := natOf (i6 (((a0).l.length : Nat) : Int)) = some ((((a0).l.length : Nat) : Int)).toNat) (qcr_ hc1) <|
  ww (p := fits ((((a0).l.length : Nat) : Int)).toNat 1 = true) (fits_ok hc2 (by omega)) <|
  ww (p := isZ8 [(bO false)] = false) (rfl) <|
  ww (p := reps [(bO false)] ((((a0).l.length : Nat) : Int)).toNat = (rows rw_b (List.replicate ((((a0).l.length : Nat) : Int)).toNat (false)))) (qi3_ rw_b (false) _ rfl _) <|
  ww (qk1_ n (rnd := none) (((((a0).l.length : Nat) : Int)).toNat) a0 (((a0).l.length : Nat) : Int) ((List.replicate ((((a0).l.length : Nat) : Int)).toNat (false)), 0) c3_ hc3) <|
  ww (qa_ rwf_b (List.replicate ((((a0).l.length : Nat) : Int)).toNat (false)) 4) <|
  ll 14 ⟨(kW [3, 11, 12, 13] [(0, 1, false), (1, 0, true)] 2 0), (qdf_ (((((a0).l.length : Nat) : Int)).toNat) a0 (((a0).l.length : Nat) : Int) c3_).1, (qdf_ (((((a0).l.length : Nat) : Int)).toNat) a0 (((a0).l.length : Nat) : Int) c3_).2⟩ <|
  ww (qa_ rwf_b c3_ 4) <|
  ee) (by kernel_rfl)

def qf2_ (a0 : WL rw_iuuuuL) (r : Unit) : Value := match r with
 | _ => (Value.func (.func 49) #[] #[(pN 0 0)])
def qf3_ (a0 : WL rw_iuuuuL) (r : Unit) : AH := match r with
 | _ => ⟨sB [(0, (cB [(wlV a0)] 23))], 1, 0⟩
abbrev qj0_ (a0 : WL rw_iuuuuL) (r : Unit) : Prop := Gv P (.func 30) [(wlV a0)] ⟨sB [], 0, 0⟩ (qf2_ a0 r) (qf3_ a0 r)
abbrev qj1_ (a0 : WL rw_iuuuuL) (r : Unit) (ins outs : BL) : CallA := ⟨0, ins, qf2_ a0 r, qf3_ a0 r, outs⟩
def qcv_ (n : Nat) (a0 : WL rw_iuuuuL) : Option (Unit) :=
 some ()
theorem qh4_ (n : Nat) (a0 : WL rw_iuuuuL) (r : Unit) (h : qcv_ n a0 = some r) : qj0_ a0 r := by
 unfold qcv_ at h
 obtain rfl := oI h
 exact runF2 hm (kW [2] [(0, 0, false)] 1 0) (ee) (by kernel_rfl)

def qja_ (a0 : List (Bool)) (a1 : Nat) (a2 : Nat) (a3 : List (Bool)) (a4 : Nat) (a5 : Nat) (a6 : List (Bool)) (a7 : Nat) (a8 : Nat) (a9 : WL rw_iuuuuL) (a10 : Int) (a11 : Int) (a12 : Int) (a13 : Int) (a14 : Int) (a15 : Int) (a16 : NL) (r : List (Bool)) : Value := match r with
 | o0 => (bO true)
def qjb_ (a0 : List (Bool)) (a1 : Nat) (a2 : Nat) (a3 : List (Bool)) (a4 : Nat) (a5 : Nat) (a6 : List (Bool)) (a7 : Nat) (a8 : Nat) (a9 : WL rw_iuuuuL) (a10 : Int) (a11 : Int) (a12 : Int) (a13 : Int) (a14 : Int) (a15 : Int) (a16 : NL) (r : List (Bool)) : AH := match r with
 | o0 => ⟨sB [(0, (some (rblk P 18 [false, true, true] .ready none [(5, (pN 2 0)), (6, (pN 4 0)), (7, (pN 6 0)), (15, (Value.func (.func 49) #[] #[(pN 8 0)]))] 1))), (1, (some (.marks true))), (2, (cB [(sN 3 0 a1 a2)] 43)), (3, (cB (rows rw_b a0) 4)), (4, (cB [(sN 5 0 a4 a5)] 43)), (5, (cB (rows rw_b o0) 4)), (6, (cB [(sN 7 0 a7 a8)] 43)), (7, (cB (rows rw_b a6) 4)), (8, (cB [(wlV a9)] 23))], 9, 0⟩
abbrev qnj_ (a0 : List (Bool)) (a1 : Nat) (a2 : Nat) (a3 : List (Bool)) (a4 : Nat) (a5 : Nat) (a6 : List (Bool)) (a7 : Nat) (a8 : Nat) (a9 : WL rw_iuuuuL) (a10 : Int) (a11 : Int) (a12 : Int) (a13 : Int) (a14 : Int) (a15 : Int) (a16 : NL) (r : List (Bool)) : Prop := Gv P (.yield 0) [(i6 a10), (Value.agg #[(i6 a11), (Value.int .u64 a12), (Value.int .u64 a13), (Value.int .u64 a14), (Value.int .u64 a15), (nlV a16)])] ⟨sB [(0, (some (rblk P 18 [false, true, true] .ready none [(5, (pN 2 0)), (6, (pN 4 0)), (7, (pN 6 0)), (15, (Value.func (.func 49) #[] #[(pN 8 0)]))] 1))), (1, (some (.marks true))), (2, (cB [(sN 3 0 a1 a2)] 43)), (3, (cB (rows rw_b a0) 4)), (4, (cB [(sN 5 0 a4 a5)] 43)), (5, (cB (rows rw_b a3) 4)), (6, (cB [(sN 7 0 a7 a8)] 43)), (7, (cB (rows rw_b a6) 4)), (8, (cB [(wlV a9)] 23))], 9, 9⟩ (qja_ a0 a1 a2 a3 a4 a5 a6 a7 a8 a9 a10 a11 a12 a13 a14 a15 a16 r) (qjb_ a0 a1 a2 a3 a4 a5 a6 a7 a8 a9 a10 a11 a12 a13 a14 a15 a16 r)
abbrev qnk_ (a0 : List (Bool)) (a1 : Nat) (a2 : Nat) (a3 : List (Bool)) (a4 : Nat) (a5 : Nat) (a6 : List (Bool)) (a7 : Nat) (a8 : Nat) (a9 : WL rw_iuuuuL) (a10 : Int) (a11 : Int) (a12 : Int) (a13 : Int) (a14 : Int) (a15 : Int) (a16 : NL) (r : List (Bool)) (ins outs : BL) : CallA := ⟨9, ins, qja_ a0 a1 a2 a3 a4 a5 a6 a7 a8 a9 a10 a11 a12 a13 a14 a15 a16 r, qjb_ a0 a1 a2 a3 a4 a5 a6 a7 a8 a9 a10 a11 a12 a13 a14 a15 a16 r, outs⟩
def qdv_ (x0 : List (Bool)) (x1 : Nat) (x2 : Nat) (x4 : Nat) (x5 : Nat) (x6 : List (Bool)) (x7 : Nat) (x8 : Nat) (x9 : WL rw_iuuuuL) (x10 : Int) (x11 : Int) (x12 : Int) (x13 : Int) (x14 : Int) (x15 : NL) (x17 : Int) (st : List (Bool) × Bool × Int) : XSt := match st with
 | (x3, x16, x18) => (sT 67 [(5, (pN 2 0)), (6, (pN 4 0)), (7, (pN 6 0)), (9, (pN 9 0)), (10, (bO x16)), (23, (nlV x15)), (24, (i6 x17)), (25, (i6 x18))], [], ⟨sB [(0, (some (rblk P 18 [false, true, true] .busy none [(5, (pN 2 0)), (6, (pN 4 0)), (7, (pN 6 0)), (15, (Value.func (.func 49) #[] #[(pN 8 0)]))] 1))), (1, (some (.marks true))), (2, (cB [(sN 3 0 x1 x2)] 43)), (3, (cB (rows rw_b x0) 4)), (4, (cB [(sN 5 0 x4 x5)] 43)), (5, (cB (rows rw_b x3) 4)), (6, (cB [(sN 7 0 x7 x8)] 43)), (7, (cB (rows rw_b x6) 4)), (8, (cB [(wlV x9)] 23)), (9, (cB [(i6 x10), (Value.int .u64 x11), (Value.int .u64 x12), (Value.int .u64 x13), (Value.int .u64 x14), (nlV x15)] 37))], 10, 0⟩)
def qc9_ (x0 : List (Bool)) (x1 : Nat) (x2 : Nat) (x4 : Nat) (x5 : Nat) (x6 : List (Bool)) (x7 : Nat) (x8 : Nat) (x9 : WL rw_iuuuuL) (x10 : Int) (x11 : Int) (x12 : Int) (x13 : Int) (x14 : Int) (x15 : NL) (x17 : Int) (r : List (Bool)) : Ex × XSt := match r with
 | z0 => (.exit 2, (sT 67 [(5, (pN 2 0)), (6, (pN 4 0)), (7, (pN 6 0))], [], ⟨sB [(0, (some (rblk P 18 [false, true, true] .busy none [(5, (pN 2 0)), (6, (pN 4 0)), (7, (pN 6 0)), (15, (Value.func (.func 49) #[] #[(pN 8 0)]))] 1))), (1, (some (.marks true))), (2, (cB [(sN 3 0 x1 x2)] 43)), (3, (cB (rows rw_b x0) 4)), (4, (cB [(sN 5 0 x4 x5)] 43)), (5, (cB (rows rw_b z0) 4)), (6, (cB [(sN 7 0 x7 x8)] 43)), (7, (cB (rows rw_b x6) 4)), (8, (cB [(wlV x9)] 23))], 9, 0⟩))
abbrev ql3_ (rnd : Option Nat) (x0 : List (Bool)) (x1 : Nat) (x2 : Nat) (x4 : Nat) (x5 : Nat) (x6 : List (Bool)) (x7 : Nat) (x8 : Nat) (x9 : WL rw_iuuuuL) (x10 : Int) (x11 : Int) (x12 : Int) (x13 : Int) (x14 : Int) (x15 : NL) (x17 : Int) (st : List (Bool) × Bool × Int) (c : Ex × XSt) : Prop := CG P rnd (fnN P 18) 9 (qbl_ P 18 [false, false, true, true, false, true, false, true, true]) (qdv_ x0 x1 x2 x4 x5 x6 x7 x8 x9 x10 x11 x12 x13 x14 x15 x17 st) c
abbrev ql4_ (rd : Option Nat) (x0 : List (Bool)) (x1 : Nat) (x2 : Nat) (x4 : Nat) (x5 : Nat) (x6 : List (Bool)) (x7 : Nat) (x8 : Nat) (x9 : WL rw_iuuuuL) (x10 : Int) (x11 : Int) (x12 : Int) (x13 : Int) (x14 : Int) (x15 : NL) (x17 : Int) (st : List (Bool) × Bool × Int) (r : List (Bool)) : Prop := CG P rd (fnN P 18) 9 (qbl_ P 18 [false, true, true, false, true, false, true, true]) (qdv_ x0 x1 x2 x4 x5 x6 x7 x8 x9 x10 x11 x12 x13 x14 x15 x17 st) (qc9_ x0 x1 x2 x4 x5 x6 x7 x8 x9 x10 x11 x12 x13 x14 x15 x17 r)
def qbk_ (n : Nat) (x0 : List (Bool)) (x1 : Nat) (x2 : Nat) (x4 : Nat) (x5 : Nat) (x6 : List (Bool)) (x7 : Nat) (x8 : Nat) (x9 : WL rw_iuuuuL) (x10 : Int) (x11 : Int) (x12 : Int) (x13 : Int) (x14 : Int) (x15 : NL) (x17 : Int) (st : List (Bool) × Bool × Int) : Option ((List (Bool) × Bool × Int) ⊕ (List (Bool))) := match st with
 | (x3, x16, x18) =>
  if x18 < x17 then
   if 0 ≤ x18 ∧ x18 < (((x15).l.length : Nat) : Int) then
    if (x18).toNat < ((x15).l).length then
     ((some (((x15).l).getD (x18).toNat 0))).bind fun y4_ =>
     if x10 = 5 then
      if x16 = true then
       if 0 ≤ y4_ ∧ y4_ < ((x4 : Nat) : Int) then
        if (y4_).toNat < (x3).length then
         if x10 = 3 then
          if 0 ≤ y4_ ∧ y4_ < ((x7 : Nat) : Int) then
           if (y4_).toNat < (x6).length then
            ((some ((x6).getD (y4_).toNat (false)))).bind fun y12_ =>
            if y12_ = true then
             some (.inl (((x3).set (y4_).toNat true), true, (w64 (x18 + 1))))
            else
             if 0 ≤ y4_ ∧ y4_ < ((x1 : Nat) : Int) then
              if (y4_).toNat < (x0).length then
               ((some ((x0).getD (y4_).toNat (false)))).bind fun y16_ =>
               some (.inl (((x3).set (y4_).toNat true), y16_, (w64 (x18 + 1))))
              else none
             else none
           else none
          else none
         else
          some (.inl (((x3).set (y4_).toNat true), x16, (w64 (x18 + 1))))
        else none
       else none
      else
       if 0 ≤ y4_ ∧ y4_ < ((x7 : Nat) : Int) then
        if (y4_).toNat < (x6).length then
         ((some ((x6).getD (y4_).toNat (false)))).bind fun y9_ =>
         if 0 ≤ y4_ ∧ y4_ < ((x4 : Nat) : Int) then
          if (y4_).toNat < (x3).length then
           if x10 = 3 then
            if y9_ = true then
             some (.inl (((x3).set (y4_).toNat y9_), true, (w64 (x18 + 1))))
            else
             some (.inl (((x3).set (y4_).toNat y9_), false, (w64 (x18 + 1))))
           else
            some (.inl (((x3).set (y4_).toNat y9_), x16, (w64 (x18 + 1))))
          else none
         else none
        else none
       else none
     else
      if x10 = 6 then
       if x16 = true then
        if 0 ≤ y4_ ∧ y4_ < ((x4 : Nat) : Int) then
         if (y4_).toNat < (x3).length then
          if x10 = 3 then
           if 0 ≤ y4_ ∧ y4_ < ((x7 : Nat) : Int) then
            if (y4_).toNat < (x6).length then
             ((some ((x6).getD (y4_).toNat (false)))).bind fun y13_ =>
             if y13_ = true then
              some (.inl (((x3).set (y4_).toNat true), true, (w64 (x18 + 1))))
             else
              if 0 ≤ y4_ ∧ y4_ < ((x1 : Nat) : Int) then
               if (y4_).toNat < (x0).length then
                ((some ((x0).getD (y4_).toNat (false)))).bind fun y17_ =>
                some (.inl (((x3).set (y4_).toNat true), y17_, (w64 (x18 + 1))))
               else none
              else none
            else none
           else none
          else
           some (.inl (((x3).set (y4_).toNat true), x16, (w64 (x18 + 1))))
         else none
        else none
       else
        if 0 ≤ y4_ ∧ y4_ < ((x7 : Nat) : Int) then
         if (y4_).toNat < (x6).length then
          ((some ((x6).getD (y4_).toNat (false)))).bind fun y10_ =>
          if 0 ≤ y4_ ∧ y4_ < ((x4 : Nat) : Int) then
           if (y4_).toNat < (x3).length then
            if x10 = 3 then
             if y10_ = true then
              some (.inl (((x3).set (y4_).toNat y10_), true, (w64 (x18 + 1))))
             else
              some (.inl (((x3).set (y4_).toNat y10_), false, (w64 (x18 + 1))))
            else
             some (.inl (((x3).set (y4_).toNat y10_), x16, (w64 (x18 + 1))))
           else none
          else none
         else none
        else none
      else
       if x16 = true then
        if 0 ≤ y4_ ∧ y4_ < ((x4 : Nat) : Int) then
         if (y4_).toNat < (x3).length then
          if x10 = 3 then
           if 0 ≤ y4_ ∧ y4_ < ((x7 : Nat) : Int) then
            if (y4_).toNat < (x6).length then
             ((some ((x6).getD (y4_).toNat (false)))).bind fun y13_ =>
             if y13_ = true then
              some (.inl (((x3).set (y4_).toNat true), true, (w64 (x18 + 1))))
             else
              if 0 ≤ y4_ ∧ y4_ < ((x1 : Nat) : Int) then
               if (y4_).toNat < (x0).length then
                ((some ((x0).getD (y4_).toNat (false)))).bind fun y17_ =>
                some (.inl (((x3).set (y4_).toNat true), y17_, (w64 (x18 + 1))))
               else none
              else none
            else none
           else none
          else
           some (.inl (((x3).set (y4_).toNat true), x16, (w64 (x18 + 1))))
         else none
        else none
       else
        if 0 ≤ y4_ ∧ y4_ < ((x4 : Nat) : Int) then
         if (y4_).toNat < (x3).length then
          if x10 = 3 then
           if 0 ≤ y4_ ∧ y4_ < ((x7 : Nat) : Int) then
            if (y4_).toNat < (x6).length then
             ((some ((x6).getD (y4_).toNat (false)))).bind fun y13_ =>
             if y13_ = true then
              some (.inl (((x3).set (y4_).toNat false), true, (w64 (x18 + 1))))
             else
              some (.inl (((x3).set (y4_).toNat false), false, (w64 (x18 + 1))))
            else none
           else none
          else
           some (.inl (((x3).set (y4_).toNat false), x16, (w64 (x18 + 1))))
         else none
        else none
    else none
   else none
  else
   some (.inr x3)
def qfe_ (n : Nat) (x0 : List (Bool)) (x1 : Nat) (x2 : Nat) (x4 : Nat) (x5 : Nat) (x6 : List (Bool)) (x7 : Nat) (x8 : Nat) (x9 : WL rw_iuuuuL) (x10 : Int) (x11 : Int) (x12 : Int) (x13 : Int) (x14 : Int) (x15 : NL) (x17 : Int) (st : List (Bool) × Bool × Int) : Option (List (Bool)) := iterM (qbk_ n x0 x1 x2 x4 x5 x6 x7 x8 x9 x10 x11 x12 x13 x14 x15 x17) n st
theorem qhc_ (n : Nat) {rnd : Option Nat} (x0 : List (Bool)) (x1 : Nat) (x2 : Nat) (x4 : Nat) (x5 : Nat) (x6 : List (Bool)) (x7 : Nat) (x8 : Nat) (x9 : WL rw_iuuuuL) (x10 : Int) (x11 : Int) (x12 : Int) (x13 : Int) (x14 : Int) (x15 : NL) (x17 : Int) (st : List (Bool) × Bool × Int) (o : (List (Bool) × Bool × Int) ⊕ (List (Bool))) (h : qbk_ n x0 x1 x2 x4 x5 x6 x7 x8 x9 x10 x11 x12 x13 x14 x15 x17 st = some o) : ql3_ rnd x0 x1 x2 x4 x5 x6 x7 x8 x9 x10 x11 x12 x13 x14 x15 x17 st (Sum.elim (fun s => (.normal, qdv_ x0 x1 x2 x4 x5 x6 x7 x8 x9 x10 x11 x12 x13 x14 x15 x17 s)) (fun r => qc9_ x0 x1 x2 x4 x5 x6 x7 x8 x9 x10 x11 x12 x13 x14 x15 x17 r) o) := by
 obtain ⟨x3, x16, x18⟩ := st
 unfold qbk_ at h
 dsimp only at h
 by_cases hy1 : x18 < x17
 ·rw [if_pos hy1] at h
  obtain ⟨hy2, h⟩ := gd h
  obtain ⟨hy3, h⟩ := gd h
  obtain ⟨y4_, hy4, h⟩ := oB h
  have k0 := fun {A L l} (k : PL A L l) => zz 1 (xdT hy1) <|
   zz 7 (xk5 (Nat.add (x15).num 64) (x15).off (x15).cap hy2) <|
   zz 8 (nk6 hy4 hy3) <|
   k
  by_cases hy5 : x10 = 5
  ·rw [if_pos hy5] at h
   have k3 := fun {A L l} (k : PL A L l) => zz 13 (xeT hy5) <|
    k
   by_cases hy6 : x16 = true
   ·rw [if_pos hy6] at h
    obtain ⟨hy7, h⟩ := gd h
    obtain ⟨hy8, h⟩ := gd h
    have k4 := fun {A L l} (k : PL A L l) => zz 24 (xbT hy6) <|
     zz 33 (xk7 5 x5 hy7) <|
     yy 34 (.sto (layT (rows rw_b ((x3).set (y4_).toNat true)))) <|
     ww (p := ∃ old, rdT (layT (rows rw_b x3)) 1 ((y4_).toNat * 1) = some old) (Exists.elim (qbi_ rwf_b (false) (i := (y4_).toNat) (j := 0) (l := [(bO true)]) true ((y4_).toNat * 1) rfl (hy8) (Nat.le_of_ble_eq_true rfl) rfl) fun o h => ⟨o, h.1⟩) <|
     ww (p := layL [(bO true)] ((y4_).toNat * 1) (layT (rows rw_b x3)) = layT (rows rw_b ((x3).set (y4_).toNat true))) (Exists.elim (qbi_ rwf_b (false) (i := (y4_).toNat) (j := 0) (l := [(bO true)]) true ((y4_).toNat * 1) rfl (hy8) (Nat.le_of_ble_eq_true rfl) rfl) fun o h => h.2) <|
     k
    by_cases hy9 : x10 = 3
    ·rw [if_pos hy9] at h
     obtain ⟨hy10, h⟩ := gd h
     obtain ⟨hy11, h⟩ := gd h
     obtain ⟨y12_, hy12, h⟩ := oB h
     have k9 := fun {A L l} (k : PL A L l) => zz 38 (xeT hy9) <|
      zz 42 (xk7 7 x8 hy10) <|
      zz 43 (ok8 hy12 (hy11)) <|
      k
     by_cases hy13 : y12_ = true
     ·rw [if_pos hy13] at h
      obtain rfl := oI h
      exact runC2 hm (kW [5, 6, 7, 9, 10, 23, 24, 25] [(0, 0, false), (1, 1, false), (2, 2, false), (3, 3, true), (4, 4, false), (5, 5, true), (6, 6, false), (7, 7, true), (8, 8, false), (9, 9, false)] 10 0) (k0 <|
       k3 <|
       k4 <|
       k9 <|
       zz 44 (xbT hy13) <|
       ww (qa_ rwf_b x0 4) <|
       ww (qa_ rwf_b ((x3).set (y4_).toNat true) 4) <|
       ww (qa_ rwf_b x6 4) <|
       ee) (by kernel_rfl)
     ·rw [if_neg hy13] at h
      obtain ⟨hy14, h⟩ := gd h
      obtain ⟨hy15, h⟩ := gd h
      obtain ⟨y16_, hy16, h⟩ := oB h
      obtain rfl := oI h
      exact runC2 hm (kW [5, 6, 7, 9, 10, 23, 24, 25] [(0, 0, false), (1, 1, false), (2, 2, false), (3, 3, true), (4, 4, false), (5, 5, true), (6, 6, false), (7, 7, true), (8, 8, false), (9, 9, false)] 10 0) (k0 <|
       k3 <|
       k4 <|
       k9 <|
       zz 44 (xbF hy13) <|
       zz 46 (xbT hy6) <|
       zz 49 (xk7 3 x2 hy14) <|
       zz 50 (ok8 hy16 (hy15)) <|
       ww (qa_ rwf_b x0 4) <|
       ww (qa_ rwf_b ((x3).set (y4_).toNat true) 4) <|
       ww (qa_ rwf_b x6 4) <|
       ee) (by kernel_rfl)
    ·rw [if_neg hy9] at h
     obtain rfl := oI h
     exact runC2 hm (kW [5, 6, 7, 9, 10, 23, 24, 25] [(0, 0, false), (1, 1, false), (2, 2, false), (3, 3, true), (4, 4, false), (5, 5, true), (6, 6, false), (7, 7, true), (8, 8, false), (9, 9, false)] 10 0) (k0 <|
      k3 <|
      k4 <|
      zz 38 (xeF hy9) <|
      ww (qa_ rwf_b x0 4) <|
      ww (qa_ rwf_b ((x3).set (y4_).toNat true) 4) <|
      ww (qa_ rwf_b x6 4) <|
      ee) (by kernel_rfl)
   ·rw [if_neg hy6] at h
    obtain ⟨hy7, h⟩ := gd h
    obtain ⟨hy8, h⟩ := gd h
    obtain ⟨y9_, hy9, h⟩ := oB h
    obtain ⟨hy10, h⟩ := gd h
    obtain ⟨hy11, h⟩ := gd h
    have k4 := fun {A L l} (k : PL A L l) => zz 24 (xbF hy6) <|
     zz 29 (xk7 7 x8 hy7) <|
     zz 30 (ok8 hy9 (hy8)) <|
     zz 33 (xk7 5 x5 hy10) <|
     yy 34 (.sto (layT (rows rw_b ((x3).set (y4_).toNat y9_)))) <|
     ww (p := ∃ old, rdT (layT (rows rw_b x3)) 1 ((y4_).toNat * 1) = some old) (Exists.elim (qbi_ rwf_b (false) (i := (y4_).toNat) (j := 0) (l := [(bO y9_)]) y9_ ((y4_).toNat * 1) rfl (hy11) (Nat.le_of_ble_eq_true rfl) rfl) fun o h => ⟨o, h.1⟩) <|
     ww (p := layL [(bO y9_)] ((y4_).toNat * 1) (layT (rows rw_b x3)) = layT (rows rw_b ((x3).set (y4_).toNat y9_))) (Exists.elim (qbi_ rwf_b (false) (i := (y4_).toNat) (j := 0) (l := [(bO y9_)]) y9_ ((y4_).toNat * 1) rfl (hy11) (Nat.le_of_ble_eq_true rfl) rfl) fun o h => h.2) <|
     k
    by_cases hy12 : x10 = 3
    ·rw [if_pos hy12] at h
     have k11 := fun {A L l} (k : PL A L l) => zz 38 (xeT hy12) <|
      zz 42 (xk7 7 x8 hy7) <|
      zz 43 (ok8 hy9 (hy8)) <|
      k
     by_cases hy13 : y9_ = true
     ·rw [if_pos hy13] at h
      obtain rfl := oI h
      exact runC2 hm (kW [5, 6, 7, 9, 10, 23, 24, 25] [(0, 0, false), (1, 1, false), (2, 2, false), (3, 3, true), (4, 4, false), (5, 5, true), (6, 6, false), (7, 7, true), (8, 8, false), (9, 9, false)] 10 0) (k0 <|
       k3 <|
       k4 <|
       k11 <|
       zz 44 (xbT hy13) <|
       ww (qa_ rwf_b x0 4) <|
       ww (qa_ rwf_b ((x3).set (y4_).toNat y9_) 4) <|
       ww (qa_ rwf_b x6 4) <|
       ee) (by kernel_rfl)
     ·rw [if_neg hy13] at h
      obtain rfl := oI h
      exact runC2 hm (kW [5, 6, 7, 9, 10, 23, 24, 25] [(0, 0, false), (1, 1, false), (2, 2, false), (3, 3, true), (4, 4, false), (5, 5, true), (6, 6, false), (7, 7, true), (8, 8, false), (9, 9, false)] 10 0) (k0 <|
       k3 <|
       k4 <|
       k11 <|
       zz 44 (xbF hy13) <|
       zz 46 (xbF hy6) <|
       ww (qa_ rwf_b x0 4) <|
       ww (qa_ rwf_b ((x3).set (y4_).toNat y9_) 4) <|
       ww (qa_ rwf_b x6 4) <|
       ee) (by kernel_rfl)
    ·rw [if_neg hy12] at h
     obtain rfl := oI h
     exact runC2 hm (kW [5, 6, 7, 9, 10, 23, 24, 25] [(0, 0, false), (1, 1, false), (2, 2, false), (3, 3, true), (4, 4, false), (5, 5, true), (6, 6, false), (7, 7, true), (8, 8, false), (9, 9, false)] 10 0) (k0 <|
      k3 <|
      k4 <|
      zz 38 (xeF hy12) <|
      ww (qa_ rwf_b x0 4) <|
      ww (qa_ rwf_b ((x3).set (y4_).toNat y9_) 4) <|
      ww (qa_ rwf_b x6 4) <|
      ee) (by kernel_rfl)
  ·rw [if_neg hy5] at h
   have k3 := fun {A L l} (k : PL A L l) => zz 13 (xeF hy5) <|
    k
   by_cases hy6 : x10 = 6
   ·rw [if_pos hy6] at h
    have k4 := fun {A L l} (k : PL A L l) => zz 17 (xeT hy6) <|
     k
    by_cases hy7 : x16 = true
    ·rw [if_pos hy7] at h
     obtain ⟨hy8, h⟩ := gd h
     obtain ⟨hy9, h⟩ := gd h
     have k5 := fun {A L l} (k : PL A L l) => zz 24 (xbT hy7) <|
      zz 33 (xk7 5 x5 hy8) <|
      yy 34 (.sto (layT (rows rw_b ((x3).set (y4_).toNat true)))) <|
      ww (p := ∃ old, rdT (layT (rows rw_b x3)) 1 ((y4_).toNat * 1) = some old) (Exists.elim (qbi_ rwf_b (false) (i := (y4_).toNat) (j := 0) (l := [(bO true)]) true ((y4_).toNat * 1) rfl (hy9) (Nat.le_of_ble_eq_true rfl) rfl) fun o h => ⟨o, h.1⟩) <|
      ww (p := layL [(bO true)] ((y4_).toNat * 1) (layT (rows rw_b x3)) = layT (rows rw_b ((x3).set (y4_).toNat true))) (Exists.elim (qbi_ rwf_b (false) (i := (y4_).toNat) (j := 0) (l := [(bO true)]) true ((y4_).toNat * 1) rfl (hy9) (Nat.le_of_ble_eq_true rfl) rfl) fun o h => h.2) <|
      k
     by_cases hy10 : x10 = 3
     ·rw [if_pos hy10] at h
      obtain ⟨hy11, h⟩ := gd h
      obtain ⟨hy12, h⟩ := gd h
      obtain ⟨y13_, hy13, h⟩ := oB h
      have k10 := fun {A L l} (k : PL A L l) => zz 38 (xeT hy10) <|
       zz 42 (xk7 7 x8 hy11) <|
       zz 43 (ok8 hy13 (hy12)) <|
       k
      by_cases hy14 : y13_ = true
      ·rw [if_pos hy14] at h
       obtain rfl := oI h
       exact runC2 hm (kW [5, 6, 7, 9, 10, 23, 24, 25] [(0, 0, false), (1, 1, false), (2, 2, false), (3, 3, true), (4, 4, false), (5, 5, true), (6, 6, false), (7, 7, true), (8, 8, false), (9, 9, false)] 10 0) (k0 <|
        k3 <|
        k4 <|
        k5 <|
        k10 <|
        zz 44 (xbT hy14) <|
        ww (qa_ rwf_b x0 4) <|
        ww (qa_ rwf_b ((x3).set (y4_).toNat true) 4) <|
        ww (qa_ rwf_b x6 4) <|
        ee) (by kernel_rfl)
      ·rw [if_neg hy14] at h
       obtain ⟨hy15, h⟩ := gd h
       obtain ⟨hy16, h⟩ := gd h
       obtain ⟨y17_, hy17, h⟩ := oB h
       obtain rfl := oI h
       exact runC2 hm (kW [5, 6, 7, 9, 10, 23, 24, 25] [(0, 0, false), (1, 1, false), (2, 2, false), (3, 3, true), (4, 4, false), (5, 5, true), (6, 6, false), (7, 7, true), (8, 8, false), (9, 9, false)] 10 0) (k0 <|
        k3 <|
        k4 <|
        k5 <|
        k10 <|
        zz 44 (xbF hy14) <|
        zz 46 (xbT hy7) <|
        zz 49 (xk7 3 x2 hy15) <|
        zz 50 (ok8 hy17 (hy16)) <|
        ww (qa_ rwf_b x0 4) <|
        ww (qa_ rwf_b ((x3).set (y4_).toNat true) 4) <|
        ww (qa_ rwf_b x6 4) <|
        ee) (by kernel_rfl)
     ·rw [if_neg hy10] at h
      obtain rfl := oI h
      exact runC2 hm (kW [5, 6, 7, 9, 10, 23, 24, 25] [(0, 0, false), (1, 1, false), (2, 2, false), (3, 3, true), (4, 4, false), (5, 5, true), (6, 6, false), (7, 7, true), (8, 8, false), (9, 9, false)] 10 0) (k0 <|
       k3 <|
       k4 <|
       k5 <|
       zz 38 (xeF hy10) <|
       ww (qa_ rwf_b x0 4) <|
       ww (qa_ rwf_b ((x3).set (y4_).toNat true) 4) <|
       ww (qa_ rwf_b x6 4) <|
       ee) (by kernel_rfl)
    ·rw [if_neg hy7] at h
     obtain ⟨hy8, h⟩ := gd h
     obtain ⟨hy9, h⟩ := gd h
     obtain ⟨y10_, hy10, h⟩ := oB h
     obtain ⟨hy11, h⟩ := gd h
     obtain ⟨hy12, h⟩ := gd h
     have k5 := fun {A L l} (k : PL A L l) => zz 24 (xbF hy7) <|
      zz 29 (xk7 7 x8 hy8) <|
      zz 30 (ok8 hy10 (hy9)) <|
      zz 33 (xk7 5 x5 hy11) <|
      yy 34 (.sto (layT (rows rw_b ((x3).set (y4_).toNat y10_)))) <|
      ww (p := ∃ old, rdT (layT (rows rw_b x3)) 1 ((y4_).toNat * 1) = some old) (Exists.elim (qbi_ rwf_b (false) (i := (y4_).toNat) (j := 0) (l := [(bO y10_)]) y10_ ((y4_).toNat * 1) rfl (hy12) (Nat.le_of_ble_eq_true rfl) rfl) fun o h => ⟨o, h.1⟩) <|
      ww (p := layL [(bO y10_)] ((y4_).toNat * 1) (layT (rows rw_b x3)) = layT (rows rw_b ((x3).set (y4_).toNat y10_))) (Exists.elim (qbi_ rwf_b (false) (i := (y4_).toNat) (j := 0) (l := [(bO y10_)]) y10_ ((y4_).toNat * 1) rfl (hy12) (Nat.le_of_ble_eq_true rfl) rfl) fun o h => h.2) <|
      k
     by_cases hy13 : x10 = 3
     ·rw [if_pos hy13] at h
      have k12 := fun {A L l} (k : PL A L l) => zz 38 (xeT hy13) <|
       zz 42 (xk7 7 x8 hy8) <|
       zz 43 (ok8 hy10 (hy9)) <|
       k
      by_cases hy14 : y10_ = true
      ·rw [if_pos hy14] at h
       obtain rfl := oI h
       exact runC2 hm (kW [5, 6, 7, 9, 10, 23, 24, 25] [(0, 0, false), (1, 1, false), (2, 2, false), (3, 3, true), (4, 4, false), (5, 5, true), (6, 6, false), (7, 7, true), (8, 8, false), (9, 9, false)] 10 0) (k0 <|
        k3 <|
        k4 <|
        k5 <|
        k12 <|
        zz 44 (xbT hy14) <|
        ww (qa_ rwf_b x0 4) <|
        ww (qa_ rwf_b ((x3).set (y4_).toNat y10_) 4) <|
        ww (qa_ rwf_b x6 4) <|
        ee) (by kernel_rfl)
      ·rw [if_neg hy14] at h
       obtain rfl := oI h
       exact runC2 hm (kW [5, 6, 7, 9, 10, 23, 24, 25] [(0, 0, false), (1, 1, false), (2, 2, false), (3, 3, true), (4, 4, false), (5, 5, true), (6, 6, false), (7, 7, true), (8, 8, false), (9, 9, false)] 10 0) (k0 <|
        k3 <|
        k4 <|
        k5 <|
        k12 <|
        zz 44 (xbF hy14) <|
        zz 46 (xbF hy7) <|
        ww (qa_ rwf_b x0 4) <|
        ww (qa_ rwf_b ((x3).set (y4_).toNat y10_) 4) <|
        ww (qa_ rwf_b x6 4) <|
        ee) (by kernel_rfl)
     ·rw [if_neg hy13] at h
      obtain rfl := oI h
      exact runC2 hm (kW [5, 6, 7, 9, 10, 23, 24, 25] [(0, 0, false), (1, 1, false), (2, 2, false), (3, 3, true), (4, 4, false), (5, 5, true), (6, 6, false), (7, 7, true), (8, 8, false), (9, 9, false)] 10 0) (k0 <|
       k3 <|
       k4 <|
       k5 <|
       zz 38 (xeF hy13) <|
       ww (qa_ rwf_b x0 4) <|
       ww (qa_ rwf_b ((x3).set (y4_).toNat y10_) 4) <|
       ww (qa_ rwf_b x6 4) <|
       ee) (by kernel_rfl)
   ·rw [if_neg hy6] at h
    have k4 := fun {A L l} (k : PL A L l) => zz 17 (xeF hy6) <|
     k
    by_cases hy7 : x16 = true
    ·rw [if_pos hy7] at h
     obtain ⟨hy8, h⟩ := gd h
     obtain ⟨hy9, h⟩ := gd h
     have k5 := fun {A L l} (k : PL A L l) => zz 24 (xbT hy7) <|
      zz 33 (xk7 5 x5 hy8) <|
      yy 34 (.sto (layT (rows rw_b ((x3).set (y4_).toNat true)))) <|
      ww (p := ∃ old, rdT (layT (rows rw_b x3)) 1 ((y4_).toNat * 1) = some old) (Exists.elim (qbi_ rwf_b (false) (i := (y4_).toNat) (j := 0) (l := [(bO true)]) true ((y4_).toNat * 1) rfl (hy9) (Nat.le_of_ble_eq_true rfl) rfl) fun o h => ⟨o, h.1⟩) <|
      ww (p := layL [(bO true)] ((y4_).toNat * 1) (layT (rows rw_b x3)) = layT (rows rw_b ((x3).set (y4_).toNat true))) (Exists.elim (qbi_ rwf_b (false) (i := (y4_).toNat) (j := 0) (l := [(bO true)]) true ((y4_).toNat * 1) rfl (hy9) (Nat.le_of_ble_eq_true rfl) rfl) fun o h => h.2) <|
      k
     by_cases hy10 : x10 = 3
     ·rw [if_pos hy10] at h
      obtain ⟨hy11, h⟩ := gd h
      obtain ⟨hy12, h⟩ := gd h
      obtain ⟨y13_, hy13, h⟩ := oB h
      have k10 := fun {A L l} (k : PL A L l) => zz 38 (xeT hy10) <|
       zz 42 (xk7 7 x8 hy11) <|
       zz 43 (ok8 hy13 (hy12)) <|
       k
      by_cases hy14 : y13_ = true
      ·rw [if_pos hy14] at h
       obtain rfl := oI h
       exact runC2 hm (kW [5, 6, 7, 9, 10, 23, 24, 25] [(0, 0, false), (1, 1, false), (2, 2, false), (3, 3, true), (4, 4, false), (5, 5, true), (6, 6, false), (7, 7, true), (8, 8, false), (9, 9, false)] 10 0) (k0 <|
        k3 <|
        k4 <|
        k5 <|
        k10 <|
        zz 44 (xbT hy14) <|
        ww (qa_ rwf_b x0 4) <|
        ww (qa_ rwf_b ((x3).set (y4_).toNat true) 4) <|
        ww (qa_ rwf_b x6 4) <|
        ee) (by kernel_rfl)
      ·rw [if_neg hy14] at h
       obtain ⟨hy15, h⟩ := gd h
       obtain ⟨hy16, h⟩ := gd h
       obtain ⟨y17_, hy17, h⟩ := oB h
       obtain rfl := oI h
       exact runC2 hm (kW [5, 6, 7, 9, 10, 23, 24, 25] [(0, 0, false), (1, 1, false), (2, 2, false), (3, 3, true), (4, 4, false), (5, 5, true), (6, 6, false), (7, 7, true), (8, 8, false), (9, 9, false)] 10 0) (k0 <|
        k3 <|
        k4 <|
        k5 <|
        k10 <|
        zz 44 (xbF hy14) <|
        zz 46 (xbT hy7) <|
        zz 49 (xk7 3 x2 hy15) <|
        zz 50 (ok8 hy17 (hy16)) <|
        ww (qa_ rwf_b x0 4) <|
        ww (qa_ rwf_b ((x3).set (y4_).toNat true) 4) <|
        ww (qa_ rwf_b x6 4) <|
        ee) (by kernel_rfl)
     ·rw [if_neg hy10] at h
      obtain rfl := oI h
      exact runC2 hm (kW [5, 6, 7, 9, 10, 23, 24, 25] [(0, 0, false), (1, 1, false), (2, 2, false), (3, 3, true), (4, 4, false), (5, 5, true), (6, 6, false), (7, 7, true), (8, 8, false), (9, 9, false)] 10 0) (k0 <|
       k3 <|
       k4 <|
       k5 <|
       zz 38 (xeF hy10) <|
       ww (qa_ rwf_b x0 4) <|
       ww (qa_ rwf_b ((x3).set (y4_).toNat true) 4) <|
       ww (qa_ rwf_b x6 4) <|
       ee) (by kernel_rfl)
    ·rw [if_neg hy7] at h
     obtain ⟨hy8, h⟩ := gd h
     obtain ⟨hy9, h⟩ := gd h
     have k5 := fun {A L l} (k : PL A L l) => zz 24 (xbF hy7) <|
      zz 33 (xk7 5 x5 hy8) <|
      yy 34 (.sto (layT (rows rw_b ((x3).set (y4_).toNat false)))) <|
      ww (p := ∃ old, rdT (layT (rows rw_b x3)) 1 ((y4_).toNat * 1) = some old) (Exists.elim (qbi_ rwf_b (false) (i := (y4_).toNat) (j := 0) (l := [(bO false)]) false ((y4_).toNat * 1) rfl (hy9) (Nat.le_of_ble_eq_true rfl) rfl) fun o h => ⟨o, h.1⟩) <|
      ww (p := layL [(bO false)] ((y4_).toNat * 1) (layT (rows rw_b x3)) = layT (rows rw_b ((x3).set (y4_).toNat false))) (Exists.elim (qbi_ rwf_b (false) (i := (y4_).toNat) (j := 0) (l := [(bO false)]) false ((y4_).toNat * 1) rfl (hy9) (Nat.le_of_ble_eq_true rfl) rfl) fun o h => h.2) <|
      k
     by_cases hy10 : x10 = 3
     ·rw [if_pos hy10] at h
      obtain ⟨hy11, h⟩ := gd h
      obtain ⟨hy12, h⟩ := gd h
      obtain ⟨y13_, hy13, h⟩ := oB h
      have k10 := fun {A L l} (k : PL A L l) => zz 38 (xeT hy10) <|
       zz 42 (xk7 7 x8 hy11) <|
       zz 43 (ok8 hy13 (hy12)) <|
       k
      by_cases hy14 : y13_ = true
      ·rw [if_pos hy14] at h
       obtain rfl := oI h
       exact runC2 hm (kW [5, 6, 7, 9, 10, 23, 24, 25] [(0, 0, false), (1, 1, false), (2, 2, false), (3, 3, true), (4, 4, false), (5, 5, true), (6, 6, false), (7, 7, true), (8, 8, false), (9, 9, false)] 10 0) (k0 <|
        k3 <|
        k4 <|
        k5 <|
        k10 <|
        zz 44 (xbT hy14) <|
        ww (qa_ rwf_b x0 4) <|
        ww (qa_ rwf_b ((x3).set (y4_).toNat false) 4) <|
        ww (qa_ rwf_b x6 4) <|
        ee) (by kernel_rfl)
      ·rw [if_neg hy14] at h
       obtain rfl := oI h
       exact runC2 hm (kW [5, 6, 7, 9, 10, 23, 24, 25] [(0, 0, false), (1, 1, false), (2, 2, false), (3, 3, true), (4, 4, false), (5, 5, true), (6, 6, false), (7, 7, true), (8, 8, false), (9, 9, false)] 10 0) (k0 <|
        k3 <|
        k4 <|
        k5 <|
        k10 <|
        zz 44 (xbF hy14) <|
        zz 46 (xbF hy7) <|
        ww (qa_ rwf_b x0 4) <|
        ww (qa_ rwf_b ((x3).set (y4_).toNat false) 4) <|
        ww (qa_ rwf_b x6 4) <|
        ee) (by kernel_rfl)
     ·rw [if_neg hy10] at h
      obtain rfl := oI h
      exact runC2 hm (kW [5, 6, 7, 9, 10, 23, 24, 25] [(0, 0, false), (1, 1, false), (2, 2, false), (3, 3, true), (4, 4, false), (5, 5, true), (6, 6, false), (7, 7, true), (8, 8, false), (9, 9, false)] 10 0) (k0 <|
       k3 <|
       k4 <|
       k5 <|
       zz 38 (xeF hy10) <|
       ww (qa_ rwf_b x0 4) <|
       ww (qa_ rwf_b ((x3).set (y4_).toNat false) 4) <|
       ww (qa_ rwf_b x6 4) <|
       ee) (by kernel_rfl)
 ·rw [if_neg hy1] at h
  obtain rfl := oI h
  exact runC2 hm (kW [5, 6, 7] [(0, 0, false), (1, 1, false), (2, 2, false), (3, 3, true), (4, 4, false), (5, 5, true), (6, 6, false), (7, 7, true), (8, 8, false)] 9 0) (zz 1 (xdF hy1) <|
   ww (qa_ rwf_b x0 4) <|
   ww (qa_ rwf_b x3 4) <|
   ww (qa_ rwf_b x6 4) <|
   ee) (by kernel_rfl)
theorem qks_ (n : Nat) {rnd : Option Nat} (x0 : List (Bool)) (x1 : Nat) (x2 : Nat) (x4 : Nat) (x5 : Nat) (x6 : List (Bool)) (x7 : Nat) (x8 : Nat) (x9 : WL rw_iuuuuL) (x10 : Int) (x11 : Int) (x12 : Int) (x13 : Int) (x14 : Int) (x15 : NL) (x17 : Int) (st : List (Bool) × Bool × Int) (r : List (Bool)) (h : qfe_ n x0 x1 x2 x4 x5 x6 x7 x8 x9 x10 x11 x12 x13 x14 x15 x17 st = some r) : ql4_ rnd x0 x1 x2 x4 x5 x6 x7 x8 x9 x10 x11 x12 x13 x14 x15 x17 st r :=
 CG.iter (b := qbl_ P 18 [false, false, true, true, false, true, false, true, true]) (by kernel_rfl) (body := qbk_ n x0 x1 x2 x4 x5 x6 x7 x8 x9 x10 x11 x12 x13 x14 x15 x17) (S := qdv_ x0 x1 x2 x4 x5 x6 x7 x8 x9 x10 x11 x12 x13 x14 x15 x17) (X := qc9_ x0 x1 x2 x4 x5 x6 x7 x8 x9 x10 x11 x12 x13 x14 x15 x17)
  (fun s s' h => qhc_ n x0 x1 x2 x4 x5 x6 x7 x8 x9 x10 x11 x12 x13 x14 x15 x17 s (.inl s') h)
  (fun s r h => qhc_ n x0 x1 x2 x4 x5 x6 x7 x8 x9 x10 x11 x12 x13 x14 x15 x17 s (.inr r) h)
  (fun r => by intro hx; cases hx) h
def qep_ (n : Nat) (a0 : List (Bool)) (a1 : Nat) (a2 : Nat) (a3 : List (Bool)) (a4 : Nat) (a5 : Nat) (a6 : List (Bool)) (a7 : Nat) (a8 : Nat) (a9 : WL rw_iuuuuL) (a10 : Int) (a11 : Int) (a12 : Int) (a13 : Int) (a14 : Int) (a15 : Int) (a16 : NL) : Option (List (Bool)) :=
 if 0 ≤ a10 ∧ a10 < ((a4 : Nat) : Int) then
  if (a10).toNat < (a3).length then
   ((some ((a3).getD (a10).toNat (false)))).bind fun c3_ =>
   (qfe_ n a0 a1 a2 a4 a5 a6 a7 a8 a9 a11 a12 a13 a14 a15 a16 (((a16).l.length : Nat) : Int) (a3, c3_, 0)).bind fun c4_ =>
   some c4_
  else none
 else none
theorem qlt_ (n : Nat) (a0 : List (Bool)) (a1 : Nat) (a2 : Nat) (a3 : List (Bool)) (a4 : Nat) (a5 : Nat) (a6 : List (Bool)) (a7 : Nat) (a8 : Nat) (a9 : WL rw_iuuuuL) (a10 : Int) (a11 : Int) (a12 : Int) (a13 : Int) (a14 : Int) (a15 : Int) (a16 : NL) (r : List (Bool)) (h : qep_ n a0 a1 a2 a3 a4 a5 a6 a7 a8 a9 a10 a11 a12 a13 a14 a15 a16 = some r) : qnj_ a0 a1 a2 a3 a4 a5 a6 a7 a8 a9 a10 a11 a12 a13 a14 a15 a16 r := by
 unfold qep_ at h
 obtain ⟨hc1, h⟩ := gd h
 obtain ⟨hc2, h⟩ := gd h
 obtain ⟨c3_, hc3, h⟩ := oB h
 obtain ⟨c4_, hc4, h⟩ := oB h
 obtain rfl := oI h
 exact runY2 hm (kW [] [(0, 0, false), (1, 1, false), (2, 2, false), (3, 3, true), (4, 4, false), (5, 5, true), (6, 6, false), (7, 7, true), (8, 8, false)] 9 0) (ee) (zz 4 (xk7 5 a5 hc1) <|
  zz 5 (ok8 hc3 (hc2)) <|
  ww (qks_ n (rnd := (some 0)) a0 a1 a2 a4 a5 a6 a7 a8 a9 a11 a12 a13 a14 a15 a16 (((a16).l.length : Nat) : Int) (a3, c3_, 0) c4_ hc4) <|
  ww (qa_ rwf_b a0 4) <|
  ww (qa_ rwf_b a3 4) <|
  ww (qa_ rwf_b a6 4) <|
  ll 13 ⟨(kW [5, 6, 7, 9, 10, 23, 24, 25] [(0, 0, false), (1, 1, false), (2, 2, false), (3, 3, true), (4, 4, false), (5, 5, true), (6, 6, false), (7, 7, true), (8, 8, false), (9, 9, false)] 10 0), (qc9_ a0 a1 a2 a4 a5 a6 a7 a8 a9 a11 a12 a13 a14 a15 a16 (((a16).l.length : Nat) : Int) c4_).1, (qc9_ a0 a1 a2 a4 a5 a6 a7 a8 a9 a11 a12 a13 a14 a15 a16 (((a16).l.length : Nat) : Int) c4_).2⟩ <|
  ww (qa_ rwf_b a0 4) <|
  ww (qa_ rwf_b c4_ 4) <|
  ww (qa_ rwf_b a6 4) <|
  ee) (by kernel_rfl)

def qfh_ (a0 : List (Bool)) (a1 : Nat) (a2 : Nat) (a3 : List (Bool)) (a4 : Nat) (a5 : Nat) (a6 : List (Bool)) (a7 : Nat) (a8 : Nat) (a9 : WL rw_iuuuuL) (r : List (Bool)) : Value := match r with
 | o0 => (Value.tuple #[])
def qfi_ (a0 : List (Bool)) (a1 : Nat) (a2 : Nat) (a3 : List (Bool)) (a4 : Nat) (a5 : Nat) (a6 : List (Bool)) (a7 : Nat) (a8 : Nat) (a9 : WL rw_iuuuuL) (r : List (Bool)) : AH := match r with
 | o0 => ⟨sB [(0, (some (rblk P 18 [false, true, true] .ready none [(5, (pN 2 0)), (6, (pN 4 0)), (7, (pN 6 0)), (15, (Value.func (.func 49) #[] #[(pN 8 0)]))] 1))), (1, (some (.marks true))), (2, (cB [(sN 3 0 a1 a2)] 43)), (3, (cB (rows rw_b a0) 4)), (4, (cB [(sN 5 0 a4 a5)] 43)), (5, (cB (rows rw_b o0) 4)), (6, (cB [(sN 7 0 a7 a8)] 43)), (7, (cB (rows rw_b a6) 4)), (8, (cB [(wlV a9)] 23))], 9, 0⟩
abbrev qje_ (a0 : List (Bool)) (a1 : Nat) (a2 : Nat) (a3 : List (Bool)) (a4 : Nat) (a5 : Nat) (a6 : List (Bool)) (a7 : Nat) (a8 : Nat) (a9 : WL rw_iuuuuL) (r : List (Bool)) : Prop := Gv P (.func 49) [(Value.func (.yield 0) #[] #[]), (pN 8 0)] ⟨sB [(0, (some (rblk P 18 [false, true, true] .ready none [(5, (pN 2 0)), (6, (pN 4 0)), (7, (pN 6 0)), (15, (Value.func (.func 49) #[] #[(pN 8 0)]))] 1))), (1, (some (.marks true))), (2, (cB [(sN 3 0 a1 a2)] 43)), (3, (cB (rows rw_b a0) 4)), (4, (cB [(sN 5 0 a4 a5)] 43)), (5, (cB (rows rw_b a3) 4)), (6, (cB [(sN 7 0 a7 a8)] 43)), (7, (cB (rows rw_b a6) 4)), (8, (cB [(wlV a9)] 23))], 9, 9⟩ (qfh_ a0 a1 a2 a3 a4 a5 a6 a7 a8 a9 r) (qfi_ a0 a1 a2 a3 a4 a5 a6 a7 a8 a9 r)
abbrev qjf_ (a0 : List (Bool)) (a1 : Nat) (a2 : Nat) (a3 : List (Bool)) (a4 : Nat) (a5 : Nat) (a6 : List (Bool)) (a7 : Nat) (a8 : Nat) (a9 : WL rw_iuuuuL) (r : List (Bool)) (ins outs : BL) : CallA := ⟨9, ins, qfh_ a0 a1 a2 a3 a4 a5 a6 a7 a8 a9 r, qfi_ a0 a1 a2 a3 a4 a5 a6 a7 a8 a9 r, outs⟩
def qb3_ (x0 : List (Bool)) (x1 : Nat) (x2 : Nat) (x4 : Nat) (x5 : Nat) (x6 : List (Bool)) (x7 : Nat) (x8 : Nat) (x9 : WL rw_iuuuuL) (st : List (Bool) × Int) : XSt := match st with
 | (x3, x10) => (sT 19 [(0, (Value.func (.yield 0) #[] #[])), (1, (pN 8 0)), (3, (i6 x10))], [], ⟨sB [(0, (some (rblk P 18 [false, true, true] .ready none [(5, (pN 2 0)), (6, (pN 4 0)), (7, (pN 6 0)), (15, (Value.func (.func 49) #[] #[(pN 8 0)]))] 1))), (1, (some (.marks true))), (2, (cB [(sN 3 0 x1 x2)] 43)), (3, (cB (rows rw_b x0) 4)), (4, (cB [(sN 5 0 x4 x5)] 43)), (5, (cB (rows rw_b x3) 4)), (6, (cB [(sN 7 0 x7 x8)] 43)), (7, (cB (rows rw_b x6) 4)), (8, (cB [(wlV x9)] 23))], 9, 0⟩)
def qbp_ (x0 : List (Bool)) (x1 : Nat) (x2 : Nat) (x4 : Nat) (x5 : Nat) (x6 : List (Bool)) (x7 : Nat) (x8 : Nat) (x9 : WL rw_iuuuuL) (r : List (Bool)) : Ex × XSt := match r with
 | z0 => (.exit 0, (sT 19 [], [], ⟨sB [(0, (some (rblk P 18 [false, true, true] .ready none [(5, (pN 2 0)), (6, (pN 4 0)), (7, (pN 6 0)), (15, (Value.func (.func 49) #[] #[(pN 8 0)]))] 1))), (1, (some (.marks true))), (2, (cB [(sN 3 0 x1 x2)] 43)), (3, (cB (rows rw_b x0) 4)), (4, (cB [(sN 5 0 x4 x5)] 43)), (5, (cB (rows rw_b z0) 4)), (6, (cB [(sN 7 0 x7 x8)] 43)), (7, (cB (rows rw_b x6) 4)), (8, (cB [(wlV x9)] 23))], 9, 0⟩))
abbrev qh5_ (rnd : Option Nat) (x0 : List (Bool)) (x1 : Nat) (x2 : Nat) (x4 : Nat) (x5 : Nat) (x6 : List (Bool)) (x7 : Nat) (x8 : Nat) (x9 : WL rw_iuuuuL) (st : List (Bool) × Int) (c : Ex × XSt) : Prop := CG P rnd (fnN P 49) 9 (qbl_ P 49 [false, false, true]) (qb3_ x0 x1 x2 x4 x5 x6 x7 x8 x9 st) c
abbrev qh6_ (rd : Option Nat) (x0 : List (Bool)) (x1 : Nat) (x2 : Nat) (x4 : Nat) (x5 : Nat) (x6 : List (Bool)) (x7 : Nat) (x8 : Nat) (x9 : WL rw_iuuuuL) (st : List (Bool) × Int) (r : List (Bool)) : Prop := CG P rd (fnN P 49) 9 (qbl_ P 49 [false, true]) (qb3_ x0 x1 x2 x4 x5 x6 x7 x8 x9 st) (qbp_ x0 x1 x2 x4 x5 x6 x7 x8 x9 r)
def qy_ (n : Nat) (x0 : List (Bool)) (x1 : Nat) (x2 : Nat) (x4 : Nat) (x5 : Nat) (x6 : List (Bool)) (x7 : Nat) (x8 : Nat) (x9 : WL rw_iuuuuL) (st : List (Bool) × Int) : Option ((List (Bool) × Int) ⊕ (List (Bool))) := match st with
 | (x3, x10) =>
  if x10 ≥ 0 then
   if 0 ≤ x10 ∧ x10 < (((x9).l.length : Nat) : Int) then
    ((some (((x9).l).getD (x10).toNat (0, 0, 0, 0, 0, nl0)))).bind fun y3_ =>
    (qep_ n x0 x1 x2 x3 x4 x5 x6 x7 x8 x9 x10 (y3_.1) (y3_.2.1) (y3_.2.2.1) (y3_.2.2.2.1) (y3_.2.2.2.2.1) (y3_.2.2.2.2.2)).bind fun y4_ =>
    some (.inl (y4_, (w64 (x10 - 1))))
   else none
  else
   some (.inr x3)
def qdg_ (n : Nat) (x0 : List (Bool)) (x1 : Nat) (x2 : Nat) (x4 : Nat) (x5 : Nat) (x6 : List (Bool)) (x7 : Nat) (x8 : Nat) (x9 : WL rw_iuuuuL) (st : List (Bool) × Int) : Option (List (Bool)) := iterM (qy_ n x0 x1 x2 x4 x5 x6 x7 x8 x9) n st
theorem qex_ (n : Nat) {rnd : Option Nat} (x0 : List (Bool)) (x1 : Nat) (x2 : Nat) (x4 : Nat) (x5 : Nat) (x6 : List (Bool)) (x7 : Nat) (x8 : Nat) (x9 : WL rw_iuuuuL) (st : List (Bool) × Int) (o : (List (Bool) × Int) ⊕ (List (Bool))) (h : qy_ n x0 x1 x2 x4 x5 x6 x7 x8 x9 st = some o) : qh5_ rnd x0 x1 x2 x4 x5 x6 x7 x8 x9 st (Sum.elim (fun s => (.normal, qb3_ x0 x1 x2 x4 x5 x6 x7 x8 x9 s)) (fun r => qbp_ x0 x1 x2 x4 x5 x6 x7 x8 x9 r) o) := by
 obtain ⟨x3, x10⟩ := st
 unfold qy_ at h
 dsimp only at h
 by_cases hy1 : x10 ≥ 0
 ·rw [if_pos hy1] at h
  obtain ⟨hy2, h⟩ := gd h
  obtain ⟨y3_, hy3, h⟩ := oB h
  obtain ⟨y4_, hy4, h⟩ := oB h
  obtain rfl := oI h
  exact runC2 hm (kW [0, 1, 3] [(0, 0, false), (1, 1, false), (2, 2, false), (3, 3, true), (4, 4, false), (5, 5, true), (6, 6, false), (7, 7, true), (8, 8, false)] 9 0) (zz 3 (xdT hy1) <|
   zz 12 (xk1 (x9).num (x9).off (x9).cap hy2) <|
   zz 13 (lk4 hy3 (qlm_ hy2)) <|
   yy 14 (.call (qnk_ x0 x1 x2 x3 x4 x5 x6 x7 x8 x9 x10 (y3_.1) (y3_.2.1) (y3_.2.2.1) (y3_.2.2.2.1) (y3_.2.2.2.2.1) (y3_.2.2.2.2.2) y4_ [(0, 0, false), (1, 1, false), (2, 2, false), (3, 3, true), (4, 4, false), (5, 5, true), (6, 6, false), (7, 7, true), (8, 8, false)] [(0, 0, false), (1, 1, false), (2, 2, false), (3, 3, true), (4, 4, false), (5, 5, true), (6, 6, false), (7, 7, true), (8, 8, false)])) <|
   ww (qlt_ n x0 x1 x2 x3 x4 x5 x6 x7 x8 x9 x10 (y3_.1) (y3_.2.1) (y3_.2.2.1) (y3_.2.2.2.1) (y3_.2.2.2.2.1) (y3_.2.2.2.2.2) y4_ hy4) <|
   ww (qa_ rwf_b x0 4) <|
   ww (qa_ rwf_b x3 4) <|
   ww (qa_ rwf_b x6 4) <|
   ww (qa_ rwf_b x0 4) <|
   ww (qa_ rwf_b y4_ 4) <|
   ww (qa_ rwf_b x6 4) <|
   ww (qa_ rwf_b x0 4) <|
   ww (qa_ rwf_b y4_ 4) <|
   ww (qa_ rwf_b x6 4) <|
   ee) (by kernel_rfl)
 ·rw [if_neg hy1] at h
  obtain rfl := oI h
  exact runC2 hm (kW [] [(0, 0, false), (1, 1, false), (2, 2, false), (3, 3, true), (4, 4, false), (5, 5, true), (6, 6, false), (7, 7, true), (8, 8, false)] 9 0) (zz 3 (xdF hy1) <|
   ww (qa_ rwf_b x0 4) <|
   ww (qa_ rwf_b x3 4) <|
   ww (qa_ rwf_b x6 4) <|
   ee) (by kernel_rfl)
theorem qg1_ (n : Nat) {rnd : Option Nat} (x0 : List (Bool)) (x1 : Nat) (x2 : Nat) (x4 : Nat) (x5 : Nat) (x6 : List (Bool)) (x7 : Nat) (x8 : Nat) (x9 : WL rw_iuuuuL) (st : List (Bool) × Int) (r : List (Bool)) (h : qdg_ n x0 x1 x2 x4 x5 x6 x7 x8 x9 st = some r) : qh6_ rnd x0 x1 x2 x4 x5 x6 x7 x8 x9 st r :=
 CG.iter (b := qbl_ P 49 [false, false, true]) (by kernel_rfl) (body := qy_ n x0 x1 x2 x4 x5 x6 x7 x8 x9) (S := qb3_ x0 x1 x2 x4 x5 x6 x7 x8 x9) (X := qbp_ x0 x1 x2 x4 x5 x6 x7 x8 x9)
  (fun s s' h => qex_ n x0 x1 x2 x4 x5 x6 x7 x8 x9 s (.inl s') h)
  (fun s r h => qex_ n x0 x1 x2 x4 x5 x6 x7 x8 x9 s (.inr r) h)
  (fun r => by intro hx; cases hx) h
def qcm_ (n : Nat) (a0 : List (Bool)) (a1 : Nat) (a2 : Nat) (a3 : List (Bool)) (a4 : Nat) (a5 : Nat) (a6 : List (Bool)) (a7 : Nat) (a8 : Nat) (a9 : WL rw_iuuuuL) : Option (List (Bool)) :=
 ((some (w64 ((((a9).l.length : Nat) : Int) - 1)))).bind fun c1_ =>
 (qdg_ n a0 a1 a2 a4 a5 a6 a7 a8 a9 (a3, c1_)).bind fun c2_ =>
 some c2_
theorem qhg_ (n : Nat) (a0 : List (Bool)) (a1 : Nat) (a2 : Nat) (a3 : List (Bool)) (a4 : Nat) (a5 : Nat) (a6 : List (Bool)) (a7 : Nat) (a8 : Nat) (a9 : WL rw_iuuuuL) (r : List (Bool)) (h : qcm_ n a0 a1 a2 a3 a4 a5 a6 a7 a8 a9 = some r) : qje_ a0 a1 a2 a3 a4 a5 a6 a7 a8 a9 r := by
 unfold qcm_ at h
 obtain ⟨c1_, hc1, h⟩ := oB h
 obtain ⟨c2_, hc2, h⟩ := oB h
 obtain rfl := oI h
 exact runF2 hm (kW [] [(0, 0, false), (1, 1, false), (2, 2, false), (3, 3, true), (4, 4, false), (5, 5, true), (6, 6, false), (7, 7, true), (8, 8, false)] 9 0) (zz 3 (xnm hc1) <|
  ww (qg1_ n (rnd := none) a0 a1 a2 a4 a5 a6 a7 a8 a9 (a3, c1_) c2_ hc2) <|
  ww (qa_ rwf_b a0 4) <|
  ww (qa_ rwf_b a3 4) <|
  ww (qa_ rwf_b a6 4) <|
  ll 6 ⟨(kW [0, 1, 3] [(0, 0, false), (1, 1, false), (2, 2, false), (3, 3, true), (4, 4, false), (5, 5, true), (6, 6, false), (7, 7, true), (8, 8, false)] 9 0), (qbp_ a0 a1 a2 a4 a5 a6 a7 a8 a9 c2_).1, (qbp_ a0 a1 a2 a4 a5 a6 a7 a8 a9 c2_).2⟩ <|
  ww (qa_ rwf_b a0 4) <|
  ww (qa_ rwf_b c2_ 4) <|
  ww (qa_ rwf_b a6 4) <|
  ee) (by kernel_rfl)

def qmf_ (a0 : WL rw_iuuuuL) (a1 : List (Bool)) (a2 : Nat) (a3 : Nat) (a4 : List (Bool)) (a5 : Nat) (a6 : Nat) (a7 : List (Bool)) (a8 : Nat) (a9 : Nat) (r : List (Bool)) : Value := match r with
 | o0 => (Value.tuple #[])
def qmg_ (a0 : WL rw_iuuuuL) (a1 : List (Bool)) (a2 : Nat) (a3 : Nat) (a4 : List (Bool)) (a5 : Nat) (a6 : Nat) (a7 : List (Bool)) (a8 : Nat) (a9 : Nat) (r : List (Bool)) : AH := match r with
 | o0 => ⟨sB [(0, (cB (rows rw_b a1) 4)), (1, (cB (rows rw_b o0) 4)), (2, (cB (rows rw_b a7) 4)), (3, (some (.marks false)))], 4, 0⟩
abbrev qqz_ (a0 : WL rw_iuuuuL) (a1 : List (Bool)) (a2 : Nat) (a3 : Nat) (a4 : List (Bool)) (a5 : Nat) (a6 : Nat) (a7 : List (Bool)) (a8 : Nat) (a9 : Nat) (r : List (Bool)) : Prop := Gv P (.func 18) [(wlV a0), (sN 0 0 a2 a3), (sN 1 0 a5 a6), (sN 2 0 a8 a9)] ⟨sB [(0, (cB (rows rw_b a1) 4)), (1, (cB (rows rw_b a4) 4)), (2, (cB (rows rw_b a7) 4))], 3, 3⟩ (qmf_ a0 a1 a2 a3 a4 a5 a6 a7 a8 a9 r) (qmg_ a0 a1 a2 a3 a4 a5 a6 a7 a8 a9 r)
abbrev qmh_ (a0 : WL rw_iuuuuL) (a1 : List (Bool)) (a2 : Nat) (a3 : Nat) (a4 : List (Bool)) (a5 : Nat) (a6 : Nat) (a7 : List (Bool)) (a8 : Nat) (a9 : Nat) (r : List (Bool)) (ins outs : BL) : CallA := ⟨3, ins, qmf_ a0 a1 a2 a3 a4 a5 a6 a7 a8 a9 r, qmg_ a0 a1 a2 a3 a4 a5 a6 a7 a8 a9 r, outs⟩
def qej_ (n : Nat) (a0 : WL rw_iuuuuL) (a1 : List (Bool)) (a2 : Nat) (a3 : Nat) (a4 : List (Bool)) (a5 : Nat) (a6 : Nat) (a7 : List (Bool)) (a8 : Nat) (a9 : Nat) : Option (List (Bool)) :=
 (qcv_ n a0).bind fun _ =>
 (qcm_ n a1 a2 a3 a4 a5 a6 a7 a8 a9 a0).bind fun c2_ =>
 some c2_
theorem qj2_ (n : Nat) (a0 : WL rw_iuuuuL) (a1 : List (Bool)) (a2 : Nat) (a3 : Nat) (a4 : List (Bool)) (a5 : Nat) (a6 : Nat) (a7 : List (Bool)) (a8 : Nat) (a9 : Nat) (r : List (Bool)) (h : qej_ n a0 a1 a2 a3 a4 a5 a6 a7 a8 a9 = some r) : qqz_ a0 a1 a2 a3 a4 a5 a6 a7 a8 a9 r := by
 unfold qej_ at h
 obtain ⟨_, hc1, h⟩ := oB h
 obtain ⟨c2_, hc2, h⟩ := oB h
 obtain rfl := oI h
 exact runF2 hm (kW [] [(0, 0, true), (1, 1, true), (2, 2, true), (3, 7, false)] 4 0) (yy 6 (.call (qj1_ a0 () [] [(6, 0, false)])) <|
  ww (qh4_ n a0 () hc1) <|
  yy 8 (.rng (qjf_ a1 a2 a3 a4 a5 a6 a7 a8 a9 a0 c2_ [(0, 8, false), (1, 7, false), (2, 3, false), (3, 0, true), (4, 4, false), (5, 1, true), (6, 5, false), (7, 2, true), (8, 6, false)] [(8, 0, false), (7, 1, false), (3, 2, false), (0, 3, true), (4, 4, false), (1, 5, true), (5, 6, false), (2, 7, true), (6, 8, false)]) [5, 6, 7, 15]) <|
  ww (qhg_ n a1 a2 a3 a4 a5 a6 a7 a8 a9 a0 c2_ hc2) <|
  ww (qa_ rwf_b a1 4) <|
  ww (qa_ rwf_b a4 4) <|
  ww (qa_ rwf_b a7 4) <|
  ww (qa_ rwf_b a1 4) <|
  ww (qa_ rwf_b c2_ 4) <|
  ww (qa_ rwf_b a7 4) <|
  ww (qa_ rwf_b a1 4) <|
  ww (qa_ rwf_b c2_ 4) <|
  ww (qa_ rwf_b a7 4) <|
  ee) (by kernel_rfl)

def qqq_ (a0 : Int) (a1 : Int) (a2 : Int) (a3 : Int) (a4 : Int) (r : Bool) : Value := match r with
 | o0 => (bO o0)
def qqr_ (a0 : Int) (a1 : Int) (a2 : Int) (a3 : Int) (a4 : Int) (r : Bool) : AH := match r with
 | o0 => ⟨sB [], 0, 0⟩
abbrev G_classHasq1 (a0 : Int) (a1 : Int) (a2 : Int) (a3 : Int) (a4 : Int) (r : Bool) : Prop := Gv P (.func 31) [(Value.agg #[(Value.int .u64 a0), (Value.int .u64 a1), (Value.int .u64 a2), (Value.int .u64 a3)]), (Value.int .u8 a4)] ⟨sB [], 0, 0⟩ (qqq_ a0 a1 a2 a3 a4 r) (qqr_ a0 a1 a2 a3 a4 r)
abbrev C_classHasq1 (a0 : Int) (a1 : Int) (a2 : Int) (a3 : Int) (a4 : Int) (r : Bool) (ins outs : BL) : CallA := ⟨0, ins, qqq_ a0 a1 a2 a3 a4 r, qqr_ a0 a1 a2 a3 a4 r, outs⟩
def qh7_ (n : Nat) (a0 : Int) (a1 : Int) (a2 : Int) (a3 : Int) (a4 : Int) : Option (Bool) :=
 if ¬ ((64 : Int) = 0) then
  if 0 ≤ (IntKind.u8.wrap (Int.tdiv a4 (64 : Int))) ∧ (IntKind.u8.wrap (Int.tdiv a4 (64 : Int))) < ((4 : Nat) : Int) then
   if ((IntKind.u8.wrap (Int.tdiv a4 (64 : Int)))).toNat < ([a0, a1, a2, a3]).length then
    ((some (([a0, a1, a2, a3]).getD ((IntKind.u8.wrap (Int.tdiv a4 (64 : Int)))).toNat (0)))).bind fun c4_ =>
    if 0 ≤ (Int.tmod a4 (64 : Int)) then
     ((some (bAnd .u64 (shrV .u64 c4_ (Int.tmod a4 (64 : Int))) (1 : Int)))).bind fun c6_ =>
     if c6_ = 1 then
      some true
     else
      some false
    else none
   else none
  else none
 else none
theorem qq0_ (n : Nat) (a0 : Int) (a1 : Int) (a2 : Int) (a3 : Int) (a4 : Int) (r : Bool) (h : qh7_ n a0 a1 a2 a3 a4 = some r) : G_classHasq1 a0 a1 a2 a3 a4 r := by
 unfold qh7_ at h
 obtain ⟨hc1, h⟩ := gd h
 obtain ⟨hc2, h⟩ := gd h
 obtain ⟨hc3, h⟩ := gd h
 obtain ⟨c4_, hc4, h⟩ := oB h
 obtain ⟨hc5, h⟩ := gd h
 obtain ⟨c6_, hc6, h⟩ := oB h
 have k0 := fun {A L l} (k : PL A L l) => yy 5 (.pur (Value.int .u8 (IntKind.u8.wrap (Int.tdiv a4 (64 : Int))))) <|
  ww (p := opBin P .quo 5 (.tmp 5) (.const (Value.int .u8 (64 : Int))) (Value.int .u8 a4) (Value.int .u8 (64 : Int)) Ax.h0 = some ((Value.int .u8 (IntKind.u8.wrap (Int.tdiv a4 (64 : Int)))), Ax.h0)) (quo_u8 hc1) <|
  yy 6 (.pur (pN 0 (((IntKind.u8.wrap (Int.tdiv a4 (64 : Int)))).toNat * 1))) <|
  ww (p := qcq_ P 34 (pN 0 0) (Value.int .u8 (IntKind.u8.wrap (Int.tdiv a4 (64 : Int)))) Ax.h0 = some ((pN 0 (((IntKind.u8.wrap (Int.tdiv a4 (64 : Int)))).toNat * 1)), Ax.h0)) (ixArr (es := 1) (e := 32) (m := 4) (by kernel_rfl) (by kernel_rfl) hc2) <|
  zz 7 (ok9 hc4 (hc3)) <|
  yy 9 (.pur (Value.int .u8 (Int.tmod a4 (64 : Int)))) <|
  ww (p := opBin P .rem 5 (.tmp 9) (.const (Value.int .u8 (64 : Int))) (Value.int .u8 a4) (Value.int .u8 (64 : Int)) Ax.h0 = some ((Value.int .u8 (Int.tmod a4 (64 : Int))), Ax.h0)) (rem_u8 (by decide)) <|
  yy 10 (.pur (Value.int .u64 (shrV .u64 c4_ (Int.tmod a4 (64 : Int))))) <|
  ww (p := opBin P .shr 32 (.tmp 8) (.tmp 10) (Value.int .u64 c4_) (Value.int .u8 (Int.tmod a4 (64 : Int))) Ax.h0 = some ((Value.int .u64 (shrV .u64 c4_ (Int.tmod a4 (64 : Int)))), Ax.h0)) (shr_u64_u8 hc5) <|
  zz 11 (xnmK (k := .u64) hc6) <|
  k
 by_cases hc7 : c6_ = 1
 ·rw [if_pos hc7] at h
  obtain rfl := oI h
  exact runF2 hm (kW [4] [] 0 0) (k0 <|
   zz 12 (xeT hc7) <|
   ee) (by kernel_rfl)
 ·rw [if_neg hc7] at h
  obtain rfl := oI h
  exact runF2 hm (kW [4] [] 0 0) (k0 <|
   zz 12 (xeF hc7) <|
   ee) (by kernel_rfl)

def qop_ (a0 : WL rw_iuuuuL) (a1 : List (Bool)) (a2 : Nat) (a3 : Nat) (a4 : List (Bool)) (a5 : Nat) (a6 : Nat) (a7 : Int) (r : List (Bool)) : Value := match r with
 | o0 => (sN 2 0 (((((a0).l.length : Nat) : Int)).toNat) (((((a0).l.length : Nat) : Int)).toNat))
def qoq_ (a0 : WL rw_iuuuuL) (a1 : List (Bool)) (a2 : Nat) (a3 : Nat) (a4 : List (Bool)) (a5 : Nat) (a6 : Nat) (a7 : Int) (r : List (Bool)) : AH := match r with
 | o0 => ⟨sB [(2, (cB (rows rw_b o0) 4))], 3, 2⟩
abbrev G_regexreadq1 (a0 : WL rw_iuuuuL) (a1 : List (Bool)) (a2 : Nat) (a3 : Nat) (a4 : List (Bool)) (a5 : Nat) (a6 : Nat) (a7 : Int) (r : List (Bool)) : Prop := Gv P (.func 19) [(wlV a0), (sN 0 0 a2 a3), (sN 1 0 a5 a6), (Value.int .u8 a7)] ⟨sB [(0, (cB (rows rw_b a1) 4)), (1, (cB (rows rw_b a4) 4))], 2, 2⟩ (qop_ a0 a1 a2 a3 a4 a5 a6 a7 r) (qoq_ a0 a1 a2 a3 a4 a5 a6 a7 r)
abbrev C_regexreadq1 (a0 : WL rw_iuuuuL) (a1 : List (Bool)) (a2 : Nat) (a3 : Nat) (a4 : List (Bool)) (a5 : Nat) (a6 : Nat) (a7 : Int) (r : List (Bool)) (ins outs : BL) : CallA := ⟨2, ins, qop_ a0 a1 a2 a3 a4 a5 a6 a7 r, qoq_ a0 a1 a2 a3 a4 a5 a6 a7 r, outs⟩
def qgu_ (x0 : List (Bool)) (x1 : List (Bool)) (x2 : Nat) (x3 : Nat) (x4 : Nat) (x5 : Nat) (x6 : Int) (x8 : Nat) (x9 : Int) (x10 : Int) (x11 : Int) (x12 : Int) (x13 : Int) (x14 : Int) (x15 : NL) (x16 : WL rw_iuuuuL) (x17 : Int) (x18 : Int) (st : List (Bool) × Int) : XSt := match st with
 | (x7, x19) => (sT 74 [(1, (sN 0 0 x2 x3)), (2, (sN 1 0 x4 x5)), (3, (Value.int .u8 x6)), (9, (sN 2 0 x8 x8)), (10, (i6 x9)), (11, (pN 3 0)), (17, (wlV x16)), (18, (i6 x17)), (19, (i6 x9)), (41, (nlV x15)), (42, (i6 x18)), (43, (i6 x19))], [], ⟨sB [(0, (cB (rows rw_b x0) 4)), (1, (cB (rows rw_b x1) 4)), (2, (cB (rows rw_b x7) 4)), (3, (cB [(i6 x10), (Value.int .u64 x11), (Value.int .u64 x12), (Value.int .u64 x13), (Value.int .u64 x14), (nlV x15)] 37))], 4, 2⟩)
def qfj_ (x0 : List (Bool)) (x1 : List (Bool)) (x2 : Nat) (x3 : Nat) (x4 : Nat) (x5 : Nat) (x6 : Int) (x8 : Nat) (x9 : Int) (x10 : Int) (x11 : Int) (x12 : Int) (x13 : Int) (x14 : Int) (x15 : NL) (x16 : WL rw_iuuuuL) (x17 : Int) (x18 : Int) (r : List (Bool)) : Ex × XSt := match r with
 | z0 => (.exit 2, (sT 74 [(1, (sN 0 0 x2 x3)), (2, (sN 1 0 x4 x5)), (3, (Value.int .u8 x6)), (9, (sN 2 0 x8 x8)), (17, (wlV x16)), (18, (i6 x17)), (19, (i6 x9))], [], ⟨sB [(0, (cB (rows rw_b x0) 4)), (1, (cB (rows rw_b x1) 4)), (2, (cB (rows rw_b z0) 4))], 3, 2⟩))
abbrev qq1_ (rnd : Option Nat) (x0 : List (Bool)) (x1 : List (Bool)) (x2 : Nat) (x3 : Nat) (x4 : Nat) (x5 : Nat) (x6 : Int) (x8 : Nat) (x9 : Int) (x10 : Int) (x11 : Int) (x12 : Int) (x13 : Int) (x14 : Int) (x15 : NL) (x16 : WL rw_iuuuuL) (x17 : Int) (x18 : Int) (st : List (Bool) × Int) (c : Ex × XSt) : Prop := CG P rnd (fnN P 19) 2 (qbl_ P 19 [false, false, true, true, true, false, false, true, true, false, false, true, false, true, true]) (qgu_ x0 x1 x2 x3 x4 x5 x6 x8 x9 x10 x11 x12 x13 x14 x15 x16 x17 x18 st) c
abbrev qq2_ (rd : Option Nat) (x0 : List (Bool)) (x1 : List (Bool)) (x2 : Nat) (x3 : Nat) (x4 : Nat) (x5 : Nat) (x6 : Int) (x8 : Nat) (x9 : Int) (x10 : Int) (x11 : Int) (x12 : Int) (x13 : Int) (x14 : Int) (x15 : NL) (x16 : WL rw_iuuuuL) (x17 : Int) (x18 : Int) (st : List (Bool) × Int) (r : List (Bool)) : Prop := CG P rd (fnN P 19) 2 (qbl_ P 19 [false, true, true, true, false, false, true, true, false, false, true, false, true, true]) (qgu_ x0 x1 x2 x3 x4 x5 x6 x8 x9 x10 x11 x12 x13 x14 x15 x16 x17 x18 st) (qfj_ x0 x1 x2 x3 x4 x5 x6 x8 x9 x10 x11 x12 x13 x14 x15 x16 x17 x18 r)
def qdb_ (n : Nat) (x0 : List (Bool)) (x1 : List (Bool)) (x2 : Nat) (x3 : Nat) (x4 : Nat) (x5 : Nat) (x6 : Int) (x8 : Nat) (x9 : Int) (x10 : Int) (x11 : Int) (x12 : Int) (x13 : Int) (x14 : Int) (x15 : NL) (x16 : WL rw_iuuuuL) (x17 : Int) (x18 : Int) (st : List (Bool) × Int) : Option ((List (Bool) × Int) ⊕ (List (Bool))) := match st with
 | (x7, x19) =>
  if x19 < x18 then
   if 0 ≤ x19 ∧ x19 < (((x15).l.length : Nat) : Int) then
    if (x19).toNat < ((x15).l).length then
     ((some (((x15).l).getD (x19).toNat 0))).bind fun y4_ =>
     if 0 ≤ y4_ ∧ y4_ < ((x8 : Nat) : Int) then
      if (y4_).toNat < (x7).length then
       ((some ((x7).getD (y4_).toNat (false)))).bind fun y7_ =>
       if y7_ = true then
        if 0 ≤ x9 ∧ x9 < ((x8 : Nat) : Int) then
         if (x9).toNat < (x7).length then
          some (.inl (((x7).set (x9).toNat true), (w64 (x19 + 1))))
         else none
        else none
       else
        if 0 ≤ x9 ∧ x9 < ((x8 : Nat) : Int) then
         if (x9).toNat < (x7).length then
          ((some ((x7).getD (x9).toNat (false)))).bind fun y11_ =>
          if y11_ = true then
           if x10 = 3 then
            if 0 ≤ y4_ ∧ y4_ < ((x2 : Nat) : Int) then
             if (y4_).toNat < (x0).length then
              ((some ((x0).getD (y4_).toNat (false)))).bind fun y16_ =>
              some (.inl (((x7).set (x9).toNat y16_), (w64 (x19 + 1))))
             else none
            else none
           else
            some (.inl (((x7).set (x9).toNat true), (w64 (x19 + 1))))
          else
           some (.inl (((x7).set (x9).toNat false), (w64 (x19 + 1))))
         else none
        else none
      else none
     else none
    else none
   else none
  else
   some (.inr x7)
def qjg_ (n : Nat) (x0 : List (Bool)) (x1 : List (Bool)) (x2 : Nat) (x3 : Nat) (x4 : Nat) (x5 : Nat) (x6 : Int) (x8 : Nat) (x9 : Int) (x10 : Int) (x11 : Int) (x12 : Int) (x13 : Int) (x14 : Int) (x15 : NL) (x16 : WL rw_iuuuuL) (x17 : Int) (x18 : Int) (st : List (Bool) × Int) : Option (List (Bool)) := iterM (qdb_ n x0 x1 x2 x3 x4 x5 x6 x8 x9 x10 x11 x12 x13 x14 x15 x16 x17 x18) n st
theorem qmi_ (n : Nat) {rnd : Option Nat} (x0 : List (Bool)) (x1 : List (Bool)) (x2 : Nat) (x3 : Nat) (x4 : Nat) (x5 : Nat) (x6 : Int) (x8 : Nat) (x9 : Int) (x10 : Int) (x11 : Int) (x12 : Int) (x13 : Int) (x14 : Int) (x15 : NL) (x16 : WL rw_iuuuuL) (x17 : Int) (x18 : Int) (st : List (Bool) × Int) (o : (List (Bool) × Int) ⊕ (List (Bool))) (h : qdb_ n x0 x1 x2 x3 x4 x5 x6 x8 x9 x10 x11 x12 x13 x14 x15 x16 x17 x18 st = some o) : qq1_ rnd x0 x1 x2 x3 x4 x5 x6 x8 x9 x10 x11 x12 x13 x14 x15 x16 x17 x18 st (Sum.elim (fun s => (.normal, qgu_ x0 x1 x2 x3 x4 x5 x6 x8 x9 x10 x11 x12 x13 x14 x15 x16 x17 x18 s)) (fun r => qfj_ x0 x1 x2 x3 x4 x5 x6 x8 x9 x10 x11 x12 x13 x14 x15 x16 x17 x18 r) o) := by
 obtain ⟨x7, x19⟩ := st
 unfold qdb_ at h
 dsimp only at h
 by_cases hy1 : x19 < x18
 ·rw [if_pos hy1] at h
  obtain ⟨hy2, h⟩ := gd h
  obtain ⟨hy3, h⟩ := gd h
  obtain ⟨y4_, hy4, h⟩ := oB h
  obtain ⟨hy5, h⟩ := gd h
  obtain ⟨hy6, h⟩ := gd h
  obtain ⟨y7_, hy7, h⟩ := oB h
  have k0 := fun {A L l} (k : PL A L l) => zz 1 (xdT hy1) <|
   zz 7 (xk5 (Nat.add (x15).num 64) (x15).off (x15).cap hy2) <|
   zz 8 (nk6 hy4 hy3) <|
   zz 14 (xk7 2 x8 hy5) <|
   zz 15 (ok8 hy7 (hy6)) <|
   k
  by_cases hy8 : y7_ = true
  ·rw [if_pos hy8] at h
   obtain ⟨hy9, h⟩ := gd h
   obtain ⟨hy10, h⟩ := gd h
   obtain rfl := oI h
   exact runC2 hm (kW [1, 2, 3, 9, 10, 11, 17, 18, 19, 41, 42, 43] [(0, 0, true), (1, 1, true), (2, 2, true), (3, 3, false)] 4 2) (k0 <|
    zz 16 (xbT hy8) <|
    zz 33 (xk7 2 x8 hy9) <|
    yy 34 (.sto (layT (rows rw_b ((x7).set (x9).toNat true)))) <|
    ww (p := ∃ old, rdT (layT (rows rw_b x7)) 1 ((x9).toNat * 1) = some old) (Exists.elim (qbi_ rwf_b (false) (i := (x9).toNat) (j := 0) (l := [(bO true)]) true ((x9).toNat * 1) rfl (hy10) (Nat.le_of_ble_eq_true rfl) rfl) fun o h => ⟨o, h.1⟩) <|
    ww (p := layL [(bO true)] ((x9).toNat * 1) (layT (rows rw_b x7)) = layT (rows rw_b ((x7).set (x9).toNat true))) (Exists.elim (qbi_ rwf_b (false) (i := (x9).toNat) (j := 0) (l := [(bO true)]) true ((x9).toNat * 1) rfl (hy10) (Nat.le_of_ble_eq_true rfl) rfl) fun o h => h.2) <|
    ww (qa_ rwf_b x0 4) <|
    ww (qa_ rwf_b x1 4) <|
    ww (qa_ rwf_b ((x7).set (x9).toNat true) 4) <|
    ee) (by kernel_rfl)
  ·rw [if_neg hy8] at h
   obtain ⟨hy9, h⟩ := gd h
   obtain ⟨hy10, h⟩ := gd h
   obtain ⟨y11_, hy11, h⟩ := oB h
   have k5 := fun {A L l} (k : PL A L l) => zz 16 (xbF hy8) <|
    zz 19 (xk7 2 x8 hy9) <|
    zz 20 (ok8 hy11 (hy10)) <|
    k
   by_cases hy12 : y11_ = true
   ·rw [if_pos hy12] at h
    have k8 := fun {A L l} (k : PL A L l) => zz 21 (xbT hy12) <|
     k
    by_cases hy13 : x10 = 3
    ·rw [if_pos hy13] at h
     obtain ⟨hy14, h⟩ := gd h
     obtain ⟨hy15, h⟩ := gd h
     obtain ⟨y16_, hy16, h⟩ := oB h
     obtain rfl := oI h
     exact runC2 hm (kW [1, 2, 3, 9, 10, 11, 17, 18, 19, 41, 42, 43] [(0, 0, true), (1, 1, true), (2, 2, true), (3, 3, false)] 4 2) (k0 <|
      k5 <|
      k8 <|
      zz 24 (xnF hy13) <|
      zz 28 (xk7 0 x3 hy14) <|
      zz 29 (ok8 hy16 (hy15)) <|
      zz 33 (xk7 2 x8 hy9) <|
      yy 34 (.sto (layT (rows rw_b ((x7).set (x9).toNat y16_)))) <|
      ww (p := ∃ old, rdT (layT (rows rw_b x7)) 1 ((x9).toNat * 1) = some old) (Exists.elim (qbi_ rwf_b (false) (i := (x9).toNat) (j := 0) (l := [(bO y16_)]) y16_ ((x9).toNat * 1) rfl (hy10) (Nat.le_of_ble_eq_true rfl) rfl) fun o h => ⟨o, h.1⟩) <|
      ww (p := layL [(bO y16_)] ((x9).toNat * 1) (layT (rows rw_b x7)) = layT (rows rw_b ((x7).set (x9).toNat y16_))) (Exists.elim (qbi_ rwf_b (false) (i := (x9).toNat) (j := 0) (l := [(bO y16_)]) y16_ ((x9).toNat * 1) rfl (hy10) (Nat.le_of_ble_eq_true rfl) rfl) fun o h => h.2) <|
      ww (qa_ rwf_b x0 4) <|
      ww (qa_ rwf_b x1 4) <|
      ww (qa_ rwf_b ((x7).set (x9).toNat y16_) 4) <|
      ee) (by kernel_rfl)
    ·rw [if_neg hy13] at h
     obtain rfl := oI h
     exact runC2 hm (kW [1, 2, 3, 9, 10, 11, 17, 18, 19, 41, 42, 43] [(0, 0, true), (1, 1, true), (2, 2, true), (3, 3, false)] 4 2) (k0 <|
      k5 <|
      k8 <|
      zz 24 (xnT hy13) <|
      zz 33 (xk7 2 x8 hy9) <|
      yy 34 (.sto (layT (rows rw_b ((x7).set (x9).toNat true)))) <|
      ww (p := ∃ old, rdT (layT (rows rw_b x7)) 1 ((x9).toNat * 1) = some old) (Exists.elim (qbi_ rwf_b (false) (i := (x9).toNat) (j := 0) (l := [(bO true)]) true ((x9).toNat * 1) rfl (hy10) (Nat.le_of_ble_eq_true rfl) rfl) fun o h => ⟨o, h.1⟩) <|
      ww (p := layL [(bO true)] ((x9).toNat * 1) (layT (rows rw_b x7)) = layT (rows rw_b ((x7).set (x9).toNat true))) (Exists.elim (qbi_ rwf_b (false) (i := (x9).toNat) (j := 0) (l := [(bO true)]) true ((x9).toNat * 1) rfl (hy10) (Nat.le_of_ble_eq_true rfl) rfl) fun o h => h.2) <|
      ww (qa_ rwf_b x0 4) <|
      ww (qa_ rwf_b x1 4) <|
      ww (qa_ rwf_b ((x7).set (x9).toNat true) 4) <|
      ee) (by kernel_rfl)
   ·rw [if_neg hy12] at h
    obtain rfl := oI h
    exact runC2 hm (kW [1, 2, 3, 9, 10, 11, 17, 18, 19, 41, 42, 43] [(0, 0, true), (1, 1, true), (2, 2, true), (3, 3, false)] 4 2) (k0 <|
     k5 <|
     zz 21 (xbF hy12) <|
     zz 33 (xk7 2 x8 hy9) <|
     yy 34 (.sto (layT (rows rw_b ((x7).set (x9).toNat false)))) <|
     ww (p := ∃ old, rdT (layT (rows rw_b x7)) 1 ((x9).toNat * 1) = some old) (Exists.elim (qbi_ rwf_b (false) (i := (x9).toNat) (j := 0) (l := [(bO false)]) false ((x9).toNat * 1) rfl (hy10) (Nat.le_of_ble_eq_true rfl) rfl) fun o h => ⟨o, h.1⟩) <|
     ww (p := layL [(bO false)] ((x9).toNat * 1) (layT (rows rw_b x7)) = layT (rows rw_b ((x7).set (x9).toNat false))) (Exists.elim (qbi_ rwf_b (false) (i := (x9).toNat) (j := 0) (l := [(bO false)]) false ((x9).toNat * 1) rfl (hy10) (Nat.le_of_ble_eq_true rfl) rfl) fun o h => h.2) <|
     ww (qa_ rwf_b x0 4) <|
     ww (qa_ rwf_b x1 4) <|
     ww (qa_ rwf_b ((x7).set (x9).toNat false) 4) <|
     ee) (by kernel_rfl)
 ·rw [if_neg hy1] at h
  obtain rfl := oI h
  exact runC2 hm (kW [1, 2, 3, 9, 17, 18, 19] [(0, 0, true), (1, 1, true), (2, 2, true)] 3 2) (zz 1 (xdF hy1) <|
   ww (qa_ rwf_b x0 4) <|
   ww (qa_ rwf_b x1 4) <|
   ww (qa_ rwf_b x7 4) <|
   ee) (by kernel_rfl)
theorem qn4_ (n : Nat) {rnd : Option Nat} (x0 : List (Bool)) (x1 : List (Bool)) (x2 : Nat) (x3 : Nat) (x4 : Nat) (x5 : Nat) (x6 : Int) (x8 : Nat) (x9 : Int) (x10 : Int) (x11 : Int) (x12 : Int) (x13 : Int) (x14 : Int) (x15 : NL) (x16 : WL rw_iuuuuL) (x17 : Int) (x18 : Int) (st : List (Bool) × Int) (r : List (Bool)) (h : qjg_ n x0 x1 x2 x3 x4 x5 x6 x8 x9 x10 x11 x12 x13 x14 x15 x16 x17 x18 st = some r) : qq2_ rnd x0 x1 x2 x3 x4 x5 x6 x8 x9 x10 x11 x12 x13 x14 x15 x16 x17 x18 st r :=
 CG.iter (b := qbl_ P 19 [false, false, true, true, true, false, false, true, true, false, false, true, false, true, true]) (by kernel_rfl) (body := qdb_ n x0 x1 x2 x3 x4 x5 x6 x8 x9 x10 x11 x12 x13 x14 x15 x16 x17 x18) (S := qgu_ x0 x1 x2 x3 x4 x5 x6 x8 x9 x10 x11 x12 x13 x14 x15 x16 x17 x18) (X := qfj_ x0 x1 x2 x3 x4 x5 x6 x8 x9 x10 x11 x12 x13 x14 x15 x16 x17 x18)
  (fun s s' h => qmi_ n x0 x1 x2 x3 x4 x5 x6 x8 x9 x10 x11 x12 x13 x14 x15 x16 x17 x18 s (.inl s') h)
  (fun s r h => qmi_ n x0 x1 x2 x3 x4 x5 x6 x8 x9 x10 x11 x12 x13 x14 x15 x16 x17 x18 s (.inr r) h)
  (fun r => by intro hx; cases hx) h
def qgv_ (x0 : List (Bool)) (x1 : List (Bool)) (x2 : Nat) (x3 : Nat) (x4 : Nat) (x5 : Nat) (x6 : Int) (x8 : Nat) (x9 : WL rw_iuuuuL) (x10 : Int) (st : List (Bool) × Int) : XSt := match st with
 | (x7, x11) => (sT 74 [(1, (sN 0 0 x2 x3)), (2, (sN 1 0 x4 x5)), (3, (Value.int .u8 x6)), (9, (sN 2 0 x8 x8)), (17, (wlV x9)), (18, (i6 x10)), (19, (i6 x11))], [], ⟨sB [(0, (cB (rows rw_b x0) 4)), (1, (cB (rows rw_b x1) 4)), (2, (cB (rows rw_b x7) 4))], 3, 2⟩)
def qfk_ (x0 : List (Bool)) (x1 : List (Bool)) (x2 : Nat) (x3 : Nat) (x4 : Nat) (x5 : Nat) (x6 : Int) (x8 : Nat) (x9 : WL rw_iuuuuL) (x10 : Int) (r : List (Bool)) : Ex × XSt := match r with
 | z0 => (.exit 0, (sT 74 [(9, (sN 2 0 x8 x8))], [], ⟨sB [(0, (cB (rows rw_b x0) 4)), (1, (cB (rows rw_b x1) 4)), (2, (cB (rows rw_b z0) 4))], 3, 2⟩))
abbrev qq3_ (rnd : Option Nat) (x0 : List (Bool)) (x1 : List (Bool)) (x2 : Nat) (x3 : Nat) (x4 : Nat) (x5 : Nat) (x6 : Int) (x8 : Nat) (x9 : WL rw_iuuuuL) (x10 : Int) (st : List (Bool) × Int) (c : Ex × XSt) : Prop := CG P rnd (fnN P 19) 2 (qbl_ P 19 [false, false, true, false, true, true]) (qgv_ x0 x1 x2 x3 x4 x5 x6 x8 x9 x10 st) c
abbrev qq4_ (rd : Option Nat) (x0 : List (Bool)) (x1 : List (Bool)) (x2 : Nat) (x3 : Nat) (x4 : Nat) (x5 : Nat) (x6 : Int) (x8 : Nat) (x9 : WL rw_iuuuuL) (x10 : Int) (st : List (Bool) × Int) (r : List (Bool)) : Prop := CG P rd (fnN P 19) 2 (qbl_ P 19 [false, true, false, true, true]) (qgv_ x0 x1 x2 x3 x4 x5 x6 x8 x9 x10 st) (qfk_ x0 x1 x2 x3 x4 x5 x6 x8 x9 x10 r)
def qdc_ (n : Nat) (x0 : List (Bool)) (x1 : List (Bool)) (x2 : Nat) (x3 : Nat) (x4 : Nat) (x5 : Nat) (x6 : Int) (x8 : Nat) (x9 : WL rw_iuuuuL) (x10 : Int) (st : List (Bool) × Int) : Option ((List (Bool) × Int) ⊕ (List (Bool))) := match st with
 | (x7, x11) =>
  if x11 < x10 then
   if 0 ≤ x11 ∧ x11 < (((x9).l.length : Nat) : Int) then
    ((some (((x9).l).getD (x11).toNat (0, 0, 0, 0, 0, nl0)))).bind fun y3_ =>
    if (y3_.1) = 2 then
     if 0 ≤ x11 ∧ x11 < ((x4 : Nat) : Int) then
      if (x11).toNat < (x1).length then
       ((some ((x1).getD (x11).toNat (false)))).bind fun y7_ =>
       if y7_ = true then
        (qh7_ n (y3_.2.1) (y3_.2.2.1) (y3_.2.2.2.1) (y3_.2.2.2.2.1) x6).bind fun y9_ =>
        if 0 ≤ x11 ∧ x11 < ((x8 : Nat) : Int) then
         if (x11).toNat < (x7).length then
          some (.inl (((x7).set (x11).toNat y9_), (w64 (x11 + 1))))
         else none
        else none
       else
        if 0 ≤ x11 ∧ x11 < ((x8 : Nat) : Int) then
         if (x11).toNat < (x7).length then
          some (.inl (((x7).set (x11).toNat false), (w64 (x11 + 1))))
         else none
        else none
      else none
     else none
    else
     (qjg_ n x0 x1 x2 x3 x4 x5 x6 x8 x11 (y3_.1) (y3_.2.1) (y3_.2.2.1) (y3_.2.2.2.1) (y3_.2.2.2.2.1) (y3_.2.2.2.2.2) x9 x10 ((((y3_.2.2.2.2.2)).l.length : Nat) : Int) (x7, 0)).bind fun y5_ =>
     some (.inl (y5_, (w64 (x11 + 1))))
   else none
  else
   some (.inr x7)
def qjh_ (n : Nat) (x0 : List (Bool)) (x1 : List (Bool)) (x2 : Nat) (x3 : Nat) (x4 : Nat) (x5 : Nat) (x6 : Int) (x8 : Nat) (x9 : WL rw_iuuuuL) (x10 : Int) (st : List (Bool) × Int) : Option (List (Bool)) := iterM (qdc_ n x0 x1 x2 x3 x4 x5 x6 x8 x9 x10) n st
theorem qmj_ (n : Nat) {rnd : Option Nat} (x0 : List (Bool)) (x1 : List (Bool)) (x2 : Nat) (x3 : Nat) (x4 : Nat) (x5 : Nat) (x6 : Int) (x8 : Nat) (x9 : WL rw_iuuuuL) (x10 : Int) (st : List (Bool) × Int) (o : (List (Bool) × Int) ⊕ (List (Bool))) (h : qdc_ n x0 x1 x2 x3 x4 x5 x6 x8 x9 x10 st = some o) : qq3_ rnd x0 x1 x2 x3 x4 x5 x6 x8 x9 x10 st (Sum.elim (fun s => (.normal, qgv_ x0 x1 x2 x3 x4 x5 x6 x8 x9 x10 s)) (fun r => qfk_ x0 x1 x2 x3 x4 x5 x6 x8 x9 x10 r) o) := by
 obtain ⟨x7, x11⟩ := st
 unfold qdc_ at h
 dsimp only at h
 by_cases hy1 : x11 < x10
 ·rw [if_pos hy1] at h
  obtain ⟨hy2, h⟩ := gd h
  obtain ⟨y3_, hy3, h⟩ := oB h
  have k0 := fun {A L l} (k : PL A L l) => zz 1 (xdT hy1) <|
   zz 8 (xk1 (x9).num (x9).off (x9).cap hy2) <|
   zz 9 (lk4 hy3 (qlm_ hy2)) <|
   k
  by_cases hy4 : (y3_.1) = 2
  ·rw [if_pos hy4] at h
   obtain ⟨hy5, h⟩ := gd h
   obtain ⟨hy6, h⟩ := gd h
   obtain ⟨y7_, hy7, h⟩ := oB h
   have k3 := fun {A L l} (k : PL A L l) => zz 17 (xeT hy4) <|
    zz 24 (xk7 1 x5 hy5) <|
    zz 25 (ok8 hy7 (hy6)) <|
    k
   by_cases hy8 : y7_ = true
   ·rw [if_pos hy8] at h
    obtain ⟨y9_, hy9, h⟩ := oB h
    obtain ⟨hy10, h⟩ := gd h
    obtain ⟨hy11, h⟩ := gd h
    obtain rfl := oI h
    exact runC2 hm (kW [1, 2, 3, 9, 17, 18, 19] [(0, 0, true), (1, 1, true), (2, 2, true)] 3 2) (k0 <|
     k3 <|
     zz 26 (xbT hy8) <|
     yy 30 (.call (C_classHasq1 (y3_.2.1) (y3_.2.2.1) (y3_.2.2.2.1) (y3_.2.2.2.2.1) x6 y9_ [] [])) <|
     ww (qq0_ n (y3_.2.1) (y3_.2.2.1) (y3_.2.2.2.1) (y3_.2.2.2.2.1) x6 y9_ hy9) <|
     zz 32 (xk7 2 x8 hy10) <|
     yy 33 (.sto (layT (rows rw_b ((x7).set (x11).toNat y9_)))) <|
     ww (p := ∃ old, rdT (layT (rows rw_b x7)) 1 ((x11).toNat * 1) = some old) (Exists.elim (qbi_ rwf_b (false) (i := (x11).toNat) (j := 0) (l := [(bO y9_)]) y9_ ((x11).toNat * 1) rfl (hy11) (Nat.le_of_ble_eq_true rfl) rfl) fun o h => ⟨o, h.1⟩) <|
     ww (p := layL [(bO y9_)] ((x11).toNat * 1) (layT (rows rw_b x7)) = layT (rows rw_b ((x7).set (x11).toNat y9_))) (Exists.elim (qbi_ rwf_b (false) (i := (x11).toNat) (j := 0) (l := [(bO y9_)]) y9_ ((x11).toNat * 1) rfl (hy11) (Nat.le_of_ble_eq_true rfl) rfl) fun o h => h.2) <|
     ww (qa_ rwf_b x0 4) <|
     ww (qa_ rwf_b x1 4) <|
     ww (qa_ rwf_b ((x7).set (x11).toNat y9_) 4) <|
     ee) (by kernel_rfl)
   ·rw [if_neg hy8] at h
    obtain ⟨hy9, h⟩ := gd h
    obtain ⟨hy10, h⟩ := gd h
    obtain rfl := oI h
    exact runC2 hm (kW [1, 2, 3, 9, 17, 18, 19] [(0, 0, true), (1, 1, true), (2, 2, true)] 3 2) (k0 <|
     k3 <|
     zz 26 (xbF hy8) <|
     zz 32 (xk7 2 x8 hy9) <|
     yy 33 (.sto (layT (rows rw_b ((x7).set (x11).toNat false)))) <|
     ww (p := ∃ old, rdT (layT (rows rw_b x7)) 1 ((x11).toNat * 1) = some old) (Exists.elim (qbi_ rwf_b (false) (i := (x11).toNat) (j := 0) (l := [(bO false)]) false ((x11).toNat * 1) rfl (hy10) (Nat.le_of_ble_eq_true rfl) rfl) fun o h => ⟨o, h.1⟩) <|
     ww (p := layL [(bO false)] ((x11).toNat * 1) (layT (rows rw_b x7)) = layT (rows rw_b ((x7).set (x11).toNat false))) (Exists.elim (qbi_ rwf_b (false) (i := (x11).toNat) (j := 0) (l := [(bO false)]) false ((x11).toNat * 1) rfl (hy10) (Nat.le_of_ble_eq_true rfl) rfl) fun o h => h.2) <|
     ww (qa_ rwf_b x0 4) <|
     ww (qa_ rwf_b x1 4) <|
     ww (qa_ rwf_b ((x7).set (x11).toNat false) 4) <|
     ee) (by kernel_rfl)
  ·rw [if_neg hy4] at h
   obtain ⟨y5_, hy5, h⟩ := oB h
   obtain rfl := oI h
   exact runC2 hm (kW [1, 2, 3, 9, 17, 18, 19] [(0, 0, true), (1, 1, true), (2, 2, true)] 3 2) (k0 <|
    zz 17 (xeF hy4) <|
    ww (qn4_ n (rnd := rnd) x0 x1 x2 x3 x4 x5 x6 x8 x11 (y3_.1) (y3_.2.1) (y3_.2.2.1) (y3_.2.2.2.1) (y3_.2.2.2.2.1) (y3_.2.2.2.2.2) x9 x10 ((((y3_.2.2.2.2.2)).l.length : Nat) : Int) (x7, 0) y5_ hy5) <|
    ww (qa_ rwf_b x0 4) <|
    ww (qa_ rwf_b x1 4) <|
    ww (qa_ rwf_b x7 4) <|
    ll 25 ⟨(kW [1, 2, 3, 9, 10, 11, 17, 18, 19, 41, 42, 43] [(0, 0, true), (1, 1, true), (2, 2, true), (3, 3, false)] 4 2), (qfj_ x0 x1 x2 x3 x4 x5 x6 x8 x11 (y3_.1) (y3_.2.1) (y3_.2.2.1) (y3_.2.2.2.1) (y3_.2.2.2.2.1) (y3_.2.2.2.2.2) x9 x10 ((((y3_.2.2.2.2.2)).l.length : Nat) : Int) y5_).1, (qfj_ x0 x1 x2 x3 x4 x5 x6 x8 x11 (y3_.1) (y3_.2.1) (y3_.2.2.1) (y3_.2.2.2.1) (y3_.2.2.2.2.1) (y3_.2.2.2.2.2) x9 x10 ((((y3_.2.2.2.2.2)).l.length : Nat) : Int) y5_).2⟩ <|
    ww (qa_ rwf_b x0 4) <|
    ww (qa_ rwf_b x1 4) <|
    ww (qa_ rwf_b y5_ 4) <|
    ee) (by kernel_rfl)
 ·rw [if_neg hy1] at h
  obtain rfl := oI h
  exact runC2 hm (kW [9] [(0, 0, true), (1, 1, true), (2, 2, true)] 3 2) (zz 1 (xdF hy1) <|
   ww (qa_ rwf_b x0 4) <|
   ww (qa_ rwf_b x1 4) <|
   ww (qa_ rwf_b x7 4) <|
   ee) (by kernel_rfl)
theorem qn5_ (n : Nat) {rnd : Option Nat} (x0 : List (Bool)) (x1 : List (Bool)) (x2 : Nat) (x3 : Nat) (x4 : Nat) (x5 : Nat) (x6 : Int) (x8 : Nat) (x9 : WL rw_iuuuuL) (x10 : Int) (st : List (Bool) × Int) (r : List (Bool)) (h : qjh_ n x0 x1 x2 x3 x4 x5 x6 x8 x9 x10 st = some r) : qq4_ rnd x0 x1 x2 x3 x4 x5 x6 x8 x9 x10 st r :=
 CG.iter (b := qbl_ P 19 [false, false, true, false, true, true]) (by kernel_rfl) (body := qdc_ n x0 x1 x2 x3 x4 x5 x6 x8 x9 x10) (S := qgv_ x0 x1 x2 x3 x4 x5 x6 x8 x9 x10) (X := qfk_ x0 x1 x2 x3 x4 x5 x6 x8 x9 x10)
  (fun s s' h => qmj_ n x0 x1 x2 x3 x4 x5 x6 x8 x9 x10 s (.inl s') h)
  (fun s r h => qmj_ n x0 x1 x2 x3 x4 x5 x6 x8 x9 x10 s (.inr r) h)
  (fun r => by intro hx; cases hx) h
def qg2_ (n : Nat) (a0 : WL rw_iuuuuL) (a1 : List (Bool)) (a2 : Nat) (a3 : Nat) (a4 : List (Bool)) (a5 : Nat) (a6 : Nat) (a7 : Int) : Option (List (Bool)) :=
 if 0 ≤ (((a0).l.length : Nat) : Int) then
  if ((((a0).l.length : Nat) : Int)).toNat * 1 ≤ 140737488355328 then
   (qjh_ n a1 a4 a2 a3 a5 a6 a7 (((((a0).l.length : Nat) : Int)).toNat) a0 (((a0).l.length : Nat) : Int) ((List.replicate ((((a0).l.length : Nat) : Int)).toNat (false)), 0)).bind fun c3_ =>
   some c3_
  else none
 else none
theorem qqs_ (n : Nat) (a0 : WL rw_iuuuuL) (a1 : List (Bool)) (a2 : Nat) (a3 : Nat) (a4 : List (Bool)) (a5 : Nat) (a6 : Nat) (a7 : Int) (r : List (Bool)) (h : qg2_ n a0 a1 a2 a3 a4 a5 a6 a7 = some r) : G_regexreadq1 a0 a1 a2 a3 a4 a5 a6 a7 r := by
 unfold qg2_ at h
 obtain ⟨hc1, h⟩ := gd h
 obtain ⟨hc2, h⟩ := gd h
 obtain ⟨c3_, hc3, h⟩ := oB h
 obtain rfl := oI h
 exact runF2 hm (kW [8] [(2, 2, true)] 3 2) (yy 5 (.mk ((((a0).l.length : Nat) : Int)).toNat (rows rw_b (List.replicate ((((a0).l.length : Nat) : Int)).toNat (false)))) <|
  ww (p := natOf (i6 (((a0).l.length : Nat) : Int)) = some ((((a0).l.length : Nat) : Int)).toNat) (qcr_ hc1) <|
  ww (p := natOf (i6 (((a0).l.length : Nat) : Int)) = some ((((a0).l.length : Nat) : Int)).toNat) (qcr_ hc1) <|
  ww (p := fits ((((a0).l.length : Nat) : Int)).toNat 1 = true) (fits_ok hc2 (by omega)) <|
  ww (p := isZ8 [(bO false)] = false) (rfl) <|
  ww (p := reps [(bO false)] ((((a0).l.length : Nat) : Int)).toNat = (rows rw_b (List.replicate ((((a0).l.length : Nat) : Int)).toNat (false)))) (qi3_ rw_b (false) _ rfl _) <|
  ww (qn5_ n (rnd := none) a1 a4 a2 a3 a5 a6 a7 (((((a0).l.length : Nat) : Int)).toNat) a0 (((a0).l.length : Nat) : Int) ((List.replicate ((((a0).l.length : Nat) : Int)).toNat (false)), 0) c3_ hc3) <|
  ww (qa_ rwf_b a1 4) <|
  ww (qa_ rwf_b a4 4) <|
  ww (qa_ rwf_b (List.replicate ((((a0).l.length : Nat) : Int)).toNat (false)) 4) <|
  ll 13 ⟨(kW [1, 2, 3, 9, 17, 18, 19] [(0, 0, true), (1, 1, true), (2, 2, true)] 3 2), (qfk_ a1 a4 a2 a3 a5 a6 a7 (((((a0).l.length : Nat) : Int)).toNat) a0 (((a0).l.length : Nat) : Int) c3_).1, (qfk_ a1 a4 a2 a3 a5 a6 a7 (((((a0).l.length : Nat) : Int)).toNat) a0 (((a0).l.length : Nat) : Int) c3_).2⟩ <|
  ww (qa_ rwf_b c3_ 4) <|
  ee) (by kernel_rfl)


end Go.Proofs.YtgiceoflfmmlcaaDoor.rkx02
