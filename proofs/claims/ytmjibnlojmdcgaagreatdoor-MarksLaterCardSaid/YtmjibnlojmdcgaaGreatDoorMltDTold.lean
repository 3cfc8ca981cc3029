/-
  What functions do, told by pure functions. No condition.
-/
import Derived.Test.YtmjibnlojmdcgaaGreatDoorMltCTold
set_option linter.unusedSimpArgs false
set_option linter.unusedVariables false
set_option linter.unusedSectionVars false
set_option linter.unnecessarySimpa false
set_option maxRecDepth 100000
noncomputable section
namespace Go.Proofs.YtmjibnlojmdcgaaGreatDoor.mlt19
open Go Go.Proofs.YtmjibnlojmdcgaaGreatDoor Ax
variable [Args]
def qiw_ (a0 : List (Bool)) (a1 : Nat) (a2 : Nat) (a3 : Int) (a4 : Int) (a5 : Int) (a6 : Int) (a7 : Int) (a8 : Int) (a9 : Int) (a10 : NL) (a11 : Int) : List Value := [(i6 a3), (Value.agg #[(i6 a4), (i6 a5), (i6 a6), (i6 a7), (i6 a8), (i6 a9), (nlV a10), (Value.int .u64 a11)])]
def qix_ (a0 : List (Bool)) (a1 : Nat) (a2 : Nat) (a3 : Int) (a4 : Int) (a5 : Int) (a6 : Int) (a7 : Int) (a8 : Int) (a9 : Int) (a10 : NL) (a11 : Int) : AH := ⟨sB [(0, (some (rblk P 14 [false, true, false, true, true, true] .ready none [(3, (pN 2 0)), (13, (Value.func (.func 60) #[] #[(pN 4 0)]))] 1))), (1, (some (.marks true))), (2, (some (.cells (layT [(sN 3 0 a1 a2)]) 47))), (3, (some (.cells (layT (rows rw_b a0)) 4))), (4, (some (.cells (layT [(sW 0 0 (Args.A).length Args.cA)]) 22)))], 5, 5⟩
def qfw_ (a0 : List (Bool)) (a1 : Nat) (a2 : Nat) (a3 : Int) (a4 : Int) (a5 : Int) (a6 : Int) (a7 : Int) (a8 : Int) (a9 : Int) (a10 : NL) (a11 : Int) (r : List (Bool)) : Value := match r with
 | o0 => (bO true)
def qfx_ (a0 : List (Bool)) (a1 : Nat) (a2 : Nat) (a3 : Int) (a4 : Int) (a5 : Int) (a6 : Int) (a7 : Int) (a8 : Int) (a9 : Int) (a10 : NL) (a11 : Int) (r : List (Bool)) : AH := match r with
 | o0 => ⟨sB [(0, (some (rblk P 14 [false, true, false, true, true, true] .ready none [(3, (pN 2 0)), (13, (Value.func (.func 60) #[] #[(pN 4 0)]))] 1))), (1, (some (.marks true))), (2, (some (.cells (layT [(sN 3 0 a1 a2)]) 47))), (3, (some (.cells (layT (rows rw_b o0)) 4))), (4, (some (.cells (layT [(sW 0 0 (Args.A).length Args.cA)]) 22)))], 5, 0⟩
abbrev G_tS_111010y1 (a0 : List (Bool)) (a1 : Nat) (a2 : Nat) (a3 : Int) (a4 : Int) (a5 : Int) (a6 : Int) (a7 : Int) (a8 : Int) (a9 : Int) (a10 : NL) (a11 : Int) (r : List (Bool)) : Prop := Gv P (.yield 0) (qiw_ a0 a1 a2 a3 a4 a5 a6 a7 a8 a9 a10 a11) (qix_ a0 a1 a2 a3 a4 a5 a6 a7 a8 a9 a10 a11) (qfw_ a0 a1 a2 a3 a4 a5 a6 a7 a8 a9 a10 a11 r) (qfx_ a0 a1 a2 a3 a4 a5 a6 a7 a8 a9 a10 a11 r)
abbrev C_tS_111010y1 (a0 : List (Bool)) (a1 : Nat) (a2 : Nat) (a3 : Int) (a4 : Int) (a5 : Int) (a6 : Int) (a7 : Int) (a8 : Int) (a9 : Int) (a10 : NL) (a11 : Int) (r : List (Bool)) (ins outs : BL) : CallA := ⟨5, ins, qfw_ a0 a1 a2 a3 a4 a5 a6 a7 a8 a9 a10 a11 r, qfx_ a0 a1 a2 a3 a4 a5 a6 a7 a8 a9 a10 a11 r, outs⟩
def qb3_ (n : Nat) (a0 : List (Bool)) (a1 : Nat) (a2 : Nat) (a3 : Int) (a4 : Int) (a5 : Int) (a6 : Int) (a7 : Int) (a8 : Int) (a9 : Int) (a10 : NL) (a11 : Int) : Option (List (Bool)) :=
 if a11 = 0 then
  (m_cFq1 n a10 a0 a1 a2).bind fun c2_ =>
  if 0 ≤ a3 ∧ a3 < ((a1 : Nat) : Int) then
   if (a3).toNat < (a0).length then
    some ((a0).set (a3).toNat c2_)
   else none
  else none
 else
  if 0 ≤ a3 ∧ a3 < ((a1 : Nat) : Int) then
   if (a3).toNat < (a0).length then
    some ((a0).set (a3).toNat true)
   else none
  else none
theorem qk8_ (n : Nat) (a0 : List (Bool)) (a1 : Nat) (a2 : Nat) (a3 : Int) (a4 : Int) (a5 : Int) (a6 : Int) (a7 : Int) (a8 : Int) (a9 : Int) (a10 : NL) (a11 : Int) (r : List (Bool)) (h : qb3_ n a0 a1 a2 a3 a4 a5 a6 a7 a8 a9 a10 a11 = some r) : Gv P (.yield 0) (qiw_ a0 a1 a2 a3 a4 a5 a6 a7 a8 a9 a10 a11) (qix_ a0 a1 a2 a3 a4 a5 a6 a7 a8 a9 a10 a11) (qfw_ a0 a1 a2 a3 a4 a5 a6 a7 a8 a9 a10 a11 r) (qfx_ a0 a1 a2 a3 a4 a5 a6 a7 a8 a9 a10 a11 r) := by
 unfold qb3_ at h
 by_cases hc1 : a11 = 0
 ·rw [if_pos hc1] at h
  obtain ⟨c2_, hc2, h⟩ := oB h
  obtain ⟨hc3, h⟩ := gd h
  obtain ⟨hc4, h⟩ := gd h
  obtain rfl := oI h; exact (qkt_ hm (A1 := aT []) (L1 := lT []) (A2 := aT [(5, vf), (10, .call (C_cFq1 a10 a0 a1 a2 c2_ [(0, 2, false), (1, 3, true)] [])), (12, .pur (pN 3 ((a3).toNat * 1))), (13, .sto (layT (rows rw_b ((a0).set (a3).toNat c2_))))]) (L2 := lT []) (wk := ⟨[], [(0, 0, false), (1, 1, false), (2, 2, false), (3, 3, true), (4, 4, false)], 5, 0⟩) (ps := [nF a11 0, G_cFq1 a10 a0 a1 a2 c2_, FlatB (.cells (layT (rows rw_b a0)) 4), xp20 3 a1 a2 a3, ∃ old, rdT (layT (rows rw_b a0)) 1 ((a3).toNat * 1) = some old, layL [(bO c2_)] ((a3).toNat * 1) (layT (rows rw_b a0)) = layT (rows rw_b ((a0).set (a3).toNat c2_)), FlatB (.cells (layT (rows rw_b ((a0).set (a3).toNat c2_))) 4)]) (by kernel_rfl) ⟨((xnF hc1).p), (m_cFq1_ok n a10 a0 a1 a2 c2_ hc2), (qd_ rwf_b a0 4), ((xk20 3 a2 hc3).p), (Exists.elim (qbs_ rwf_b (false) (i := (a3).toNat) (j := 0) (l := [(bO c2_)]) c2_ ((a3).toNat * 1) rfl (hc4) (Nat.le_of_ble_eq_true rfl) rfl) fun o h => ⟨o, h.1⟩), (Exists.elim (qbs_ rwf_b (false) (i := (a3).toNat) (j := 0) (l := [(bO c2_)]) c2_ ((a3).toNat * 1) rfl (hc4) (Nat.le_of_ble_eq_true rfl) rfl) fun o h => h.2), (qd_ rwf_b ((a0).set (a3).toNat c2_) 4), trivial⟩)
 ·rw [if_neg hc1] at h
  obtain ⟨hc2, h⟩ := gd h
  obtain ⟨hc3, h⟩ := gd h
  obtain rfl := oI h; exact (qkt_ hm (A1 := aT []) (L1 := lT []) (A2 := aT [(5, vt), (12, .pur (pN 3 ((a3).toNat * 1))), (13, .sto (layT (rows rw_b ((a0).set (a3).toNat true))))]) (L2 := lT []) (wk := ⟨[], [(0, 0, false), (1, 1, false), (2, 2, false), (3, 3, true), (4, 4, false)], 5, 0⟩) (ps := [nT a11 0, xp20 3 a1 a2 a3, ∃ old, rdT (layT (rows rw_b a0)) 1 ((a3).toNat * 1) = some old, layL [(bO true)] ((a3).toNat * 1) (layT (rows rw_b a0)) = layT (rows rw_b ((a0).set (a3).toNat true)), FlatB (.cells (layT (rows rw_b ((a0).set (a3).toNat true))) 4)]) (by kernel_rfl) ⟨((xnT hc1).p), ((xk20 3 a2 hc2).p), (Exists.elim (qbs_ rwf_b (false) (i := (a3).toNat) (j := 0) (l := [(bO true)]) true ((a3).toNat * 1) rfl (hc3) (Nat.le_of_ble_eq_true rfl) rfl) fun o h => ⟨o, h.1⟩), (Exists.elim (qbs_ rwf_b (false) (i := (a3).toNat) (j := 0) (l := [(bO true)]) true ((a3).toNat * 1) rfl (hc3) (Nat.le_of_ble_eq_true rfl) rfl) fun o h => h.2), (qd_ rwf_b ((a0).set (a3).toNat true) 4), trivial⟩)

def A_bK1q1 (a0 : List (Bool)) (a1 : Nat) (a2 : Nat) : List Value := [(Value.func (.yield 0) #[] #[]), (pN 4 0)]
def H_bK1q1 (a0 : List (Bool)) (a1 : Nat) (a2 : Nat) : AH := ⟨sB [(0, (some (rblk P 14 [false, true, false, true, true, true] .ready none [(3, (pN 2 0)), (13, (Value.func (.func 60) #[] #[(pN 4 0)]))] 1))), (1, (some (.marks true))), (2, (some (.cells (layT [(sN 3 0 a1 a2)]) 47))), (3, (some (.cells (layT (rows rw_b a0)) 4))), (4, (some (.cells (layT [(sW 0 0 (Args.A).length Args.cA)]) 22)))], 5, 5⟩
def V_bK1q1 (a0 : List (Bool)) (a1 : Nat) (a2 : Nat) (r : List (Bool)) : Value := match r with
 | o0 => (Value.tuple #[])
def R_bK1q1 (a0 : List (Bool)) (a1 : Nat) (a2 : Nat) (r : List (Bool)) : AH := match r with
 | o0 => ⟨sB [(0, (some (rblk P 14 [false, true, false, true, true, true] .ready none [(3, (pN 2 0)), (13, (Value.func (.func 60) #[] #[(pN 4 0)]))] 1))), (1, (some (.marks true))), (2, (some (.cells (layT [(sN 3 0 a1 a2)]) 47))), (3, (some (.cells (layT (rows rw_b o0)) 4))), (4, (some (.cells (layT [(sW 0 0 (Args.A).length Args.cA)]) 22)))], 5, 0⟩
abbrev G_bK1q1 (a0 : List (Bool)) (a1 : Nat) (a2 : Nat) (r : List (Bool)) : Prop := Gv P (.func 60) (A_bK1q1 a0 a1 a2) (H_bK1q1 a0 a1 a2) (V_bK1q1 a0 a1 a2 r) (R_bK1q1 a0 a1 a2 r)
abbrev C_bK1q1 (a0 : List (Bool)) (a1 : Nat) (a2 : Nat) (r : List (Bool)) (ins outs : BL) : CallA := ⟨5, ins, V_bK1q1 a0 a1 a2 r, R_bK1q1 a0 a1 a2 r, outs⟩
def qhm_ (x1 : Nat) (x2 : Nat) (st : List (Bool) × Int) : XSt := match st with
 | (x0, x3) => (sT 19 [(0, (Value.func (.yield 0) #[] #[])), (1, (pN 4 0)), (3, (i6 x3))], [], ⟨sB [(0, (some (rblk P 14 [false, true, false, true, true, true] .ready none [(3, (pN 2 0)), (13, (Value.func (.func 60) #[] #[(pN 4 0)]))] 1))), (1, (some (.marks true))), (2, (some (.cells (layT [(sN 3 0 x1 x2)]) 47))), (3, (some (.cells (layT (rows rw_b x0)) 4))), (4, (some (.cells (layT [(sW 0 0 (Args.A).length Args.cA)]) 22)))], 5, 0⟩)
def qf7_ (x1 : Nat) (x2 : Nat) (r : List (Bool)) : Ex × XSt := match r with
 | z0 => (.exit 0, (sT 19 [], [], ⟨sB [(0, (some (rblk P 14 [false, true, false, true, true, true] .ready none [(3, (pN 2 0)), (13, (Value.func (.func 60) #[] #[(pN 4 0)]))] 1))), (1, (some (.marks true))), (2, (some (.cells (layT [(sN 3 0 x1 x2)]) 47))), (3, (some (.cells (layT (rows rw_b z0)) 4))), (4, (some (.cells (layT [(sW 0 0 (Args.A).length Args.cA)]) 22)))], 5, 0⟩))
abbrev Q_bK1q1_1 (rnd : Option Nat) (x1 : Nat) (x2 : Nat) (st : List (Bool) × Int) (c : Ex × XSt) : Prop := CG P rnd (fnN P 60) 5 (qq_ P 60 [false, false, true]) (qhm_ x1 x2 st) c
def qc1_ (n : Nat) (x1 : Nat) (x2 : Nat) (st : List (Bool) × Int) : Option ((List (Bool) × Int) ⊕ (List (Bool))) := match st with
 | (x0, x3) =>
  if x3 ≥ 0 then
   if 0 ≤ x3 ∧ x3 < (Args.A.length : Int) then
    ((some ((Args.A).getD (x3).toNat (0, 0, 0, 0, 0, 0, nl0, 0)))).bind fun y3_ =>
    (qb3_ n x0 x1 x2 x3 (y3_.1) (y3_.2.1) (y3_.2.2.1) (y3_.2.2.2.1) (y3_.2.2.2.2.1) (y3_.2.2.2.2.2.1) (y3_.2.2.2.2.2.2.1) (y3_.2.2.2.2.2.2.2)).bind fun y4_ =>
    some (.inl (y4_, (w64 (x3 - 1))))
   else none
  else
   some (.inr x0)
def qnw_ (n : Nat) (x1 : Nat) (x2 : Nat) (st : List (Bool) × Int) : Option (List (Bool)) := iterM (qc1_ n x1 x2) n st
theorem q_bK1q1_1_0 (n : Nat) {rnd : Option Nat} (x0 : List (Bool)) (x1 x2 : Nat) (x3 : Int) (hy1 : x3 ≥ 0) (hy2 : 0 ≤ x3 ∧ x3 < (Args.A.length : Int)) (y3_ : R8) (hy3 : (some ((Args.A).getD (x3).toNat (0, 0, 0, 0, 0, 0, nl0, 0))) = some y3_) (y4_ : List (Bool)) (hy4 : qb3_ n x0 x1 x2 x3 (y3_.1) (y3_.2.1) (y3_.2.2.1) (y3_.2.2.2.1) (y3_.2.2.2.2.1) (y3_.2.2.2.2.2.1) (y3_.2.2.2.2.2.2.1) (y3_.2.2.2.2.2.2.2) = some y4_) : Q_bK1q1_1 rnd x1 x2 (x0, x3) (.normal, qhm_ x1 x2 (y4_, (w64 (x3 - 1)))) :=
 runC2 hm (L := lT []) ⟨[0, 1, 3], [(0, 0, false), (1, 1, false), (2, 2, false), (3, 3, true), (4, 4, false)], 5, 0⟩ (zz 3 (xdT hy1) <|
zz 12 (xk1 0 Args.cA hy2) <|
zz 13 (lk2 hy3 (qc_ hy2)) <|
yy 14 (.call (C_tS_111010y1 x0 x1 x2 x3 (y3_.1) (y3_.2.1) (y3_.2.2.1) (y3_.2.2.2.1) (y3_.2.2.2.2.1) (y3_.2.2.2.2.2.1) (y3_.2.2.2.2.2.2.1) (y3_.2.2.2.2.2.2.2) y4_ [(0, 0, false), (1, 1, false), (2, 2, false), (3, 3, true), (4, 4, false)] [(0, 0, false), (1, 1, false), (2, 2, false), (3, 3, true), (4, 4, false)])) <|
ww (qk8_ n x0 x1 x2 x3 (y3_.1) (y3_.2.1) (y3_.2.2.1) (y3_.2.2.2.1) (y3_.2.2.2.2.1) (y3_.2.2.2.2.2.1) (y3_.2.2.2.2.2.2.1) (y3_.2.2.2.2.2.2.2) y4_ hy4) <|
ww (qd_ rwf_b x0 4) <|
ww (qd_ rwf_b y4_ 4) <|
ww (qd_ rwf_b y4_ 4) <|
ee) (by kernel_rfl)
theorem q_bK1q1_1_1 (n : Nat) {rnd : Option Nat} (x0 : List (Bool)) (x1 x2 : Nat) (x3 : Int) (hy1 : ¬ (x3 ≥ 0)) : Q_bK1q1_1 rnd x1 x2 (x0, x3) (qf7_ x1 x2 x0) :=
 runC2 hm (L := lT []) ⟨[], [(0, 0, false), (1, 1, false), (2, 2, false), (3, 3, true), (4, 4, false)], 5, 0⟩ (zz 3 (xdF hy1) <|
ww (qd_ rwf_b x0 4) <|
ee) (by kernel_rfl)
theorem m_bK1q1_1_ok (n : Nat) {rnd : Option Nat} (x1 : Nat) (x2 : Nat) (st : List (Bool) × Int) (r : List (Bool)) (h : qnw_ n x1 x2 st = some r) : CG P rnd (fnN P 60) 5 (qq_ P 60 [false, true]) (qhm_ x1 x2 st) (qf7_ x1 x2 r) :=
 CG.iter (b := qq_ P 60 [false, false, true]) (by kernel_rfl) (body := qc1_ n x1 x2) (S := qhm_ x1 x2) (X := qf7_ x1 x2)
  (fun s s' h => by
  obtain ⟨x0, x3⟩ := s
  unfold qc1_ at h
  dsimp only at h
  by_cases hy1 : x3 ≥ 0
  ·rw [if_pos hy1] at h
   obtain ⟨hy2, h⟩ := gd h
   obtain ⟨y3_, hy3, h⟩ := oB h
   obtain ⟨y4_, hy4, h⟩ := oB h
   obtain rfl := Sum.inl.inj (oI h); exact q_bK1q1_1_0 n x0 x1 x2 x3 hy1 hy2 y3_ hy3 y4_ hy4
  ·rw [if_neg hy1] at h
   cases h)
  (fun s r h => by
  obtain ⟨x0, x3⟩ := s
  unfold qc1_ at h
  dsimp only at h
  by_cases hy1 : x3 ≥ 0
  ·rw [if_pos hy1] at h
   obtain ⟨hy2, h⟩ := gd h
   obtain ⟨y3_, hy3, h⟩ := oB h
   obtain ⟨y4_, hy4, h⟩ := oB h
   cases h
  ·rw [if_neg hy1] at h
   obtain rfl := Sum.inr.inj (oI h); exact q_bK1q1_1_1 n x0 x1 x2 x3 hy1)
  (fun r => by intro hx; cases hx) h
def m_bK1q1 (n : Nat) (a0 : List (Bool)) (a1 : Nat) (a2 : Nat) : Option (List (Bool)) :=
 ((some (w64 ((Args.A.length : Int) - 1)))).bind fun c1_ =>
 (qnw_ n a1 a2 (a0, c1_)).bind fun c2_ =>
 some c2_
theorem m_bK1q1_ok (n : Nat) (a0 : List (Bool)) (a1 : Nat) (a2 : Nat) (r : List (Bool)) (h : m_bK1q1 n a0 a1 a2 = some r) : Gv P (.func 60) (A_bK1q1 a0 a1 a2) (H_bK1q1 a0 a1 a2) (V_bK1q1 a0 a1 a2 r) (R_bK1q1 a0 a1 a2 r) := by
 unfold m_bK1q1 at h
 obtain ⟨c1_, hc1, h⟩ := oB h
 obtain ⟨c2_, hc2, h⟩ := oB h
 obtain rfl := oI h; exact (runF2 hm (L := lT [(6, ⟨⟨[0, 1, 3], [(0, 0, false), (1, 1, false), (2, 2, false), (3, 3, true), (4, 4, false)], 5, 0⟩, (qf7_ a1 a2 c2_).1, (qf7_ a1 a2 c2_).2⟩)]) ⟨[], [(0, 0, false), (1, 1, false), (2, 2, false), (3, 3, true), (4, 4, false)], 5, 0⟩ (zz 3 (xnm hc1) <|
ww (m_bK1q1_1_ok n (rnd := none) a1 a2 (a0, c1_) c2_ hc2) <|
ww (qd_ rwf_b a0 4) <|
ww (qd_ rwf_b c2_ 4) ee) (by kernel_rfl))

def A_tSq1 : List Value := [(sW 0 0 (Args.A).length Args.cA)]
def H_tSq1 : AH := ⟨sB [], 0, 0⟩
def V_tSq1 (r : List (Bool) × Nat) : Value := match r with
 | (o0, o1) => (sN 1 0 o1 o1)
def R_tSq1 (r : List (Bool) × Nat) : AH := match r with
 | (o0, o1) => ⟨sB [(0, (some (.marks false))), (1, (some (.cells (layT (rows rw_b o0)) 4)))], 2, 0⟩
abbrev G_tSq1 (r : List (Bool) × Nat) : Prop := Gv P (.func 14) A_tSq1 H_tSq1 (V_tSq1  r) (R_tSq1  r)
abbrev C_tSq1 (r : List (Bool) × Nat) (ins outs : BL) : CallA := ⟨0, ins, V_tSq1  r, R_tSq1  r, outs⟩
def m_tSq1 (n : Nat) : Option (List (Bool) × Nat) :=
 (m_tCq1 n).bind fun c1_ =>
 if c1_ = 0 then
  if 0 ≤ (Args.A.length : Int) then
   if ((Args.A.length : Int)).toNat * 1 ≤ 140737488355328 then
    (m_bKq1 n).bind fun _ =>
    (m_bK1q1 n (List.replicate ((Args.A.length : Int)).toNat (false)) (((Args.A.length : Int)).toNat) (((Args.A.length : Int)).toNat)).bind fun c6_ =>
    some (c6_, (((Args.A.length : Int)).toNat))
   else none
  else none
 else
  none
theorem m_tSq1_ok (n : Nat) (r : List (Bool) × Nat) (h : m_tSq1 n = some r) : Gv P (.func 14) A_tSq1 H_tSq1 (V_tSq1  r) (R_tSq1  r) := by
 unfold m_tSq1 at h
 obtain ⟨c1_, hc1, h⟩ := oB h
 by_cases hc2 : c1_ = 0
 ·rw [if_pos hc2] at h
  obtain ⟨hc3, h⟩ := gd h
  obtain ⟨hc4, h⟩ := gd h
  obtain ⟨_, hc5, h⟩ := oB h
  obtain ⟨c6_, hc6, h⟩ := oB h
  obtain rfl := oI h; exact (runF2 hm (L := lT []) ⟨[2], [(0, 3, false), (1, 0, true)], 2, 0⟩ (yy 5 (.call (C_tCq1  c1_ [] [])) <|
ww (qeo_ n  c1_ hc1) <|
zz 6 (xnF hc2) <|
yy 11 (.mk ((Args.A.length : Int)).toNat (rows rw_b (List.replicate ((Args.A.length : Int)).toNat (false)))) <|
ww (p := natOf (i6 (Args.A.length : Int)) = some ((Args.A.length : Int)).toNat) (q5_ hc3) <|
ww (p := natOf (i6 (Args.A.length : Int)) = some ((Args.A.length : Int)).toNat) (q5_ hc3) <|
ww (p := fits ((Args.A.length : Int)).toNat 1 = true) (qfi_ hc4 (by omega)) <|
ww (p := isZ8 [(bO false)] = false) (rfl) <|
ww (p := reps [(bO false)] ((Args.A.length : Int)).toNat = (rows rw_b (List.replicate ((Args.A.length : Int)).toNat (false)))) (qm5_ rw_b (false) _ rfl _) <|
yy 17 (.call (C_bKq1  () [] [(2, 0, false)])) <|
ww (m_bKq1_ok n  () hc5) <|
yy 19 (.rng (C_bK1q1 (List.replicate ((Args.A.length : Int)).toNat (false)) (((Args.A.length : Int)).toNat) (((Args.A.length : Int)).toNat) c6_ [(0, 4, false), (1, 3, false), (2, 1, false), (3, 0, true), (4, 2, false)] [(4, 0, false), (3, 1, false), (1, 2, false), (0, 3, true), (2, 4, false)]) [3, 13]) <|
ww (m_bK1q1_ok n (List.replicate ((Args.A.length : Int)).toNat (false)) (((Args.A.length : Int)).toNat) (((Args.A.length : Int)).toNat) c6_ hc6) <|
ww (qd_ rwf_b (List.replicate ((Args.A.length : Int)).toNat (false)) 4) <|
ww (qd_ rwf_b c6_ 4) <|
ww (qd_ rwf_b c6_ 4) ee) (by kernel_rfl))
 ·rw [if_neg hc2] at h
  cases h

def A_vSq1 (a0 : NL) : List Value := [(nlV a0)]
def H_vSq1 (a0 : NL) : AH := ⟨sB [], 0, 0⟩
def V_vSq1 (a0 : NL) (r : Unit) : Value := match r with
 | _ => (Value.func (.func 35) #[] #[(pN 0 0)])
def R_vSq1 (a0 : NL) (r : Unit) : AH := match r with
 | _ => ⟨sB [(0, (some (.cells (layT [(nlV a0)]) 27)))], 1, 0⟩
abbrev G_vSq1 (a0 : NL) (r : Unit) : Prop := Gv P (.func 17) (A_vSq1 a0) (H_vSq1 a0) (V_vSq1 a0 r) (R_vSq1 a0 r)
abbrev C_vSq1 (a0 : NL) (r : Unit) (ins outs : BL) : CallA := ⟨0, ins, V_vSq1 a0 r, R_vSq1 a0 r, outs⟩
def m_vSq1 (n : Nat) (a0 : NL) : Option (Unit) :=
 some ()
theorem qjf_ (n : Nat) (a0 : NL) (r : Unit) (h : m_vSq1 n a0 = some r) : Gv P (.func 17) (A_vSq1 a0) (H_vSq1 a0) (V_vSq1 a0 r) (R_vSq1 a0 r) := by
 unfold m_vSq1 at h
 obtain rfl := oI h; exact (runF2 hm (L := lT []) ⟨[2], [(0, 0, false)], 1, 0⟩ (ee) (by kernel_rfl))

def A_mM1q1 (a0 : Bool) (a1 : Int) (a2 : List (Bool)) (a3 : Nat) (a4 : Nat) : List Value := [(bO a0), (i6 a1), (pN 0 0)]
def H_mM1q1 (a0 : Bool) (a1 : Int) (a2 : List (Bool)) (a3 : Nat) (a4 : Nat) : AH := ⟨sB [(0, (some (.cells (layT [(sN 1 0 a3 a4)]) 47))), (1, (some (.cells (layT (rows rw_b a2)) 4)))], 2, 2⟩
def V_mM1q1 (a0 : Bool) (a1 : Int) (a2 : List (Bool)) (a3 : Nat) (a4 : Nat) (r : Bool) : Value := match r with
 | o0 => (bO o0)
def R_mM1q1 (a0 : Bool) (a1 : Int) (a2 : List (Bool)) (a3 : Nat) (a4 : Nat) (r : Bool) : AH := match r with
 | o0 => ⟨sB [], 2, 2⟩
abbrev G_mM1q1 (a0 : Bool) (a1 : Int) (a2 : List (Bool)) (a3 : Nat) (a4 : Nat) (r : Bool) : Prop := Gv P (.func 18) (A_mM1q1 a0 a1 a2 a3 a4) (H_mM1q1 a0 a1 a2 a3 a4) (V_mM1q1 a0 a1 a2 a3 a4 r) (R_mM1q1 a0 a1 a2 a3 a4 r)
abbrev C_mM1q1 (a0 : Bool) (a1 : Int) (a2 : List (Bool)) (a3 : Nat) (a4 : Nat) (r : Bool) (ins outs : BL) : CallA := ⟨2, ins, V_mM1q1 a0 a1 a2 a3 a4 r, R_mM1q1 a0 a1 a2 a3 a4 r, outs⟩
def m_mM1q1 (n : Nat) (a0 : Bool) (a1 : Int) (a2 : List (Bool)) (a3 : Nat) (a4 : Nat) : Option (Bool) :=
 if a0 = true then
  if 0 ≤ a1 ∧ a1 < ((a3 : Nat) : Int) then
   if (a1).toNat < (a2).length then
    ((some ((a2).getD (a1).toNat (false)))).bind fun c4_ =>
    some c4_
   else none
  else none
 else
  some false
theorem m_mM1q1_ok (n : Nat) (a0 : Bool) (a1 : Int) (a2 : List (Bool)) (a3 : Nat) (a4 : Nat) (r : Bool) (h : m_mM1q1 n a0 a1 a2 a3 a4 = some r) : Gv P (.func 18) (A_mM1q1 a0 a1 a2 a3 a4) (H_mM1q1 a0 a1 a2 a3 a4) (V_mM1q1 a0 a1 a2 a3 a4 r) (R_mM1q1 a0 a1 a2 a3 a4 r) := by
 unfold m_mM1q1 at h
 by_cases hc1 : a0 = true
 ·rw [if_pos hc1] at h
  obtain ⟨hc2, h⟩ := gd h
  obtain ⟨hc3, h⟩ := gd h
  obtain ⟨c4_, hc4, h⟩ := oB h
  obtain rfl := oI h; exact (runF2 hm (L := lT []) ⟨[5], [], 2, 2⟩ (zz 4 (xbT hc1) <|
zz 7 (xk20 1 a4 hc2) <|
zz 8 (ok21 hc4 (hc3)) ee) (by kernel_rfl))
 ·rw [if_neg hc1] at h
  obtain rfl := oI h; exact (runF2 hm (L := lT []) ⟨[5], [], 2, 2⟩ (zz 4 (xbF hc1) ee) (by kernel_rfl))

def ql9_ (a0 : Bool) (a1 : List (Bool)) (a2 : Nat) (a3 : Nat) (a4 : NL) (a5 : Int) : List Value := [(i6 a5)]
def qma_ (a0 : Bool) (a1 : List (Bool)) (a2 : Nat) (a3 : Nat) (a4 : NL) (a5 : Int) : AH := ⟨sB [(0, (some (.cells (layT [(sN 1 0 a2 a3)]) 47))), (1, (some (.cells (layT (rows rw_b a1)) 4))), (2, (some (.cells (layT [(nlV a4)]) 27))), (3, (some (.cells (layT [(bO a0)]) 4))), (4, (some (.cells (layT [(Value.func (.func 18) #[] #[(pN 0 0)])]) 53))), (5, (some (.marks true))), (6, (some (rblk P 16 [false, true, false, true] .ready none [(4, (pN 3 0)), (5, (pN 4 0)), (8, (Value.func (.func 35) #[] #[(pN 2 0)]))] 5)))], 7, 7⟩
def qid_ (a0 : Bool) (a1 : List (Bool)) (a2 : Nat) (a3 : Nat) (a4 : NL) (a5 : Int) (r : Bool) : Value := match r with
 | o0 => (bO true)
def qie_ (a0 : Bool) (a1 : List (Bool)) (a2 : Nat) (a3 : Nat) (a4 : NL) (a5 : Int) (r : Bool) : AH := match r with
 | o0 => ⟨sB [(0, (some (.cells (layT [(sN 1 0 a2 a3)]) 47))), (1, (some (.cells (layT (rows rw_b a1)) 4))), (2, (some (.cells (layT [(nlV a4)]) 27))), (3, (some (.cells (layT [(bO o0)]) 4))), (4, (some (.cells (layT [(Value.func (.func 18) #[] #[(pN 0 0)])]) 53))), (5, (some (.marks true))), (6, (some (rblk P 16 [false, true, false, true] .ready none [(4, (pN 3 0)), (5, (pN 4 0)), (8, (Value.func (.func 35) #[] #[(pN 2 0)]))] 5)))], 7, 3⟩
abbrev G_fO_1010y1 (a0 : Bool) (a1 : List (Bool)) (a2 : Nat) (a3 : Nat) (a4 : NL) (a5 : Int) (r : Bool) : Prop := Gv P (.yield 6) (ql9_ a0 a1 a2 a3 a4 a5) (qma_ a0 a1 a2 a3 a4 a5) (qid_ a0 a1 a2 a3 a4 a5 r) (qie_ a0 a1 a2 a3 a4 a5 r)
abbrev C_fO_1010y1 (a0 : Bool) (a1 : List (Bool)) (a2 : Nat) (a3 : Nat) (a4 : NL) (a5 : Int) (r : Bool) (ins outs : BL) : CallA := ⟨7, ins, qid_ a0 a1 a2 a3 a4 a5 r, qie_ a0 a1 a2 a3 a4 a5 r, outs⟩
def qee_ (n : Nat) (a0 : Bool) (a1 : List (Bool)) (a2 : Nat) (a3 : Nat) (a4 : NL) (a5 : Int) : Option (Bool) :=
 (m_mM1q1 n a0 a5 a1 a2 a3).bind fun c1_ =>
 some c1_
theorem qnx_ (n : Nat) (a0 : Bool) (a1 : List (Bool)) (a2 : Nat) (a3 : Nat) (a4 : NL) (a5 : Int) (r : Bool) (h : qee_ n a0 a1 a2 a3 a4 a5 = some r) : Gv P (.yield 6) (ql9_ a0 a1 a2 a3 a4 a5) (qma_ a0 a1 a2 a3 a4 a5) (qid_ a0 a1 a2 a3 a4 a5 r) (qie_ a0 a1 a2 a3 a4 a5 r) := by
 unfold qee_ at h
 obtain ⟨c1_, hc1, h⟩ := oB h
 obtain rfl := oI h; exact (qkt_ hm (A1 := aT []) (L1 := lT []) (A2 := aT [(4, .call (C_mM1q1 a0 a5 a1 a2 a3 c1_ [(0, 0, false), (1, 1, true)] []))]) (L2 := lT []) (wk := ⟨[], [(0, 0, false), (1, 1, true), (2, 2, false), (3, 3, false), (4, 4, false), (5, 5, false), (6, 6, false)], 7, 3⟩) (ps := [G_mM1q1 a0 a5 a1 a2 a3 c1_, FlatB (.cells (layT (rows rw_b a1)) 4), FlatB (.cells (layT (rows rw_b a1)) 4)]) (by kernel_rfl) ⟨(m_mM1q1_ok n a0 a5 a1 a2 a3 c1_ hc1), (qd_ rwf_b a1 4), (qd_ rwf_b a1 4), trivial⟩)

def A_vS1q1 (a0 : Bool) (a1 : List (Bool)) (a2 : Nat) (a3 : Nat) (a4 : NL) : List Value := [(Value.func (.yield 6) #[] #[]), (pN 2 0)]
def H_vS1q1 (a0 : Bool) (a1 : List (Bool)) (a2 : Nat) (a3 : Nat) (a4 : NL) : AH := ⟨sB [(0, (some (.cells (layT [(sN 1 0 a2 a3)]) 47))), (1, (some (.cells (layT (rows rw_b a1)) 4))), (2, (some (.cells (layT [(nlV a4)]) 27))), (3, (some (.cells (layT [(bO a0)]) 4))), (4, (some (.cells (layT [(Value.func (.func 18) #[] #[(pN 0 0)])]) 53))), (5, (some (.marks true))), (6, (some (rblk P 16 [false, true, false, true] .ready none [(4, (pN 3 0)), (5, (pN 4 0)), (8, (Value.func (.func 35) #[] #[(pN 2 0)]))] 5)))], 7, 7⟩
def V_vS1q1 (a0 : Bool) (a1 : List (Bool)) (a2 : Nat) (a3 : Nat) (a4 : NL) (r : Bool) : Value := match r with
 | o0 => (Value.tuple #[])
def R_vS1q1 (a0 : Bool) (a1 : List (Bool)) (a2 : Nat) (a3 : Nat) (a4 : NL) (r : Bool) : AH := match r with
 | o0 => ⟨sB [(0, (some (.cells (layT [(sN 1 0 a2 a3)]) 47))), (1, (some (.cells (layT (rows rw_b a1)) 4))), (2, (some (.cells (layT [(nlV a4)]) 27))), (3, (some (.cells (layT [(bO o0)]) 4))), (4, (some (.cells (layT [(Value.func (.func 18) #[] #[(pN 0 0)])]) 53))), (5, (some (.marks true))), (6, (some (rblk P 16 [false, true, false, true] .ready none [(4, (pN 3 0)), (5, (pN 4 0)), (8, (Value.func (.func 35) #[] #[(pN 2 0)]))] 5)))], 7, 3⟩
abbrev G_vS1q1 (a0 : Bool) (a1 : List (Bool)) (a2 : Nat) (a3 : Nat) (a4 : NL) (r : Bool) : Prop := Gv P (.func 35) (A_vS1q1 a0 a1 a2 a3 a4) (H_vS1q1 a0 a1 a2 a3 a4) (V_vS1q1 a0 a1 a2 a3 a4 r) (R_vS1q1 a0 a1 a2 a3 a4 r)
abbrev C_vS1q1 (a0 : Bool) (a1 : List (Bool)) (a2 : Nat) (a3 : Nat) (a4 : NL) (r : Bool) (ins outs : BL) : CallA := ⟨7, ins, V_vS1q1 a0 a1 a2 a3 a4 r, R_vS1q1 a0 a1 a2 a3 a4 r, outs⟩
def qhn_ (x0 : List (Bool)) (x1 : Nat) (x2 : Nat) (x3 : NL) (x5 : Int) (st : Bool × Int) : XSt := match st with
 | (x4, x6) => (sT 16 [(0, (Value.func (.yield 6) #[] #[])), (5, (nlV x3)), (6, (i6 x5)), (7, (i6 x6))], [], ⟨sB [(0, (some (.cells (layT [(sN 1 0 x1 x2)]) 47))), (1, (some (.cells (layT (rows rw_b x0)) 4))), (2, (some (.cells (layT [(nlV x3)]) 27))), (3, (some (.cells (layT [(bO x4)]) 4))), (4, (some (.cells (layT [(Value.func (.func 18) #[] #[(pN 0 0)])]) 53))), (5, (some (.marks true))), (6, (some (rblk P 16 [false, true, false, true] .ready none [(4, (pN 3 0)), (5, (pN 4 0)), (8, (Value.func (.func 35) #[] #[(pN 2 0)]))] 5)))], 7, 3⟩)
def qf8_ (x0 : List (Bool)) (x1 : Nat) (x2 : Nat) (x3 : NL) (x5 : Int) (r : Bool) : Ex × XSt := match r with
 | z0 => (.exit 0, (sT 16 [], [], ⟨sB [(0, (some (.cells (layT [(sN 1 0 x1 x2)]) 47))), (1, (some (.cells (layT (rows rw_b x0)) 4))), (2, (some (.cells (layT [(nlV x3)]) 27))), (3, (some (.cells (layT [(bO z0)]) 4))), (4, (some (.cells (layT [(Value.func (.func 18) #[] #[(pN 0 0)])]) 53))), (5, (some (.marks true))), (6, (some (rblk P 16 [false, true, false, true] .ready none [(4, (pN 3 0)), (5, (pN 4 0)), (8, (Value.func (.func 35) #[] #[(pN 2 0)]))] 5)))], 7, 3⟩))
abbrev Q_vS1q1_1 (rnd : Option Nat) (x0 : List (Bool)) (x1 : Nat) (x2 : Nat) (x3 : NL) (x5 : Int) (st : Bool × Int) (c : Ex × XSt) : Prop := CG P rnd (fnN P 35) 7 (qq_ P 35 [false, false, true]) (qhn_ x0 x1 x2 x3 x5 st) c
def qev_ (n : Nat) (x0 : List (Bool)) (x1 : Nat) (x2 : Nat) (x3 : NL) (x5 : Int) (st : Bool × Int) : Option ((Bool × Int) ⊕ (Bool)) := match st with
 | (x4, x6) =>
  if x6 < x5 then
   if 0 ≤ x6 ∧ x6 < (x3.l.length : Int) then
    if (x6).toNat < ((x3).l).length then
     ((some (((x3).l).getD (x6).toNat 0))).bind fun y4_ =>
     (qee_ n x4 x0 x1 x2 x3 y4_).bind fun y5_ =>
     some (.inl (y5_, (w64 (x6 + 1))))
    else none
   else none
  else
   some (.inr x4)
def qny_ (n : Nat) (x0 : List (Bool)) (x1 : Nat) (x2 : Nat) (x3 : NL) (x5 : Int) (st : Bool × Int) : Option (Bool) := iterM (qev_ n x0 x1 x2 x3 x5) n st
theorem q_vS1q1_1_0 (n : Nat) {rnd : Option Nat} (x0 : List (Bool)) (x1 x2 : Nat) (x3 : NL) (x4 : Bool) (x5 x6 : Int) (hy1 : x6 < x5) (hy2 : 0 ≤ x6 ∧ x6 < (x3.l.length : Int)) (hy3 : (x6).toNat < ((x3).l).length) (y4_ : Int) (hy4 : (some (((x3).l).getD (x6).toNat 0)) = some y4_) (y5_ : Bool) (hy5 : qee_ n x4 x0 x1 x2 x3 y4_ = some y5_) : Q_vS1q1_1 rnd x0 x1 x2 x3 x5 (x4, x6) (.normal, qhn_ x0 x1 x2 x3 x5 (y5_, (w64 (x6 + 1)))) :=
 runC2 hm (L := lT []) ⟨[0, 5, 6, 7], [(0, 0, false), (1, 1, true), (2, 2, false), (3, 3, false), (4, 4, false), (5, 5, false), (6, 6, false)], 7, 3⟩ (zz 1 (xdT hy1) <|
zz 7 (xk9 (Nat.add (x3).num 64) (x3).cap hy2) <|
zz 8 (nk10 hy4 hy3) <|
yy 13 (.call (C_fO_1010y1 x4 x0 x1 x2 x3 y4_ y5_ [(0, 0, false), (1, 1, true), (2, 2, false), (3, 3, false), (4, 4, false), (5, 5, false), (6, 6, false)] [(0, 0, false), (1, 1, true), (2, 2, false), (3, 3, false), (4, 4, false), (5, 5, false), (6, 6, false)])) <|
ww (qnx_ n x4 x0 x1 x2 x3 y4_ y5_ hy5) <|
ww (qd_ rwf_b x0 4) <|
ww (qd_ rwf_b x0 4) <|
ww (qd_ rwf_b x0 4) <|
ee) (by kernel_rfl)
theorem q_vS1q1_1_1 (n : Nat) {rnd : Option Nat} (x0 : List (Bool)) (x1 x2 : Nat) (x3 : NL) (x4 : Bool) (x5 x6 : Int) (hy1 : ¬ (x6 < x5)) : Q_vS1q1_1 rnd x0 x1 x2 x3 x5 (x4, x6) (qf8_ x0 x1 x2 x3 x5 x4) :=
 runC2 hm (L := lT []) ⟨[], [(0, 0, false), (1, 1, true), (2, 2, false), (3, 3, false), (4, 4, false), (5, 5, false), (6, 6, false)], 7, 3⟩ (zz 1 (xdF hy1) <|
ww (qd_ rwf_b x0 4) <|
ee) (by kernel_rfl)
theorem m_vS1q1_1_ok (n : Nat) {rnd : Option Nat} (x0 : List (Bool)) (x1 : Nat) (x2 : Nat) (x3 : NL) (x5 : Int) (st : Bool × Int) (r : Bool) (h : qny_ n x0 x1 x2 x3 x5 st = some r) : CG P rnd (fnN P 35) 7 (qq_ P 35 [false, true]) (qhn_ x0 x1 x2 x3 x5 st) (qf8_ x0 x1 x2 x3 x5 r) :=
 CG.iter (b := qq_ P 35 [false, false, true]) (by kernel_rfl) (body := qev_ n x0 x1 x2 x3 x5) (S := qhn_ x0 x1 x2 x3 x5) (X := qf8_ x0 x1 x2 x3 x5)
  (fun s s' h => by
  obtain ⟨x4, x6⟩ := s
  unfold qev_ at h
  dsimp only at h
  by_cases hy1 : x6 < x5
  ·rw [if_pos hy1] at h
   obtain ⟨hy2, h⟩ := gd h
   obtain ⟨hy3, h⟩ := gd h
   obtain ⟨y4_, hy4, h⟩ := oB h
   obtain ⟨y5_, hy5, h⟩ := oB h
   obtain rfl := Sum.inl.inj (oI h); exact q_vS1q1_1_0 n x0 x1 x2 x3 x4 x5 x6 hy1 hy2 hy3 y4_ hy4 y5_ hy5
  ·rw [if_neg hy1] at h
   cases h)
  (fun s r h => by
  obtain ⟨x4, x6⟩ := s
  unfold qev_ at h
  dsimp only at h
  by_cases hy1 : x6 < x5
  ·rw [if_pos hy1] at h
   obtain ⟨hy2, h⟩ := gd h
   obtain ⟨hy3, h⟩ := gd h
   obtain ⟨y4_, hy4, h⟩ := oB h
   obtain ⟨y5_, hy5, h⟩ := oB h
   cases h
  ·rw [if_neg hy1] at h
   obtain rfl := Sum.inr.inj (oI h); exact q_vS1q1_1_1 n x0 x1 x2 x3 x4 x5 x6 hy1)
  (fun r => by intro hx; cases hx) h
def m_vS1q1 (n : Nat) (a0 : Bool) (a1 : List (Bool)) (a2 : Nat) (a3 : Nat) (a4 : NL) : Option (Bool) :=
 (qny_ n a1 a2 a3 a4 (a4.l.length : Int) (a0, 0)).bind fun c1_ =>
 some c1_
theorem m_vS1q1_ok (n : Nat) (a0 : Bool) (a1 : List (Bool)) (a2 : Nat) (a3 : Nat) (a4 : NL) (r : Bool) (h : m_vS1q1 n a0 a1 a2 a3 a4 = some r) : Gv P (.func 35) (A_vS1q1 a0 a1 a2 a3 a4) (H_vS1q1 a0 a1 a2 a3 a4) (V_vS1q1 a0 a1 a2 a3 a4 r) (R_vS1q1 a0 a1 a2 a3 a4 r) := by
 unfold m_vS1q1 at h
 obtain ⟨c1_, hc1, h⟩ := oB h
 obtain rfl := oI h; exact (runF2 hm (L := lT [(5, ⟨⟨[0, 5, 6, 7], [(0, 0, false), (1, 1, true), (2, 2, false), (3, 3, false), (4, 4, false), (5, 5, false), (6, 6, false)], 7, 3⟩, (qf8_ a1 a2 a3 a4 (a4.l.length : Int) c1_).1, (qf8_ a1 a2 a3 a4 (a4.l.length : Int) c1_).2⟩)]) ⟨[], [(0, 0, false), (1, 1, true), (2, 2, false), (3, 3, false), (4, 4, false), (5, 5, false), (6, 6, false)], 7, 3⟩ (ww (m_vS1q1_1_ok n (rnd := none) a1 a2 a3 a4 (a4.l.length : Int) (a0, 0) c1_ hc1) <|
ww (qd_ rwf_b a1 4) <|
ww (qd_ rwf_b a1 4) ee) (by kernel_rfl))

def A_fOq1 (a0 : NL) (a1 : Bool) (a2 : List (Bool)) (a3 : Nat) (a4 : Nat) : List Value := [(Value.func (.func 35) #[] #[(pN 2 0)]), (bO a1), (Value.func (.func 18) #[] #[(pN 0 0)])]
def H_fOq1 (a0 : NL) (a1 : Bool) (a2 : List (Bool)) (a3 : Nat) (a4 : Nat) : AH := ⟨sB [(0, (some (.cells (layT [(sN 1 0 a3 a4)]) 47))), (1, (some (.cells (layT (rows rw_b a2)) 4))), (2, (some (.cells (layT [(nlV a0)]) 27)))], 3, 3⟩
def V_fOq1 (a0 : NL) (a1 : Bool) (a2 : List (Bool)) (a3 : Nat) (a4 : Nat) (r : Bool) : Value := match r with
 | o0 => (bO o0)
def R_fOq1 (a0 : NL) (a1 : Bool) (a2 : List (Bool)) (a3 : Nat) (a4 : Nat) (r : Bool) : AH := match r with
 | o0 => ⟨sB [(3, (some (.marks false)))], 4, 3⟩
abbrev G_fOq1 (a0 : NL) (a1 : Bool) (a2 : List (Bool)) (a3 : Nat) (a4 : Nat) (r : Bool) : Prop := Gv P (.func 16) (A_fOq1 a0 a1 a2 a3 a4) (H_fOq1 a0 a1 a2 a3 a4) (V_fOq1 a0 a1 a2 a3 a4 r) (R_fOq1 a0 a1 a2 a3 a4 r)
abbrev C_fOq1 (a0 : NL) (a1 : Bool) (a2 : List (Bool)) (a3 : Nat) (a4 : Nat) (r : Bool) (ins outs : BL) : CallA := ⟨3, ins, V_fOq1 a0 a1 a2 a3 a4 r, R_fOq1 a0 a1 a2 a3 a4 r, outs⟩
def qlj_ (n : Nat) (a0 : NL) (a1 : Bool) (a2 : List (Bool)) (a3 : Nat) (a4 : Nat) : Option (Bool) :=
 (m_vS1q1 n a1 a2 a3 a4 a0).bind fun c1_ =>
 some c1_
theorem qjg_ (n : Nat) (a0 : NL) (a1 : Bool) (a2 : List (Bool)) (a3 : Nat) (a4 : Nat) (r : Bool) (h : qlj_ n a0 a1 a2 a3 a4 = some r) : Gv P (.func 16) (A_fOq1 a0 a1 a2 a3 a4) (H_fOq1 a0 a1 a2 a3 a4) (V_fOq1 a0 a1 a2 a3 a4 r) (R_fOq1 a0 a1 a2 a3 a4 r) := by
 unfold qlj_ at h
 obtain ⟨c1_, hc1, h⟩ := oB h
 obtain rfl := oI h; exact (runF2 hm (L := lT []) ⟨[6], [(3, 5, false)], 4, 3⟩ (yy 8 (.rng (C_vS1q1 a1 a2 a3 a4 a0 c1_ [(0, 0, false), (1, 1, true), (2, 2, false), (3, 3, false), (4, 4, false), (5, 5, false), (6, 6, false)] [(0, 0, false), (1, 1, true), (2, 2, false), (3, 3, false), (4, 4, false), (5, 5, false), (6, 6, false)]) [4, 5, 8]) <|
ww (m_vS1q1_ok n a1 a2 a3 a4 a0 c1_ hc1) <|
ww (qd_ rwf_b a2 4) <|
ww (qd_ rwf_b a2 4) ee) (by kernel_rfl))

def qgk_ (a0 : Int) (a1 : Int) : List Value := [(i6 a0), (i6 a1)]
def qgl_ (a0 : Int) (a1 : Int) : AH := ⟨sB [], 0, 0⟩
def qd1_ (a0 : Int) (a1 : Int) (r : Bool) : Value := match r with
 | o0 => (bO o0)
def qd2_ (a0 : Int) (a1 : Int) (r : Bool) : AH := match r with
 | o0 => ⟨sB [], 0, 0⟩
abbrev G_marksbeforeq1 (a0 : Int) (a1 : Int) (r : Bool) : Prop := Gv P (.func 19) (qgk_ a0 a1) (qgl_ a0 a1) (qd1_ a0 a1 r) (qd2_ a0 a1 r)
abbrev q8_ (a0 : Int) (a1 : Int) (r : Bool) (ins outs : BL) : CallA := ⟨0, ins, qd1_ a0 a1 r, qd2_ a0 a1 r, outs⟩
def qi_ (n : Nat) (a0 : Int) (a1 : Int) : Option (Bool) :=
 if a1 = (-1 : Int) then
  some true
 else
  if a0 ≤ a1 then
   some true
  else
   some false
theorem qv_ (n : Nat) (a0 : Int) (a1 : Int) (r : Bool) (h : qi_ n a0 a1 = some r) : Gv P (.func 19) (qgk_ a0 a1) (qgl_ a0 a1) (qd1_ a0 a1 r) (qd2_ a0 a1 r) := by
 unfold qi_ at h
 by_cases hc1 : a1 = (-1 : Int)
 ·rw [if_pos hc1] at h
  obtain rfl := oI h; exact (runF2 hm (L := lT []) ⟨[4], [], 0, 0⟩ (zz 4 (xeT hc1) ee) (by kernel_rfl))
 ·rw [if_neg hc1] at h
  by_cases hc2 : a0 ≤ a1
  ·rw [if_pos hc2] at h
   obtain rfl := oI h; exact (runF2 hm (L := lT []) ⟨[4], [], 0, 0⟩ (zz 4 (xeF hc1) <|
zz 8 (xdT hc2) ee) (by kernel_rfl))
  ·rw [if_neg hc2] at h
   obtain rfl := oI h; exact (runF2 hm (L := lT []) ⟨[4], [], 0, 0⟩ (zz 4 (xeF hc1) <|
zz 8 (xdF hc2) ee) (by kernel_rfl))

def A_mMq1 (a0 : Int) (a1 : Int) : List Value := [(sW 0 0 (Args.A).length Args.cA), (i6 a0), (i6 a1)]
def H_mMq1 (a0 : Int) (a1 : Int) : AH := ⟨sB [], 0, 0⟩
def V_mMq1 (a0 : Int) (a1 : Int) (r : List Int × Nat) : Value := match r with
 | (o0, o1) => (sN 0 0 o1 o1)
def R_mMq1 (a0 : Int) (a1 : Int) (r : List Int × Nat) : AH := match r with
 | (o0, o1) => ⟨sB [(0, (some (.cells (layT (iv o0)) 3)))], 1, 0⟩
abbrev G_mMq1 (a0 : Int) (a1 : Int) (r : List Int × Nat) : Prop := Gv P (.func 7) (A_mMq1 a0 a1) (H_mMq1 a0 a1) (V_mMq1 a0 a1 r) (R_mMq1 a0 a1 r)
abbrev C_mMq1 (a0 : Int) (a1 : Int) (r : List Int × Nat) (ins outs : BL) : CallA := ⟨0, ins, V_mMq1 a0 a1 r, R_mMq1 a0 a1 r, outs⟩
def qcx_ (x0 : Int) (x1 : List Int) (x2 : Nat) (x3 : List (Bool)) (x4 : Nat) (x6 : Nat) (st : List (Bool) × List Int × Int) : XSt := match st with
 | (x5, x7, x8) => (sT 90 [(0, (sW 0 0 (Args.A).length Args.cA)), (2, (i6 x0)), (7, (sN 0 0 x2 x2)), (8, (sN 1 0 x4 x4)), (9, (pN 2 0)), (10, (sN 4 0 x6 x6)), (11, (i6 x8))], [], ⟨sB [(0, (some (.cells (layT (iv x1)) 3))), (1, (some (.cells (layT (rows rw_b x3)) 4))), (2, (some (.cells (layT [(sN 3 0 x6 x6)]) 47))), (3, (some (.cells (layT (rows rw_b x5)) 4))), (4, (some (.cells (layT (iv x7)) 3)))], 5, 0⟩)
def qif_ (x0 : Int) (x1 : List Int) (x2 : Nat) (x3 : List (Bool)) (x4 : Nat) (x6 : Nat) (r : List Int) : Ex × XSt := match r with
 | z0 => (.exit 0, (sT 90 [(10, (sN 0 0 x6 x6))], [], ⟨sB [(0, (some (.cells (layT (iv z0)) 3)))], 1, 0⟩))
abbrev qew_ (rnd : Option Nat) (x0 : Int) (x1 : List Int) (x2 : Nat) (x3 : List (Bool)) (x4 : Nat) (x6 : Nat) (st : List (Bool) × List Int × Int) (c : Ex × XSt) : Prop := CG P rnd (fnN P 7) 0 (qq_ P 7 [false, false, true, false, true, true, true, true, true]) (qcx_ x0 x1 x2 x3 x4 x6 st) c
def qfy_ (n : Nat) (x0 : Int) (x1 : List Int) (x2 : Nat) (x3 : List (Bool)) (x4 : Nat) (x6 : Nat) (st : List (Bool) × List Int × Int) : Option ((List (Bool) × List Int × Int) ⊕ (List Int)) := match st with
 | (x5, x7, x8) =>
  if x8 ≥ 0 then
   if 0 ≤ x8 ∧ x8 < (Args.A.length : Int) then
    ((some ((Args.A).getD (x8).toNat (0, 0, 0, 0, 0, 0, nl0, 0)))).bind fun y3_ =>
    if 0 ≤ x8 ∧ x8 < ((x2 : Nat) : Int) then
     if (x8).toNat < (x1).length then
      ((some ((x1).getD (x8).toNat 0))).bind fun y6_ =>
      (qg_ n (y3_.1) (y3_.2.1) (y3_.2.2.1) (y3_.2.2.2.1) (y3_.2.2.2.2.1) (y3_.2.2.2.2.2.1) (y3_.2.2.2.2.2.2.1) (y3_.2.2.2.2.2.2.2)).bind fun y7_ =>
      if y7_ = true then
       (m_vSq1 n (y3_.2.2.2.2.2.2.1)).bind fun _ =>
       (qlj_ n (y3_.2.2.2.2.2.2.1) true x5 x6 x6).bind fun y10_ =>
       if 0 ≤ x8 ∧ x8 < ((x6 : Nat) : Int) then
        if (x8).toNat < (x5).length then
         if 0 ≤ x8 ∧ x8 < ((x4 : Nat) : Int) then
          if (x8).toNat < (x3).length then
           ((some ((x3).getD (x8).toNat (false)))).bind fun y15_ =>
           if y15_ = true then
            if (x8).toNat < (x7).length then
             some (.inl (((x5).set (x8).toNat y10_), ((x7).set (x8).toNat (1 : Int)), (w64 (x8 - 1))))
            else none
           else
            if y10_ = true then
             (qi_ n (y3_.2.2.2.2.2.1) x0).bind fun y18_ =>
             if y18_ = true then
              if (x8).toNat < (x7).length then
               some (.inl (((x5).set (x8).toNat y10_), ((x7).set (x8).toNat (3 : Int)), (w64 (x8 - 1))))
              else none
             else
              if (x8).toNat < (x7).length then
               some (.inl (((x5).set (x8).toNat y10_), ((x7).set (x8).toNat (2 : Int)), (w64 (x8 - 1))))
              else none
            else
             if (x8).toNat < (x7).length then
              some (.inl (((x5).set (x8).toNat y10_), ((x7).set (x8).toNat (2 : Int)), (w64 (x8 - 1))))
             else none
          else none
         else none
        else none
       else none
      else
       if 0 ≤ x8 ∧ x8 < ((x4 : Nat) : Int) then
        if (x8).toNat < (x3).length then
         ((some ((x3).getD (x8).toNat (false)))).bind fun y11_ =>
         if y11_ = true then
          if 0 ≤ x8 ∧ x8 < ((x6 : Nat) : Int) then
           if (x8).toNat < (x5).length then
            if (x8).toNat < (x7).length then
             some (.inl (((x5).set (x8).toNat false), ((x7).set (x8).toNat (1 : Int)), (w64 (x8 - 1))))
            else none
           else none
          else none
         else
          (qi_ n y6_ x0).bind fun y13_ =>
          if 0 ≤ x8 ∧ x8 < ((x6 : Nat) : Int) then
           if (x8).toNat < (x5).length then
            if y13_ = true then
             (qi_ n y6_ x0).bind fun y17_ =>
             if y17_ = true then
              if (x8).toNat < (x7).length then
               some (.inl (((x5).set (x8).toNat y13_), ((x7).set (x8).toNat (3 : Int)), (w64 (x8 - 1))))
              else none
             else
              if (x8).toNat < (x7).length then
               some (.inl (((x5).set (x8).toNat y13_), ((x7).set (x8).toNat (2 : Int)), (w64 (x8 - 1))))
              else none
            else
             if (x8).toNat < (x7).length then
              some (.inl (((x5).set (x8).toNat y13_), ((x7).set (x8).toNat (2 : Int)), (w64 (x8 - 1))))
             else none
           else none
          else none
        else none
       else none
     else none
    else none
   else none
  else
   some (.inr x7)
def m_mMq1_1 (n : Nat) (x0 : Int) (x1 : List Int) (x2 : Nat) (x3 : List (Bool)) (x4 : Nat) (x6 : Nat) (st : List (Bool) × List Int × Int) : Option (List Int) := iterM (qfy_ n x0 x1 x2 x3 x4 x6) n st
theorem q_mMq1_1_0 (n : Nat) {rnd : Option Nat} (x0 : Int) (x1 : List Int) (x2 : Nat) (x3 : List (Bool)) (x4 : Nat) (x5 : List (Bool)) (x6 : Nat) (x7 : List Int) (x8 : Int) (hy1 : x8 ≥ 0) (hy2 : 0 ≤ x8 ∧ x8 < (Args.A.length : Int)) (y3_ : R8) (hy3 : (some ((Args.A).getD (x8).toNat (0, 0, 0, 0, 0, 0, nl0, 0))) = some y3_) (hy4 : 0 ≤ x8 ∧ x8 < ((x2 : Nat) : Int)) (hy5 : (x8).toNat < (x1).length) (y6_ : Int) (hy6 : (some ((x1).getD (x8).toNat 0)) = some y6_) (y7_ : Bool) (hy7 : qg_ n (y3_.1) (y3_.2.1) (y3_.2.2.1) (y3_.2.2.2.1) (y3_.2.2.2.2.1) (y3_.2.2.2.2.2.1) (y3_.2.2.2.2.2.2.1) (y3_.2.2.2.2.2.2.2) = some y7_) (hy8 : y7_ = true) (hy9 : m_vSq1 n (y3_.2.2.2.2.2.2.1) = some ()) (y10_ : Bool) (hy10 : qlj_ n (y3_.2.2.2.2.2.2.1) true x5 x6 x6 = some y10_) (hy11 : 0 ≤ x8 ∧ x8 < ((x6 : Nat) : Int)) (hy12 : (x8).toNat < (x5).length) (hy13 : 0 ≤ x8 ∧ x8 < ((x4 : Nat) : Int)) (hy14 : (x8).toNat < (x3).length) (y15_ : Bool) (hy15 : (some ((x3).getD (x8).toNat (false))) = some y15_) (hy16 : y15_ = true) (hy17 : (x8).toNat < (x7).length) : qew_ rnd x0 x1 x2 x3 x4 x6 (x5, x7, x8) (.normal, qcx_ x0 x1 x2 x3 x4 x6 (((x5).set (x8).toNat y10_), ((x7).set (x8).toNat (1 : Int)), (w64 (x8 - 1)))) :=
 runC2 hm (L := lT []) ⟨[0, 2, 7, 8, 9, 10, 11], [(0, 0, true), (1, 1, true), (2, 2, false), (3, 3, true), (4, 4, true)], 5, 0⟩ (zz 3 (xdT hy1) <|
zz 10 (xk1 0 Args.cA hy2) <|
zz 11 (lk2 hy3 (qc_ hy2)) <|
zz 17 (xk17 0 x2 hy4) <|
zz 18 (xivN hy6 hy5) <|
yy 23 (.call (qm_ (y3_.1) (y3_.2.1) (y3_.2.2.1) (y3_.2.2.2.1) (y3_.2.2.2.2.1) (y3_.2.2.2.2.2.1) (y3_.2.2.2.2.2.2.1) (y3_.2.2.2.2.2.2.2) y7_ [] [])) <|
ww (qh_ n (y3_.1) (y3_.2.1) (y3_.2.2.1) (y3_.2.2.2.1) (y3_.2.2.2.2.1) (y3_.2.2.2.2.2.1) (y3_.2.2.2.2.2.2.1) (y3_.2.2.2.2.2.2.2) y7_ hy7) <|
zz 24 (xbT hy8) <|
yy 33 (.call (C_vSq1 (y3_.2.2.2.2.2.2.1) () [] [(6, 0, false)])) <|
ww (qjf_ n (y3_.2.2.2.2.2.2.1) () hy9) <|
yy 35 (.call (C_fOq1 (y3_.2.2.2.2.2.2.1) true x5 x6 x6 y10_ [(0, 2, false), (1, 3, true), (2, 6, false)] [])) <|
ww (qjg_ n (y3_.2.2.2.2.2.2.1) true x5 x6 x6 y10_ hy10) <|
ww (qd_ rwf_b x5 4) <|
zz 36 (xk20 3 x6 hy11) <|
yy 37 (.sto (layT (rows rw_b ((x5).set (x8).toNat y10_)))) <|
ww (p := ∃ old, rdT (layT (rows rw_b x5)) 1 ((x8).toNat * 1) = some old) (Exists.elim (qbs_ rwf_b (false) (i := (x8).toNat) (j := 0) (l := [(bO y10_)]) y10_ ((x8).toNat * 1) rfl (hy12) (Nat.le_of_ble_eq_true rfl) rfl) fun o h => ⟨o, h.1⟩) <|
ww (p := layL [(bO y10_)] ((x8).toNat * 1) (layT (rows rw_b x5)) = layT (rows rw_b ((x5).set (x8).toNat y10_))) (Exists.elim (qbs_ rwf_b (false) (i := (x8).toNat) (j := 0) (l := [(bO y10_)]) y10_ ((x8).toNat * 1) rfl (hy12) (Nat.le_of_ble_eq_true rfl) rfl) fun o h => h.2) <|
zz 42 (xk20 1 x4 hy13) <|
zz 43 (ok21 hy15 (hy14)) <|
zz 45 (xbT hy16) <|
zz 48 (xk17 4 x6 hy11) <|
yy 49 (.sto (layT (iv ((x7).set (x8).toNat (1 : Int))))) <|
ww (p := ∃ old, rdT (layT (iv x7)) 1 (x8).toNat = some old) (Exists.elim (iv_st (x7) ((x8).toNat) ((1 : Int)) hy17) fun o h => ⟨o, h.1⟩) <|
ww (p := layL [(i6 (1 : Int))] (x8).toNat (layT (iv x7)) = layT (iv ((x7).set (x8).toNat (1 : Int)))) (Exists.elim (iv_st (x7) ((x8).toNat) ((1 : Int)) hy17) fun o h => h.2) <|
ww (qb_ x1 3) <|
ww (qd_ rwf_b x3 4) <|
ww (qd_ rwf_b ((x5).set (x8).toNat y10_) 4) <|
ww (qb_ ((x7).set (x8).toNat (1 : Int)) 3) <|
ee) (by kernel_rfl)
theorem q_mMq1_1_1 (n : Nat) {rnd : Option Nat} (x0 : Int) (x1 : List Int) (x2 : Nat) (x3 : List (Bool)) (x4 : Nat) (x5 : List (Bool)) (x6 : Nat) (x7 : List Int) (x8 : Int) (hy1 : x8 ≥ 0) (hy2 : 0 ≤ x8 ∧ x8 < (Args.A.length : Int)) (y3_ : R8) (hy3 : (some ((Args.A).getD (x8).toNat (0, 0, 0, 0, 0, 0, nl0, 0))) = some y3_) (hy4 : 0 ≤ x8 ∧ x8 < ((x2 : Nat) : Int)) (hy5 : (x8).toNat < (x1).length) (y6_ : Int) (hy6 : (some ((x1).getD (x8).toNat 0)) = some y6_) (y7_ : Bool) (hy7 : qg_ n (y3_.1) (y3_.2.1) (y3_.2.2.1) (y3_.2.2.2.1) (y3_.2.2.2.2.1) (y3_.2.2.2.2.2.1) (y3_.2.2.2.2.2.2.1) (y3_.2.2.2.2.2.2.2) = some y7_) (hy8 : y7_ = true) (hy9 : m_vSq1 n (y3_.2.2.2.2.2.2.1) = some ()) (y10_ : Bool) (hy10 : qlj_ n (y3_.2.2.2.2.2.2.1) true x5 x6 x6 = some y10_) (hy11 : 0 ≤ x8 ∧ x8 < ((x6 : Nat) : Int)) (hy12 : (x8).toNat < (x5).length) (hy13 : 0 ≤ x8 ∧ x8 < ((x4 : Nat) : Int)) (hy14 : (x8).toNat < (x3).length) (y15_ : Bool) (hy15 : (some ((x3).getD (x8).toNat (false))) = some y15_) (hy16 : ¬ (y15_ = true)) (hy17 : y10_ = true) (y18_ : Bool) (hy18 : qi_ n (y3_.2.2.2.2.2.1) x0 = some y18_) (hy19 : y18_ = true) (hy20 : (x8).toNat < (x7).length) : qew_ rnd x0 x1 x2 x3 x4 x6 (x5, x7, x8) (.normal, qcx_ x0 x1 x2 x3 x4 x6 (((x5).set (x8).toNat y10_), ((x7).set (x8).toNat (3 : Int)), (w64 (x8 - 1)))) :=
 runC2 hm (L := lT []) ⟨[0, 2, 7, 8, 9, 10, 11], [(0, 0, true), (1, 1, true), (2, 2, false), (3, 3, true), (4, 4, true)], 5, 0⟩ (zz 3 (xdT hy1) <|
zz 10 (xk1 0 Args.cA hy2) <|
zz 11 (lk2 hy3 (qc_ hy2)) <|
zz 17 (xk17 0 x2 hy4) <|
zz 18 (xivN hy6 hy5) <|
yy 23 (.call (qm_ (y3_.1) (y3_.2.1) (y3_.2.2.1) (y3_.2.2.2.1) (y3_.2.2.2.2.1) (y3_.2.2.2.2.2.1) (y3_.2.2.2.2.2.2.1) (y3_.2.2.2.2.2.2.2) y7_ [] [])) <|
ww (qh_ n (y3_.1) (y3_.2.1) (y3_.2.2.1) (y3_.2.2.2.1) (y3_.2.2.2.2.1) (y3_.2.2.2.2.2.1) (y3_.2.2.2.2.2.2.1) (y3_.2.2.2.2.2.2.2) y7_ hy7) <|
zz 24 (xbT hy8) <|
yy 33 (.call (C_vSq1 (y3_.2.2.2.2.2.2.1) () [] [(6, 0, false)])) <|
ww (qjf_ n (y3_.2.2.2.2.2.2.1) () hy9) <|
yy 35 (.call (C_fOq1 (y3_.2.2.2.2.2.2.1) true x5 x6 x6 y10_ [(0, 2, false), (1, 3, true), (2, 6, false)] [])) <|
ww (qjg_ n (y3_.2.2.2.2.2.2.1) true x5 x6 x6 y10_ hy10) <|
ww (qd_ rwf_b x5 4) <|
zz 36 (xk20 3 x6 hy11) <|
yy 37 (.sto (layT (rows rw_b ((x5).set (x8).toNat y10_)))) <|
ww (p := ∃ old, rdT (layT (rows rw_b x5)) 1 ((x8).toNat * 1) = some old) (Exists.elim (qbs_ rwf_b (false) (i := (x8).toNat) (j := 0) (l := [(bO y10_)]) y10_ ((x8).toNat * 1) rfl (hy12) (Nat.le_of_ble_eq_true rfl) rfl) fun o h => ⟨o, h.1⟩) <|
ww (p := layL [(bO y10_)] ((x8).toNat * 1) (layT (rows rw_b x5)) = layT (rows rw_b ((x5).set (x8).toNat y10_))) (Exists.elim (qbs_ rwf_b (false) (i := (x8).toNat) (j := 0) (l := [(bO y10_)]) y10_ ((x8).toNat * 1) rfl (hy12) (Nat.le_of_ble_eq_true rfl) rfl) fun o h => h.2) <|
zz 42 (xk20 1 x4 hy13) <|
zz 43 (ok21 hy15 (hy14)) <|
zz 45 (xbF hy16) <|
zz 49 (xk20 3 x6 hy11) <|
yy 50 (.ld (bO y10_)) <|
ww (p := (layT (rows rw_b ((x5).set (x8).toNat y10_))).get ((x8).toNat * 1) = some (bO y10_)) (qdu_ rwf_b (i := (x8).toNat) (j := 0) y10_ ((x8).toNat * 1) rfl (hy12) (by decide) rfl) <|
zz 51 (xbT hy17) <|
yy 54 (.call (q8_ (y3_.2.2.2.2.2.1) x0 y18_ [] [])) <|
ww (qv_ n (y3_.2.2.2.2.2.1) x0 y18_ hy18) <|
zz 57 (xbT hy19) <|
zz 60 (xk17 4 x6 hy11) <|
yy 61 (.sto (layT (iv ((x7).set (x8).toNat (3 : Int))))) <|
ww (p := ∃ old, rdT (layT (iv x7)) 1 (x8).toNat = some old) (Exists.elim (iv_st (x7) ((x8).toNat) ((3 : Int)) hy20) fun o h => ⟨o, h.1⟩) <|
ww (p := layL [(i6 (3 : Int))] (x8).toNat (layT (iv x7)) = layT (iv ((x7).set (x8).toNat (3 : Int)))) (Exists.elim (iv_st (x7) ((x8).toNat) ((3 : Int)) hy20) fun o h => h.2) <|
ww (qb_ x1 3) <|
ww (qd_ rwf_b x3 4) <|
ww (qd_ rwf_b ((x5).set (x8).toNat y10_) 4) <|
ww (qb_ ((x7).set (x8).toNat (3 : Int)) 3) <|
ee) (by kernel_rfl)
theorem q_mMq1_1_2 (n : Nat) {rnd : Option Nat} (x0 : Int) (x1 : List Int) (x2 : Nat) (x3 : List (Bool)) (x4 : Nat) (x5 : List (Bool)) (x6 : Nat) (x7 : List Int) (x8 : Int) (hy1 : x8 ≥ 0) (hy2 : 0 ≤ x8 ∧ x8 < (Args.A.length : Int)) (y3_ : R8) (hy3 : (some ((Args.A).getD (x8).toNat (0, 0, 0, 0, 0, 0, nl0, 0))) = some y3_) (hy4 : 0 ≤ x8 ∧ x8 < ((x2 : Nat) : Int)) (hy5 : (x8).toNat < (x1).length) (y6_ : Int) (hy6 : (some ((x1).getD (x8).toNat 0)) = some y6_) (y7_ : Bool) (hy7 : qg_ n (y3_.1) (y3_.2.1) (y3_.2.2.1) (y3_.2.2.2.1) (y3_.2.2.2.2.1) (y3_.2.2.2.2.2.1) (y3_.2.2.2.2.2.2.1) (y3_.2.2.2.2.2.2.2) = some y7_) (hy8 : y7_ = true) (hy9 : m_vSq1 n (y3_.2.2.2.2.2.2.1) = some ()) (y10_ : Bool) (hy10 : qlj_ n (y3_.2.2.2.2.2.2.1) true x5 x6 x6 = some y10_) (hy11 : 0 ≤ x8 ∧ x8 < ((x6 : Nat) : Int)) (hy12 : (x8).toNat < (x5).length) (hy13 : 0 ≤ x8 ∧ x8 < ((x4 : Nat) : Int)) (hy14 : (x8).toNat < (x3).length) (y15_ : Bool) (hy15 : (some ((x3).getD (x8).toNat (false))) = some y15_) (hy16 : ¬ (y15_ = true)) (hy17 : y10_ = true) (y18_ : Bool) (hy18 : qi_ n (y3_.2.2.2.2.2.1) x0 = some y18_) (hy19 : ¬ (y18_ = true)) (hy20 : (x8).toNat < (x7).length) : qew_ rnd x0 x1 x2 x3 x4 x6 (x5, x7, x8) (.normal, qcx_ x0 x1 x2 x3 x4 x6 (((x5).set (x8).toNat y10_), ((x7).set (x8).toNat (2 : Int)), (w64 (x8 - 1)))) :=
 runC2 hm (L := lT []) ⟨[0, 2, 7, 8, 9, 10, 11], [(0, 0, true), (1, 1, true), (2, 2, false), (3, 3, true), (4, 4, true)], 5, 0⟩ (zz 3 (xdT hy1) <|
zz 10 (xk1 0 Args.cA hy2) <|
zz 11 (lk2 hy3 (qc_ hy2)) <|
zz 17 (xk17 0 x2 hy4) <|
zz 18 (xivN hy6 hy5) <|
yy 23 (.call (qm_ (y3_.1) (y3_.2.1) (y3_.2.2.1) (y3_.2.2.2.1) (y3_.2.2.2.2.1) (y3_.2.2.2.2.2.1) (y3_.2.2.2.2.2.2.1) (y3_.2.2.2.2.2.2.2) y7_ [] [])) <|
ww (qh_ n (y3_.1) (y3_.2.1) (y3_.2.2.1) (y3_.2.2.2.1) (y3_.2.2.2.2.1) (y3_.2.2.2.2.2.1) (y3_.2.2.2.2.2.2.1) (y3_.2.2.2.2.2.2.2) y7_ hy7) <|
zz 24 (xbT hy8) <|
yy 33 (.call (C_vSq1 (y3_.2.2.2.2.2.2.1) () [] [(6, 0, false)])) <|
ww (qjf_ n (y3_.2.2.2.2.2.2.1) () hy9) <|
yy 35 (.call (C_fOq1 (y3_.2.2.2.2.2.2.1) true x5 x6 x6 y10_ [(0, 2, false), (1, 3, true), (2, 6, false)] [])) <|
ww (qjg_ n (y3_.2.2.2.2.2.2.1) true x5 x6 x6 y10_ hy10) <|
ww (qd_ rwf_b x5 4) <|
zz 36 (xk20 3 x6 hy11) <|
yy 37 (.sto (layT (rows rw_b ((x5).set (x8).toNat y10_)))) <|
ww (p := ∃ old, rdT (layT (rows rw_b x5)) 1 ((x8).toNat * 1) = some old) (Exists.elim (qbs_ rwf_b (false) (i := (x8).toNat) (j := 0) (l := [(bO y10_)]) y10_ ((x8).toNat * 1) rfl (hy12) (Nat.le_of_ble_eq_true rfl) rfl) fun o h => ⟨o, h.1⟩) <|
ww (p := layL [(bO y10_)] ((x8).toNat * 1) (layT (rows rw_b x5)) = layT (rows rw_b ((x5).set (x8).toNat y10_))) (Exists.elim (qbs_ rwf_b (false) (i := (x8).toNat) (j := 0) (l := [(bO y10_)]) y10_ ((x8).toNat * 1) rfl (hy12) (Nat.le_of_ble_eq_true rfl) rfl) fun o h => h.2) <|
zz 42 (xk20 1 x4 hy13) <|
zz 43 (ok21 hy15 (hy14)) <|
zz 45 (xbF hy16) <|
zz 49 (xk20 3 x6 hy11) <|
yy 50 (.ld (bO y10_)) <|
ww (p := (layT (rows rw_b ((x5).set (x8).toNat y10_))).get ((x8).toNat * 1) = some (bO y10_)) (qdu_ rwf_b (i := (x8).toNat) (j := 0) y10_ ((x8).toNat * 1) rfl (hy12) (by decide) rfl) <|
zz 51 (xbT hy17) <|
yy 54 (.call (q8_ (y3_.2.2.2.2.2.1) x0 y18_ [] [])) <|
ww (qv_ n (y3_.2.2.2.2.2.1) x0 y18_ hy18) <|
zz 57 (xbF hy19) <|
zz 60 (xk17 4 x6 hy11) <|
yy 61 (.sto (layT (iv ((x7).set (x8).toNat (2 : Int))))) <|
ww (p := ∃ old, rdT (layT (iv x7)) 1 (x8).toNat = some old) (Exists.elim (iv_st (x7) ((x8).toNat) ((2 : Int)) hy20) fun o h => ⟨o, h.1⟩) <|
ww (p := layL [(i6 (2 : Int))] (x8).toNat (layT (iv x7)) = layT (iv ((x7).set (x8).toNat (2 : Int)))) (Exists.elim (iv_st (x7) ((x8).toNat) ((2 : Int)) hy20) fun o h => h.2) <|
ww (qb_ x1 3) <|
ww (qd_ rwf_b x3 4) <|
ww (qd_ rwf_b ((x5).set (x8).toNat y10_) 4) <|
ww (qb_ ((x7).set (x8).toNat (2 : Int)) 3) <|
ee) (by kernel_rfl)
theorem q_mMq1_1_3 (n : Nat) {rnd : Option Nat} (x0 : Int) (x1 : List Int) (x2 : Nat) (x3 : List (Bool)) (x4 : Nat) (x5 : List (Bool)) (x6 : Nat) (x7 : List Int) (x8 : Int) (hy1 : x8 ≥ 0) (hy2 : 0 ≤ x8 ∧ x8 < (Args.A.length : Int)) (y3_ : R8) (hy3 : (some ((Args.A).getD (x8).toNat (0, 0, 0, 0, 0, 0, nl0, 0))) = some y3_) (hy4 : 0 ≤ x8 ∧ x8 < ((x2 : Nat) : Int)) (hy5 : (x8).toNat < (x1).length) (y6_ : Int) (hy6 : (some ((x1).getD (x8).toNat 0)) = some y6_) (y7_ : Bool) (hy7 : qg_ n (y3_.1) (y3_.2.1) (y3_.2.2.1) (y3_.2.2.2.1) (y3_.2.2.2.2.1) (y3_.2.2.2.2.2.1) (y3_.2.2.2.2.2.2.1) (y3_.2.2.2.2.2.2.2) = some y7_) (hy8 : y7_ = true) (hy9 : m_vSq1 n (y3_.2.2.2.2.2.2.1) = some ()) (y10_ : Bool) (hy10 : qlj_ n (y3_.2.2.2.2.2.2.1) true x5 x6 x6 = some y10_) (hy11 : 0 ≤ x8 ∧ x8 < ((x6 : Nat) : Int)) (hy12 : (x8).toNat < (x5).length) (hy13 : 0 ≤ x8 ∧ x8 < ((x4 : Nat) : Int)) (hy14 : (x8).toNat < (x3).length) (y15_ : Bool) (hy15 : (some ((x3).getD (x8).toNat (false))) = some y15_) (hy16 : ¬ (y15_ = true)) (hy17 : ¬ (y10_ = true)) (hy18 : (x8).toNat < (x7).length) : qew_ rnd x0 x1 x2 x3 x4 x6 (x5, x7, x8) (.normal, qcx_ x0 x1 x2 x3 x4 x6 (((x5).set (x8).toNat y10_), ((x7).set (x8).toNat (2 : Int)), (w64 (x8 - 1)))) :=
 runC2 hm (L := lT []) ⟨[0, 2, 7, 8, 9, 10, 11], [(0, 0, true), (1, 1, true), (2, 2, false), (3, 3, true), (4, 4, true)], 5, 0⟩ (zz 3 (xdT hy1) <|
zz 10 (xk1 0 Args.cA hy2) <|
zz 11 (lk2 hy3 (qc_ hy2)) <|
zz 17 (xk17 0 x2 hy4) <|
zz 18 (xivN hy6 hy5) <|
yy 23 (.call (qm_ (y3_.1) (y3_.2.1) (y3_.2.2.1) (y3_.2.2.2.1) (y3_.2.2.2.2.1) (y3_.2.2.2.2.2.1) (y3_.2.2.2.2.2.2.1) (y3_.2.2.2.2.2.2.2) y7_ [] [])) <|
ww (qh_ n (y3_.1) (y3_.2.1) (y3_.2.2.1) (y3_.2.2.2.1) (y3_.2.2.2.2.1) (y3_.2.2.2.2.2.1) (y3_.2.2.2.2.2.2.1) (y3_.2.2.2.2.2.2.2) y7_ hy7) <|
zz 24 (xbT hy8) <|
yy 33 (.call (C_vSq1 (y3_.2.2.2.2.2.2.1) () [] [(6, 0, false)])) <|
ww (qjf_ n (y3_.2.2.2.2.2.2.1) () hy9) <|
yy 35 (.call (C_fOq1 (y3_.2.2.2.2.2.2.1) true x5 x6 x6 y10_ [(0, 2, false), (1, 3, true), (2, 6, false)] [])) <|
ww (qjg_ n (y3_.2.2.2.2.2.2.1) true x5 x6 x6 y10_ hy10) <|
ww (qd_ rwf_b x5 4) <|
zz 36 (xk20 3 x6 hy11) <|
yy 37 (.sto (layT (rows rw_b ((x5).set (x8).toNat y10_)))) <|
ww (p := ∃ old, rdT (layT (rows rw_b x5)) 1 ((x8).toNat * 1) = some old) (Exists.elim (qbs_ rwf_b (false) (i := (x8).toNat) (j := 0) (l := [(bO y10_)]) y10_ ((x8).toNat * 1) rfl (hy12) (Nat.le_of_ble_eq_true rfl) rfl) fun o h => ⟨o, h.1⟩) <|
ww (p := layL [(bO y10_)] ((x8).toNat * 1) (layT (rows rw_b x5)) = layT (rows rw_b ((x5).set (x8).toNat y10_))) (Exists.elim (qbs_ rwf_b (false) (i := (x8).toNat) (j := 0) (l := [(bO y10_)]) y10_ ((x8).toNat * 1) rfl (hy12) (Nat.le_of_ble_eq_true rfl) rfl) fun o h => h.2) <|
zz 42 (xk20 1 x4 hy13) <|
zz 43 (ok21 hy15 (hy14)) <|
zz 45 (xbF hy16) <|
zz 49 (xk20 3 x6 hy11) <|
yy 50 (.ld (bO y10_)) <|
ww (p := (layT (rows rw_b ((x5).set (x8).toNat y10_))).get ((x8).toNat * 1) = some (bO y10_)) (qdu_ rwf_b (i := (x8).toNat) (j := 0) y10_ ((x8).toNat * 1) rfl (hy12) (by decide) rfl) <|
zz 51 (xbF hy17) <|
zz 60 (xk17 4 x6 hy11) <|
yy 61 (.sto (layT (iv ((x7).set (x8).toNat (2 : Int))))) <|
ww (p := ∃ old, rdT (layT (iv x7)) 1 (x8).toNat = some old) (Exists.elim (iv_st (x7) ((x8).toNat) ((2 : Int)) hy18) fun o h => ⟨o, h.1⟩) <|
ww (p := layL [(i6 (2 : Int))] (x8).toNat (layT (iv x7)) = layT (iv ((x7).set (x8).toNat (2 : Int)))) (Exists.elim (iv_st (x7) ((x8).toNat) ((2 : Int)) hy18) fun o h => h.2) <|
ww (qb_ x1 3) <|
ww (qd_ rwf_b x3 4) <|
ww (qd_ rwf_b ((x5).set (x8).toNat y10_) 4) <|
ww (qb_ ((x7).set (x8).toNat (2 : Int)) 3) <|
ee) (by kernel_rfl)
theorem q_mMq1_1_4 (n : Nat) {rnd : Option Nat} (x0 : Int) (x1 : List Int) (x2 : Nat) (x3 : List (Bool)) (x4 : Nat) (x5 : List (Bool)) (x6 : Nat) (x7 : List Int) (x8 : Int) (hy1 : x8 ≥ 0) (hy2 : 0 ≤ x8 ∧ x8 < (Args.A.length : Int)) (y3_ : R8) (hy3 : (some ((Args.A).getD (x8).toNat (0, 0, 0, 0, 0, 0, nl0, 0))) = some y3_) (hy4 : 0 ≤ x8 ∧ x8 < ((x2 : Nat) : Int)) (hy5 : (x8).toNat < (x1).length) (y6_ : Int) (hy6 : (some ((x1).getD (x8).toNat 0)) = some y6_) (y7_ : Bool) (hy7 : qg_ n (y3_.1) (y3_.2.1) (y3_.2.2.1) (y3_.2.2.2.1) (y3_.2.2.2.2.1) (y3_.2.2.2.2.2.1) (y3_.2.2.2.2.2.2.1) (y3_.2.2.2.2.2.2.2) = some y7_) (hy8 : ¬ (y7_ = true)) (hy9 : 0 ≤ x8 ∧ x8 < ((x4 : Nat) : Int)) (hy10 : (x8).toNat < (x3).length) (y11_ : Bool) (hy11 : (some ((x3).getD (x8).toNat (false))) = some y11_) (hy12 : y11_ = true) (hy13 : 0 ≤ x8 ∧ x8 < ((x6 : Nat) : Int)) (hy14 : (x8).toNat < (x5).length) (hy15 : (x8).toNat < (x7).length) : qew_ rnd x0 x1 x2 x3 x4 x6 (x5, x7, x8) (.normal, qcx_ x0 x1 x2 x3 x4 x6 (((x5).set (x8).toNat false), ((x7).set (x8).toNat (1 : Int)), (w64 (x8 - 1)))) :=
 runC2 hm (L := lT []) ⟨[0, 2, 7, 8, 9, 10, 11], [(0, 0, true), (1, 1, true), (2, 2, false), (3, 3, true), (4, 4, true)], 5, 0⟩ (zz 3 (xdT hy1) <|
zz 10 (xk1 0 Args.cA hy2) <|
zz 11 (lk2 hy3 (qc_ hy2)) <|
zz 17 (xk17 0 x2 hy4) <|
zz 18 (xivN hy6 hy5) <|
yy 23 (.call (qm_ (y3_.1) (y3_.2.1) (y3_.2.2.1) (y3_.2.2.2.1) (y3_.2.2.2.2.1) (y3_.2.2.2.2.2.1) (y3_.2.2.2.2.2.2.1) (y3_.2.2.2.2.2.2.2) y7_ [] [])) <|
ww (qh_ n (y3_.1) (y3_.2.1) (y3_.2.2.1) (y3_.2.2.2.1) (y3_.2.2.2.2.1) (y3_.2.2.2.2.2.1) (y3_.2.2.2.2.2.2.1) (y3_.2.2.2.2.2.2.2) y7_ hy7) <|
zz 24 (xbF hy8) <|
zz 29 (xk20 1 x4 hy9) <|
zz 30 (ok21 hy11 (hy10)) <|
yy 31 (vf) <|
ww (p := (Value.bool (!y11_)) = (Value.bool false)) (vBn hy12) <|
zz 37 (xk20 3 x6 hy13) <|
yy 38 (.sto (layT (rows rw_b ((x5).set (x8).toNat false)))) <|
ww (p := ∃ old, rdT (layT (rows rw_b x5)) 1 ((x8).toNat * 1) = some old) (Exists.elim (qbs_ rwf_b (false) (i := (x8).toNat) (j := 0) (l := [(bO false)]) false ((x8).toNat * 1) rfl (hy14) (Nat.le_of_ble_eq_true rfl) rfl) fun o h => ⟨o, h.1⟩) <|
ww (p := layL [(bO false)] ((x8).toNat * 1) (layT (rows rw_b x5)) = layT (rows rw_b ((x5).set (x8).toNat false))) (Exists.elim (qbs_ rwf_b (false) (i := (x8).toNat) (j := 0) (l := [(bO false)]) false ((x8).toNat * 1) rfl (hy14) (Nat.le_of_ble_eq_true rfl) rfl) fun o h => h.2) <|
zz 43 (xk20 1 x4 hy9) <|
zz 44 (ok21 hy11 (hy10)) <|
zz 46 (xbT hy12) <|
zz 49 (xk17 4 x6 hy13) <|
yy 50 (.sto (layT (iv ((x7).set (x8).toNat (1 : Int))))) <|
ww (p := ∃ old, rdT (layT (iv x7)) 1 (x8).toNat = some old) (Exists.elim (iv_st (x7) ((x8).toNat) ((1 : Int)) hy15) fun o h => ⟨o, h.1⟩) <|
ww (p := layL [(i6 (1 : Int))] (x8).toNat (layT (iv x7)) = layT (iv ((x7).set (x8).toNat (1 : Int)))) (Exists.elim (iv_st (x7) ((x8).toNat) ((1 : Int)) hy15) fun o h => h.2) <|
ww (qb_ x1 3) <|
ww (qd_ rwf_b x3 4) <|
ww (qd_ rwf_b ((x5).set (x8).toNat false) 4) <|
ww (qb_ ((x7).set (x8).toNat (1 : Int)) 3) <|
ee) (by kernel_rfl)
theorem q_mMq1_1_5 (n : Nat) {rnd : Option Nat} (x0 : Int) (x1 : List Int) (x2 : Nat) (x3 : List (Bool)) (x4 : Nat) (x5 : List (Bool)) (x6 : Nat) (x7 : List Int) (x8 : Int) (hy1 : x8 ≥ 0) (hy2 : 0 ≤ x8 ∧ x8 < (Args.A.length : Int)) (y3_ : R8) (hy3 : (some ((Args.A).getD (x8).toNat (0, 0, 0, 0, 0, 0, nl0, 0))) = some y3_) (hy4 : 0 ≤ x8 ∧ x8 < ((x2 : Nat) : Int)) (hy5 : (x8).toNat < (x1).length) (y6_ : Int) (hy6 : (some ((x1).getD (x8).toNat 0)) = some y6_) (y7_ : Bool) (hy7 : qg_ n (y3_.1) (y3_.2.1) (y3_.2.2.1) (y3_.2.2.2.1) (y3_.2.2.2.2.1) (y3_.2.2.2.2.2.1) (y3_.2.2.2.2.2.2.1) (y3_.2.2.2.2.2.2.2) = some y7_) (hy8 : ¬ (y7_ = true)) (hy9 : 0 ≤ x8 ∧ x8 < ((x4 : Nat) : Int)) (hy10 : (x8).toNat < (x3).length) (y11_ : Bool) (hy11 : (some ((x3).getD (x8).toNat (false))) = some y11_) (hy12 : ¬ (y11_ = true)) (y13_ : Bool) (hy13 : qi_ n y6_ x0 = some y13_) (hy14 : 0 ≤ x8 ∧ x8 < ((x6 : Nat) : Int)) (hy15 : (x8).toNat < (x5).length) (hy16 : y13_ = true) (y17_ : Bool) (hy17 : qi_ n y6_ x0 = some y17_) (hy18 : y17_ = true) (hy19 : (x8).toNat < (x7).length) : qew_ rnd x0 x1 x2 x3 x4 x6 (x5, x7, x8) (.normal, qcx_ x0 x1 x2 x3 x4 x6 (((x5).set (x8).toNat y13_), ((x7).set (x8).toNat (3 : Int)), (w64 (x8 - 1)))) :=
 runC2 hm (L := lT []) ⟨[0, 2, 7, 8, 9, 10, 11], [(0, 0, true), (1, 1, true), (2, 2, false), (3, 3, true), (4, 4, true)], 5, 0⟩ (zz 3 (xdT hy1) <|
zz 10 (xk1 0 Args.cA hy2) <|
zz 11 (lk2 hy3 (qc_ hy2)) <|
zz 17 (xk17 0 x2 hy4) <|
zz 18 (xivN hy6 hy5) <|
yy 23 (.call (qm_ (y3_.1) (y3_.2.1) (y3_.2.2.1) (y3_.2.2.2.1) (y3_.2.2.2.2.1) (y3_.2.2.2.2.2.1) (y3_.2.2.2.2.2.2.1) (y3_.2.2.2.2.2.2.2) y7_ [] [])) <|
ww (qh_ n (y3_.1) (y3_.2.1) (y3_.2.2.1) (y3_.2.2.2.1) (y3_.2.2.2.2.1) (y3_.2.2.2.2.2.1) (y3_.2.2.2.2.2.2.1) (y3_.2.2.2.2.2.2.2) y7_ hy7) <|
zz 24 (xbF hy8) <|
zz 29 (xk20 1 x4 hy9) <|
zz 30 (ok21 hy11 (hy10)) <|
yy 31 (vt) <|
ww (p := (Value.bool (!y11_)) = (Value.bool true)) (vBn (Bool.eq_false_iff.2 hy12)) <|
yy 35 (.call (q8_ y6_ x0 y13_ [] [])) <|
ww (qv_ n y6_ x0 y13_ hy13) <|
zz 37 (xk20 3 x6 hy14) <|
yy 38 (.sto (layT (rows rw_b ((x5).set (x8).toNat y13_)))) <|
ww (p := ∃ old, rdT (layT (rows rw_b x5)) 1 ((x8).toNat * 1) = some old) (Exists.elim (qbs_ rwf_b (false) (i := (x8).toNat) (j := 0) (l := [(bO y13_)]) y13_ ((x8).toNat * 1) rfl (hy15) (Nat.le_of_ble_eq_true rfl) rfl) fun o h => ⟨o, h.1⟩) <|
ww (p := layL [(bO y13_)] ((x8).toNat * 1) (layT (rows rw_b x5)) = layT (rows rw_b ((x5).set (x8).toNat y13_))) (Exists.elim (qbs_ rwf_b (false) (i := (x8).toNat) (j := 0) (l := [(bO y13_)]) y13_ ((x8).toNat * 1) rfl (hy15) (Nat.le_of_ble_eq_true rfl) rfl) fun o h => h.2) <|
zz 43 (xk20 1 x4 hy9) <|
zz 44 (ok21 hy11 (hy10)) <|
zz 46 (xbF hy12) <|
zz 50 (xk20 3 x6 hy14) <|
yy 51 (.ld (bO y13_)) <|
ww (p := (layT (rows rw_b ((x5).set (x8).toNat y13_))).get ((x8).toNat * 1) = some (bO y13_)) (qdu_ rwf_b (i := (x8).toNat) (j := 0) y13_ ((x8).toNat * 1) rfl (hy15) (by decide) rfl) <|
zz 52 (xbT hy16) <|
yy 55 (.call (q8_ y6_ x0 y17_ [] [])) <|
ww (qv_ n y6_ x0 y17_ hy17) <|
zz 58 (xbT hy18) <|
zz 61 (xk17 4 x6 hy14) <|
yy 62 (.sto (layT (iv ((x7).set (x8).toNat (3 : Int))))) <|
ww (p := ∃ old, rdT (layT (iv x7)) 1 (x8).toNat = some old) (Exists.elim (iv_st (x7) ((x8).toNat) ((3 : Int)) hy19) fun o h => ⟨o, h.1⟩) <|
ww (p := layL [(i6 (3 : Int))] (x8).toNat (layT (iv x7)) = layT (iv ((x7).set (x8).toNat (3 : Int)))) (Exists.elim (iv_st (x7) ((x8).toNat) ((3 : Int)) hy19) fun o h => h.2) <|
ww (qb_ x1 3) <|
ww (qd_ rwf_b x3 4) <|
ww (qd_ rwf_b ((x5).set (x8).toNat y13_) 4) <|
ww (qb_ ((x7).set (x8).toNat (3 : Int)) 3) <|
ee) (by kernel_rfl)
theorem q_mMq1_1_6 (n : Nat) {rnd : Option Nat} (x0 : Int) (x1 : List Int) (x2 : Nat) (x3 : List (Bool)) (x4 : Nat) (x5 : List (Bool)) (x6 : Nat) (x7 : List Int) (x8 : Int) (hy1 : x8 ≥ 0) (hy2 : 0 ≤ x8 ∧ x8 < (Args.A.length : Int)) (y3_ : R8) (hy3 : (some ((Args.A).getD (x8).toNat (0, 0, 0, 0, 0, 0, nl0, 0))) = some y3_) (hy4 : 0 ≤ x8 ∧ x8 < ((x2 : Nat) : Int)) (hy5 : (x8).toNat < (x1).length) (y6_ : Int) (hy6 : (some ((x1).getD (x8).toNat 0)) = some y6_) (y7_ : Bool) (hy7 : qg_ n (y3_.1) (y3_.2.1) (y3_.2.2.1) (y3_.2.2.2.1) (y3_.2.2.2.2.1) (y3_.2.2.2.2.2.1) (y3_.2.2.2.2.2.2.1) (y3_.2.2.2.2.2.2.2) = some y7_) (hy8 : ¬ (y7_ = true)) (hy9 : 0 ≤ x8 ∧ x8 < ((x4 : Nat) : Int)) (hy10 : (x8).toNat < (x3).length) (y11_ : Bool) (hy11 : (some ((x3).getD (x8).toNat (false))) = some y11_) (hy12 : ¬ (y11_ = true)) (y13_ : Bool) (hy13 : qi_ n y6_ x0 = some y13_) (hy14 : 0 ≤ x8 ∧ x8 < ((x6 : Nat) : Int)) (hy15 : (x8).toNat < (x5).length) (hy16 : y13_ = true) (y17_ : Bool) (hy17 : qi_ n y6_ x0 = some y17_) (hy18 : ¬ (y17_ = true)) (hy19 : (x8).toNat < (x7).length) : qew_ rnd x0 x1 x2 x3 x4 x6 (x5, x7, x8) (.normal, qcx_ x0 x1 x2 x3 x4 x6 (((x5).set (x8).toNat y13_), ((x7).set (x8).toNat (2 : Int)), (w64 (x8 - 1)))) :=
 runC2 hm (L := lT []) ⟨[0, 2, 7, 8, 9, 10, 11], [(0, 0, true), (1, 1, true), (2, 2, false), (3, 3, true), (4, 4, true)], 5, 0⟩ (zz 3 (xdT hy1) <|
zz 10 (xk1 0 Args.cA hy2) <|
zz 11 (lk2 hy3 (qc_ hy2)) <|
zz 17 (xk17 0 x2 hy4) <|
zz 18 (xivN hy6 hy5) <|
yy 23 (.call (qm_ (y3_.1) (y3_.2.1) (y3_.2.2.1) (y3_.2.2.2.1) (y3_.2.2.2.2.1) (y3_.2.2.2.2.2.1) (y3_.2.2.2.2.2.2.1) (y3_.2.2.2.2.2.2.2) y7_ [] [])) <|
ww (qh_ n (y3_.1) (y3_.2.1) (y3_.2.2.1) (y3_.2.2.2.1) (y3_.2.2.2.2.1) (y3_.2.2.2.2.2.1) (y3_.2.2.2.2.2.2.1) (y3_.2.2.2.2.2.2.2) y7_ hy7) <|
zz 24 (xbF hy8) <|
zz 29 (xk20 1 x4 hy9) <|
zz 30 (ok21 hy11 (hy10)) <|
yy 31 (vt) <|
ww (p := (Value.bool (!y11_)) = (Value.bool true)) (vBn (Bool.eq_false_iff.2 hy12)) <|
yy 35 (.call (q8_ y6_ x0 y13_ [] [])) <|
ww (qv_ n y6_ x0 y13_ hy13) <|
zz 37 (xk20 3 x6 hy14) <|
yy 38 (.sto (layT (rows rw_b ((x5).set (x8).toNat y13_)))) <|
ww (p := ∃ old, rdT (layT (rows rw_b x5)) 1 ((x8).toNat * 1) = some old) (Exists.elim (qbs_ rwf_b (false) (i := (x8).toNat) (j := 0) (l := [(bO y13_)]) y13_ ((x8).toNat * 1) rfl (hy15) (Nat.le_of_ble_eq_true rfl) rfl) fun o h => ⟨o, h.1⟩) <|
ww (p := layL [(bO y13_)] ((x8).toNat * 1) (layT (rows rw_b x5)) = layT (rows rw_b ((x5).set (x8).toNat y13_))) (Exists.elim (qbs_ rwf_b (false) (i := (x8).toNat) (j := 0) (l := [(bO y13_)]) y13_ ((x8).toNat * 1) rfl (hy15) (Nat.le_of_ble_eq_true rfl) rfl) fun o h => h.2) <|
zz 43 (xk20 1 x4 hy9) <|
zz 44 (ok21 hy11 (hy10)) <|
zz 46 (xbF hy12) <|
zz 50 (xk20 3 x6 hy14) <|
yy 51 (.ld (bO y13_)) <|
ww (p := (layT (rows rw_b ((x5).set (x8).toNat y13_))).get ((x8).toNat * 1) = some (bO y13_)) (qdu_ rwf_b (i := (x8).toNat) (j := 0) y13_ ((x8).toNat * 1) rfl (hy15) (by decide) rfl) <|
zz 52 (xbT hy16) <|
yy 55 (.call (q8_ y6_ x0 y17_ [] [])) <|
ww (qv_ n y6_ x0 y17_ hy17) <|
zz 58 (xbF hy18) <|
zz 61 (xk17 4 x6 hy14) <|
yy 62 (.sto (layT (iv ((x7).set (x8).toNat (2 : Int))))) <|
ww (p := ∃ old, rdT (layT (iv x7)) 1 (x8).toNat = some old) (Exists.elim (iv_st (x7) ((x8).toNat) ((2 : Int)) hy19) fun o h => ⟨o, h.1⟩) <|
ww (p := layL [(i6 (2 : Int))] (x8).toNat (layT (iv x7)) = layT (iv ((x7).set (x8).toNat (2 : Int)))) (Exists.elim (iv_st (x7) ((x8).toNat) ((2 : Int)) hy19) fun o h => h.2) <|
ww (qb_ x1 3) <|
ww (qd_ rwf_b x3 4) <|
ww (qd_ rwf_b ((x5).set (x8).toNat y13_) 4) <|
ww (qb_ ((x7).set (x8).toNat (2 : Int)) 3) <|
ee) (by kernel_rfl)
theorem q_mMq1_1_7 (n : Nat) {rnd : Option Nat} (x0 : Int) (x1 : List Int) (x2 : Nat) (x3 : List (Bool)) (x4 : Nat) (x5 : List (Bool)) (x6 : Nat) (x7 : List Int) (x8 : Int) (hy1 : x8 ≥ 0) (hy2 : 0 ≤ x8 ∧ x8 < (Args.A.length : Int)) (y3_ : R8) (hy3 : (some ((Args.A).getD (x8).toNat (0, 0, 0, 0, 0, 0, nl0, 0))) = some y3_) (hy4 : 0 ≤ x8 ∧ x8 < ((x2 : Nat) : Int)) (hy5 : (x8).toNat < (x1).length) (y6_ : Int) (hy6 : (some ((x1).getD (x8).toNat 0)) = some y6_) (y7_ : Bool) (hy7 : qg_ n (y3_.1) (y3_.2.1) (y3_.2.2.1) (y3_.2.2.2.1) (y3_.2.2.2.2.1) (y3_.2.2.2.2.2.1) (y3_.2.2.2.2.2.2.1) (y3_.2.2.2.2.2.2.2) = some y7_) (hy8 : ¬ (y7_ = true)) (hy9 : 0 ≤ x8 ∧ x8 < ((x4 : Nat) : Int)) (hy10 : (x8).toNat < (x3).length) (y11_ : Bool) (hy11 : (some ((x3).getD (x8).toNat (false))) = some y11_) (hy12 : ¬ (y11_ = true)) (y13_ : Bool) (hy13 : qi_ n y6_ x0 = some y13_) (hy14 : 0 ≤ x8 ∧ x8 < ((x6 : Nat) : Int)) (hy15 : (x8).toNat < (x5).length) (hy16 : ¬ (y13_ = true)) (hy17 : (x8).toNat < (x7).length) : qew_ rnd x0 x1 x2 x3 x4 x6 (x5, x7, x8) (.normal, qcx_ x0 x1 x2 x3 x4 x6 (((x5).set (x8).toNat y13_), ((x7).set (x8).toNat (2 : Int)), (w64 (x8 - 1)))) :=
 runC2 hm (L := lT []) ⟨[0, 2, 7, 8, 9, 10, 11], [(0, 0, true), (1, 1, true), (2, 2, false), (3, 3, true), (4, 4, true)], 5, 0⟩ (zz 3 (xdT hy1) <|
zz 10 (xk1 0 Args.cA hy2) <|
zz 11 (lk2 hy3 (qc_ hy2)) <|
zz 17 (xk17 0 x2 hy4) <|
zz 18 (xivN hy6 hy5) <|
yy 23 (.call (qm_ (y3_.1) (y3_.2.1) (y3_.2.2.1) (y3_.2.2.2.1) (y3_.2.2.2.2.1) (y3_.2.2.2.2.2.1) (y3_.2.2.2.2.2.2.1) (y3_.2.2.2.2.2.2.2) y7_ [] [])) <|
ww (qh_ n (y3_.1) (y3_.2.1) (y3_.2.2.1) (y3_.2.2.2.1) (y3_.2.2.2.2.1) (y3_.2.2.2.2.2.1) (y3_.2.2.2.2.2.2.1) (y3_.2.2.2.2.2.2.2) y7_ hy7) <|
zz 24 (xbF hy8) <|
zz 29 (xk20 1 x4 hy9) <|
zz 30 (ok21 hy11 (hy10)) <|
yy 31 (vt) <|
ww (p := (Value.bool (!y11_)) = (Value.bool true)) (vBn (Bool.eq_false_iff.2 hy12)) <|
yy 35 (.call (q8_ y6_ x0 y13_ [] [])) <|
ww (qv_ n y6_ x0 y13_ hy13) <|
zz 37 (xk20 3 x6 hy14) <|
yy 38 (.sto (layT (rows rw_b ((x5).set (x8).toNat y13_)))) <|
ww (p := ∃ old, rdT (layT (rows rw_b x5)) 1 ((x8).toNat * 1) = some old) (Exists.elim (qbs_ rwf_b (false) (i := (x8).toNat) (j := 0) (l := [(bO y13_)]) y13_ ((x8).toNat * 1) rfl (hy15) (Nat.le_of_ble_eq_true rfl) rfl) fun o h => ⟨o, h.1⟩) <|
ww (p := layL [(bO y13_)] ((x8).toNat * 1) (layT (rows rw_b x5)) = layT (rows rw_b ((x5).set (x8).toNat y13_))) (Exists.elim (qbs_ rwf_b (false) (i := (x8).toNat) (j := 0) (l := [(bO y13_)]) y13_ ((x8).toNat * 1) rfl (hy15) (Nat.le_of_ble_eq_true rfl) rfl) fun o h => h.2) <|
zz 43 (xk20 1 x4 hy9) <|
zz 44 (ok21 hy11 (hy10)) <|
zz 46 (xbF hy12) <|
zz 50 (xk20 3 x6 hy14) <|
yy 51 (.ld (bO y13_)) <|
ww (p := (layT (rows rw_b ((x5).set (x8).toNat y13_))).get ((x8).toNat * 1) = some (bO y13_)) (qdu_ rwf_b (i := (x8).toNat) (j := 0) y13_ ((x8).toNat * 1) rfl (hy15) (by decide) rfl) <|
zz 52 (xbF hy16) <|
zz 61 (xk17 4 x6 hy14) <|
yy 62 (.sto (layT (iv ((x7).set (x8).toNat (2 : Int))))) <|
ww (p := ∃ old, rdT (layT (iv x7)) 1 (x8).toNat = some old) (Exists.elim (iv_st (x7) ((x8).toNat) ((2 : Int)) hy17) fun o h => ⟨o, h.1⟩) <|
ww (p := layL [(i6 (2 : Int))] (x8).toNat (layT (iv x7)) = layT (iv ((x7).set (x8).toNat (2 : Int)))) (Exists.elim (iv_st (x7) ((x8).toNat) ((2 : Int)) hy17) fun o h => h.2) <|
ww (qb_ x1 3) <|
ww (qd_ rwf_b x3 4) <|
ww (qd_ rwf_b ((x5).set (x8).toNat y13_) 4) <|
ww (qb_ ((x7).set (x8).toNat (2 : Int)) 3) <|
ee) (by kernel_rfl)
theorem q_mMq1_1_8 (n : Nat) {rnd : Option Nat} (x0 : Int) (x1 : List Int) (x2 : Nat) (x3 : List (Bool)) (x4 : Nat) (x5 : List (Bool)) (x6 : Nat) (x7 : List Int) (x8 : Int) (hy1 : ¬ (x8 ≥ 0)) : qew_ rnd x0 x1 x2 x3 x4 x6 (x5, x7, x8) (qif_ x0 x1 x2 x3 x4 x6 x7) :=
 runC2 hm (L := lT []) ⟨[10], [(0, 4, true)], 1, 0⟩ (zz 3 (xdF hy1) <|
ww (qb_ x7 3) <|
ee) (by kernel_rfl)
theorem m_mMq1_1_ok (n : Nat) {rnd : Option Nat} (x0 : Int) (x1 : List Int) (x2 : Nat) (x3 : List (Bool)) (x4 : Nat) (x6 : Nat) (st : List (Bool) × List Int × Int) (r : List Int) (h : m_mMq1_1 n x0 x1 x2 x3 x4 x6 st = some r) : CG P rnd (fnN P 7) 0 (qq_ P 7 [false, true, false, true, true, true, true, true]) (qcx_ x0 x1 x2 x3 x4 x6 st) (qif_ x0 x1 x2 x3 x4 x6 r) :=
 CG.iter (b := qq_ P 7 [false, false, true, false, true, true, true, true, true]) (by kernel_rfl) (body := qfy_ n x0 x1 x2 x3 x4 x6) (S := qcx_ x0 x1 x2 x3 x4 x6) (X := qif_ x0 x1 x2 x3 x4 x6)
  (fun s s' h => by
  obtain ⟨x5, x7, x8⟩ := s
  unfold qfy_ at h
  dsimp only at h
  by_cases hy1 : x8 ≥ 0
  ·rw [if_pos hy1] at h
   obtain ⟨hy2, h⟩ := gd h
   obtain ⟨y3_, hy3, h⟩ := oB h
   obtain ⟨hy4, h⟩ := gd h
   obtain ⟨hy5, h⟩ := gd h
   obtain ⟨y6_, hy6, h⟩ := oB h
   obtain ⟨y7_, hy7, h⟩ := oB h
   by_cases hy8 : y7_ = true
   ·rw [if_pos hy8] at h
    obtain ⟨_, hy9, h⟩ := oB h
    obtain ⟨y10_, hy10, h⟩ := oB h
    obtain ⟨hy11, h⟩ := gd h
    obtain ⟨hy12, h⟩ := gd h
    obtain ⟨hy13, h⟩ := gd h
    obtain ⟨hy14, h⟩ := gd h
    obtain ⟨y15_, hy15, h⟩ := oB h
    by_cases hy16 : y15_ = true
    ·rw [if_pos hy16] at h
     obtain ⟨hy17, h⟩ := gd h
     obtain rfl := Sum.inl.inj (oI h); exact q_mMq1_1_0 n x0 x1 x2 x3 x4 x5 x6 x7 x8 hy1 hy2 y3_ hy3 hy4 hy5 y6_ hy6 y7_ hy7 hy8 hy9 y10_ hy10 hy11 hy12 hy13 hy14 y15_ hy15 hy16 hy17
    ·rw [if_neg hy16] at h
     by_cases hy17 : y10_ = true
     ·rw [if_pos hy17] at h
      obtain ⟨y18_, hy18, h⟩ := oB h
      by_cases hy19 : y18_ = true
      ·rw [if_pos hy19] at h
       obtain ⟨hy20, h⟩ := gd h
       obtain rfl := Sum.inl.inj (oI h); exact q_mMq1_1_1 n x0 x1 x2 x3 x4 x5 x6 x7 x8 hy1 hy2 y3_ hy3 hy4 hy5 y6_ hy6 y7_ hy7 hy8 hy9 y10_ hy10 hy11 hy12 hy13 hy14 y15_ hy15 hy16 hy17 y18_ hy18 hy19 hy20
      ·rw [if_neg hy19] at h
       obtain ⟨hy20, h⟩ := gd h
       obtain rfl := Sum.inl.inj (oI h); exact q_mMq1_1_2 n x0 x1 x2 x3 x4 x5 x6 x7 x8 hy1 hy2 y3_ hy3 hy4 hy5 y6_ hy6 y7_ hy7 hy8 hy9 y10_ hy10 hy11 hy12 hy13 hy14 y15_ hy15 hy16 hy17 y18_ hy18 hy19 hy20
     ·rw [if_neg hy17] at h
      obtain ⟨hy18, h⟩ := gd h
      obtain rfl := Sum.inl.inj (oI h); exact q_mMq1_1_3 n x0 x1 x2 x3 x4 x5 x6 x7 x8 hy1 hy2 y3_ hy3 hy4 hy5 y6_ hy6 y7_ hy7 hy8 hy9 y10_ hy10 hy11 hy12 hy13 hy14 y15_ hy15 hy16 hy17 hy18
   ·rw [if_neg hy8] at h
    obtain ⟨hy9, h⟩ := gd h
    obtain ⟨hy10, h⟩ := gd h
    obtain ⟨y11_, hy11, h⟩ := oB h
    by_cases hy12 : y11_ = true
    ·rw [if_pos hy12] at h
     obtain ⟨hy13, h⟩ := gd h
     obtain ⟨hy14, h⟩ := gd h
     obtain ⟨hy15, h⟩ := gd h
     obtain rfl := Sum.inl.inj (oI h); exact q_mMq1_1_4 n x0 x1 x2 x3 x4 x5 x6 x7 x8 hy1 hy2 y3_ hy3 hy4 hy5 y6_ hy6 y7_ hy7 hy8 hy9 hy10 y11_ hy11 hy12 hy13 hy14 hy15
    ·rw [if_neg hy12] at h
     obtain ⟨y13_, hy13, h⟩ := oB h
     obtain ⟨hy14, h⟩ := gd h
     obtain ⟨hy15, h⟩ := gd h
     by_cases hy16 : y13_ = true
     ·rw [if_pos hy16] at h
      obtain ⟨y17_, hy17, h⟩ := oB h
      by_cases hy18 : y17_ = true
      ·rw [if_pos hy18] at h
       obtain ⟨hy19, h⟩ := gd h
       obtain rfl := Sum.inl.inj (oI h); exact q_mMq1_1_5 n x0 x1 x2 x3 x4 x5 x6 x7 x8 hy1 hy2 y3_ hy3 hy4 hy5 y6_ hy6 y7_ hy7 hy8 hy9 hy10 y11_ hy11 hy12 y13_ hy13 hy14 hy15 hy16 y17_ hy17 hy18 hy19
      ·rw [if_neg hy18] at h
       obtain ⟨hy19, h⟩ := gd h
       obtain rfl := Sum.inl.inj (oI h); exact q_mMq1_1_6 n x0 x1 x2 x3 x4 x5 x6 x7 x8 hy1 hy2 y3_ hy3 hy4 hy5 y6_ hy6 y7_ hy7 hy8 hy9 hy10 y11_ hy11 hy12 y13_ hy13 hy14 hy15 hy16 y17_ hy17 hy18 hy19
     ·rw [if_neg hy16] at h
      obtain ⟨hy17, h⟩ := gd h
      obtain rfl := Sum.inl.inj (oI h); exact q_mMq1_1_7 n x0 x1 x2 x3 x4 x5 x6 x7 x8 hy1 hy2 y3_ hy3 hy4 hy5 y6_ hy6 y7_ hy7 hy8 hy9 hy10 y11_ hy11 hy12 y13_ hy13 hy14 hy15 hy16 hy17
  ·rw [if_neg hy1] at h
   cases h)
  (fun s r h => by
  obtain ⟨x5, x7, x8⟩ := s
  unfold qfy_ at h
  dsimp only at h
  by_cases hy1 : x8 ≥ 0
  ·rw [if_pos hy1] at h
   obtain ⟨hy2, h⟩ := gd h
   obtain ⟨y3_, hy3, h⟩ := oB h
   obtain ⟨hy4, h⟩ := gd h
   obtain ⟨hy5, h⟩ := gd h
   obtain ⟨y6_, hy6, h⟩ := oB h
   obtain ⟨y7_, hy7, h⟩ := oB h
   by_cases hy8 : y7_ = true
   ·rw [if_pos hy8] at h
    obtain ⟨_, hy9, h⟩ := oB h
    obtain ⟨y10_, hy10, h⟩ := oB h
    obtain ⟨hy11, h⟩ := gd h
    obtain ⟨hy12, h⟩ := gd h
    obtain ⟨hy13, h⟩ := gd h
    obtain ⟨hy14, h⟩ := gd h
    obtain ⟨y15_, hy15, h⟩ := oB h
    by_cases hy16 : y15_ = true
    ·rw [if_pos hy16] at h
     obtain ⟨hy17, h⟩ := gd h
     cases h
    ·rw [if_neg hy16] at h
     by_cases hy17 : y10_ = true
     ·rw [if_pos hy17] at h
      obtain ⟨y18_, hy18, h⟩ := oB h
      by_cases hy19 : y18_ = true
      ·rw [if_pos hy19] at h
       obtain ⟨hy20, h⟩ := gd h
       cases h
      ·rw [if_neg hy19] at h
       obtain ⟨hy20, h⟩ := gd h
       cases h
     ·rw [if_neg hy17] at h
      obtain ⟨hy18, h⟩ := gd h
      cases h
   ·rw [if_neg hy8] at h
    obtain ⟨hy9, h⟩ := gd h
    obtain ⟨hy10, h⟩ := gd h
    obtain ⟨y11_, hy11, h⟩ := oB h
    by_cases hy12 : y11_ = true
    ·rw [if_pos hy12] at h
     obtain ⟨hy13, h⟩ := gd h
     obtain ⟨hy14, h⟩ := gd h
     obtain ⟨hy15, h⟩ := gd h
     cases h
    ·rw [if_neg hy12] at h
     obtain ⟨y13_, hy13, h⟩ := oB h
     obtain ⟨hy14, h⟩ := gd h
     obtain ⟨hy15, h⟩ := gd h
     by_cases hy16 : y13_ = true
     ·rw [if_pos hy16] at h
      obtain ⟨y17_, hy17, h⟩ := oB h
      by_cases hy18 : y17_ = true
      ·rw [if_pos hy18] at h
       obtain ⟨hy19, h⟩ := gd h
       cases h
      ·rw [if_neg hy18] at h
       obtain ⟨hy19, h⟩ := gd h
       cases h
     ·rw [if_neg hy16] at h
      obtain ⟨hy17, h⟩ := gd h
      cases h
  ·rw [if_neg hy1] at h
   obtain rfl := Sum.inr.inj (oI h); exact q_mMq1_1_8 n x0 x1 x2 x3 x4 x5 x6 x7 x8 hy1)
  (fun r => by intro hx; cases hx) h
def m_mMq1 (n : Nat) (a0 : Int) (a1 : Int) : Option (List Int × Nat) :=
 (m_mRq1 n a0).bind fun t => match t with
 | (c1_0, c1_1) =>
  (m_tSq1 n).bind fun t => match t with
  | (c2_0, c2_1) =>
   if 0 ≤ ((c1_1 : Nat) : Int) then
    if (((c1_1 : Nat) : Int)).toNat * 1 ≤ 140737488355328 then
     if (((c1_1 : Nat) : Int)).toNat * 8 ≤ 140737488355328 then
      ((some (w64 (((c1_1 : Nat) : Int) - 1)))).bind fun c6_ =>
      (m_mMq1_1 n a1 c1_0 c1_1 c2_0 c2_1 ((((c1_1 : Nat) : Int)).toNat) ((List.replicate (((c1_1 : Nat) : Int)).toNat (false)), (List.replicate (((c1_1 : Nat) : Int)).toNat (0 : Int)), c6_)).bind fun c7_ =>
      some (c7_, ((((c1_1 : Nat) : Int)).toNat))
     else none
    else none
   else none
theorem qjh_ (n : Nat) (a0 : Int) (a1 : Int) (r : List Int × Nat) (h : m_mMq1 n a0 a1 = some r) : Gv P (.func 7) (A_mMq1 a0 a1) (H_mMq1 a0 a1) (V_mMq1 a0 a1 r) (R_mMq1 a0 a1 r) := by
 unfold m_mMq1 at h
 obtain ⟨⟨c1_0, c1_1⟩, hc1, h⟩ := oB h
 dsimp only at h
 obtain ⟨⟨c2_0, c2_1⟩, hc2, h⟩ := oB h
 dsimp only at h
 obtain ⟨hc3, h⟩ := gd h
 obtain ⟨hc4, h⟩ := gd h
 obtain ⟨hc5, h⟩ := gd h
 obtain ⟨c6_, hc6, h⟩ := oB h
 obtain ⟨c7_, hc7, h⟩ := oB h
 obtain rfl := oI h; exact (runF2 hm (L := lT [(29, ⟨⟨[0, 2, 7, 8, 9, 10, 11], [(0, 0, true), (1, 2, true), (2, 4, false), (3, 3, true), (4, 5, true)], 5, 0⟩, (qif_ a1 c1_0 c1_1 c2_0 c2_1 ((((c1_1 : Nat) : Int)).toNat) c7_).1, (qif_ a1 c1_0 c1_1 c2_0 c2_1 ((((c1_1 : Nat) : Int)).toNat) c7_).2⟩)]) ⟨[6], [(0, 0, true)], 1, 0⟩ (yy 5 (.call (C_mRq1 a0 (c1_0, c1_1) [] [(0, 0, true)])) <|
ww (m_mRq1_ok n a0 (c1_0, c1_1) hc1) <|
ww (qb_ c1_0 3) <|
yy 9 (.call (C_tSq1  (c2_0, c2_1) [] [(2, 1, true)])) <|
ww (m_tSq1_ok n  (c2_0, c2_1) hc2) <|
ww (qd_ rwf_b c2_0 4) <|
yy 14 (.mk (((c1_1 : Nat) : Int)).toNat (rows rw_b (List.replicate (((c1_1 : Nat) : Int)).toNat (false)))) <|
ww (p := natOf (i6 ((c1_1 : Nat) : Int)) = some (((c1_1 : Nat) : Int)).toNat) (q5_ hc3) <|
ww (p := natOf (i6 ((c1_1 : Nat) : Int)) = some (((c1_1 : Nat) : Int)).toNat) (q5_ hc3) <|
ww (p := fits (((c1_1 : Nat) : Int)).toNat 1 = true) (qfi_ hc4 (by omega)) <|
ww (p := isZ8 [(bO false)] = false) (rfl) <|
ww (p := reps [(bO false)] (((c1_1 : Nat) : Int)).toNat = (rows rw_b (List.replicate (((c1_1 : Nat) : Int)).toNat (false)))) (qm5_ rw_b (false) _ rfl _) <|
yy 20 (.mk (((c1_1 : Nat) : Int)).toNat (iv (List.replicate (((c1_1 : Nat) : Int)).toNat (0 : Int)))) <|
ww (p := natOf (i6 ((c1_1 : Nat) : Int)) = some (((c1_1 : Nat) : Int)).toNat) (q5_ hc3) <|
ww (p := natOf (i6 ((c1_1 : Nat) : Int)) = some (((c1_1 : Nat) : Int)).toNat) (q5_ hc3) <|
ww (p := fits (((c1_1 : Nat) : Int)).toNat 8 = true) (qfi_ hc5 (by omega)) <|
ww (p := isZ8 [(i6 (0 : Int))] = false) (rfl) <|
ww (p := reps [(i6 (0 : Int))] (((c1_1 : Nat) : Int)).toNat = (iv (List.replicate (((c1_1 : Nat) : Int)).toNat (0 : Int)))) (reps_iv _) <|
zz 26 (xnm hc6) <|
ww (m_mMq1_1_ok n (rnd := none) a1 c1_0 c1_1 c2_0 c2_1 ((((c1_1 : Nat) : Int)).toNat) ((List.replicate (((c1_1 : Nat) : Int)).toNat (false)), (List.replicate (((c1_1 : Nat) : Int)).toNat (0 : Int)), c6_) c7_ hc7) <|
ww (qb_ c1_0 3) <|
ww (qd_ rwf_b c2_0 4) <|
ww (qd_ rwf_b (List.replicate (((c1_1 : Nat) : Int)).toNat (false)) 4) <|
ww (qb_ (List.replicate (((c1_1 : Nat) : Int)).toNat (0 : Int)) 3) <|
ww (qb_ c7_ 3) ee) (by kernel_rfl))

def A_V (g1 : Int) (g2 : Int) (g3 : Int) (g4 : Int) : List Value := [(sW 0 0 (Args.A).length Args.cA), (i6 g1), (i6 g2), (i6 g3), (i6 g4)]
def H_V (g1 : Int) (g2 : Int) (g3 : Int) (g4 : Int) : AH := ⟨sB [], 0, 0⟩
def V_V (g1 : Int) (g2 : Int) (g3 : Int) (g4 : Int) (r : Unit) : Value := match r with
 | _ => (bO true)
def R_V (g1 : Int) (g2 : Int) (g3 : Int) (g4 : Int) (r : Unit) : AH := match r with
 | _ => ⟨sB [], 0, 0⟩
abbrev G_V (g1 : Int) (g2 : Int) (g3 : Int) (g4 : Int) (r : Unit) : Prop := Gv P (.func 3) (A_V g1 g2 g3 g4) (H_V g1 g2 g3 g4) (V_V g1 g2 g3 g4 r) (R_V g1 g2 g3 g4 r)
abbrev C_V (g1 : Int) (g2 : Int) (g3 : Int) (g4 : Int) (r : Unit) (ins outs : BL) : CallA := ⟨0, ins, V_V g1 g2 g3 g4 r, R_V g1 g2 g3 g4 r, outs⟩
def S_V_1 (x0 : List Int) (x1 : Nat) (x2 : List Int) (x3 : Nat) (x4 : List Int) (x5 : Nat) (x6 : List Int) (x7 : Nat) (st : Int) : XSt := match st with
 | x8 => (sT 153 [(0, (sW 0 0 (Args.A).length Args.cA)), (11, (sN 0 0 x1 x1)), (12, (sN 1 0 x3 x3)), (13, (sN 2 0 x5 x5)), (14, (sN 3 0 x7 x7)), (15, (i6 x8))], [], ⟨sB [(0, (some (.cells (layT (iv x0)) 3))), (1, (some (.cells (layT (iv x2)) 3))), (2, (some (.cells (layT (iv x4)) 3))), (3, (some (.cells (layT (iv x6)) 3)))], 4, 0⟩)
def X_V_1 (x0 : List Int) (x1 : Nat) (x2 : List Int) (x3 : Nat) (x4 : List Int) (x5 : Nat) (x6 : List Int) (x7 : Nat) (r : Unit) : Ex × XSt := match r with
 | _ => (.exit 0, (sT 153 [], [], ⟨sB [], 0, 0⟩))
abbrev Q_V_1 (rnd : Option Nat) (x0 : List Int) (x1 : Nat) (x2 : List Int) (x3 : Nat) (x4 : List Int) (x5 : Nat) (x6 : List Int) (x7 : Nat) (st : Int) (c : Ex × XSt) : Prop := CG P rnd (fnN P 3) 0 (qq_ P 3 [false, false, true, false, true, true, true, true, true, true, true]) (S_V_1 x0 x1 x2 x3 x4 x5 x6 x7 st) c
def B_V_1 (n : Nat) (x0 : List Int) (x1 : Nat) (x2 : List Int) (x3 : Nat) (x4 : List Int) (x5 : Nat) (x6 : List Int) (x7 : Nat) (st : Int) : Option ((Int) ⊕ (Unit)) := match st with
 | x8 =>
  if x8 < (Args.A.length : Int) then
   if 0 ≤ x8 ∧ x8 < ((x1 : Nat) : Int) then
    if (x8).toNat < (x0).length then
     ((some ((x0).getD (x8).toNat 0))).bind fun y4_ =>
     if y4_ = 3 then
      if 0 ≤ x8 ∧ x8 < ((x3 : Nat) : Int) then
       if (x8).toNat < (x2).length then
        ((some ((x2).getD (x8).toNat 0))).bind fun y8_ =>
        if y8_ = y4_ then
         if 0 ≤ x8 ∧ x8 < ((x5 : Nat) : Int) then
          if (x8).toNat < (x4).length then
           ((some ((x4).getD (x8).toNat 0))).bind fun y12_ =>
           if y12_ = y4_ then
            if 0 ≤ x8 ∧ x8 < ((x7 : Nat) : Int) then
             if (x8).toNat < (x6).length then
              ((some ((x6).getD (x8).toNat 0))).bind fun y16_ =>
              if y16_ = y4_ then
               if y4_ = 1 then
                if y8_ = 1 then
                 if y16_ = 1 then
                  some (.inl (w64 (x8 + 1)))
                 else
                  none
                else
                 none
               else
                if y8_ = 1 then
                 none
                else
                 if y16_ = 1 then
                  none
                 else
                  some (.inl (w64 (x8 + 1)))
              else
               none
             else none
            else none
           else
            none
          else none
         else none
        else
         none
       else none
      else none
     else
      if y4_ = 1 then
       if 0 ≤ x8 ∧ x8 < ((x3 : Nat) : Int) then
        if (x8).toNat < (x2).length then
         ((some ((x2).getD (x8).toNat 0))).bind fun y9_ =>
         if y9_ = 1 then
          if 0 ≤ x8 ∧ x8 < ((x7 : Nat) : Int) then
           if (x8).toNat < (x6).length then
            ((some ((x6).getD (x8).toNat 0))).bind fun y13_ =>
            if y13_ = 1 then
             some (.inl (w64 (x8 + 1)))
            else
             none
           else none
          else none
         else
          none
        else none
       else none
      else
       if 0 ≤ x8 ∧ x8 < ((x3 : Nat) : Int) then
        if (x8).toNat < (x2).length then
         ((some ((x2).getD (x8).toNat 0))).bind fun y9_ =>
         if y9_ = 1 then
          none
         else
          if 0 ≤ x8 ∧ x8 < ((x7 : Nat) : Int) then
           if (x8).toNat < (x6).length then
            ((some ((x6).getD (x8).toNat 0))).bind fun y13_ =>
            if y13_ = 1 then
             none
            else
             some (.inl (w64 (x8 + 1)))
           else none
          else none
        else none
       else none
    else none
   else none
  else
   some (.inr ())
def m_V_1 (n : Nat) (x0 : List Int) (x1 : Nat) (x2 : List Int) (x3 : Nat) (x4 : List Int) (x5 : Nat) (x6 : List Int) (x7 : Nat) (st : Int) : Option (Unit) := iterM (B_V_1 n x0 x1 x2 x3 x4 x5 x6 x7) n st
theorem q_V_1_0 (n : Nat) {rnd : Option Nat} (x0 : List Int) (x1 : Nat) (x2 : List Int) (x3 : Nat) (x4 : List Int) (x5 : Nat) (x6 : List Int) (x7 : Nat) (x8 : Int) (hy1 : x8 < (Args.A.length : Int)) (hy2 : 0 ≤ x8 ∧ x8 < ((x1 : Nat) : Int)) (hy3 : (x8).toNat < (x0).length) (y4_ : Int) (hy4 : (some ((x0).getD (x8).toNat 0)) = some y4_) (hy5 : y4_ = 3) (hy6 : 0 ≤ x8 ∧ x8 < ((x3 : Nat) : Int)) (hy7 : (x8).toNat < (x2).length) (y8_ : Int) (hy8 : (some ((x2).getD (x8).toNat 0)) = some y8_) (hy9 : y8_ = y4_) (hy10 : 0 ≤ x8 ∧ x8 < ((x5 : Nat) : Int)) (hy11 : (x8).toNat < (x4).length) (y12_ : Int) (hy12 : (some ((x4).getD (x8).toNat 0)) = some y12_) (hy13 : y12_ = y4_) (hy14 : 0 ≤ x8 ∧ x8 < ((x7 : Nat) : Int)) (hy15 : (x8).toNat < (x6).length) (y16_ : Int) (hy16 : (some ((x6).getD (x8).toNat 0)) = some y16_) (hy17 : y16_ = y4_) (hy18 : y4_ = 1) (hy19 : y8_ = 1) (hy20 : y16_ = 1) : Q_V_1 rnd x0 x1 x2 x3 x4 x5 x6 x7 x8 (.normal, S_V_1 x0 x1 x2 x3 x4 x5 x6 x7 (w64 (x8 + 1))) :=
 runC2 hm (L := lT []) ⟨[0, 11, 12, 13, 14, 15], [(0, 0, true), (1, 1, true), (2, 2, true), (3, 3, true)], 4, 0⟩ (zz 5 (xdT hy1) <|
zz 12 (xk17 0 x1 hy2) <|
zz 13 (xivN hy4 hy3) <|
zz 14 (xeT hy5) <|
zz 18 (xk17 1 x3 hy6) <|
zz 19 (xivN hy8 hy7) <|
zz 22 (xk17 0 x1 hy2) <|
zz 23 (xivN hy4 hy3) <|
zz 24 (xnF hy9) <|
zz 28 (xk17 2 x5 hy10) <|
zz 29 (xivN hy12 hy11) <|
zz 32 (xk17 0 x1 hy2) <|
zz 33 (xivN hy4 hy3) <|
zz 34 (xnF hy13) <|
zz 39 (xk17 3 x7 hy14) <|
zz 40 (xivN hy16 hy15) <|
zz 43 (xk17 0 x1 hy2) <|
zz 44 (xivN hy4 hy3) <|
zz 45 (xnF hy17) <|
zz 51 (xk17 0 x1 hy2) <|
zz 52 (xivN hy4 hy3) <|
zz 53 (xeT hy18) <|
zz 56 (xk17 1 x3 hy6) <|
zz 57 (xivN hy8 hy7) <|
zz 58 (xeT hy19) <|
zz 64 (xk17 0 x1 hy2) <|
zz 65 (xivN hy4 hy3) <|
zz 66 (xeT hy18) <|
zz 69 (xk17 3 x7 hy14) <|
zz 70 (xivN hy16 hy15) <|
zz 71 (xeT hy20) <|
ww (qb_ x0 3) <|
ww (qb_ x2 3) <|
ww (qb_ x4 3) <|
ww (qb_ x6 3) <|
ee) (by kernel_rfl)
theorem q_V_1_1 (n : Nat) {rnd : Option Nat} (x0 : List Int) (x1 : Nat) (x2 : List Int) (x3 : Nat) (x4 : List Int) (x5 : Nat) (x6 : List Int) (x7 : Nat) (x8 : Int) (hy1 : x8 < (Args.A.length : Int)) (hy2 : 0 ≤ x8 ∧ x8 < ((x1 : Nat) : Int)) (hy3 : (x8).toNat < (x0).length) (y4_ : Int) (hy4 : (some ((x0).getD (x8).toNat 0)) = some y4_) (hy5 : y4_ = 3) (hy6 : 0 ≤ x8 ∧ x8 < ((x3 : Nat) : Int)) (hy7 : (x8).toNat < (x2).length) (y8_ : Int) (hy8 : (some ((x2).getD (x8).toNat 0)) = some y8_) (hy9 : y8_ = y4_) (hy10 : 0 ≤ x8 ∧ x8 < ((x5 : Nat) : Int)) (hy11 : (x8).toNat < (x4).length) (y12_ : Int) (hy12 : (some ((x4).getD (x8).toNat 0)) = some y12_) (hy13 : y12_ = y4_) (hy14 : 0 ≤ x8 ∧ x8 < ((x7 : Nat) : Int)) (hy15 : (x8).toNat < (x6).length) (y16_ : Int) (hy16 : (some ((x6).getD (x8).toNat 0)) = some y16_) (hy17 : y16_ = y4_) (hy18 : ¬ (y4_ = 1)) (hy19 : ¬ (y8_ = 1)) (hy20 : ¬ (y16_ = 1)) : Q_V_1 rnd x0 x1 x2 x3 x4 x5 x6 x7 x8 (.normal, S_V_1 x0 x1 x2 x3 x4 x5 x6 x7 (w64 (x8 + 1))) :=
 runC2 hm (L := lT []) ⟨[0, 11, 12, 13, 14, 15], [(0, 0, true), (1, 1, true), (2, 2, true), (3, 3, true)], 4, 0⟩ (zz 5 (xdT hy1) <|
zz 12 (xk17 0 x1 hy2) <|
zz 13 (xivN hy4 hy3) <|
zz 14 (xeT hy5) <|
zz 18 (xk17 1 x3 hy6) <|
zz 19 (xivN hy8 hy7) <|
zz 22 (xk17 0 x1 hy2) <|
zz 23 (xivN hy4 hy3) <|
zz 24 (xnF hy9) <|
zz 28 (xk17 2 x5 hy10) <|
zz 29 (xivN hy12 hy11) <|
zz 32 (xk17 0 x1 hy2) <|
zz 33 (xivN hy4 hy3) <|
zz 34 (xnF hy13) <|
zz 39 (xk17 3 x7 hy14) <|
zz 40 (xivN hy16 hy15) <|
zz 43 (xk17 0 x1 hy2) <|
zz 44 (xivN hy4 hy3) <|
zz 45 (xnF hy17) <|
zz 51 (xk17 0 x1 hy2) <|
zz 52 (xivN hy4 hy3) <|
zz 53 (xeF hy18) <|
zz 56 (xk17 1 x3 hy6) <|
zz 57 (xivN hy8 hy7) <|
zz 58 (xeF hy19) <|
zz 64 (xk17 0 x1 hy2) <|
zz 65 (xivN hy4 hy3) <|
zz 66 (xeF hy18) <|
zz 69 (xk17 3 x7 hy14) <|
zz 70 (xivN hy16 hy15) <|
zz 71 (xeF hy20) <|
ww (qb_ x0 3) <|
ww (qb_ x2 3) <|
ww (qb_ x4 3) <|
ww (qb_ x6 3) <|
ee) (by kernel_rfl)
theorem q_V_1_2 (n : Nat) {rnd : Option Nat} (x0 : List Int) (x1 : Nat) (x2 : List Int) (x3 : Nat) (x4 : List Int) (x5 : Nat) (x6 : List Int) (x7 : Nat) (x8 : Int) (hy1 : x8 < (Args.A.length : Int)) (hy2 : 0 ≤ x8 ∧ x8 < ((x1 : Nat) : Int)) (hy3 : (x8).toNat < (x0).length) (y4_ : Int) (hy4 : (some ((x0).getD (x8).toNat 0)) = some y4_) (hy5 : ¬ (y4_ = 3)) (hy6 : y4_ = 1) (hy7 : 0 ≤ x8 ∧ x8 < ((x3 : Nat) : Int)) (hy8 : (x8).toNat < (x2).length) (y9_ : Int) (hy9 : (some ((x2).getD (x8).toNat 0)) = some y9_) (hy10 : y9_ = 1) (hy11 : 0 ≤ x8 ∧ x8 < ((x7 : Nat) : Int)) (hy12 : (x8).toNat < (x6).length) (y13_ : Int) (hy13 : (some ((x6).getD (x8).toNat 0)) = some y13_) (hy14 : y13_ = 1) : Q_V_1 rnd x0 x1 x2 x3 x4 x5 x6 x7 x8 (.normal, S_V_1 x0 x1 x2 x3 x4 x5 x6 x7 (w64 (x8 + 1))) :=
 runC2 hm (L := lT []) ⟨[0, 11, 12, 13, 14, 15], [(0, 0, true), (1, 1, true), (2, 2, true), (3, 3, true)], 4, 0⟩ (zz 5 (xdT hy1) <|
zz 12 (xk17 0 x1 hy2) <|
zz 13 (xivN hy4 hy3) <|
zz 14 (xeF hy5) <|
zz 51 (xk17 0 x1 hy2) <|
zz 52 (xivN hy4 hy3) <|
zz 53 (xeT hy6) <|
zz 56 (xk17 1 x3 hy7) <|
zz 57 (xivN hy9 hy8) <|
zz 58 (xeT hy10) <|
zz 64 (xk17 0 x1 hy2) <|
zz 65 (xivN hy4 hy3) <|
zz 66 (xeT hy6) <|
zz 69 (xk17 3 x7 hy11) <|
zz 70 (xivN hy13 hy12) <|
zz 71 (xeT hy14) <|
ww (qb_ x0 3) <|
ww (qb_ x2 3) <|
ww (qb_ x4 3) <|
ww (qb_ x6 3) <|
ee) (by kernel_rfl)
theorem q_V_1_3 (n : Nat) {rnd : Option Nat} (x0 : List Int) (x1 : Nat) (x2 : List Int) (x3 : Nat) (x4 : List Int) (x5 : Nat) (x6 : List Int) (x7 : Nat) (x8 : Int) (hy1 : x8 < (Args.A.length : Int)) (hy2 : 0 ≤ x8 ∧ x8 < ((x1 : Nat) : Int)) (hy3 : (x8).toNat < (x0).length) (y4_ : Int) (hy4 : (some ((x0).getD (x8).toNat 0)) = some y4_) (hy5 : ¬ (y4_ = 3)) (hy6 : ¬ (y4_ = 1)) (hy7 : 0 ≤ x8 ∧ x8 < ((x3 : Nat) : Int)) (hy8 : (x8).toNat < (x2).length) (y9_ : Int) (hy9 : (some ((x2).getD (x8).toNat 0)) = some y9_) (hy10 : ¬ (y9_ = 1)) (hy11 : 0 ≤ x8 ∧ x8 < ((x7 : Nat) : Int)) (hy12 : (x8).toNat < (x6).length) (y13_ : Int) (hy13 : (some ((x6).getD (x8).toNat 0)) = some y13_) (hy14 : ¬ (y13_ = 1)) : Q_V_1 rnd x0 x1 x2 x3 x4 x5 x6 x7 x8 (.normal, S_V_1 x0 x1 x2 x3 x4 x5 x6 x7 (w64 (x8 + 1))) :=
 runC2 hm (L := lT []) ⟨[0, 11, 12, 13, 14, 15], [(0, 0, true), (1, 1, true), (2, 2, true), (3, 3, true)], 4, 0⟩ (zz 5 (xdT hy1) <|
zz 12 (xk17 0 x1 hy2) <|
zz 13 (xivN hy4 hy3) <|
zz 14 (xeF hy5) <|
zz 51 (xk17 0 x1 hy2) <|
zz 52 (xivN hy4 hy3) <|
zz 53 (xeF hy6) <|
zz 56 (xk17 1 x3 hy7) <|
zz 57 (xivN hy9 hy8) <|
zz 58 (xeF hy10) <|
zz 64 (xk17 0 x1 hy2) <|
zz 65 (xivN hy4 hy3) <|
zz 66 (xeF hy6) <|
zz 69 (xk17 3 x7 hy11) <|
zz 70 (xivN hy13 hy12) <|
zz 71 (xeF hy14) <|
ww (qb_ x0 3) <|
ww (qb_ x2 3) <|
ww (qb_ x4 3) <|
ww (qb_ x6 3) <|
ee) (by kernel_rfl)
theorem q_V_1_4 (n : Nat) {rnd : Option Nat} (x0 : List Int) (x1 : Nat) (x2 : List Int) (x3 : Nat) (x4 : List Int) (x5 : Nat) (x6 : List Int) (x7 : Nat) (x8 : Int) (hy1 : ¬ (x8 < (Args.A.length : Int))) : Q_V_1 rnd x0 x1 x2 x3 x4 x5 x6 x7 x8 (X_V_1 x0 x1 x2 x3 x4 x5 x6 x7 ()) :=
 runC2 hm (L := lT []) ⟨[], [], 0, 0⟩ (zz 5 (xdF hy1) <|
ee) (by kernel_rfl)
theorem m_V_1_ok (n : Nat) {rnd : Option Nat} (x0 : List Int) (x1 : Nat) (x2 : List Int) (x3 : Nat) (x4 : List Int) (x5 : Nat) (x6 : List Int) (x7 : Nat) (st : Int) (r : Unit) (h : m_V_1 n x0 x1 x2 x3 x4 x5 x6 x7 st = some r) : CG P rnd (fnN P 3) 0 (qq_ P 3 [false, true, false, true, true, true, true, true, true, true]) (S_V_1 x0 x1 x2 x3 x4 x5 x6 x7 st) (X_V_1 x0 x1 x2 x3 x4 x5 x6 x7 r) :=
 CG.iter (b := qq_ P 3 [false, false, true, false, true, true, true, true, true, true, true]) (by kernel_rfl) (body := B_V_1 n x0 x1 x2 x3 x4 x5 x6 x7) (S := S_V_1 x0 x1 x2 x3 x4 x5 x6 x7) (X := X_V_1 x0 x1 x2 x3 x4 x5 x6 x7)
  (fun x8 s' h => by
  unfold B_V_1 at h
  dsimp only at h
  by_cases hy1 : x8 < (Args.A.length : Int)
  ·rw [if_pos hy1] at h
   obtain ⟨hy2, h⟩ := gd h
   obtain ⟨hy3, h⟩ := gd h
   obtain ⟨y4_, hy4, h⟩ := oB h
   by_cases hy5 : y4_ = 3
   ·rw [if_pos hy5] at h
    obtain ⟨hy6, h⟩ := gd h
    obtain ⟨hy7, h⟩ := gd h
    obtain ⟨y8_, hy8, h⟩ := oB h
    by_cases hy9 : y8_ = y4_
    ·rw [if_pos hy9] at h
     obtain ⟨hy10, h⟩ := gd h
     obtain ⟨hy11, h⟩ := gd h
     obtain ⟨y12_, hy12, h⟩ := oB h
     by_cases hy13 : y12_ = y4_
     ·rw [if_pos hy13] at h
      obtain ⟨hy14, h⟩ := gd h
      obtain ⟨hy15, h⟩ := gd h
      obtain ⟨y16_, hy16, h⟩ := oB h
      by_cases hy17 : y16_ = y4_
      ·rw [if_pos hy17] at h
       by_cases hy18 : y4_ = 1
       ·rw [if_pos hy18] at h
        by_cases hy19 : y8_ = 1
        ·rw [if_pos hy19] at h
         by_cases hy20 : y16_ = 1
         ·rw [if_pos hy20] at h
          obtain rfl := Sum.inl.inj (oI h); exact q_V_1_0 n x0 x1 x2 x3 x4 x5 x6 x7 x8 hy1 hy2 hy3 y4_ hy4 hy5 hy6 hy7 y8_ hy8 hy9 hy10 hy11 y12_ hy12 hy13 hy14 hy15 y16_ hy16 hy17 hy18 hy19 hy20
         ·rw [if_neg hy20] at h
          cases h
        ·rw [if_neg hy19] at h
         cases h
       ·rw [if_neg hy18] at h
        by_cases hy19 : y8_ = 1
        ·rw [if_pos hy19] at h
         cases h
        ·rw [if_neg hy19] at h
         by_cases hy20 : y16_ = 1
         ·rw [if_pos hy20] at h
          cases h
         ·rw [if_neg hy20] at h
          obtain rfl := Sum.inl.inj (oI h); exact q_V_1_1 n x0 x1 x2 x3 x4 x5 x6 x7 x8 hy1 hy2 hy3 y4_ hy4 hy5 hy6 hy7 y8_ hy8 hy9 hy10 hy11 y12_ hy12 hy13 hy14 hy15 y16_ hy16 hy17 hy18 hy19 hy20
      ·rw [if_neg hy17] at h
       cases h
     ·rw [if_neg hy13] at h
      cases h
    ·rw [if_neg hy9] at h
     cases h
   ·rw [if_neg hy5] at h
    by_cases hy6 : y4_ = 1
    ·rw [if_pos hy6] at h
     obtain ⟨hy7, h⟩ := gd h
     obtain ⟨hy8, h⟩ := gd h
     obtain ⟨y9_, hy9, h⟩ := oB h
     by_cases hy10 : y9_ = 1
     ·rw [if_pos hy10] at h
      obtain ⟨hy11, h⟩ := gd h
      obtain ⟨hy12, h⟩ := gd h
      obtain ⟨y13_, hy13, h⟩ := oB h
      by_cases hy14 : y13_ = 1
      ·rw [if_pos hy14] at h
       obtain rfl := Sum.inl.inj (oI h); exact q_V_1_2 n x0 x1 x2 x3 x4 x5 x6 x7 x8 hy1 hy2 hy3 y4_ hy4 hy5 hy6 hy7 hy8 y9_ hy9 hy10 hy11 hy12 y13_ hy13 hy14
      ·rw [if_neg hy14] at h
       cases h
     ·rw [if_neg hy10] at h
      cases h
    ·rw [if_neg hy6] at h
     obtain ⟨hy7, h⟩ := gd h
     obtain ⟨hy8, h⟩ := gd h
     obtain ⟨y9_, hy9, h⟩ := oB h
     by_cases hy10 : y9_ = 1
     ·rw [if_pos hy10] at h
      cases h
     ·rw [if_neg hy10] at h
      obtain ⟨hy11, h⟩ := gd h
      obtain ⟨hy12, h⟩ := gd h
      obtain ⟨y13_, hy13, h⟩ := oB h
      by_cases hy14 : y13_ = 1
      ·rw [if_pos hy14] at h
       cases h
      ·rw [if_neg hy14] at h
       obtain rfl := Sum.inl.inj (oI h); exact q_V_1_3 n x0 x1 x2 x3 x4 x5 x6 x7 x8 hy1 hy2 hy3 y4_ hy4 hy5 hy6 hy7 hy8 y9_ hy9 hy10 hy11 hy12 y13_ hy13 hy14
  ·rw [if_neg hy1] at h
   cases h)
  (fun x8 r h => by
  unfold B_V_1 at h
  dsimp only at h
  by_cases hy1 : x8 < (Args.A.length : Int)
  ·rw [if_pos hy1] at h
   obtain ⟨hy2, h⟩ := gd h
   obtain ⟨hy3, h⟩ := gd h
   obtain ⟨y4_, hy4, h⟩ := oB h
   by_cases hy5 : y4_ = 3
   ·rw [if_pos hy5] at h
    obtain ⟨hy6, h⟩ := gd h
    obtain ⟨hy7, h⟩ := gd h
    obtain ⟨y8_, hy8, h⟩ := oB h
    by_cases hy9 : y8_ = y4_
    ·rw [if_pos hy9] at h
     obtain ⟨hy10, h⟩ := gd h
     obtain ⟨hy11, h⟩ := gd h
     obtain ⟨y12_, hy12, h⟩ := oB h
     by_cases hy13 : y12_ = y4_
     ·rw [if_pos hy13] at h
      obtain ⟨hy14, h⟩ := gd h
      obtain ⟨hy15, h⟩ := gd h
      obtain ⟨y16_, hy16, h⟩ := oB h
      by_cases hy17 : y16_ = y4_
      ·rw [if_pos hy17] at h
       by_cases hy18 : y4_ = 1
       ·rw [if_pos hy18] at h
        by_cases hy19 : y8_ = 1
        ·rw [if_pos hy19] at h
         by_cases hy20 : y16_ = 1
         ·rw [if_pos hy20] at h
          cases h
         ·rw [if_neg hy20] at h
          cases h
        ·rw [if_neg hy19] at h
         cases h
       ·rw [if_neg hy18] at h
        by_cases hy19 : y8_ = 1
        ·rw [if_pos hy19] at h
         cases h
        ·rw [if_neg hy19] at h
         by_cases hy20 : y16_ = 1
         ·rw [if_pos hy20] at h
          cases h
         ·rw [if_neg hy20] at h
          cases h
      ·rw [if_neg hy17] at h
       cases h
     ·rw [if_neg hy13] at h
      cases h
    ·rw [if_neg hy9] at h
     cases h
   ·rw [if_neg hy5] at h
    by_cases hy6 : y4_ = 1
    ·rw [if_pos hy6] at h
     obtain ⟨hy7, h⟩ := gd h
     obtain ⟨hy8, h⟩ := gd h
     obtain ⟨y9_, hy9, h⟩ := oB h
     by_cases hy10 : y9_ = 1
     ·rw [if_pos hy10] at h
      obtain ⟨hy11, h⟩ := gd h
      obtain ⟨hy12, h⟩ := gd h
      obtain ⟨y13_, hy13, h⟩ := oB h
      by_cases hy14 : y13_ = 1
      ·rw [if_pos hy14] at h
       cases h
      ·rw [if_neg hy14] at h
       cases h
     ·rw [if_neg hy10] at h
      cases h
    ·rw [if_neg hy6] at h
     obtain ⟨hy7, h⟩ := gd h
     obtain ⟨hy8, h⟩ := gd h
     obtain ⟨y9_, hy9, h⟩ := oB h
     by_cases hy10 : y9_ = 1
     ·rw [if_pos hy10] at h
      cases h
     ·rw [if_neg hy10] at h
      obtain ⟨hy11, h⟩ := gd h
      obtain ⟨hy12, h⟩ := gd h
      obtain ⟨y13_, hy13, h⟩ := oB h
      by_cases hy14 : y13_ = 1
      ·rw [if_pos hy14] at h
       cases h
      ·rw [if_neg hy14] at h
       cases h
  ·rw [if_neg hy1] at h
   obtain rfl := Sum.inr.inj (oI h); exact q_V_1_4 n x0 x1 x2 x3 x4 x5 x6 x7 x8 hy1)
  (fun r => by intro hx; cases hx) h
def m_V (n : Nat) (g1 : Int) (g2 : Int) (g3 : Int) (g4 : Int) : Option (Unit) :=
 (qbz_ n).bind fun _ =>
 (m_LPq1 n 120).bind fun c2_ =>
 if c2_ = true then
  (qfn_ n).bind fun c4_ =>
  if c4_ = 0 then
   (m_mMq1 n (maxB (maxB (0 : Int) g1) g2) (minB (maxB (0 : Int) g3) (maxB (0 : Int) g4))).bind fun t => match t with
   | (c6_0, c6_1) =>
    (m_mMq1 n (maxB (maxB (0 : Int) g1) g2) (maxB (maxB (0 : Int) g3) g4)).bind fun t => match t with
    | (c7_0, c7_1) =>
     (m_mMq1 n (minB (maxB (0 : Int) g1) (maxB (0 : Int) g2)) (minB (maxB (0 : Int) g3) (maxB (0 : Int) g4))).bind fun t => match t with
     | (c8_0, c8_1) =>
      (m_mMq1 n (maxB (maxB (0 : Int) g1) g2) (-1)).bind fun t => match t with
      | (c9_0, c9_1) =>
       if ((c6_1 : Nat) : Int) = (Args.A.length : Int) then
        if ((c7_1 : Nat) : Int) = (Args.A.length : Int) then
         if ((c8_1 : Nat) : Int) = (Args.A.length : Int) then
          if ((c9_1 : Nat) : Int) = (Args.A.length : Int) then
           (m_V_1 n c6_0 c6_1 c7_0 c7_1 c8_0 c8_1 c9_0 c9_1 0).bind fun _ =>
           some ()
          else
           none
         else
          none
        else
         none
       else
        none
  else
   some ()
 else
  some ()
theorem m_V_ok (n : Nat) (g1 : Int) (g2 : Int) (g3 : Int) (g4 : Int) (r : Unit) (h : m_V n g1 g2 g3 g4 = some r) : Gv P (.func 3) (A_V g1 g2 g3 g4) (H_V g1 g2 g3 g4) (V_V g1 g2 g3 g4 r) (R_V g1 g2 g3 g4 r) := by
 unfold m_V at h
 obtain ⟨_, hc1, h⟩ := oB h
 obtain ⟨c2_, hc2, h⟩ := oB h
 by_cases hc3 : c2_ = true
 ·rw [if_pos hc3] at h
  obtain ⟨c4_, hc4, h⟩ := oB h
  by_cases hc5 : c4_ = 0
  ·rw [if_pos hc5] at h
   obtain ⟨⟨c6_0, c6_1⟩, hc6, h⟩ := oB h
   dsimp only at h
   obtain ⟨⟨c7_0, c7_1⟩, hc7, h⟩ := oB h
   dsimp only at h
   obtain ⟨⟨c8_0, c8_1⟩, hc8, h⟩ := oB h
   dsimp only at h
   obtain ⟨⟨c9_0, c9_1⟩, hc9, h⟩ := oB h
   dsimp only at h
   by_cases hc10 : ((c6_1 : Nat) : Int) = (Args.A.length : Int)
   ·rw [if_pos hc10] at h
    by_cases hc11 : ((c7_1 : Nat) : Int) = (Args.A.length : Int)
    ·rw [if_pos hc11] at h
     by_cases hc12 : ((c8_1 : Nat) : Int) = (Args.A.length : Int)
     ·rw [if_pos hc12] at h
      by_cases hc13 : ((c9_1 : Nat) : Int) = (Args.A.length : Int)
      ·rw [if_pos hc13] at h
       obtain ⟨_, hc14, h⟩ := oB h
       obtain rfl := oI h; exact (runF2 hm (L := lT [(93, ⟨⟨[0, 11, 12, 13, 14, 15], [(0, 0, true), (1, 1, true), (2, 2, true), (3, 3, true)], 4, 0⟩, (X_V_1 c6_0 c6_1 c7_0 c7_1 c8_0 c8_1 c9_0 c9_1 ()).1, (X_V_1 c6_0 c6_1 c7_0 c7_1 c8_0 c8_1 c9_0 c9_1 ()).2⟩)]) ⟨[10], [], 0, 0⟩ (yy 4 (.call ⟨0, [], (Value.bool true), Ax.h0, []⟩) <|
ww (qbk_ n  () hc1) <|
yy 10 (.call (C_LPq1 120 c2_ [] [])) <|
ww (qnc_ n 120 c2_ hc2) <|
yy 11 (vf) <|
ww (p := (Value.bool (!c2_)) = (Value.bool false)) (vBn hc3) <|
yy 14 (.call (C_RCheckq1  c4_ [] [])) <|
ww (qir_ n  c4_ hc4) <|
zz 15 (xnF hc5) <|
yy 44 (.call (C_mMq1 (maxB (maxB (0 : Int) g1) g2) (minB (maxB (0 : Int) g3) (maxB (0 : Int) g4)) (c6_0, c6_1) [] [(0, 0, true)])) <|
ww (qjh_ n (maxB (maxB (0 : Int) g1) g2) (minB (maxB (0 : Int) g3) (maxB (0 : Int) g4)) (c6_0, c6_1) hc6) <|
ww (qb_ c6_0 3) <|
yy 48 (.call (C_mMq1 (maxB (maxB (0 : Int) g1) g2) (maxB (maxB (0 : Int) g3) g4) (c7_0, c7_1) [] [(1, 0, true)])) <|
ww (qjh_ n (maxB (maxB (0 : Int) g1) g2) (maxB (maxB (0 : Int) g3) g4) (c7_0, c7_1) hc7) <|
ww (qb_ c7_0 3) <|
yy 52 (.call (C_mMq1 (minB (maxB (0 : Int) g1) (maxB (0 : Int) g2)) (minB (maxB (0 : Int) g3) (maxB (0 : Int) g4)) (c8_0, c8_1) [] [(2, 0, true)])) <|
ww (qjh_ n (minB (maxB (0 : Int) g1) (maxB (0 : Int) g2)) (minB (maxB (0 : Int) g3) (maxB (0 : Int) g4)) (c8_0, c8_1) hc8) <|
ww (qb_ c8_0 3) <|
yy 55 (.call (C_mMq1 (maxB (maxB (0 : Int) g1) g2) (-1) (c9_0, c9_1) [] [(3, 0, true)])) <|
ww (qjh_ n (maxB (maxB (0 : Int) g1) g2) (-1) (c9_0, c9_1) hc9) <|
ww (qb_ c9_0 3) <|
zz 66 (xnF hc10) <|
zz 72 (xnF hc11) <|
zz 79 (xnF hc12) <|
zz 86 (xnF hc13) <|
ww (m_V_1_ok n (rnd := none) c6_0 c6_1 c7_0 c7_1 c8_0 c8_1 c9_0 c9_1 0 () hc14) <|
ww (qb_ c6_0 3) <|
ww (qb_ c7_0 3) <|
ww (qb_ c8_0 3) <|
ww (qb_ c9_0 3) ee) (by kernel_rfl))
      ·rw [if_neg hc13] at h
       cases h
     ·rw [if_neg hc12] at h
      cases h
    ·rw [if_neg hc11] at h
     cases h
   ·rw [if_neg hc10] at h
    cases h
  ·rw [if_neg hc5] at h
   obtain rfl := oI h; exact (runF2 hm (L := lT []) ⟨[10], [], 0, 0⟩ (yy 4 (.call ⟨0, [], (Value.bool true), Ax.h0, []⟩) <|
ww (qbk_ n  () hc1) <|
yy 10 (.call (C_LPq1 120 c2_ [] [])) <|
ww (qnc_ n 120 c2_ hc2) <|
yy 11 (vf) <|
ww (p := (Value.bool (!c2_)) = (Value.bool false)) (vBn hc3) <|
yy 14 (.call (C_RCheckq1  c4_ [] [])) <|
ww (qir_ n  c4_ hc4) <|
zz 15 (xnT hc5) ee) (by kernel_rfl))
 ·rw [if_neg hc3] at h
  obtain rfl := oI h; exact (runF2 hm (L := lT []) ⟨[10], [], 0, 0⟩ (yy 4 (.call ⟨0, [], (Value.bool true), Ax.h0, []⟩) <|
ww (qbk_ n  () hc1) <|
yy 10 (.call (C_LPq1 120 c2_ [] [])) <|
ww (qnc_ n 120 c2_ hc2) <|
yy 11 (vt) <|
ww (p := (Value.bool (!c2_)) = (Value.bool true)) (vBn (Bool.eq_false_iff.2 hc3)) ee) (by kernel_rfl))

end Go.Proofs.YtmjibnlojmdcgaaGreatDoor.mlt19
