/-
  What functions do, told by pure functions. No condition.
-/
import Derived.Test.YtgiceoflfmmlcaaDoorRkxATold
set_option linter.unusedSimpArgs false
set_option linter.unusedVariables false
set_option linter.unusedSectionVars false
set_option linter.unnecessarySimpa false
set_option maxRecDepth 100000
noncomputable section
namespace Go.Proofs.YtgiceoflfmmlcaaDoor.rkx02
open Go Go.Proofs.YtgiceoflfmmlcaaDoor Ax
variable [Args]
def qlu_ (a0 : WL rw_iuuuuL) (a1 : ByteArray) (r : Bool) : Value := match r with
 | o0 => (bO o0)
def qlv_ (a0 : WL rw_iuuuuL) (a1 : ByteArray) (r : Bool) : AH := match r with
 | o0 => ⟨sB [], 0, 0⟩
abbrev qqt_ (a0 : WL rw_iuuuuL) (a1 : ByteArray) (r : Bool) : Prop := Gv P (.func 8) [(wlV a0), (Value.string a1)] ⟨sB [], 0, 0⟩ (qlu_ a0 a1 r) (qlv_ a0 a1 r)
abbrev qh_ (a0 : WL rw_iuuuuL) (a1 : ByteArray) (r : Bool) (ins outs : BL) : CallA := ⟨0, ins, qlu_ a0 a1 r, qlv_ a0 a1 r, outs⟩
def qe4_ (x0 : WL rw_iuuuuL) (x1 : ByteArray) (x2 : Int) (x3 : List (Bool)) (x4 : Nat) (x9 : Int) (st : List (Bool) × Nat × List (Bool) × Nat × Int) : XSt := match st with
 | (x5, x6, x7, x8, x10) => (sT 64 [(0, (wlV x0)), (1, (Value.string x1)), (5, (i6 x2)), (6, (sN 0 0 x4 x4)), (7, (sN 1 0 x6 x6)), (8, (sN 2 0 x8 x8)), (40, (i6 x9)), (41, (i6 x10))], [], ⟨sB [(0, (cB (rows rw_b x3) 4)), (1, (cB (rows rw_b x5) 4)), (2, (cB (rows rw_b x7) 4))], 3, 0⟩)
def qd0_ (x0 : WL rw_iuuuuL) (x1 : ByteArray) (x2 : Int) (x3 : List (Bool)) (x4 : Nat) (x9 : Int) (r : List (Bool) × Nat) : Ex × XSt := match r with
 | (z0, z1) => (.exit 0, (sT 64 [(5, (i6 x2)), (7, (sN 0 0 z1 z1))], [], ⟨sB [(0, (cB (rows rw_b z0) 4))], 1, 0⟩))
abbrev qn6_ (rnd : Option Nat) (x0 : WL rw_iuuuuL) (x1 : ByteArray) (x2 : Int) (x3 : List (Bool)) (x4 : Nat) (x9 : Int) (st : List (Bool) × Nat × List (Bool) × Nat × Int) (c : Ex × XSt) : Prop := CG P rnd (fnN P 8) 0 (qbl_ P 8 [false, false, true, false, true, true, true, true, true, true, true, true, true]) (qe4_ x0 x1 x2 x3 x4 x9 st) c
abbrev qn7_ (rd : Option Nat) (x0 : WL rw_iuuuuL) (x1 : ByteArray) (x2 : Int) (x3 : List (Bool)) (x4 : Nat) (x9 : Int) (st : List (Bool) × Nat × List (Bool) × Nat × Int) (r : List (Bool) × Nat) : Prop := CG P rd (fnN P 8) 0 (qbl_ P 8 [false, true, false, true, true, true, true, true, true, true, true, true]) (qe4_ x0 x1 x2 x3 x4 x9 st) (qd0_ x0 x1 x2 x3 x4 x9 r)
def qcl_ (n : Nat) (x0 : WL rw_iuuuuL) (x1 : ByteArray) (x2 : Int) (x3 : List (Bool)) (x4 : Nat) (x9 : Int) (st : List (Bool) × Nat × List (Bool) × Nat × Int) : Option ((List (Bool) × Nat × List (Bool) × Nat × Int) ⊕ (List (Bool) × Nat)) := match st with
 | (x5, x6, x7, x8, x10) =>
  if x10 < x9 then
   if 0 ≤ x10 ∧ x10 < (((x1).size : Nat) : Int) then
    (qg2_ n x0 x3 x4 x4 x7 x8 x8 (byteAt x1 (x10).toNat)).bind fun y3_ =>
    if 0 ≤ (((x0).l.length : Nat) : Int) then
     if ((((x0).l.length : Nat) : Int)).toNat * 1 ≤ 140737488355328 then
      (qej_ n x0 x3 x4 x4 (List.replicate ((((x0).l.length : Nat) : Int)).toNat (false)) (((((x0).l.length : Nat) : Int)).toNat) (((((x0).l.length : Nat) : Int)).toNat) y3_ (((((x0).l.length : Nat) : Int)).toNat) (((((x0).l.length : Nat) : Int)).toNat)).bind fun y6_ =>
      some (.inl (y3_, (((((x0).l.length : Nat) : Int)).toNat), y6_, (((((x0).l.length : Nat) : Int)).toNat), (w64 (x10 + 1))))
     else none
    else none
   else none
  else
   some (.inr (x5, x6))
def qgr_ (n : Nat) (x0 : WL rw_iuuuuL) (x1 : ByteArray) (x2 : Int) (x3 : List (Bool)) (x4 : Nat) (x9 : Int) (st : List (Bool) × Nat × List (Bool) × Nat × Int) : Option (List (Bool) × Nat) := iterM (qcl_ n x0 x1 x2 x3 x4 x9) n st
theorem qj3_ (n : Nat) {rnd : Option Nat} (x0 : WL rw_iuuuuL) (x1 : ByteArray) (x2 : Int) (x3 : List (Bool)) (x4 : Nat) (x9 : Int) (st : List (Bool) × Nat × List (Bool) × Nat × Int) (o : (List (Bool) × Nat × List (Bool) × Nat × Int) ⊕ (List (Bool) × Nat)) (h : qcl_ n x0 x1 x2 x3 x4 x9 st = some o) : qn6_ rnd x0 x1 x2 x3 x4 x9 st (Sum.elim (fun s => (.normal, qe4_ x0 x1 x2 x3 x4 x9 s)) (fun r => qd0_ x0 x1 x2 x3 x4 x9 r) o) := by
 obtain ⟨x5, x6, x7, x8, x10⟩ := st
 unfold qcl_ at h
 dsimp only at h
 by_cases hy1 : x10 < x9
 ·rw [if_pos hy1] at h
  obtain ⟨hy2, h⟩ := gd h
  obtain ⟨y3_, hy3, h⟩ := oB h
  obtain ⟨hy4, h⟩ := gd h
  obtain ⟨hy5, h⟩ := gd h
  obtain ⟨y6_, hy6, h⟩ := oB h
  obtain rfl := oI h
  exact runC2 hm (kW [0, 1, 5, 6, 7, 8, 40, 41] [(0, 0, true), (1, 3, true), (2, 4, true)] 3 0) (zz 1 (xdT hy1) <|
   yy 15 (.pur (Value.int .u8 (byteAt x1 (x10).toNat))) <|
   ww (p := qoc_ P 9 (Value.string x1) (i6 x10) Ax.h0 = some ((Value.int .u8 (byteAt x1 (x10).toNat)), Ax.h0)) (ixStr (by kernel_rfl) hy2) <|
   yy 16 (.call (C_regexreadq1 x0 x3 x4 x4 x7 x8 x8 (byteAt x1 (x10).toNat) y3_ [(0, 0, true), (1, 2, true)] [(3, 2, true)])) <|
   ww (qqs_ n x0 x3 x4 x4 x7 x8 x8 (byteAt x1 (x10).toNat) y3_ hy3) <|
   ww (qa_ rwf_b x3 4) <|
   ww (qa_ rwf_b x7 4) <|
   ww (qa_ rwf_b y3_ 4) <|
   yy 21 (.mk ((((x0).l.length : Nat) : Int)).toNat (rows rw_b (List.replicate ((((x0).l.length : Nat) : Int)).toNat (false)))) <|
   ww (p := natOf (i6 (((x0).l.length : Nat) : Int)) = some ((((x0).l.length : Nat) : Int)).toNat) (qcr_ hy4) <|
   ww (p := natOf (i6 (((x0).l.length : Nat) : Int)) = some ((((x0).l.length : Nat) : Int)).toNat) (qcr_ hy4) <|
   ww (p := fits ((((x0).l.length : Nat) : Int)).toNat 1 = true) (fits_ok hy5 (by omega)) <|
   ww (p := isZ8 [(bO false)] = false) (rfl) <|
   ww (p := reps [(bO false)] ((((x0).l.length : Nat) : Int)).toNat = (rows rw_b (List.replicate ((((x0).l.length : Nat) : Int)).toNat (false)))) (qi3_ rw_b (false) _ rfl _) <|
   yy 27 (.call (qmh_ x0 x3 x4 x4 (List.replicate ((((x0).l.length : Nat) : Int)).toNat (false)) (((((x0).l.length : Nat) : Int)).toNat) (((((x0).l.length : Nat) : Int)).toNat) y3_ (((((x0).l.length : Nat) : Int)).toNat) (((((x0).l.length : Nat) : Int)).toNat) y6_ [(0, 0, true), (1, 4, true), (2, 3, true)] [(0, 0, true), (4, 1, true), (3, 2, true)])) <|
   ww (qj2_ n x0 x3 x4 x4 (List.replicate ((((x0).l.length : Nat) : Int)).toNat (false)) (((((x0).l.length : Nat) : Int)).toNat) (((((x0).l.length : Nat) : Int)).toNat) y3_ (((((x0).l.length : Nat) : Int)).toNat) (((((x0).l.length : Nat) : Int)).toNat) y6_ hy6) <|
   ww (qa_ rwf_b x3 4) <|
   ww (qa_ rwf_b (List.replicate ((((x0).l.length : Nat) : Int)).toNat (false)) 4) <|
   ww (qa_ rwf_b y3_ 4) <|
   ww (qa_ rwf_b x3 4) <|
   ww (qa_ rwf_b y6_ 4) <|
   ww (qa_ rwf_b y3_ 4) <|
   ww (qa_ rwf_b x3 4) <|
   ww (qa_ rwf_b y3_ 4) <|
   ww (qa_ rwf_b y6_ 4) <|
   ee) (by kernel_rfl)
 ·rw [if_neg hy1] at h
  obtain rfl := oI h
  exact runC2 hm (kW [5, 7] [(0, 1, true)] 1 0) (zz 1 (xdF hy1) <|
   ww (qa_ rwf_b x5 4) <|
   ee) (by kernel_rfl)
theorem ql5_ (n : Nat) {rnd : Option Nat} (x0 : WL rw_iuuuuL) (x1 : ByteArray) (x2 : Int) (x3 : List (Bool)) (x4 : Nat) (x9 : Int) (st : List (Bool) × Nat × List (Bool) × Nat × Int) (r : List (Bool) × Nat) (h : qgr_ n x0 x1 x2 x3 x4 x9 st = some r) : qn7_ rnd x0 x1 x2 x3 x4 x9 st r :=
 CG.iter (b := qbl_ P 8 [false, false, true, false, true, true, true, true, true, true, true, true, true]) (by kernel_rfl) (body := qcl_ n x0 x1 x2 x3 x4 x9) (S := qe4_ x0 x1 x2 x3 x4 x9) (X := qd0_ x0 x1 x2 x3 x4 x9)
  (fun s s' h => qj3_ n x0 x1 x2 x3 x4 x9 s (.inl s') h)
  (fun s r h => qj3_ n x0 x1 x2 x3 x4 x9 s (.inr r) h)
  (fun r => by intro hx; cases hx) h
def qd_ (n : Nat) (a0 : WL rw_iuuuuL) (a1 : ByteArray) : Option (Bool) :=
 (qdr_ n a0).bind fun c1_ =>
 if c1_ = 0 then
  ((some (w64 ((((a0).l.length : Nat) : Int) - 1)))).bind fun c3_ =>
  (qdd_ n a0).bind fun c4_ =>
  if 0 ≤ (((a0).l.length : Nat) : Int) then
   if ((((a0).l.length : Nat) : Int)).toNat * 1 ≤ 140737488355328 then
    if 0 ≤ c3_ ∧ c3_ < ((((((a0).l.length : Nat) : Int)).toNat : Nat) : Int) then
     if (c3_).toNat < ((List.replicate ((((a0).l.length : Nat) : Int)).toNat (false))).length then
      (qej_ n a0 c4_ (((((a0).l.length : Nat) : Int)).toNat) (((((a0).l.length : Nat) : Int)).toNat) (((List.replicate ((((a0).l.length : Nat) : Int)).toNat (false))).set (c3_).toNat true) (((((a0).l.length : Nat) : Int)).toNat) (((((a0).l.length : Nat) : Int)).toNat) (List.replicate ((((a0).l.length : Nat) : Int)).toNat (false)) (((((a0).l.length : Nat) : Int)).toNat) (((((a0).l.length : Nat) : Int)).toNat)).bind fun c9_ =>
      if 0 ≤ c3_ ∧ c3_ < (((((((a0).l.length : Nat) : Int)).toNat) : Nat) : Int) then
       if (c3_).toNat < (c4_).length then
        ((some ((c4_).getD (c3_).toNat (false)))).bind fun c12_ =>
        (qgr_ n a0 a1 c3_ c4_ (((((a0).l.length : Nat) : Int)).toNat) (((a1).size : Nat) : Int) ((((List.replicate ((((a0).l.length : Nat) : Int)).toNat (false))).set (c3_).toNat c12_), (((((a0).l.length : Nat) : Int)).toNat), c9_, (((((a0).l.length : Nat) : Int)).toNat), 0)).bind fun t => match t with
        | (c13_0, c13_1) =>
         if 0 ≤ c3_ ∧ c3_ < ((c13_1 : Nat) : Int) then
          if (c3_).toNat < (c13_0).length then
           ((some ((c13_0).getD (c3_).toNat (false)))).bind fun c16_ =>
           some c16_
          else none
         else none
       else none
      else none
     else none
    else none
   else none
  else none
 else
  some false
theorem qe_ (n : Nat) (a0 : WL rw_iuuuuL) (a1 : ByteArray) (r : Bool) (h : qd_ n a0 a1 = some r) : qqt_ a0 a1 r := by
 unfold qd_ at h
 obtain ⟨c1_, hc1, h⟩ := oB h
 have k0 := fun {A L l} (k : PL A L l) => yy 5 (.call (qhf_ a0 c1_ [] [])) <|
  ww (qfo_ n a0 c1_ hc1) <|
  k
 by_cases hc2 : c1_ = 0
 ·rw [if_pos hc2] at h
  obtain ⟨c3_, hc3, h⟩ := oB h
  obtain ⟨c4_, hc4, h⟩ := oB h
  obtain ⟨hc5, h⟩ := gd h
  obtain ⟨hc6, h⟩ := gd h
  obtain ⟨hc7, h⟩ := gd h
  obtain ⟨hc8, h⟩ := gd h
  obtain ⟨c9_, hc9, h⟩ := oB h
  obtain ⟨hc10, h⟩ := gd h
  obtain ⟨hc11, h⟩ := gd h
  obtain ⟨c12_, hc12, h⟩ := oB h
  obtain ⟨⟨c13_0, c13_1⟩, hc13, h⟩ := oB h
  dsimp only at h
  obtain ⟨hc14, h⟩ := gd h
  obtain ⟨hc15, h⟩ := gd h
  obtain ⟨c16_, hc16, h⟩ := oB h
  obtain rfl := oI h
  exact runF2 hm (kW [4] [] 0 0) (k0 <|
   zz 6 (xnF hc2) <|
   zz 11 (xnm hc3) <|
   yy 15 (.call (qjz_ a0 c4_ [] [(0, 0, true)])) <|
   ww (qhb_ n a0 c4_ hc4) <|
   ww (qa_ rwf_b c4_ 4) <|
   yy 20 (.mk ((((a0).l.length : Nat) : Int)).toNat (rows rw_b (List.replicate ((((a0).l.length : Nat) : Int)).toNat (false)))) <|
   ww (p := natOf (i6 (((a0).l.length : Nat) : Int)) = some ((((a0).l.length : Nat) : Int)).toNat) (qcr_ hc5) <|
   ww (p := natOf (i6 (((a0).l.length : Nat) : Int)) = some ((((a0).l.length : Nat) : Int)).toNat) (qcr_ hc5) <|
   ww (p := fits ((((a0).l.length : Nat) : Int)).toNat 1 = true) (fits_ok hc6 (by omega)) <|
   ww (p := isZ8 [(bO false)] = false) (rfl) <|
   ww (p := reps [(bO false)] ((((a0).l.length : Nat) : Int)).toNat = (rows rw_b (List.replicate ((((a0).l.length : Nat) : Int)).toNat (false)))) (qi3_ rw_b (false) _ rfl _) <|
   yy 25 (.mk ((((a0).l.length : Nat) : Int)).toNat (rows rw_b (List.replicate ((((a0).l.length : Nat) : Int)).toNat (false)))) <|
   ww (p := natOf (i6 (((a0).l.length : Nat) : Int)) = some ((((a0).l.length : Nat) : Int)).toNat) (qcr_ hc5) <|
   ww (p := natOf (i6 (((a0).l.length : Nat) : Int)) = some ((((a0).l.length : Nat) : Int)).toNat) (qcr_ hc5) <|
   ww (p := fits ((((a0).l.length : Nat) : Int)).toNat 1 = true) (fits_ok hc6 (by omega)) <|
   ww (p := isZ8 [(bO false)] = false) (rfl) <|
   ww (p := reps [(bO false)] ((((a0).l.length : Nat) : Int)).toNat = (rows rw_b (List.replicate ((((a0).l.length : Nat) : Int)).toNat (false)))) (qi3_ rw_b (false) _ rfl _) <|
   zz 30 (xk7 2 ((((a0).l.length : Nat) : Int)).toNat hc7) <|
   yy 31 (.sto (layT (rows rw_b (((List.replicate ((((a0).l.length : Nat) : Int)).toNat (false))).set (c3_).toNat true)))) <|
   ww (p := ∃ old, rdT (layT (rows rw_b (List.replicate ((((a0).l.length : Nat) : Int)).toNat (false)))) 1 ((c3_).toNat * 1) = some old) (Exists.elim (qbi_ rwf_b (false) (i := (c3_).toNat) (j := 0) (l := [(bO true)]) true ((c3_).toNat * 1) rfl (hc8) (Nat.le_of_ble_eq_true rfl) rfl) fun o h => ⟨o, h.1⟩) <|
   ww (p := layL [(bO true)] ((c3_).toNat * 1) (layT (rows rw_b (List.replicate ((((a0).l.length : Nat) : Int)).toNat (false)))) = layT (rows rw_b (((List.replicate ((((a0).l.length : Nat) : Int)).toNat (false))).set (c3_).toNat true))) (Exists.elim (qbi_ rwf_b (false) (i := (c3_).toNat) (j := 0) (l := [(bO true)]) true ((c3_).toNat * 1) rfl (hc8) (Nat.le_of_ble_eq_true rfl) rfl) fun o h => h.2) <|
   yy 37 (.call (qmh_ a0 c4_ (((((a0).l.length : Nat) : Int)).toNat) (((((a0).l.length : Nat) : Int)).toNat) (((List.replicate ((((a0).l.length : Nat) : Int)).toNat (false))).set (c3_).toNat true) (((((a0).l.length : Nat) : Int)).toNat) (((((a0).l.length : Nat) : Int)).toNat) (List.replicate ((((a0).l.length : Nat) : Int)).toNat (false)) (((((a0).l.length : Nat) : Int)).toNat) (((((a0).l.length : Nat) : Int)).toNat) c9_ [(0, 0, true), (1, 2, true), (2, 1, true)] [(0, 0, true), (2, 1, true), (1, 2, true)])) <|
   ww (qj2_ n a0 c4_ (((((a0).l.length : Nat) : Int)).toNat) (((((a0).l.length : Nat) : Int)).toNat) (((List.replicate ((((a0).l.length : Nat) : Int)).toNat (false))).set (c3_).toNat true) (((((a0).l.length : Nat) : Int)).toNat) (((((a0).l.length : Nat) : Int)).toNat) (List.replicate ((((a0).l.length : Nat) : Int)).toNat (false)) (((((a0).l.length : Nat) : Int)).toNat) (((((a0).l.length : Nat) : Int)).toNat) c9_ hc9) <|
   ww (qa_ rwf_b c4_ 4) <|
   ww (qa_ rwf_b (((List.replicate ((((a0).l.length : Nat) : Int)).toNat (false))).set (c3_).toNat true) 4) <|
   ww (qa_ rwf_b (List.replicate ((((a0).l.length : Nat) : Int)).toNat (false)) 4) <|
   ww (qa_ rwf_b c4_ 4) <|
   ww (qa_ rwf_b c9_ 4) <|
   ww (qa_ rwf_b (List.replicate ((((a0).l.length : Nat) : Int)).toNat (false)) 4) <|
   zz 43 (xk7 0 (((((a0).l.length : Nat) : Int)).toNat) hc10) <|
   zz 44 (ok8 hc12 (hc11)) <|
   zz 45 (xk7 1 ((((a0).l.length : Nat) : Int)).toNat hc7) <|
   yy 46 (.sto (layT (rows rw_b (((List.replicate ((((a0).l.length : Nat) : Int)).toNat (false))).set (c3_).toNat c12_)))) <|
   ww (p := ∃ old, rdT (layT (rows rw_b (List.replicate ((((a0).l.length : Nat) : Int)).toNat (false)))) 1 ((c3_).toNat * 1) = some old) (Exists.elim (qbi_ rwf_b (false) (i := (c3_).toNat) (j := 0) (l := [(bO c12_)]) c12_ ((c3_).toNat * 1) rfl (hc8) (Nat.le_of_ble_eq_true rfl) rfl) fun o h => ⟨o, h.1⟩) <|
   ww (p := layL [(bO c12_)] ((c3_).toNat * 1) (layT (rows rw_b (List.replicate ((((a0).l.length : Nat) : Int)).toNat (false)))) = layT (rows rw_b (((List.replicate ((((a0).l.length : Nat) : Int)).toNat (false))).set (c3_).toNat c12_))) (Exists.elim (qbi_ rwf_b (false) (i := (c3_).toNat) (j := 0) (l := [(bO c12_)]) c12_ ((c3_).toNat * 1) rfl (hc8) (Nat.le_of_ble_eq_true rfl) rfl) fun o h => h.2) <|
   ww (ql5_ n (rnd := none) a0 a1 c3_ c4_ (((((a0).l.length : Nat) : Int)).toNat) (((a1).size : Nat) : Int) ((((List.replicate ((((a0).l.length : Nat) : Int)).toNat (false))).set (c3_).toNat c12_), (((((a0).l.length : Nat) : Int)).toNat), c9_, (((((a0).l.length : Nat) : Int)).toNat), 0) (c13_0, c13_1) hc13) <|
   ww (qa_ rwf_b c4_ 4) <|
   ww (qa_ rwf_b (((List.replicate ((((a0).l.length : Nat) : Int)).toNat (false))).set (c3_).toNat c12_) 4) <|
   ww (qa_ rwf_b c9_ 4) <|
   ll 53 ⟨(kW [0, 1, 5, 6, 7, 8, 40, 41] [(0, 0, true), (1, 1, true), (2, 2, true)] 3 0), (qd0_ a0 a1 c3_ c4_ (((((a0).l.length : Nat) : Int)).toNat) (((a1).size : Nat) : Int) (c13_0, c13_1)).1, (qd0_ a0 a1 c3_ c4_ (((((a0).l.length : Nat) : Int)).toNat) (((a1).size : Nat) : Int) (c13_0, c13_1)).2⟩ <|
   zz 57 (xk7 0 c13_1 hc14) <|
   zz 58 (ok8 hc16 (hc15)) <|
   ee) (by kernel_rfl)
 ·rw [if_neg hc2] at h
  obtain rfl := oI h
  exact runF2 hm (kW [4] [] 0 0) (k0 <|
   zz 6 (xnT hc2) <|
   ee) (by kernel_rfl)

def qk2_ (a0 : Int) (a1 : WL rw_iuuuuL) (a2 : WL rw_iuuuuL) : List Value := [(i6 a0), (sN 0 0 2 2)]
def qgj_ (a0 : Int) (a1 : WL rw_iuuuuL) (a2 : WL rw_iuuuuL) (r : WL rw_iuuuuL) : Value := match r with
 | o0 => (wlV o0)
def qgk_ (a0 : Int) (a1 : WL rw_iuuuuL) (a2 : WL rw_iuuuuL) (r : WL rw_iuuuuL) : AH := match r with
 | o0 => ⟨sB [], 1, 1⟩
abbrev qk3_ (a0 : Int) (a1 : WL rw_iuuuuL) (a2 : WL rw_iuuuuL) (r : WL rw_iuuuuL) : Prop := Gv P (.func 9) (qk2_ a0 a1 a2) ⟨sB [(0, (cB [(wlV a1), (wlV a2)] 23))], 1, 1⟩ (qgj_ a0 a1 a2 r) (qgk_ a0 a1 a2 r)
abbrev qek_ (a0 : Int) (a1 : WL rw_iuuuuL) (a2 : WL rw_iuuuuL) (r : WL rw_iuuuuL) (ins outs : BL) : CallA := ⟨1, ins, qgj_ a0 a1 a2 r, qgk_ a0 a1 a2 r, outs⟩
def qcw_ (x0 : WL rw_iuuuuL) (x1 : WL rw_iuuuuL) (x2 : Int) (x4 : Int) (x5 : Int) (x6 : Int) (x7 : Int) (x8 : Int) (x9 : Int) (x10 : NL) (st : List R6 × List Int × Int) : XSt := match st with
 | (x3, x11, x12) => (sT 72 [(0, (i6 x2)), (1, (sN 0 0 2 2)), (5, (slR x3 1 6)), (6, (Value.slice none 0 0)), (7, (i6 (0 : Int))), (8, (i6 (0 : Int))), (9, (i6 x4)), (10, (pN 2 0)), (11, (slN x11 3)), (12, (i6 x12))], [], ⟨sB [(0, (cB [(wlV x0), (wlV x1)] 23)), (1, (nblkR rw_iuuuuL x3 37)), (2, (cB [(i6 x5), (Value.int .u64 x6), (Value.int .u64 x7), (Value.int .u64 x8), (Value.int .u64 x9), (nlV x10)] 37)), (3, (nblk x11 3))], 4, 1⟩)
def qm_ (x0 : WL rw_iuuuuL) (x1 : WL rw_iuuuuL) (x2 : Int) (x4 : Int) (x5 : Int) (x6 : Int) (x7 : Int) (x8 : Int) (x9 : Int) (x10 : NL) (r : List R6 × NL) : Ex × XSt := match r with
 | (z0, z1) => (.exit 4, (sT 72 [(0, (i6 x2)), (1, (sN 0 0 2 2)), (5, (slR z0 1 6)), (6, (Value.slice none 0 0)), (7, (i6 (0 : Int))), (8, (i6 (0 : Int))), (9, (i6 x4)), (10, (pN 2 0)), (11, (nlV z1))], [], ⟨sB [(0, (cB [(wlV x0), (wlV x1)] 23)), (1, (nblkR rw_iuuuuL z0 37)), (2, (cB [(i6 x5), (Value.int .u64 x6), (Value.int .u64 x7), (Value.int .u64 x8), (Value.int .u64 x9), (nlV x10)] 37))], 3, 1⟩))
abbrev qj4_ (rnd : Option Nat) (x0 : WL rw_iuuuuL) (x1 : WL rw_iuuuuL) (x2 : Int) (x4 : Int) (x5 : Int) (x6 : Int) (x7 : Int) (x8 : Int) (x9 : Int) (x10 : NL) (st : List R6 × List Int × Int) (c : Ex × XSt) : Prop := CG P rnd (fnN P 9) 1 (qbl_ P 9 [false, false, true, false, true, true, false, false, true, false, false, true, false, true, false, false, true, false, false, true, false, true, true, true]) (qcw_ x0 x1 x2 x4 x5 x6 x7 x8 x9 x10 st) c
abbrev qj5_ (rd : Option Nat) (x0 : WL rw_iuuuuL) (x1 : WL rw_iuuuuL) (x2 : Int) (x4 : Int) (x5 : Int) (x6 : Int) (x7 : Int) (x8 : Int) (x9 : Int) (x10 : NL) (st : List R6 × List Int × Int) (r : List R6 × NL) : Prop := CG P rd (fnN P 9) 1 (qbl_ P 9 [false, true, false, true, true, false, false, true, false, false, true, false, true, false, false, true, false, false, true, false, true, true, true]) (qcw_ x0 x1 x2 x4 x5 x6 x7 x8 x9 x10 st) (qm_ x0 x1 x2 x4 x5 x6 x7 x8 x9 x10 r)
def qz_ (n : Nat) (x0 : WL rw_iuuuuL) (x1 : WL rw_iuuuuL) (x2 : Int) (x4 : Int) (x5 : Int) (x6 : Int) (x7 : Int) (x8 : Int) (x9 : Int) (x10 : NL) (st : List R6 × List Int × Int) : Option ((List R6 × List Int × Int) ⊕ (List R6 × NL)) := match st with
 | (x3, x11, x12) =>
  match x3 with
  | [] =>
   match x11 with
   | [] =>
    if x12 < (((x10).l.length : Nat) : Int) then
     if 0 ≤ x12 ∧ x12 < (((x10).l.length : Nat) : Int) then
      if (x12).toNat < ((x10).l).length then
       ((some (((x10).l).getD (x12).toNat 0))).bind fun y4_ =>
       some (.inl (([] : List R6), [(w64 (y4_ + 0))], (w64 (x12 + 1))))
      else none
     else none
    else
     some (.inr (([] : List R6), nl0))
   | x11a :: x11t =>
    if x12 < (((x10).l.length : Nat) : Int) then
     if 0 ≤ x12 ∧ x12 < (((x10).l.length : Nat) : Int) then
      if (x12).toNat < ((x10).l).length then
       ((some (((x10).l).getD (x12).toNat 0))).bind fun y4_ =>
       if (((x11a :: x11t)).length + 1) * 8 ≤ 140737488355328 then
        some (.inl (([] : List R6), ((x11a :: x11t) ++ [(w64 (y4_ + 0))]), (w64 (x12 + 1))))
       else none
      else none
     else none
    else
     if hy2 : (x11a :: x11t).length ≤ 140737488355328 then
      some (.inr (([] : List R6), (frzL (x11a :: x11t) hy2)))
     else none
  | x3a :: x3t =>
   match x11 with
   | [] =>
    if x12 < (((x10).l.length : Nat) : Int) then
     if 0 ≤ x12 ∧ x12 < (((x10).l.length : Nat) : Int) then
      if (x12).toNat < ((x10).l).length then
       ((some (((x10).l).getD (x12).toNat 0))).bind fun y4_ =>
       some (.inl ((x3a :: x3t), [(w64 (y4_ + 0))], (w64 (x12 + 1))))
      else none
     else none
    else
     some (.inr ((x3a :: x3t), nl0))
   | x11a :: x11t =>
    if x12 < (((x10).l.length : Nat) : Int) then
     if 0 ≤ x12 ∧ x12 < (((x10).l.length : Nat) : Int) then
      if (x12).toNat < ((x10).l).length then
       ((some (((x10).l).getD (x12).toNat 0))).bind fun y4_ =>
       if (((x11a :: x11t)).length + 1) * 8 ≤ 140737488355328 then
        some (.inl ((x3a :: x3t), ((x11a :: x11t) ++ [(w64 (y4_ + 0))]), (w64 (x12 + 1))))
       else none
      else none
     else none
    else
     if hy2 : (x11a :: x11t).length ≤ 140737488355328 then
      some (.inr ((x3a :: x3t), (frzL (x11a :: x11t) hy2)))
     else none
def qcx_ (n : Nat) (x0 : WL rw_iuuuuL) (x1 : WL rw_iuuuuL) (x2 : Int) (x4 : Int) (x5 : Int) (x6 : Int) (x7 : Int) (x8 : Int) (x9 : Int) (x10 : NL) (st : List R6 × List Int × Int) : Option (List R6 × NL) := iterM (qz_ n x0 x1 x2 x4 x5 x6 x7 x8 x9 x10) n st
theorem qf4_ (n : Nat) {rnd : Option Nat} (x0 : WL rw_iuuuuL) (x1 : WL rw_iuuuuL) (x2 : Int) (x4 : Int) (x5 : Int) (x6 : Int) (x7 : Int) (x8 : Int) (x9 : Int) (x10 : NL) (st : List R6 × List Int × Int) (o : (List R6 × List Int × Int) ⊕ (List R6 × NL)) (h : qz_ n x0 x1 x2 x4 x5 x6 x7 x8 x9 x10 st = some o) : qj4_ rnd x0 x1 x2 x4 x5 x6 x7 x8 x9 x10 st (Sum.elim (fun s => (.normal, qcw_ x0 x1 x2 x4 x5 x6 x7 x8 x9 x10 s)) (fun r => qm_ x0 x1 x2 x4 x5 x6 x7 x8 x9 x10 r) o) := by
 obtain ⟨x3, x11, x12⟩ := st
 unfold qz_ at h
 dsimp only at h
 cases x3 with
 | nil =>
  dsimp only at h
  cases x11 with
  | nil =>
   dsimp only at h
   by_cases hy1 : x12 < (((x10).l.length : Nat) : Int)
   ·rw [if_pos hy1] at h
    obtain ⟨hy2, h⟩ := gd h
    obtain ⟨hy3, h⟩ := gd h
    obtain ⟨y4_, hy4, h⟩ := oB h
    obtain rfl := oI h
    exact runC2 hm (kW [0, 1, 5, 6, 7, 8, 9, 10, 11, 12] [(0, 0, false), (2, 2, false), (3, 5, false)] 4 1) (zz 6 (xdT hy1) <|
     zz 14 (xk5 (Nat.add (x10).num 64) (x10).off (x10).cap hy2) <|
     zz 15 (nk6 hy4 hy3) <|
     ee) (by kernel_rfl)
   ·rw [if_neg hy1] at h
    obtain rfl := oI h
    exact runC2 hm ⟨[0, 1, 5, 6, 7, 8, 9, 10, 11], [(0, 0, false), (2, 2, false)], 3, 1, [], true, [], [], [11]⟩ (zz 6 (xdF hy1) <|
     ee) (by kernel_rfl)
  | cons x11a x11t =>
   dsimp only at h
   by_cases hy1 : x12 < (((x10).l.length : Nat) : Int)
   ·rw [if_pos hy1] at h
    obtain ⟨hy2, h⟩ := gd h
    obtain ⟨hy3, h⟩ := gd h
    obtain ⟨y4_, hy4, h⟩ := oB h
    obtain ⟨hy5, h⟩ := gd h
    obtain rfl := oI h
    exact runC2 hm (kW [0, 1, 5, 6, 7, 8, 9, 10, 11, 12] [(0, 0, false), (2, 2, false), (3, 5, true)] 4 1) (zz 6 (xdT hy1) <|
     zz 14 (xk5 (Nat.add (x10).num 64) (x10).off (x10).cap hy2) <|
     zz 15 (nk6 hy4 hy3) <|
     yy 19 (.app ⟨none, iv (x11a :: x11t), (iv ((x11a :: x11t) ++ [(w64 (y4_ + 0))])), (((x11a :: x11t) ++ [(w64 (y4_ + 0))])).length, false⟩) <|
     ww (p := 0 < 1) ((by decide)) <|
     ww (p := rdT (layT (iv (x11a :: x11t))) (Nat.mul ((x11a :: x11t)).length 1) 0 = some (iv (x11a :: x11t))) (iv_rd _) <|
     ww (p := fits (Nat.add ((x11a :: x11t)).length 1) 8 = true) (fits_ok hy5 (by have := hy5; show (_ : Nat) + _ ≤ _; omega)) <|
     ww (p := qq_ [(i6 (w64 (y4_ + 0)))] = true) (rfl) <|
     ww (p := qq_ (iv (x11a :: x11t)) = true) (qjd_ _) <|
     ww (p := iv (x11a :: x11t) ++ [(i6 (w64 (y4_ + 0)))] = (iv ((x11a :: x11t) ++ [(w64 (y4_ + 0))]))) (by simp [iv]) <|
     ww (p := Nat.add ((x11a :: x11t)).length 1 = (((x11a :: x11t) ++ [(w64 (y4_ + 0))])).length) (by simp) <|
     ww (qdt_ ((x11a :: x11t) ++ [(w64 (y4_ + 0))]) 3) <|
     ee) (by kernel_rfl)
   ·rw [if_neg hy1] at h
    obtain ⟨hy2, h⟩ := gdD h
    obtain rfl := oI h
    exact runC2 hm ⟨[0, 1, 5, 6, 7, 8, 9, 10, 11], [(0, 0, false), (2, 2, false)], 3, 1, [(3, Nat.add (2 * cod (x11a :: x11t) + 1) 64)], true, [], [], []⟩ (zz 6 (xdF hy1) <|
     ww (qou_ qcs_ qfd_ (x11a :: x11t)) <|
     ee) (by kernel_rfl)
 | cons x3a x3t =>
  dsimp only at h
  cases x11 with
  | nil =>
   dsimp only at h
   by_cases hy1 : x12 < (((x10).l.length : Nat) : Int)
   ·rw [if_pos hy1] at h
    obtain ⟨hy2, h⟩ := gd h
    obtain ⟨hy3, h⟩ := gd h
    obtain ⟨y4_, hy4, h⟩ := oB h
    obtain rfl := oI h
    exact runC2 hm (kW [0, 1, 5, 6, 7, 8, 9, 10, 11, 12] [(0, 0, false), (1, 1, true), (2, 2, false), (3, 5, false)] 4 1) (zz 6 (xdT hy1) <|
     zz 14 (xk5 (Nat.add (x10).num 64) (x10).off (x10).cap hy2) <|
     zz 15 (nk6 hy4 hy3) <|
     ww (qa_ rwf_iuuuuL (x3a :: x3t) 37) <|
     ee) (by kernel_rfl)
   ·rw [if_neg hy1] at h
    obtain rfl := oI h
    exact runC2 hm ⟨[0, 1, 5, 6, 7, 8, 9, 10, 11], [(0, 0, false), (1, 1, true), (2, 2, false)], 3, 1, [], true, [], [], [11]⟩ (zz 6 (xdF hy1) <|
     ww (qa_ rwf_iuuuuL (x3a :: x3t) 37) <|
     ww (qa_ rwf_iuuuuL (x3a :: x3t) 37) <|
     ee) (by kernel_rfl)
  | cons x11a x11t =>
   dsimp only at h
   by_cases hy1 : x12 < (((x10).l.length : Nat) : Int)
   ·rw [if_pos hy1] at h
    obtain ⟨hy2, h⟩ := gd h
    obtain ⟨hy3, h⟩ := gd h
    obtain ⟨y4_, hy4, h⟩ := oB h
    obtain ⟨hy5, h⟩ := gd h
    obtain rfl := oI h
    exact runC2 hm (kW [0, 1, 5, 6, 7, 8, 9, 10, 11, 12] [(0, 0, false), (1, 1, true), (2, 2, false), (3, 5, true)] 4 1) (zz 6 (xdT hy1) <|
     zz 14 (xk5 (Nat.add (x10).num 64) (x10).off (x10).cap hy2) <|
     zz 15 (nk6 hy4 hy3) <|
     yy 19 (.app ⟨none, iv (x11a :: x11t), (iv ((x11a :: x11t) ++ [(w64 (y4_ + 0))])), (((x11a :: x11t) ++ [(w64 (y4_ + 0))])).length, false⟩) <|
     ww (p := 0 < 1) ((by decide)) <|
     ww (p := rdT (layT (iv (x11a :: x11t))) (Nat.mul ((x11a :: x11t)).length 1) 0 = some (iv (x11a :: x11t))) (iv_rd _) <|
     ww (p := fits (Nat.add ((x11a :: x11t)).length 1) 8 = true) (fits_ok hy5 (by have := hy5; show (_ : Nat) + _ ≤ _; omega)) <|
     ww (p := qq_ [(i6 (w64 (y4_ + 0)))] = true) (rfl) <|
     ww (p := qq_ (iv (x11a :: x11t)) = true) (qjd_ _) <|
     ww (p := iv (x11a :: x11t) ++ [(i6 (w64 (y4_ + 0)))] = (iv ((x11a :: x11t) ++ [(w64 (y4_ + 0))]))) (by simp [iv]) <|
     ww (p := Nat.add ((x11a :: x11t)).length 1 = (((x11a :: x11t) ++ [(w64 (y4_ + 0))])).length) (by simp) <|
     ww (qa_ rwf_iuuuuL (x3a :: x3t) 37) <|
     ww (qdt_ ((x11a :: x11t) ++ [(w64 (y4_ + 0))]) 3) <|
     ee) (by kernel_rfl)
   ·rw [if_neg hy1] at h
    obtain ⟨hy2, h⟩ := gdD h
    obtain rfl := oI h
    exact runC2 hm ⟨[0, 1, 5, 6, 7, 8, 9, 10, 11], [(0, 0, false), (1, 1, true), (2, 2, false)], 3, 1, [(3, Nat.add (2 * cod (x11a :: x11t) + 1) 64)], true, [], [], []⟩ (zz 6 (xdF hy1) <|
     ww (qa_ rwf_iuuuuL (x3a :: x3t) 37) <|
     ww (qou_ qcs_ qfd_ (x11a :: x11t)) <|
     ww (qa_ rwf_iuuuuL (x3a :: x3t) 37) <|
     ee) (by kernel_rfl)
theorem qb4_ (n : Nat) {rnd : Option Nat} (x0 : WL rw_iuuuuL) (x1 : WL rw_iuuuuL) (x2 : Int) (x4 : Int) (x5 : Int) (x6 : Int) (x7 : Int) (x8 : Int) (x9 : Int) (x10 : NL) (st : List R6 × List Int × Int) (r : List R6 × NL) (h : qcx_ n x0 x1 x2 x4 x5 x6 x7 x8 x9 x10 st = some r) : qj5_ rnd x0 x1 x2 x4 x5 x6 x7 x8 x9 x10 st r :=
 CG.iter (b := qbl_ P 9 [false, false, true, false, true, true, false, false, true, false, false, true, false, true, false, false, true, false, false, true, false, true, true, true]) (by kernel_rfl) (body := qz_ n x0 x1 x2 x4 x5 x6 x7 x8 x9 x10) (S := qcw_ x0 x1 x2 x4 x5 x6 x7 x8 x9 x10) (X := qm_ x0 x1 x2 x4 x5 x6 x7 x8 x9 x10)
  (fun s s' h => qf4_ n x0 x1 x2 x4 x5 x6 x7 x8 x9 x10 s (.inl s') h)
  (fun s r h => qf4_ n x0 x1 x2 x4 x5 x6 x7 x8 x9 x10 s (.inr r) h)
  (fun r => by intro hx; cases hx) h
def qcy_ (x0 : WL rw_iuuuuL) (x1 : WL rw_iuuuuL) (x2 : Int) (x4 : List Int) (x5 : Int) (x6 : Int) (x7 : Int) (x8 : Int) (x9 : Int) (x10 : Int) (x11 : Int) (x12 : NL) (st : List R6 × List Int × Int) : XSt := match st with
 | (x3, x13, x14) => (sT 72 [(0, (i6 x2)), (1, (sN 0 0 2 2)), (5, (slR x3 1 6)), (6, (sN 2 0 (x4).length (Nat.add big 1))), (7, (i6 (1 : Int))), (8, (i6 x5)), (9, (i6 x6)), (10, (pN 3 0)), (11, (slN x13 4)), (12, (i6 x14))], [], ⟨sB [(0, (cB [(wlV x0), (wlV x1)] 23)), (1, (nblkR rw_iuuuuL x3 37)), (2, (cB (iv x4) 3)), (3, (cB [(i6 x7), (Value.int .u64 x8), (Value.int .u64 x9), (Value.int .u64 x10), (Value.int .u64 x11), (nlV x12)] 37)), (4, (nblk x13 3))], 5, 1⟩)
def qn_ (x0 : WL rw_iuuuuL) (x1 : WL rw_iuuuuL) (x2 : Int) (x4 : List Int) (x5 : Int) (x6 : Int) (x7 : Int) (x8 : Int) (x9 : Int) (x10 : Int) (x11 : Int) (x12 : NL) (r : List R6 × NL) : Ex × XSt := match r with
 | (z0, z1) => (.exit 4, (sT 72 [(0, (i6 x2)), (1, (sN 0 0 2 2)), (5, (slR z0 1 6)), (6, (sN 2 0 (x4).length (Nat.add big 1))), (7, (i6 (1 : Int))), (8, (i6 x5)), (9, (i6 x6)), (10, (pN 3 0)), (11, (nlV z1))], [], ⟨sB [(0, (cB [(wlV x0), (wlV x1)] 23)), (1, (nblkR rw_iuuuuL z0 37)), (2, (cB (iv x4) 3)), (3, (cB [(i6 x7), (Value.int .u64 x8), (Value.int .u64 x9), (Value.int .u64 x10), (Value.int .u64 x11), (nlV x12)] 37))], 4, 1⟩))
abbrev qj6_ (rnd : Option Nat) (x0 : WL rw_iuuuuL) (x1 : WL rw_iuuuuL) (x2 : Int) (x4 : List Int) (x5 : Int) (x6 : Int) (x7 : Int) (x8 : Int) (x9 : Int) (x10 : Int) (x11 : Int) (x12 : NL) (st : List R6 × List Int × Int) (c : Ex × XSt) : Prop := CG P rnd (fnN P 9) 1 (qbl_ P 9 [false, false, true, false, true, true, false, false, true, false, false, true, false, true, false, false, true, false, false, true, false, true, true, true]) (qcy_ x0 x1 x2 x4 x5 x6 x7 x8 x9 x10 x11 x12 st) c
abbrev qj7_ (rd : Option Nat) (x0 : WL rw_iuuuuL) (x1 : WL rw_iuuuuL) (x2 : Int) (x4 : List Int) (x5 : Int) (x6 : Int) (x7 : Int) (x8 : Int) (x9 : Int) (x10 : Int) (x11 : Int) (x12 : NL) (st : List R6 × List Int × Int) (r : List R6 × NL) : Prop := CG P rd (fnN P 9) 1 (qbl_ P 9 [false, true, false, true, true, false, false, true, false, false, true, false, true, false, false, true, false, false, true, false, true, true, true]) (qcy_ x0 x1 x2 x4 x5 x6 x7 x8 x9 x10 x11 x12 st) (qn_ x0 x1 x2 x4 x5 x6 x7 x8 x9 x10 x11 x12 r)
def q0_ (n : Nat) (x0 : WL rw_iuuuuL) (x1 : WL rw_iuuuuL) (x2 : Int) (x4 : List Int) (x5 : Int) (x6 : Int) (x7 : Int) (x8 : Int) (x9 : Int) (x10 : Int) (x11 : Int) (x12 : NL) (st : List R6 × List Int × Int) : Option ((List R6 × List Int × Int) ⊕ (List R6 × NL)) := match st with
 | (x3, x13, x14) =>
  match x3 with
  | [] =>
   match x13 with
   | [] =>
    if x14 < (((x12).l.length : Nat) : Int) then
     if 0 ≤ x14 ∧ x14 < (((x12).l.length : Nat) : Int) then
      if (x14).toNat < ((x12).l).length then
       ((some (((x12).l).getD (x14).toNat 0))).bind fun y4_ =>
       some (.inl (([] : List R6), [(w64 (y4_ + x5))], (w64 (x14 + 1))))
      else none
     else none
    else
     some (.inr (([] : List R6), nl0))
   | x13a :: x13t =>
    if x14 < (((x12).l.length : Nat) : Int) then
     if 0 ≤ x14 ∧ x14 < (((x12).l.length : Nat) : Int) then
      if (x14).toNat < ((x12).l).length then
       ((some (((x12).l).getD (x14).toNat 0))).bind fun y4_ =>
       if (((x13a :: x13t)).length + 1) * 8 ≤ 140737488355328 then
        some (.inl (([] : List R6), ((x13a :: x13t) ++ [(w64 (y4_ + x5))]), (w64 (x14 + 1))))
       else none
      else none
     else none
    else
     if hy2 : (x13a :: x13t).length ≤ 140737488355328 then
      some (.inr (([] : List R6), (frzL (x13a :: x13t) hy2)))
     else none
  | x3a :: x3t =>
   match x13 with
   | [] =>
    if x14 < (((x12).l.length : Nat) : Int) then
     if 0 ≤ x14 ∧ x14 < (((x12).l.length : Nat) : Int) then
      if (x14).toNat < ((x12).l).length then
       ((some (((x12).l).getD (x14).toNat 0))).bind fun y4_ =>
       some (.inl ((x3a :: x3t), [(w64 (y4_ + x5))], (w64 (x14 + 1))))
      else none
     else none
    else
     some (.inr ((x3a :: x3t), nl0))
   | x13a :: x13t =>
    if x14 < (((x12).l.length : Nat) : Int) then
     if 0 ≤ x14 ∧ x14 < (((x12).l.length : Nat) : Int) then
      if (x14).toNat < ((x12).l).length then
       ((some (((x12).l).getD (x14).toNat 0))).bind fun y4_ =>
       if (((x13a :: x13t)).length + 1) * 8 ≤ 140737488355328 then
        some (.inl ((x3a :: x3t), ((x13a :: x13t) ++ [(w64 (y4_ + x5))]), (w64 (x14 + 1))))
       else none
      else none
     else none
    else
     if hy2 : (x13a :: x13t).length ≤ 140737488355328 then
      some (.inr ((x3a :: x3t), (frzL (x13a :: x13t) hy2)))
     else none
def qcz_ (n : Nat) (x0 : WL rw_iuuuuL) (x1 : WL rw_iuuuuL) (x2 : Int) (x4 : List Int) (x5 : Int) (x6 : Int) (x7 : Int) (x8 : Int) (x9 : Int) (x10 : Int) (x11 : Int) (x12 : NL) (st : List R6 × List Int × Int) : Option (List R6 × NL) := iterM (q0_ n x0 x1 x2 x4 x5 x6 x7 x8 x9 x10 x11 x12) n st
theorem qf5_ (n : Nat) {rnd : Option Nat} (x0 : WL rw_iuuuuL) (x1 : WL rw_iuuuuL) (x2 : Int) (x4 : List Int) (x5 : Int) (x6 : Int) (x7 : Int) (x8 : Int) (x9 : Int) (x10 : Int) (x11 : Int) (x12 : NL) (st : List R6 × List Int × Int) (o : (List R6 × List Int × Int) ⊕ (List R6 × NL)) (h : q0_ n x0 x1 x2 x4 x5 x6 x7 x8 x9 x10 x11 x12 st = some o) : qj6_ rnd x0 x1 x2 x4 x5 x6 x7 x8 x9 x10 x11 x12 st (Sum.elim (fun s => (.normal, qcy_ x0 x1 x2 x4 x5 x6 x7 x8 x9 x10 x11 x12 s)) (fun r => qn_ x0 x1 x2 x4 x5 x6 x7 x8 x9 x10 x11 x12 r) o) := by
 obtain ⟨x3, x13, x14⟩ := st
 unfold q0_ at h
 dsimp only at h
 cases x3 with
 | nil =>
  dsimp only at h
  cases x13 with
  | nil =>
   dsimp only at h
   by_cases hy1 : x14 < (((x12).l.length : Nat) : Int)
   ·rw [if_pos hy1] at h
    obtain ⟨hy2, h⟩ := gd h
    obtain ⟨hy3, h⟩ := gd h
    obtain ⟨y4_, hy4, h⟩ := oB h
    obtain rfl := oI h
    exact runC2 hm (kW [0, 1, 5, 6, 7, 8, 9, 10, 11, 12] [(0, 0, false), (2, 2, true), (3, 3, false), (4, 6, false)] 5 1) (zz 6 (xdT hy1) <|
     zz 14 (xk5 (Nat.add (x12).num 64) (x12).off (x12).cap hy2) <|
     zz 15 (nk6 hy4 hy3) <|
     ww (qdt_ x4 3) <|
     ee) (by kernel_rfl)
   ·rw [if_neg hy1] at h
    obtain rfl := oI h
    exact runC2 hm ⟨[0, 1, 5, 6, 7, 8, 9, 10, 11], [(0, 0, false), (2, 2, true), (3, 3, false)], 4, 1, [], true, [], [], [11]⟩ (zz 6 (xdF hy1) <|
     ww (qdt_ x4 3) <|
     ww (qdt_ x4 3) <|
     ee) (by kernel_rfl)
  | cons x13a x13t =>
   dsimp only at h
   by_cases hy1 : x14 < (((x12).l.length : Nat) : Int)
   ·rw [if_pos hy1] at h
    obtain ⟨hy2, h⟩ := gd h
    obtain ⟨hy3, h⟩ := gd h
    obtain ⟨y4_, hy4, h⟩ := oB h
    obtain ⟨hy5, h⟩ := gd h
    obtain rfl := oI h
    exact runC2 hm (kW [0, 1, 5, 6, 7, 8, 9, 10, 11, 12] [(0, 0, false), (2, 2, true), (3, 3, false), (4, 6, true)] 5 1) (zz 6 (xdT hy1) <|
     zz 14 (xk5 (Nat.add (x12).num 64) (x12).off (x12).cap hy2) <|
     zz 15 (nk6 hy4 hy3) <|
     yy 19 (.app ⟨none, iv (x13a :: x13t), (iv ((x13a :: x13t) ++ [(w64 (y4_ + x5))])), (((x13a :: x13t) ++ [(w64 (y4_ + x5))])).length, false⟩) <|
     ww (p := 0 < 1) ((by decide)) <|
     ww (p := rdT (layT (iv (x13a :: x13t))) (Nat.mul ((x13a :: x13t)).length 1) 0 = some (iv (x13a :: x13t))) (iv_rd _) <|
     ww (p := fits (Nat.add ((x13a :: x13t)).length 1) 8 = true) (fits_ok hy5 (by have := hy5; show (_ : Nat) + _ ≤ _; omega)) <|
     ww (p := qq_ [(i6 (w64 (y4_ + x5)))] = true) (rfl) <|
     ww (p := qq_ (iv (x13a :: x13t)) = true) (qjd_ _) <|
     ww (p := iv (x13a :: x13t) ++ [(i6 (w64 (y4_ + x5)))] = (iv ((x13a :: x13t) ++ [(w64 (y4_ + x5))]))) (by simp [iv]) <|
     ww (p := Nat.add ((x13a :: x13t)).length 1 = (((x13a :: x13t) ++ [(w64 (y4_ + x5))])).length) (by simp) <|
     ww (qdt_ x4 3) <|
     ww (qdt_ ((x13a :: x13t) ++ [(w64 (y4_ + x5))]) 3) <|
     ee) (by kernel_rfl)
   ·rw [if_neg hy1] at h
    obtain ⟨hy2, h⟩ := gdD h
    obtain rfl := oI h
    exact runC2 hm ⟨[0, 1, 5, 6, 7, 8, 9, 10, 11], [(0, 0, false), (2, 2, true), (3, 3, false)], 4, 1, [(4, Nat.add (2 * cod (x13a :: x13t) + 1) 64)], true, [], [], []⟩ (zz 6 (xdF hy1) <|
     ww (qdt_ x4 3) <|
     ww (qou_ qcs_ qfd_ (x13a :: x13t)) <|
     ww (qdt_ x4 3) <|
     ee) (by kernel_rfl)
 | cons x3a x3t =>
  dsimp only at h
  cases x13 with
  | nil =>
   dsimp only at h
   by_cases hy1 : x14 < (((x12).l.length : Nat) : Int)
   ·rw [if_pos hy1] at h
    obtain ⟨hy2, h⟩ := gd h
    obtain ⟨hy3, h⟩ := gd h
    obtain ⟨y4_, hy4, h⟩ := oB h
    obtain rfl := oI h
    exact runC2 hm (kW [0, 1, 5, 6, 7, 8, 9, 10, 11, 12] [(0, 0, false), (1, 1, true), (2, 2, true), (3, 3, false), (4, 6, false)] 5 1) (zz 6 (xdT hy1) <|
     zz 14 (xk5 (Nat.add (x12).num 64) (x12).off (x12).cap hy2) <|
     zz 15 (nk6 hy4 hy3) <|
     ww (qa_ rwf_iuuuuL (x3a :: x3t) 37) <|
     ww (qdt_ x4 3) <|
     ee) (by kernel_rfl)
   ·rw [if_neg hy1] at h
    obtain rfl := oI h
    exact runC2 hm ⟨[0, 1, 5, 6, 7, 8, 9, 10, 11], [(0, 0, false), (1, 1, true), (2, 2, true), (3, 3, false)], 4, 1, [], true, [], [], [11]⟩ (zz 6 (xdF hy1) <|
     ww (qa_ rwf_iuuuuL (x3a :: x3t) 37) <|
     ww (qdt_ x4 3) <|
     ww (qa_ rwf_iuuuuL (x3a :: x3t) 37) <|
     ww (qdt_ x4 3) <|
     ee) (by kernel_rfl)
  | cons x13a x13t =>
   dsimp only at h
   by_cases hy1 : x14 < (((x12).l.length : Nat) : Int)
   ·rw [if_pos hy1] at h
    obtain ⟨hy2, h⟩ := gd h
    obtain ⟨hy3, h⟩ := gd h
    obtain ⟨y4_, hy4, h⟩ := oB h
    obtain ⟨hy5, h⟩ := gd h
    obtain rfl := oI h
    exact runC2 hm (kW [0, 1, 5, 6, 7, 8, 9, 10, 11, 12] [(0, 0, false), (1, 1, true), (2, 2, true), (3, 3, false), (4, 6, true)] 5 1) (zz 6 (xdT hy1) <|
     zz 14 (xk5 (Nat.add (x12).num 64) (x12).off (x12).cap hy2) <|
     zz 15 (nk6 hy4 hy3) <|
     yy 19 (.app ⟨none, iv (x13a :: x13t), (iv ((x13a :: x13t) ++ [(w64 (y4_ + x5))])), (((x13a :: x13t) ++ [(w64 (y4_ + x5))])).length, false⟩) <|
     ww (p := 0 < 1) ((by decide)) <|
     ww (p := rdT (layT (iv (x13a :: x13t))) (Nat.mul ((x13a :: x13t)).length 1) 0 = some (iv (x13a :: x13t))) (iv_rd _) <|
     ww (p := fits (Nat.add ((x13a :: x13t)).length 1) 8 = true) (fits_ok hy5 (by have := hy5; show (_ : Nat) + _ ≤ _; omega)) <|
     ww (p := qq_ [(i6 (w64 (y4_ + x5)))] = true) (rfl) <|
     ww (p := qq_ (iv (x13a :: x13t)) = true) (qjd_ _) <|
     ww (p := iv (x13a :: x13t) ++ [(i6 (w64 (y4_ + x5)))] = (iv ((x13a :: x13t) ++ [(w64 (y4_ + x5))]))) (by simp [iv]) <|
     ww (p := Nat.add ((x13a :: x13t)).length 1 = (((x13a :: x13t) ++ [(w64 (y4_ + x5))])).length) (by simp) <|
     ww (qa_ rwf_iuuuuL (x3a :: x3t) 37) <|
     ww (qdt_ x4 3) <|
     ww (qdt_ ((x13a :: x13t) ++ [(w64 (y4_ + x5))]) 3) <|
     ee) (by kernel_rfl)
   ·rw [if_neg hy1] at h
    obtain ⟨hy2, h⟩ := gdD h
    obtain rfl := oI h
    exact runC2 hm ⟨[0, 1, 5, 6, 7, 8, 9, 10, 11], [(0, 0, false), (1, 1, true), (2, 2, true), (3, 3, false)], 4, 1, [(4, Nat.add (2 * cod (x13a :: x13t) + 1) 64)], true, [], [], []⟩ (zz 6 (xdF hy1) <|
     ww (qa_ rwf_iuuuuL (x3a :: x3t) 37) <|
     ww (qdt_ x4 3) <|
     ww (qou_ qcs_ qfd_ (x13a :: x13t)) <|
     ww (qa_ rwf_iuuuuL (x3a :: x3t) 37) <|
     ww (qdt_ x4 3) <|
     ee) (by kernel_rfl)
theorem qb5_ (n : Nat) {rnd : Option Nat} (x0 : WL rw_iuuuuL) (x1 : WL rw_iuuuuL) (x2 : Int) (x4 : List Int) (x5 : Int) (x6 : Int) (x7 : Int) (x8 : Int) (x9 : Int) (x10 : Int) (x11 : Int) (x12 : NL) (st : List R6 × List Int × Int) (r : List R6 × NL) (h : qcz_ n x0 x1 x2 x4 x5 x6 x7 x8 x9 x10 x11 x12 st = some r) : qj7_ rnd x0 x1 x2 x4 x5 x6 x7 x8 x9 x10 x11 x12 st r :=
 CG.iter (b := qbl_ P 9 [false, false, true, false, true, true, false, false, true, false, false, true, false, true, false, false, true, false, false, true, false, true, true, true]) (by kernel_rfl) (body := q0_ n x0 x1 x2 x4 x5 x6 x7 x8 x9 x10 x11 x12) (S := qcy_ x0 x1 x2 x4 x5 x6 x7 x8 x9 x10 x11 x12) (X := qn_ x0 x1 x2 x4 x5 x6 x7 x8 x9 x10 x11 x12)
  (fun s s' h => qf5_ n x0 x1 x2 x4 x5 x6 x7 x8 x9 x10 x11 x12 s (.inl s') h)
  (fun s r h => qf5_ n x0 x1 x2 x4 x5 x6 x7 x8 x9 x10 x11 x12 s (.inr r) h)
  (fun r => by intro hx; cases hx) h
def qc0_ (x0 : WL rw_iuuuuL) (x1 : WL rw_iuuuuL) (x2 : Int) (st : List R6 × Int) : XSt := match st with
 | (x3, x4) => (sT 72 [(0, (i6 x2)), (1, (sN 0 0 2 2)), (5, (slR x3 1 6)), (6, (Value.slice none 0 0)), (7, (i6 (0 : Int))), (8, (i6 (0 : Int))), (9, (i6 x4))], [], ⟨sB [(0, (cB [(wlV x0), (wlV x1)] 23)), (1, (nblkR rw_iuuuuL x3 37))], 2, 1⟩)
def qbc_ (x0 : WL rw_iuuuuL) (x1 : WL rw_iuuuuL) (x2 : Int) (r : List R6) : Ex × XSt := match r with
 | z0 => (.exit 2, (sT 72 [(0, (i6 x2)), (1, (sN 0 0 2 2)), (5, (slR z0 1 6)), (6, (Value.slice none 0 0)), (7, (i6 (0 : Int)))], [], ⟨sB [(0, (cB [(wlV x0), (wlV x1)] 23)), (1, (nblkR rw_iuuuuL z0 37))], 2, 1⟩))
abbrev qj8_ (rnd : Option Nat) (x0 : WL rw_iuuuuL) (x1 : WL rw_iuuuuL) (x2 : Int) (st : List R6 × Int) (c : Ex × XSt) : Prop := CG P rnd (fnN P 9) 1 (qbl_ P 9 [false, false, true, false, true, false, false, true, false, false, true, false, true, true, true]) (qc0_ x0 x1 x2 st) c
abbrev qj9_ (rd : Option Nat) (x0 : WL rw_iuuuuL) (x1 : WL rw_iuuuuL) (x2 : Int) (st : List R6 × Int) (r : List R6) : Prop := CG P rd (fnN P 9) 1 (qbl_ P 9 [false, true, false, true, false, false, true, false, false, true, false, true, true, true]) (qc0_ x0 x1 x2 st) (qbc_ x0 x1 x2 r)
def qbd_ (n : Nat) (x0 : WL rw_iuuuuL) (x1 : WL rw_iuuuuL) (x2 : Int) (st : List R6 × Int) : Option ((List R6 × Int) ⊕ (List R6)) := match st with
 | (x3, x4) =>
  match x3 with
  | [] =>
   if x4 < (((x0).l.length : Nat) : Int) then
    if 0 ≤ x4 ∧ x4 < (((x0).l.length : Nat) : Int) then
     ((some (((x0).l).getD (x4).toNat (0, 0, 0, 0, 0, nl0)))).bind fun y3_ =>
     (qcx_ n x0 x1 x2 x4 (y3_.1) (y3_.2.1) (y3_.2.2.1) (y3_.2.2.2.1) (y3_.2.2.2.2.1) (y3_.2.2.2.2.2) (([] : List R6), ([] : List Int), 0)).bind fun t => match t with
     | (y4_0, y4_1) =>
      match y4_0 with
      | [] =>
       some (.inl ([((y3_.1), (y3_.2.1), (y3_.2.2.1), (y3_.2.2.2.1), (y3_.2.2.2.2.1), y4_1)], (w64 (x4 + 1))))
      | y4_0a :: y4_0t =>
       if (((y4_0a :: y4_0t)).length + 1) * 64 ≤ 140737488355328 then
        some (.inl (((y4_0a :: y4_0t) ++ [((y3_.1), (y3_.2.1), (y3_.2.2.1), (y3_.2.2.2.1), (y3_.2.2.2.2.1), y4_1)]), (w64 (x4 + 1))))
       else none
    else none
   else
    some (.inr ([] : List R6))
  | x3a :: x3t =>
   if x4 < (((x0).l.length : Nat) : Int) then
    if 0 ≤ x4 ∧ x4 < (((x0).l.length : Nat) : Int) then
     ((some (((x0).l).getD (x4).toNat (0, 0, 0, 0, 0, nl0)))).bind fun y3_ =>
     (qcx_ n x0 x1 x2 x4 (y3_.1) (y3_.2.1) (y3_.2.2.1) (y3_.2.2.2.1) (y3_.2.2.2.2.1) (y3_.2.2.2.2.2) ((x3a :: x3t), ([] : List Int), 0)).bind fun t => match t with
     | (y4_0, y4_1) =>
      match y4_0 with
      | [] =>
       some (.inl ([((y3_.1), (y3_.2.1), (y3_.2.2.1), (y3_.2.2.2.1), (y3_.2.2.2.2.1), y4_1)], (w64 (x4 + 1))))
      | y4_0a :: y4_0t =>
       if (((y4_0a :: y4_0t)).length + 1) * 64 ≤ 140737488355328 then
        some (.inl (((y4_0a :: y4_0t) ++ [((y3_.1), (y3_.2.1), (y3_.2.2.1), (y3_.2.2.2.1), (y3_.2.2.2.2.1), y4_1)]), (w64 (x4 + 1))))
       else none
    else none
   else
    some (.inr (x3a :: x3t))
def qd1_ (n : Nat) (x0 : WL rw_iuuuuL) (x1 : WL rw_iuuuuL) (x2 : Int) (st : List R6 × Int) : Option (List R6) := iterM (qbd_ n x0 x1 x2) n st
theorem qf6_ (n : Nat) {rnd : Option Nat} (x0 : WL rw_iuuuuL) (x1 : WL rw_iuuuuL) (x2 : Int) (st : List R6 × Int) (o : (List R6 × Int) ⊕ (List R6)) (h : qbd_ n x0 x1 x2 st = some o) : qj8_ rnd x0 x1 x2 st (Sum.elim (fun s => (.normal, qc0_ x0 x1 x2 s)) (fun r => qbc_ x0 x1 x2 r) o) := by
 obtain ⟨x3, x4⟩ := st
 unfold qbd_ at h
 dsimp only at h
 cases x3 with
 | nil =>
  dsimp only at h
  by_cases hy1 : x4 < (((x0).l.length : Nat) : Int)
  ·rw [if_pos hy1] at h
   obtain ⟨hy2, h⟩ := gd h
   obtain ⟨y3_, hy3, h⟩ := oB h
   obtain ⟨⟨y4_0, y4_1⟩, hy4, h⟩ := oB h
   dsimp only at h
   have k0 := fun {A L l} (k : PL A L l) => zz 8 (xdT hy1) <|
    zz 18 (xk1 (x0).num (x0).off (x0).cap hy2) <|
    zz 19 (lk4 hy3 (qlm_ hy2)) <|
    k
   cases y4_0 with
   | nil =>
    dsimp only at h
    obtain rfl := oI h
    exact runC2 hm (kW [0, 1, 5, 6, 7, 8, 9] [(0, 0, false), (1, 4, false)] 2 1) (k0 <|
     ww (qb4_ n (rnd := rnd) x0 x1 x2 x4 (y3_.1) (y3_.2.1) (y3_.2.2.1) (y3_.2.2.2.1) (y3_.2.2.2.2.1) (y3_.2.2.2.2.2) (([] : List R6), ([] : List Int), 0) (([] : List R6), y4_1) hy4) <|
     ll 28 ⟨(kW [0, 1, 5, 6, 7, 8, 9, 10, 11, 12] [(0, 0, false), (2, 2, false)] 4 1), (qm_ x0 x1 x2 x4 (y3_.1) (y3_.2.1) (y3_.2.2.1) (y3_.2.2.2.1) (y3_.2.2.2.2.1) (y3_.2.2.2.2.2) (([] : List R6), y4_1)).1, (qm_ x0 x1 x2 x4 (y3_.1) (y3_.2.1) (y3_.2.2.1) (y3_.2.2.2.1) (y3_.2.2.2.2.1) (y3_.2.2.2.2.2) (([] : List R6), y4_1)).2⟩ <|
     ee) (by kernel_rfl)
   | cons y4_0a y4_0t =>
    dsimp only at h
    obtain ⟨hy5, h⟩ := gd h
    obtain rfl := oI h
    exact runC2 hm (kW [0, 1, 5, 6, 7, 8, 9] [(0, 0, false), (1, 4, true)] 2 1) (k0 <|
     ww (qb4_ n (rnd := rnd) x0 x1 x2 x4 (y3_.1) (y3_.2.1) (y3_.2.2.1) (y3_.2.2.2.1) (y3_.2.2.2.2.1) (y3_.2.2.2.2.2) (([] : List R6), ([] : List Int), 0) ((y4_0a :: y4_0t), y4_1) hy4) <|
     ll 28 ⟨(kW [0, 1, 5, 6, 7, 8, 9, 10, 11, 12] [(0, 0, false), (2, 2, false)] 4 1), (qm_ x0 x1 x2 x4 (y3_.1) (y3_.2.1) (y3_.2.2.1) (y3_.2.2.2.1) (y3_.2.2.2.2.1) (y3_.2.2.2.2.2) ((y4_0a :: y4_0t), y4_1)).1, (qm_ x0 x1 x2 x4 (y3_.1) (y3_.2.1) (y3_.2.2.1) (y3_.2.2.2.1) (y3_.2.2.2.2.1) (y3_.2.2.2.2.2) ((y4_0a :: y4_0t), y4_1)).2⟩ <|
     yy 36 (.app ⟨none, rows rw_iuuuuL (y4_0a :: y4_0t), (rows rw_iuuuuL ((y4_0a :: y4_0t) ++ [((y3_.1), (y3_.2.1), (y3_.2.2.1), (y3_.2.2.2.1), (y3_.2.2.2.2.1), y4_1)])), (((y4_0a :: y4_0t) ++ [((y3_.1), (y3_.2.1), (y3_.2.2.1), (y3_.2.2.2.1), (y3_.2.2.2.2.1), y4_1)])).length, false⟩) <|
     ww (p := 0 < 1) ((by decide)) <|
     ww (p := rdT (layT (rows rw_iuuuuL (y4_0a :: y4_0t))) (Nat.mul ((y4_0a :: y4_0t)).length 6) 0 = some (rows rw_iuuuuL (y4_0a :: y4_0t))) (qok_ rwf_iuuuuL _ _ rfl) <|
     ww (p := fits (Nat.add ((y4_0a :: y4_0t)).length 1) 64 = true) (fits_ok hy5 (by have := hy5; show (_ : Nat) + _ ≤ _; omega)) <|
     ww (p := qq_ [(i6 (y3_.1)), (Value.int .u64 (y3_.2.1)), (Value.int .u64 (y3_.2.2.1)), (Value.int .u64 (y3_.2.2.2.1)), (Value.int .u64 (y3_.2.2.2.2.1)), (nlV y4_1)] = true) (rfl) <|
     ww (p := qq_ (rows rw_iuuuuL (y4_0a :: y4_0t)) = true) (qge_ rwf_iuuuuL _) <|
     ww (p := rows rw_iuuuuL (y4_0a :: y4_0t) ++ [(i6 (y3_.1)), (Value.int .u64 (y3_.2.1)), (Value.int .u64 (y3_.2.2.1)), (Value.int .u64 (y3_.2.2.2.1)), (Value.int .u64 (y3_.2.2.2.2.1)), (nlV y4_1)] = (rows rw_iuuuuL ((y4_0a :: y4_0t) ++ [((y3_.1), (y3_.2.1), (y3_.2.2.1), (y3_.2.2.2.1), (y3_.2.2.2.2.1), y4_1)]))) (qln_ rw_iuuuuL (y4_0a :: y4_0t) [((y3_.1), (y3_.2.1), (y3_.2.2.1), (y3_.2.2.2.1), (y3_.2.2.2.2.1), y4_1)]) <|
     ww (p := Nat.add ((y4_0a :: y4_0t)).length 1 = (((y4_0a :: y4_0t) ++ [((y3_.1), (y3_.2.1), (y3_.2.2.1), (y3_.2.2.2.1), (y3_.2.2.2.2.1), y4_1)])).length) (by simp) <|
     ww (qa_ rwf_iuuuuL ((y4_0a :: y4_0t) ++ [((y3_.1), (y3_.2.1), (y3_.2.2.1), (y3_.2.2.2.1), (y3_.2.2.2.2.1), y4_1)]) 37) <|
     ee) (by kernel_rfl)
  ·rw [if_neg hy1] at h
   obtain rfl := oI h
   exact runC2 hm (kW [0, 1, 5, 6, 7] [(0, 0, false)] 2 1) (zz 8 (xdF hy1) <|
    ee) (by kernel_rfl)
 | cons x3a x3t =>
  dsimp only at h
  by_cases hy1 : x4 < (((x0).l.length : Nat) : Int)
  ·rw [if_pos hy1] at h
   obtain ⟨hy2, h⟩ := gd h
   obtain ⟨y3_, hy3, h⟩ := oB h
   obtain ⟨⟨y4_0, y4_1⟩, hy4, h⟩ := oB h
   dsimp only at h
   have k0 := fun {A L l} (k : PL A L l) => zz 8 (xdT hy1) <|
    zz 18 (xk1 (x0).num (x0).off (x0).cap hy2) <|
    zz 19 (lk4 hy3 (qlm_ hy2)) <|
    k
   cases y4_0 with
   | nil =>
    dsimp only at h
    obtain rfl := oI h
    exact runC2 hm (kW [0, 1, 5, 6, 7, 8, 9] [(0, 0, false), (1, 4, false)] 2 1) (k0 <|
     ww (qb4_ n (rnd := rnd) x0 x1 x2 x4 (y3_.1) (y3_.2.1) (y3_.2.2.1) (y3_.2.2.2.1) (y3_.2.2.2.2.1) (y3_.2.2.2.2.2) ((x3a :: x3t), ([] : List Int), 0) (([] : List R6), y4_1) hy4) <|
     ww (qa_ rwf_iuuuuL (x3a :: x3t) 37) <|
     ll 28 ⟨(kW [0, 1, 5, 6, 7, 8, 9, 10, 11, 12] [(0, 0, false), (1, 1, true), (2, 2, false)] 4 1), (qm_ x0 x1 x2 x4 (y3_.1) (y3_.2.1) (y3_.2.2.1) (y3_.2.2.2.1) (y3_.2.2.2.2.1) (y3_.2.2.2.2.2) (([] : List R6), y4_1)).1, (qm_ x0 x1 x2 x4 (y3_.1) (y3_.2.1) (y3_.2.2.1) (y3_.2.2.2.1) (y3_.2.2.2.2.1) (y3_.2.2.2.2.2) (([] : List R6), y4_1)).2⟩ <|
     ee) (by kernel_rfl)
   | cons y4_0a y4_0t =>
    dsimp only at h
    obtain ⟨hy5, h⟩ := gd h
    obtain rfl := oI h
    exact runC2 hm (kW [0, 1, 5, 6, 7, 8, 9] [(0, 0, false), (1, 4, true)] 2 1) (k0 <|
     ww (qb4_ n (rnd := rnd) x0 x1 x2 x4 (y3_.1) (y3_.2.1) (y3_.2.2.1) (y3_.2.2.2.1) (y3_.2.2.2.2.1) (y3_.2.2.2.2.2) ((x3a :: x3t), ([] : List Int), 0) ((y4_0a :: y4_0t), y4_1) hy4) <|
     ww (qa_ rwf_iuuuuL (x3a :: x3t) 37) <|
     ll 28 ⟨(kW [0, 1, 5, 6, 7, 8, 9, 10, 11, 12] [(0, 0, false), (1, 1, true), (2, 2, false)] 4 1), (qm_ x0 x1 x2 x4 (y3_.1) (y3_.2.1) (y3_.2.2.1) (y3_.2.2.2.1) (y3_.2.2.2.2.1) (y3_.2.2.2.2.2) ((y4_0a :: y4_0t), y4_1)).1, (qm_ x0 x1 x2 x4 (y3_.1) (y3_.2.1) (y3_.2.2.1) (y3_.2.2.2.1) (y3_.2.2.2.2.1) (y3_.2.2.2.2.2) ((y4_0a :: y4_0t), y4_1)).2⟩ <|
     yy 36 (.app ⟨none, rows rw_iuuuuL (y4_0a :: y4_0t), (rows rw_iuuuuL ((y4_0a :: y4_0t) ++ [((y3_.1), (y3_.2.1), (y3_.2.2.1), (y3_.2.2.2.1), (y3_.2.2.2.2.1), y4_1)])), (((y4_0a :: y4_0t) ++ [((y3_.1), (y3_.2.1), (y3_.2.2.1), (y3_.2.2.2.1), (y3_.2.2.2.2.1), y4_1)])).length, false⟩) <|
     ww (p := 0 < 1) ((by decide)) <|
     ww (p := rdT (layT (rows rw_iuuuuL (y4_0a :: y4_0t))) (Nat.mul ((y4_0a :: y4_0t)).length 6) 0 = some (rows rw_iuuuuL (y4_0a :: y4_0t))) (qok_ rwf_iuuuuL _ _ rfl) <|
     ww (p := fits (Nat.add ((y4_0a :: y4_0t)).length 1) 64 = true) (fits_ok hy5 (by have := hy5; show (_ : Nat) + _ ≤ _; omega)) <|
     ww (p := qq_ [(i6 (y3_.1)), (Value.int .u64 (y3_.2.1)), (Value.int .u64 (y3_.2.2.1)), (Value.int .u64 (y3_.2.2.2.1)), (Value.int .u64 (y3_.2.2.2.2.1)), (nlV y4_1)] = true) (rfl) <|
     ww (p := qq_ (rows rw_iuuuuL (y4_0a :: y4_0t)) = true) (qge_ rwf_iuuuuL _) <|
     ww (p := rows rw_iuuuuL (y4_0a :: y4_0t) ++ [(i6 (y3_.1)), (Value.int .u64 (y3_.2.1)), (Value.int .u64 (y3_.2.2.1)), (Value.int .u64 (y3_.2.2.2.1)), (Value.int .u64 (y3_.2.2.2.2.1)), (nlV y4_1)] = (rows rw_iuuuuL ((y4_0a :: y4_0t) ++ [((y3_.1), (y3_.2.1), (y3_.2.2.1), (y3_.2.2.2.1), (y3_.2.2.2.2.1), y4_1)]))) (qln_ rw_iuuuuL (y4_0a :: y4_0t) [((y3_.1), (y3_.2.1), (y3_.2.2.1), (y3_.2.2.2.1), (y3_.2.2.2.2.1), y4_1)]) <|
     ww (p := Nat.add ((y4_0a :: y4_0t)).length 1 = (((y4_0a :: y4_0t) ++ [((y3_.1), (y3_.2.1), (y3_.2.2.1), (y3_.2.2.2.1), (y3_.2.2.2.2.1), y4_1)])).length) (by simp) <|
     ww (qa_ rwf_iuuuuL ((y4_0a :: y4_0t) ++ [((y3_.1), (y3_.2.1), (y3_.2.2.1), (y3_.2.2.2.1), (y3_.2.2.2.2.1), y4_1)]) 37) <|
     ee) (by kernel_rfl)
  ·rw [if_neg hy1] at h
   obtain rfl := oI h
   exact runC2 hm (kW [0, 1, 5, 6, 7] [(0, 0, false), (1, 1, true)] 2 1) (zz 8 (xdF hy1) <|
    ww (qa_ rwf_iuuuuL (x3a :: x3t) 37) <|
    ee) (by kernel_rfl)
theorem qey_ (n : Nat) {rnd : Option Nat} (x0 : WL rw_iuuuuL) (x1 : WL rw_iuuuuL) (x2 : Int) (st : List R6 × Int) (r : List R6) (h : qd1_ n x0 x1 x2 st = some r) : qj9_ rnd x0 x1 x2 st r :=
 CG.iter (b := qbl_ P 9 [false, false, true, false, true, false, false, true, false, false, true, false, true, true, true]) (by kernel_rfl) (body := qbd_ n x0 x1 x2) (S := qc0_ x0 x1 x2) (X := qbc_ x0 x1 x2)
  (fun s s' h => qf6_ n x0 x1 x2 s (.inl s') h)
  (fun s r h => qf6_ n x0 x1 x2 s (.inr r) h)
  (fun r => by intro hx; cases hx) h
def qc1_ (x0 : WL rw_iuuuuL) (x1 : WL rw_iuuuuL) (x2 : Int) (x4 : List Int) (x5 : Int) (st : List R6 × Int) : XSt := match st with
 | (x3, x6) => (sT 72 [(0, (i6 x2)), (1, (sN 0 0 2 2)), (5, (slR x3 1 6)), (6, (sN 2 0 (x4).length (Nat.add big 1))), (7, (i6 (1 : Int))), (8, (i6 x5)), (9, (i6 x6))], [], ⟨sB [(0, (cB [(wlV x0), (wlV x1)] 23)), (1, (nblkR rw_iuuuuL x3 37)), (2, (cB (iv x4) 3))], 3, 1⟩)
def qo_ (x0 : WL rw_iuuuuL) (x1 : WL rw_iuuuuL) (x2 : Int) (x4 : List Int) (x5 : Int) (r : List R6) : Ex × XSt := match r with
 | z0 => (.exit 2, (sT 72 [(0, (i6 x2)), (1, (sN 0 0 2 2)), (5, (slR z0 1 6)), (6, (sN 2 0 (x4).length (Nat.add big 1))), (7, (i6 (1 : Int)))], [], ⟨sB [(0, (cB [(wlV x0), (wlV x1)] 23)), (1, (nblkR rw_iuuuuL z0 37)), (2, (cB (iv x4) 3))], 3, 1⟩))
abbrev qka_ (rnd : Option Nat) (x0 : WL rw_iuuuuL) (x1 : WL rw_iuuuuL) (x2 : Int) (x4 : List Int) (x5 : Int) (st : List R6 × Int) (c : Ex × XSt) : Prop := CG P rnd (fnN P 9) 1 (qbl_ P 9 [false, false, true, false, true, false, false, true, false, false, true, false, true, true, true]) (qc1_ x0 x1 x2 x4 x5 st) c
abbrev qkb_ (rd : Option Nat) (x0 : WL rw_iuuuuL) (x1 : WL rw_iuuuuL) (x2 : Int) (x4 : List Int) (x5 : Int) (st : List R6 × Int) (r : List R6) : Prop := CG P rd (fnN P 9) 1 (qbl_ P 9 [false, true, false, true, false, false, true, false, false, true, false, true, true, true]) (qc1_ x0 x1 x2 x4 x5 st) (qo_ x0 x1 x2 x4 x5 r)
def qbe_ (n : Nat) (x0 : WL rw_iuuuuL) (x1 : WL rw_iuuuuL) (x2 : Int) (x4 : List Int) (x5 : Int) (st : List R6 × Int) : Option ((List R6 × Int) ⊕ (List R6)) := match st with
 | (x3, x6) =>
  match x3 with
  | [] =>
   if x6 < (((x1).l.length : Nat) : Int) then
    if 0 ≤ x6 ∧ x6 < (((x1).l.length : Nat) : Int) then
     ((some (((x1).l).getD (x6).toNat (0, 0, 0, 0, 0, nl0)))).bind fun y3_ =>
     (qcz_ n x0 x1 x2 x4 x5 x6 (y3_.1) (y3_.2.1) (y3_.2.2.1) (y3_.2.2.2.1) (y3_.2.2.2.2.1) (y3_.2.2.2.2.2) (([] : List R6), ([] : List Int), 0)).bind fun t => match t with
     | (y4_0, y4_1) =>
      match y4_0 with
      | [] =>
       some (.inl ([((y3_.1), (y3_.2.1), (y3_.2.2.1), (y3_.2.2.2.1), (y3_.2.2.2.2.1), y4_1)], (w64 (x6 + 1))))
      | y4_0a :: y4_0t =>
       if (((y4_0a :: y4_0t)).length + 1) * 64 ≤ 140737488355328 then
        some (.inl (((y4_0a :: y4_0t) ++ [((y3_.1), (y3_.2.1), (y3_.2.2.1), (y3_.2.2.2.1), (y3_.2.2.2.2.1), y4_1)]), (w64 (x6 + 1))))
       else none
    else none
   else
    some (.inr ([] : List R6))
  | x3a :: x3t =>
   if x6 < (((x1).l.length : Nat) : Int) then
    if 0 ≤ x6 ∧ x6 < (((x1).l.length : Nat) : Int) then
     ((some (((x1).l).getD (x6).toNat (0, 0, 0, 0, 0, nl0)))).bind fun y3_ =>
     (qcz_ n x0 x1 x2 x4 x5 x6 (y3_.1) (y3_.2.1) (y3_.2.2.1) (y3_.2.2.2.1) (y3_.2.2.2.2.1) (y3_.2.2.2.2.2) ((x3a :: x3t), ([] : List Int), 0)).bind fun t => match t with
     | (y4_0, y4_1) =>
      match y4_0 with
      | [] =>
       some (.inl ([((y3_.1), (y3_.2.1), (y3_.2.2.1), (y3_.2.2.2.1), (y3_.2.2.2.2.1), y4_1)], (w64 (x6 + 1))))
      | y4_0a :: y4_0t =>
       if (((y4_0a :: y4_0t)).length + 1) * 64 ≤ 140737488355328 then
        some (.inl (((y4_0a :: y4_0t) ++ [((y3_.1), (y3_.2.1), (y3_.2.2.1), (y3_.2.2.2.1), (y3_.2.2.2.2.1), y4_1)]), (w64 (x6 + 1))))
       else none
    else none
   else
    some (.inr (x3a :: x3t))
def qc2_ (n : Nat) (x0 : WL rw_iuuuuL) (x1 : WL rw_iuuuuL) (x2 : Int) (x4 : List Int) (x5 : Int) (st : List R6 × Int) : Option (List R6) := iterM (qbe_ n x0 x1 x2 x4 x5) n st
theorem qf7_ (n : Nat) {rnd : Option Nat} (x0 : WL rw_iuuuuL) (x1 : WL rw_iuuuuL) (x2 : Int) (x4 : List Int) (x5 : Int) (st : List R6 × Int) (o : (List R6 × Int) ⊕ (List R6)) (h : qbe_ n x0 x1 x2 x4 x5 st = some o) : qka_ rnd x0 x1 x2 x4 x5 st (Sum.elim (fun s => (.normal, qc1_ x0 x1 x2 x4 x5 s)) (fun r => qo_ x0 x1 x2 x4 x5 r) o) := by
 obtain ⟨x3, x6⟩ := st
 unfold qbe_ at h
 dsimp only at h
 cases x3 with
 | nil =>
  dsimp only at h
  by_cases hy1 : x6 < (((x1).l.length : Nat) : Int)
  ·rw [if_pos hy1] at h
   obtain ⟨hy2, h⟩ := gd h
   obtain ⟨y3_, hy3, h⟩ := oB h
   obtain ⟨⟨y4_0, y4_1⟩, hy4, h⟩ := oB h
   dsimp only at h
   have k0 := fun {A L l} (k : PL A L l) => zz 8 (xdT hy1) <|
    zz 18 (xk1 (x1).num (x1).off (x1).cap hy2) <|
    zz 19 (lk4 hy3 (qlm_ hy2)) <|
    k
   cases y4_0 with
   | nil =>
    dsimp only at h
    obtain rfl := oI h
    exact runC2 hm (kW [0, 1, 5, 6, 7, 8, 9] [(0, 0, false), (1, 5, false), (2, 2, true)] 3 1) (k0 <|
     ww (qb5_ n (rnd := rnd) x0 x1 x2 x4 x5 x6 (y3_.1) (y3_.2.1) (y3_.2.2.1) (y3_.2.2.2.1) (y3_.2.2.2.2.1) (y3_.2.2.2.2.2) (([] : List R6), ([] : List Int), 0) (([] : List R6), y4_1) hy4) <|
     ww (qdt_ x4 3) <|
     ll 28 ⟨(kW [0, 1, 5, 6, 7, 8, 9, 10, 11, 12] [(0, 0, false), (2, 2, true), (3, 3, false)] 5 1), (qn_ x0 x1 x2 x4 x5 x6 (y3_.1) (y3_.2.1) (y3_.2.2.1) (y3_.2.2.2.1) (y3_.2.2.2.2.1) (y3_.2.2.2.2.2) (([] : List R6), y4_1)).1, (qn_ x0 x1 x2 x4 x5 x6 (y3_.1) (y3_.2.1) (y3_.2.2.1) (y3_.2.2.2.1) (y3_.2.2.2.2.1) (y3_.2.2.2.2.2) (([] : List R6), y4_1)).2⟩ <|
     ww (qdt_ x4 3) <|
     ee) (by kernel_rfl)
   | cons y4_0a y4_0t =>
    dsimp only at h
    obtain ⟨hy5, h⟩ := gd h
    obtain rfl := oI h
    exact runC2 hm (kW [0, 1, 5, 6, 7, 8, 9] [(0, 0, false), (1, 5, true), (2, 2, true)] 3 1) (k0 <|
     ww (qb5_ n (rnd := rnd) x0 x1 x2 x4 x5 x6 (y3_.1) (y3_.2.1) (y3_.2.2.1) (y3_.2.2.2.1) (y3_.2.2.2.2.1) (y3_.2.2.2.2.2) (([] : List R6), ([] : List Int), 0) ((y4_0a :: y4_0t), y4_1) hy4) <|
     ww (qdt_ x4 3) <|
     ll 28 ⟨(kW [0, 1, 5, 6, 7, 8, 9, 10, 11, 12] [(0, 0, false), (2, 2, true), (3, 3, false)] 5 1), (qn_ x0 x1 x2 x4 x5 x6 (y3_.1) (y3_.2.1) (y3_.2.2.1) (y3_.2.2.2.1) (y3_.2.2.2.2.1) (y3_.2.2.2.2.2) ((y4_0a :: y4_0t), y4_1)).1, (qn_ x0 x1 x2 x4 x5 x6 (y3_.1) (y3_.2.1) (y3_.2.2.1) (y3_.2.2.2.1) (y3_.2.2.2.2.1) (y3_.2.2.2.2.2) ((y4_0a :: y4_0t), y4_1)).2⟩ <|
     yy 36 (.app ⟨none, rows rw_iuuuuL (y4_0a :: y4_0t), (rows rw_iuuuuL ((y4_0a :: y4_0t) ++ [((y3_.1), (y3_.2.1), (y3_.2.2.1), (y3_.2.2.2.1), (y3_.2.2.2.2.1), y4_1)])), (((y4_0a :: y4_0t) ++ [((y3_.1), (y3_.2.1), (y3_.2.2.1), (y3_.2.2.2.1), (y3_.2.2.2.2.1), y4_1)])).length, false⟩) <|
     ww (p := 0 < 1) ((by decide)) <|
     ww (p := rdT (layT (rows rw_iuuuuL (y4_0a :: y4_0t))) (Nat.mul ((y4_0a :: y4_0t)).length 6) 0 = some (rows rw_iuuuuL (y4_0a :: y4_0t))) (qok_ rwf_iuuuuL _ _ rfl) <|
     ww (p := fits (Nat.add ((y4_0a :: y4_0t)).length 1) 64 = true) (fits_ok hy5 (by have := hy5; show (_ : Nat) + _ ≤ _; omega)) <|
     ww (p := qq_ [(i6 (y3_.1)), (Value.int .u64 (y3_.2.1)), (Value.int .u64 (y3_.2.2.1)), (Value.int .u64 (y3_.2.2.2.1)), (Value.int .u64 (y3_.2.2.2.2.1)), (nlV y4_1)] = true) (rfl) <|
     ww (p := qq_ (rows rw_iuuuuL (y4_0a :: y4_0t)) = true) (qge_ rwf_iuuuuL _) <|
     ww (p := rows rw_iuuuuL (y4_0a :: y4_0t) ++ [(i6 (y3_.1)), (Value.int .u64 (y3_.2.1)), (Value.int .u64 (y3_.2.2.1)), (Value.int .u64 (y3_.2.2.2.1)), (Value.int .u64 (y3_.2.2.2.2.1)), (nlV y4_1)] = (rows rw_iuuuuL ((y4_0a :: y4_0t) ++ [((y3_.1), (y3_.2.1), (y3_.2.2.1), (y3_.2.2.2.1), (y3_.2.2.2.2.1), y4_1)]))) (qln_ rw_iuuuuL (y4_0a :: y4_0t) [((y3_.1), (y3_.2.1), (y3_.2.2.1), (y3_.2.2.2.1), (y3_.2.2.2.2.1), y4_1)]) <|
     ww (p := Nat.add ((y4_0a :: y4_0t)).length 1 = (((y4_0a :: y4_0t) ++ [((y3_.1), (y3_.2.1), (y3_.2.2.1), (y3_.2.2.2.1), (y3_.2.2.2.2.1), y4_1)])).length) (by simp) <|
     ww (qa_ rwf_iuuuuL ((y4_0a :: y4_0t) ++ [((y3_.1), (y3_.2.1), (y3_.2.2.1), (y3_.2.2.2.1), (y3_.2.2.2.2.1), y4_1)]) 37) <|
     ww (qdt_ x4 3) <|
     ee) (by kernel_rfl)
  ·rw [if_neg hy1] at h
   obtain rfl := oI h
   exact runC2 hm (kW [0, 1, 5, 6, 7] [(0, 0, false), (2, 2, true)] 3 1) (zz 8 (xdF hy1) <|
    ww (qdt_ x4 3) <|
    ee) (by kernel_rfl)
 | cons x3a x3t =>
  dsimp only at h
  by_cases hy1 : x6 < (((x1).l.length : Nat) : Int)
  ·rw [if_pos hy1] at h
   obtain ⟨hy2, h⟩ := gd h
   obtain ⟨y3_, hy3, h⟩ := oB h
   obtain ⟨⟨y4_0, y4_1⟩, hy4, h⟩ := oB h
   dsimp only at h
   have k0 := fun {A L l} (k : PL A L l) => zz 8 (xdT hy1) <|
    zz 18 (xk1 (x1).num (x1).off (x1).cap hy2) <|
    zz 19 (lk4 hy3 (qlm_ hy2)) <|
    k
   cases y4_0 with
   | nil =>
    dsimp only at h
    obtain rfl := oI h
    exact runC2 hm (kW [0, 1, 5, 6, 7, 8, 9] [(0, 0, false), (1, 5, false), (2, 2, true)] 3 1) (k0 <|
     ww (qb5_ n (rnd := rnd) x0 x1 x2 x4 x5 x6 (y3_.1) (y3_.2.1) (y3_.2.2.1) (y3_.2.2.2.1) (y3_.2.2.2.2.1) (y3_.2.2.2.2.2) ((x3a :: x3t), ([] : List Int), 0) (([] : List R6), y4_1) hy4) <|
     ww (qa_ rwf_iuuuuL (x3a :: x3t) 37) <|
     ww (qdt_ x4 3) <|
     ll 28 ⟨(kW [0, 1, 5, 6, 7, 8, 9, 10, 11, 12] [(0, 0, false), (1, 1, true), (2, 2, true), (3, 3, false)] 5 1), (qn_ x0 x1 x2 x4 x5 x6 (y3_.1) (y3_.2.1) (y3_.2.2.1) (y3_.2.2.2.1) (y3_.2.2.2.2.1) (y3_.2.2.2.2.2) (([] : List R6), y4_1)).1, (qn_ x0 x1 x2 x4 x5 x6 (y3_.1) (y3_.2.1) (y3_.2.2.1) (y3_.2.2.2.1) (y3_.2.2.2.2.1) (y3_.2.2.2.2.2) (([] : List R6), y4_1)).2⟩ <|
     ww (qdt_ x4 3) <|
     ee) (by kernel_rfl)
   | cons y4_0a y4_0t =>
    dsimp only at h
    obtain ⟨hy5, h⟩ := gd h
    obtain rfl := oI h
    exact runC2 hm (kW [0, 1, 5, 6, 7, 8, 9] [(0, 0, false), (1, 5, true), (2, 2, true)] 3 1) (k0 <|
     ww (qb5_ n (rnd := rnd) x0 x1 x2 x4 x5 x6 (y3_.1) (y3_.2.1) (y3_.2.2.1) (y3_.2.2.2.1) (y3_.2.2.2.2.1) (y3_.2.2.2.2.2) ((x3a :: x3t), ([] : List Int), 0) ((y4_0a :: y4_0t), y4_1) hy4) <|
     ww (qa_ rwf_iuuuuL (x3a :: x3t) 37) <|
     ww (qdt_ x4 3) <|
     ll 28 ⟨(kW [0, 1, 5, 6, 7, 8, 9, 10, 11, 12] [(0, 0, false), (1, 1, true), (2, 2, true), (3, 3, false)] 5 1), (qn_ x0 x1 x2 x4 x5 x6 (y3_.1) (y3_.2.1) (y3_.2.2.1) (y3_.2.2.2.1) (y3_.2.2.2.2.1) (y3_.2.2.2.2.2) ((y4_0a :: y4_0t), y4_1)).1, (qn_ x0 x1 x2 x4 x5 x6 (y3_.1) (y3_.2.1) (y3_.2.2.1) (y3_.2.2.2.1) (y3_.2.2.2.2.1) (y3_.2.2.2.2.2) ((y4_0a :: y4_0t), y4_1)).2⟩ <|
     yy 36 (.app ⟨none, rows rw_iuuuuL (y4_0a :: y4_0t), (rows rw_iuuuuL ((y4_0a :: y4_0t) ++ [((y3_.1), (y3_.2.1), (y3_.2.2.1), (y3_.2.2.2.1), (y3_.2.2.2.2.1), y4_1)])), (((y4_0a :: y4_0t) ++ [((y3_.1), (y3_.2.1), (y3_.2.2.1), (y3_.2.2.2.1), (y3_.2.2.2.2.1), y4_1)])).length, false⟩) <|
     ww (p := 0 < 1) ((by decide)) <|
     ww (p := rdT (layT (rows rw_iuuuuL (y4_0a :: y4_0t))) (Nat.mul ((y4_0a :: y4_0t)).length 6) 0 = some (rows rw_iuuuuL (y4_0a :: y4_0t))) (qok_ rwf_iuuuuL _ _ rfl) <|
     ww (p := fits (Nat.add ((y4_0a :: y4_0t)).length 1) 64 = true) (fits_ok hy5 (by have := hy5; show (_ : Nat) + _ ≤ _; omega)) <|
     ww (p := qq_ [(i6 (y3_.1)), (Value.int .u64 (y3_.2.1)), (Value.int .u64 (y3_.2.2.1)), (Value.int .u64 (y3_.2.2.2.1)), (Value.int .u64 (y3_.2.2.2.2.1)), (nlV y4_1)] = true) (rfl) <|
     ww (p := qq_ (rows rw_iuuuuL (y4_0a :: y4_0t)) = true) (qge_ rwf_iuuuuL _) <|
     ww (p := rows rw_iuuuuL (y4_0a :: y4_0t) ++ [(i6 (y3_.1)), (Value.int .u64 (y3_.2.1)), (Value.int .u64 (y3_.2.2.1)), (Value.int .u64 (y3_.2.2.2.1)), (Value.int .u64 (y3_.2.2.2.2.1)), (nlV y4_1)] = (rows rw_iuuuuL ((y4_0a :: y4_0t) ++ [((y3_.1), (y3_.2.1), (y3_.2.2.1), (y3_.2.2.2.1), (y3_.2.2.2.2.1), y4_1)]))) (qln_ rw_iuuuuL (y4_0a :: y4_0t) [((y3_.1), (y3_.2.1), (y3_.2.2.1), (y3_.2.2.2.1), (y3_.2.2.2.2.1), y4_1)]) <|
     ww (p := Nat.add ((y4_0a :: y4_0t)).length 1 = (((y4_0a :: y4_0t) ++ [((y3_.1), (y3_.2.1), (y3_.2.2.1), (y3_.2.2.2.1), (y3_.2.2.2.2.1), y4_1)])).length) (by simp) <|
     ww (qa_ rwf_iuuuuL ((y4_0a :: y4_0t) ++ [((y3_.1), (y3_.2.1), (y3_.2.2.1), (y3_.2.2.2.1), (y3_.2.2.2.2.1), y4_1)]) 37) <|
     ww (qdt_ x4 3) <|
     ee) (by kernel_rfl)
  ·rw [if_neg hy1] at h
   obtain rfl := oI h
   exact runC2 hm (kW [0, 1, 5, 6, 7] [(0, 0, false), (1, 1, true), (2, 2, true)] 3 1) (zz 8 (xdF hy1) <|
    ww (qa_ rwf_iuuuuL (x3a :: x3t) 37) <|
    ww (qdt_ x4 3) <|
    ee) (by kernel_rfl)
theorem qb6_ (n : Nat) {rnd : Option Nat} (x0 : WL rw_iuuuuL) (x1 : WL rw_iuuuuL) (x2 : Int) (x4 : List Int) (x5 : Int) (st : List R6 × Int) (r : List R6) (h : qc2_ n x0 x1 x2 x4 x5 st = some r) : qkb_ rnd x0 x1 x2 x4 x5 st r :=
 CG.iter (b := qbl_ P 9 [false, false, true, false, true, false, false, true, false, false, true, false, true, true, true]) (by kernel_rfl) (body := qbe_ n x0 x1 x2 x4 x5) (S := qc1_ x0 x1 x2 x4 x5) (X := qo_ x0 x1 x2 x4 x5)
  (fun s s' h => qf7_ n x0 x1 x2 x4 x5 s (.inl s') h)
  (fun s r h => qf7_ n x0 x1 x2 x4 x5 s (.inr r) h)
  (fun r => by intro hx; cases hx) h
def qkc_ (x0 : WL rw_iuuuuL) (x1 : WL rw_iuuuuL) (x2 : Int) (x3 : List R6) (x4 : NL) (st : Unit) : XSt := (sT 72 [(0, (i6 x2)), (5, (slR x3 1 6)), (6, (nlV x4))], [], ⟨sB [(0, (cB [(wlV x0), (wlV x1)] 23)), (1, (nblkR rw_iuuuuL x3 37))], 2, 1⟩)
def qu_ (x0 : WL rw_iuuuuL) (x1 : WL rw_iuuuuL) (x2 : Int) (x3 : List R6) (x4 : NL) (r : WL rw_iuuuuL) : Ex × XSt := match r with
 | z0 => (.ret, (sT 72 [(4, (wlV z0))], [], ⟨sB [(0, (cB [(wlV x0), (wlV x1)] 23))], 1, 1⟩))
abbrev qkd_ (rd : Option Nat) (x0 : WL rw_iuuuuL) (x1 : WL rw_iuuuuL) (x2 : Int) (x3 : List R6) (x4 : NL) (st : Unit) (r : WL rw_iuuuuL) : Prop := CG P rd (fnN P 9) 1 (qbl_ P 9 [true, true, true, true]) (qkc_ x0 x1 x2 x3 x4 st) (qu_ x0 x1 x2 x3 x4 r)
def qbf_ (n : Nat) (x0 : WL rw_iuuuuL) (x1 : WL rw_iuuuuL) (x2 : Int) (x3 : List R6) (x4 : NL) (st : Unit) : Option (WL rw_iuuuuL) :=
 match x3 with
 | [] =>
  if hy1 : [(x2, (0 : Int), (0 : Int), (0 : Int), (0 : Int), x4)].length ≤ 9223372036854775807 then
   some (frzR qfg_ [(x2, (0 : Int), (0 : Int), (0 : Int), (0 : Int), x4)] hy1)
  else none
 | x3a :: x3t =>
  if (((x3a :: x3t)).length + 1) * 64 ≤ 140737488355328 then
   if hy2 : ((x3a :: x3t) ++ [(x2, (0 : Int), (0 : Int), (0 : Int), (0 : Int), x4)]).length ≤ 9223372036854775807 then
    some (frzR qfg_ ((x3a :: x3t) ++ [(x2, (0 : Int), (0 : Int), (0 : Int), (0 : Int), x4)]) hy2)
   else none
  else none
theorem qb7_ (n : Nat) {rnd : Option Nat} (x0 : WL rw_iuuuuL) (x1 : WL rw_iuuuuL) (x2 : Int) (x3 : List R6) (x4 : NL) (st : Unit) (r : WL rw_iuuuuL) (h : qbf_ n x0 x1 x2 x3 x4 st = some r) : qkd_ rnd x0 x1 x2 x3 x4 st r := by
 unfold qbf_ at h
 cases x3 with
 | nil =>
  dsimp only at h
  obtain ⟨hy1, h⟩ := gdD h
  obtain rfl := oI h
  exact runC2 hm ⟨[4], [(0, 0, false)], 1, 1, [], true, [], [(3, Nat.add (2 * codL (rows rw_iuuuuL [(x2, (0 : Int), (0 : Int), (0 : Int), (0 : Int), x4)]) + 1) 64)], []⟩ (ww (frz_okR qcs_ qfd_ qfg_ [(x2, (0 : Int), (0 : Int), (0 : Int), (0 : Int), x4)]) <|
   ee) (by kernel_rfl)
 | cons x3a x3t =>
  dsimp only at h
  obtain ⟨hy1, h⟩ := gd h
  obtain ⟨hy2, h⟩ := gdD h
  obtain rfl := oI h
  exact runC2 hm ⟨[4], [(0, 0, false)], 1, 1, [(3, Nat.add (2 * codL (rows rw_iuuuuL ((x3a :: x3t) ++ [(x2, (0 : Int), (0 : Int), (0 : Int), (0 : Int), x4)])) + 1) 64)], true, [], [], []⟩ (yy 6 (.app ⟨none, rows rw_iuuuuL (x3a :: x3t), (rows rw_iuuuuL ((x3a :: x3t) ++ [(x2, (0 : Int), (0 : Int), (0 : Int), (0 : Int), x4)])), (((x3a :: x3t) ++ [(x2, (0 : Int), (0 : Int), (0 : Int), (0 : Int), x4)])).length, false⟩) <|
   ww (p := 0 < 1) ((by decide)) <|
   ww (p := rdT (layT (rows rw_iuuuuL (x3a :: x3t))) (Nat.mul ((x3a :: x3t)).length 6) 0 = some (rows rw_iuuuuL (x3a :: x3t))) (qok_ rwf_iuuuuL _ _ rfl) <|
   ww (p := fits (Nat.add ((x3a :: x3t)).length 1) 64 = true) (fits_ok hy1 (by have := hy1; show (_ : Nat) + _ ≤ _; omega)) <|
   ww (p := qq_ [(i6 x2), (Value.int .u64 (0 : Int)), (Value.int .u64 (0 : Int)), (Value.int .u64 (0 : Int)), (Value.int .u64 (0 : Int)), (nlV x4)] = true) (rfl) <|
   ww (p := qq_ (rows rw_iuuuuL (x3a :: x3t)) = true) (qge_ rwf_iuuuuL _) <|
   ww (p := rows rw_iuuuuL (x3a :: x3t) ++ [(i6 x2), (Value.int .u64 (0 : Int)), (Value.int .u64 (0 : Int)), (Value.int .u64 (0 : Int)), (Value.int .u64 (0 : Int)), (nlV x4)] = (rows rw_iuuuuL ((x3a :: x3t) ++ [(x2, (0 : Int), (0 : Int), (0 : Int), (0 : Int), x4)]))) (qln_ rw_iuuuuL (x3a :: x3t) [(x2, (0 : Int), (0 : Int), (0 : Int), (0 : Int), x4)]) <|
   ww (p := Nat.add ((x3a :: x3t)).length 1 = (((x3a :: x3t) ++ [(x2, (0 : Int), (0 : Int), (0 : Int), (0 : Int), x4)])).length) (by simp) <|
   ww (frz_okR qcs_ qfd_ qfg_ ((x3a :: x3t) ++ [(x2, (0 : Int), (0 : Int), (0 : Int), (0 : Int), x4)])) <|
   ee) (by kernel_rfl)
def qr_ (n : Nat) (a0 : Int) (a1 : WL rw_iuuuuL) (a2 : WL rw_iuuuuL) : Option (WL rw_iuuuuL) :=
 (qd1_ n a1 a2 a0 (([] : List R6), 0)).bind fun c1_ =>
 match c1_ with
 | [] =>
  (qc2_ n a1 a2 a0 [(-1 : Int)] 0 (([] : List R6), 0)).bind fun c2_ =>
  match c2_ with
  | [] =>
   if (([(-1 : Int)]).length + 1) * 8 ≤ 140737488355328 then
    if hc4 : ([(-1 : Int)] ++ [(-1 : Int)]).length ≤ 140737488355328 then
     (qbf_ n a1 a2 a0 ([] : List R6) (frzL ([(-1 : Int)] ++ [(-1 : Int)]) hc4) ()).bind fun c5_ =>
     some c5_
    else none
   else none
  | c2_a :: c2_t =>
   ((some (w64 (((((c2_a :: c2_t)).length : Nat) : Int) - 1)))).bind fun c3_ =>
   if (([(-1 : Int)]).length + 1) * 8 ≤ 140737488355328 then
    if hc5 : ([(-1 : Int)] ++ [c3_]).length ≤ 140737488355328 then
     (qbf_ n a1 a2 a0 (c2_a :: c2_t) (frzL ([(-1 : Int)] ++ [c3_]) hc5) ()).bind fun c6_ =>
     some c6_
    else none
   else none
 | c1_a :: c1_t =>
  ((some (w64 (((((c1_a :: c1_t)).length : Nat) : Int) - 1)))).bind fun c2_ =>
  (qc2_ n a1 a2 a0 [c2_] ((((c1_a :: c1_t)).length : Nat) : Int) ((c1_a :: c1_t), 0)).bind fun c3_ =>
  match c3_ with
  | [] =>
   if (([c2_]).length + 1) * 8 ≤ 140737488355328 then
    if hc5 : ([c2_] ++ [(-1 : Int)]).length ≤ 140737488355328 then
     (qbf_ n a1 a2 a0 ([] : List R6) (frzL ([c2_] ++ [(-1 : Int)]) hc5) ()).bind fun c6_ =>
     some c6_
    else none
   else none
  | c3_a :: c3_t =>
   ((some (w64 (((((c3_a :: c3_t)).length : Nat) : Int) - 1)))).bind fun c4_ =>
   if (([c2_]).length + 1) * 8 ≤ 140737488355328 then
    if hc6 : ([c2_] ++ [c4_]).length ≤ 140737488355328 then
     (qbf_ n a1 a2 a0 (c3_a :: c3_t) (frzL ([c2_] ++ [c4_]) hc6) ()).bind fun c7_ =>
     some c7_
    else none
   else none
theorem qds_ (n : Nat) (a0 : Int) (a1 : WL rw_iuuuuL) (a2 : WL rw_iuuuuL) (r : WL rw_iuuuuL) (h : qr_ n a0 a1 a2 = some r) : qk3_ a0 a1 a2 r := by
 unfold qr_ at h
 obtain ⟨c1_, hc1, h⟩ := oB h
 cases c1_ with
 | nil =>
  dsimp only at h
  obtain ⟨c2_, hc2, h⟩ := oB h
  have k0 := fun {A L l} (k : PL A L l) => ww (qey_ n (rnd := none) a1 a2 a0 (([] : List R6), 0) ([] : List R6) hc1) <|
   ll 28 ⟨(kW [0, 1, 5, 6, 7, 8, 9] [(0, 0, false)] 2 1), (qbc_ a1 a2 a0 ([] : List R6)).1, (qbc_ a1 a2 a0 ([] : List R6)).2⟩ <|
   k
  cases c2_ with
  | nil =>
   dsimp only at h
   obtain ⟨hc3, h⟩ := gd h
   obtain ⟨hc4, h⟩ := gdD h
   replace h := oB h
   obtain ⟨c5_, hc5, h⟩ := h
   obtain rfl := oI h
   exact runF2 hm (kW [4] [] 1 1) (k0 <|
    ww (qb6_ n (rnd := none) a1 a2 a0 [(-1 : Int)] 0 (([] : List R6), 0) ([] : List R6) hc2) <|
    ll 57 ⟨(kW [0, 1, 5, 6, 7, 8, 9] [(0, 0, false), (2, 3, false)] 3 1), (qo_ a1 a2 a0 [(-1 : Int)] 0 ([] : List R6)).1, (qo_ a1 a2 a0 [(-1 : Int)] 0 ([] : List R6)).2⟩ <|
    yy 63 (.app ⟨none, iv [(-1 : Int)], (iv ([(-1 : Int)] ++ [(-1 : Int)])), (([(-1 : Int)] ++ [(-1 : Int)])).length, false⟩) <|
    ww (p := 0 < 1) ((by decide)) <|
    ww (p := rdT (layT (iv [(-1 : Int)])) (Nat.mul ([(-1 : Int)]).length 1) 0 = some (iv [(-1 : Int)])) (iv_rd _) <|
    ww (p := fits (Nat.add ([(-1 : Int)]).length 1) 8 = true) (fits_ok hc3 (by have := hc3; show (_ : Nat) + _ ≤ _; omega)) <|
    ww (p := qq_ [(i6 (-1 : Int))] = true) (rfl) <|
    ww (p := qq_ (iv [(-1 : Int)]) = true) (qjd_ _) <|
    ww (p := iv [(-1 : Int)] ++ [(i6 (-1 : Int))] = (iv ([(-1 : Int)] ++ [(-1 : Int)]))) (by simp [iv]) <|
    ww (p := Nat.add ([(-1 : Int)]).length 1 = (([(-1 : Int)] ++ [(-1 : Int)])).length) (by simp) <|
    ww (qb7_ n (rnd := none) a1 a2 a0 ([] : List R6) (frzL ([(-1 : Int)] ++ [(-1 : Int)]) hc4) () c5_ hc5) <|
    ww (qou_ qcs_ qfd_ ([(-1 : Int)] ++ [(-1 : Int)])) <|
    ll 76 ⟨⟨[0, 5, 6], [(0, 0, false)], 2, 1, [(4, Nat.add (2 * cod ([(-1 : Int)] ++ [(-1 : Int)]) + 1) 64)], true, [], [], []⟩, (qu_ a1 a2 a0 ([] : List R6) (frzL ([(-1 : Int)] ++ [(-1 : Int)]) hc4) c5_).1, (qu_ a1 a2 a0 ([] : List R6) (frzL ([(-1 : Int)] ++ [(-1 : Int)]) hc4) c5_).2⟩ <|
    ee) (by kernel_rfl)
  | cons c2_a c2_t =>
   dsimp only at h
   obtain ⟨c3_, hc3, h⟩ := oB h
   obtain ⟨hc4, h⟩ := gd h
   obtain ⟨hc5, h⟩ := gdD h
   replace h := oB h
   obtain ⟨c6_, hc6, h⟩ := h
   obtain rfl := oI h
   exact runF2 hm (kW [4] [] 1 1) (k0 <|
    ww (qb6_ n (rnd := none) a1 a2 a0 [(-1 : Int)] 0 (([] : List R6), 0) (c2_a :: c2_t) hc2) <|
    ll 57 ⟨(kW [0, 1, 5, 6, 7, 8, 9] [(0, 0, false), (2, 3, false)] 3 1), (qo_ a1 a2 a0 [(-1 : Int)] 0 (c2_a :: c2_t)).1, (qo_ a1 a2 a0 [(-1 : Int)] 0 (c2_a :: c2_t)).2⟩ <|
    zz 61 (xnm hc3) <|
    yy 63 (.app ⟨none, iv [(-1 : Int)], (iv ([(-1 : Int)] ++ [c3_])), (([(-1 : Int)] ++ [c3_])).length, false⟩) <|
    ww (p := 0 < 1) ((by decide)) <|
    ww (p := rdT (layT (iv [(-1 : Int)])) (Nat.mul ([(-1 : Int)]).length 1) 0 = some (iv [(-1 : Int)])) (iv_rd _) <|
    ww (p := fits (Nat.add ([(-1 : Int)]).length 1) 8 = true) (fits_ok hc4 (by have := hc4; show (_ : Nat) + _ ≤ _; omega)) <|
    ww (p := qq_ [(i6 c3_)] = true) (rfl) <|
    ww (p := qq_ (iv [(-1 : Int)]) = true) (qjd_ _) <|
    ww (p := iv [(-1 : Int)] ++ [(i6 c3_)] = (iv ([(-1 : Int)] ++ [c3_]))) (by simp [iv]) <|
    ww (p := Nat.add ([(-1 : Int)]).length 1 = (([(-1 : Int)] ++ [c3_])).length) (by simp) <|
    ww (qb7_ n (rnd := none) a1 a2 a0 (c2_a :: c2_t) (frzL ([(-1 : Int)] ++ [c3_]) hc5) () c6_ hc6) <|
    ww (qa_ rwf_iuuuuL (c2_a :: c2_t) 37) <|
    ww (qou_ qcs_ qfd_ ([(-1 : Int)] ++ [c3_])) <|
    ww (qa_ rwf_iuuuuL (c2_a :: c2_t) 37) <|
    ll 76 ⟨⟨[0, 5, 6], [(0, 0, false), (1, 1, true)], 2, 1, [(4, Nat.add (2 * cod ([(-1 : Int)] ++ [c3_]) + 1) 64)], true, [], [], []⟩, (qu_ a1 a2 a0 (c2_a :: c2_t) (frzL ([(-1 : Int)] ++ [c3_]) hc5) c6_).1, (qu_ a1 a2 a0 (c2_a :: c2_t) (frzL ([(-1 : Int)] ++ [c3_]) hc5) c6_).2⟩ <|
    ee) (by kernel_rfl)
 | cons c1_a c1_t =>
  dsimp only at h
  obtain ⟨c2_, hc2, h⟩ := oB h
  obtain ⟨c3_, hc3, h⟩ := oB h
  have k0 := fun {A L l} (k : PL A L l) => ww (qey_ n (rnd := none) a1 a2 a0 (([] : List R6), 0) (c1_a :: c1_t) hc1) <|
   ll 28 ⟨(kW [0, 1, 5, 6, 7, 8, 9] [(0, 0, false)] 2 1), (qbc_ a1 a2 a0 (c1_a :: c1_t)).1, (qbc_ a1 a2 a0 (c1_a :: c1_t)).2⟩ <|
   zz 32 (xnm hc2) <|
   k
  cases c3_ with
  | nil =>
   dsimp only at h
   obtain ⟨hc4, h⟩ := gd h
   obtain ⟨hc5, h⟩ := gdD h
   replace h := oB h
   obtain ⟨c6_, hc6, h⟩ := h
   obtain rfl := oI h
   exact runF2 hm (kW [4] [] 1 1) (k0 <|
    ww (qb6_ n (rnd := none) a1 a2 a0 [c2_] ((((c1_a :: c1_t)).length : Nat) : Int) ((c1_a :: c1_t), 0) ([] : List R6) hc3) <|
    ww (qa_ rwf_iuuuuL (c1_a :: c1_t) 37) <|
    ll 57 ⟨(kW [0, 1, 5, 6, 7, 8, 9] [(0, 0, false), (1, 1, true), (2, 3, false)] 3 1), (qo_ a1 a2 a0 [c2_] ((((c1_a :: c1_t)).length : Nat) : Int) ([] : List R6)).1, (qo_ a1 a2 a0 [c2_] ((((c1_a :: c1_t)).length : Nat) : Int) ([] : List R6)).2⟩ <|
    yy 63 (.app ⟨none, iv [c2_], (iv ([c2_] ++ [(-1 : Int)])), (([c2_] ++ [(-1 : Int)])).length, false⟩) <|
    ww (p := 0 < 1) ((by decide)) <|
    ww (p := rdT (layT (iv [c2_])) (Nat.mul ([c2_]).length 1) 0 = some (iv [c2_])) (iv_rd _) <|
    ww (p := fits (Nat.add ([c2_]).length 1) 8 = true) (fits_ok hc4 (by have := hc4; show (_ : Nat) + _ ≤ _; omega)) <|
    ww (p := qq_ [(i6 (-1 : Int))] = true) (rfl) <|
    ww (p := qq_ (iv [c2_]) = true) (qjd_ _) <|
    ww (p := iv [c2_] ++ [(i6 (-1 : Int))] = (iv ([c2_] ++ [(-1 : Int)]))) (by simp [iv]) <|
    ww (p := Nat.add ([c2_]).length 1 = (([c2_] ++ [(-1 : Int)])).length) (by simp) <|
    ww (qb7_ n (rnd := none) a1 a2 a0 ([] : List R6) (frzL ([c2_] ++ [(-1 : Int)]) hc5) () c6_ hc6) <|
    ww (qou_ qcs_ qfd_ ([c2_] ++ [(-1 : Int)])) <|
    ll 76 ⟨⟨[0, 5, 6], [(0, 0, false)], 2, 1, [(4, Nat.add (2 * cod ([c2_] ++ [(-1 : Int)]) + 1) 64)], true, [], [], []⟩, (qu_ a1 a2 a0 ([] : List R6) (frzL ([c2_] ++ [(-1 : Int)]) hc5) c6_).1, (qu_ a1 a2 a0 ([] : List R6) (frzL ([c2_] ++ [(-1 : Int)]) hc5) c6_).2⟩ <|
    ee) (by kernel_rfl)
  | cons c3_a c3_t =>
   dsimp only at h
   obtain ⟨c4_, hc4, h⟩ := oB h
   obtain ⟨hc5, h⟩ := gd h
   obtain ⟨hc6, h⟩ := gdD h
   replace h := oB h
   obtain ⟨c7_, hc7, h⟩ := h
   obtain rfl := oI h
   exact runF2 hm (kW [4] [] 1 1) (k0 <|
    ww (qb6_ n (rnd := none) a1 a2 a0 [c2_] ((((c1_a :: c1_t)).length : Nat) : Int) ((c1_a :: c1_t), 0) (c3_a :: c3_t) hc3) <|
    ww (qa_ rwf_iuuuuL (c1_a :: c1_t) 37) <|
    ll 57 ⟨(kW [0, 1, 5, 6, 7, 8, 9] [(0, 0, false), (1, 1, true), (2, 3, false)] 3 1), (qo_ a1 a2 a0 [c2_] ((((c1_a :: c1_t)).length : Nat) : Int) (c3_a :: c3_t)).1, (qo_ a1 a2 a0 [c2_] ((((c1_a :: c1_t)).length : Nat) : Int) (c3_a :: c3_t)).2⟩ <|
    zz 61 (xnm hc4) <|
    yy 63 (.app ⟨none, iv [c2_], (iv ([c2_] ++ [c4_])), (([c2_] ++ [c4_])).length, false⟩) <|
    ww (p := 0 < 1) ((by decide)) <|
    ww (p := rdT (layT (iv [c2_])) (Nat.mul ([c2_]).length 1) 0 = some (iv [c2_])) (iv_rd _) <|
    ww (p := fits (Nat.add ([c2_]).length 1) 8 = true) (fits_ok hc5 (by have := hc5; show (_ : Nat) + _ ≤ _; omega)) <|
    ww (p := qq_ [(i6 c4_)] = true) (rfl) <|
    ww (p := qq_ (iv [c2_]) = true) (qjd_ _) <|
    ww (p := iv [c2_] ++ [(i6 c4_)] = (iv ([c2_] ++ [c4_]))) (by simp [iv]) <|
    ww (p := Nat.add ([c2_]).length 1 = (([c2_] ++ [c4_])).length) (by simp) <|
    ww (qb7_ n (rnd := none) a1 a2 a0 (c3_a :: c3_t) (frzL ([c2_] ++ [c4_]) hc6) () c7_ hc7) <|
    ww (qa_ rwf_iuuuuL (c3_a :: c3_t) 37) <|
    ww (qou_ qcs_ qfd_ ([c2_] ++ [c4_])) <|
    ww (qa_ rwf_iuuuuL (c3_a :: c3_t) 37) <|
    ll 76 ⟨⟨[0, 5, 6], [(0, 0, false), (1, 1, true)], 2, 1, [(4, Nat.add (2 * cod ([c2_] ++ [c4_]) + 1) 64)], true, [], [], []⟩, (qu_ a1 a2 a0 (c3_a :: c3_t) (frzL ([c2_] ++ [c4_]) hc6) c7_).1, (qu_ a1 a2 a0 (c3_a :: c3_t) (frzL ([c2_] ++ [c4_]) hc6) c7_).2⟩ <|
    ee) (by kernel_rfl)

def qk4_ (a0 : Int) (a1 : WL rw_iuuuuL) : List Value := [(i6 a0), (sN 0 0 1 1)]
def qgl_ (a0 : Int) (a1 : WL rw_iuuuuL) (r : WL rw_iuuuuL) : Value := match r with
 | o0 => (wlV o0)
def qgm_ (a0 : Int) (a1 : WL rw_iuuuuL) (r : WL rw_iuuuuL) : AH := match r with
 | o0 => ⟨sB [], 1, 1⟩
abbrev qk5_ (a0 : Int) (a1 : WL rw_iuuuuL) (r : WL rw_iuuuuL) : Prop := Gv P (.func 9) (qk4_ a0 a1) ⟨sB [(0, (cB [(wlV a1)] 23))], 1, 1⟩ (qgl_ a0 a1 r) (qgm_ a0 a1 r)
abbrev qs_ (a0 : Int) (a1 : WL rw_iuuuuL) (r : WL rw_iuuuuL) (ins outs : BL) : CallA := ⟨1, ins, qgl_ a0 a1 r, qgm_ a0 a1 r, outs⟩
def qc3_ (x0 : WL rw_iuuuuL) (x1 : Int) (x3 : Int) (x4 : Int) (x5 : Int) (x6 : Int) (x7 : Int) (x8 : Int) (x9 : NL) (st : List R6 × List Int × Int) : XSt := match st with
 | (x2, x10, x11) => (sT 72 [(0, (i6 x1)), (1, (sN 0 0 1 1)), (5, (slR x2 1 6)), (6, (Value.slice none 0 0)), (7, (i6 (0 : Int))), (8, (i6 (0 : Int))), (9, (i6 x3)), (10, (pN 2 0)), (11, (slN x10 3)), (12, (i6 x11))], [], ⟨sB [(0, (cB [(wlV x0)] 23)), (1, (nblkR rw_iuuuuL x2 37)), (2, (cB [(i6 x4), (Value.int .u64 x5), (Value.int .u64 x6), (Value.int .u64 x7), (Value.int .u64 x8), (nlV x9)] 37)), (3, (nblk x10 3))], 4, 1⟩)
def qp_ (x0 : WL rw_iuuuuL) (x1 : Int) (x3 : Int) (x4 : Int) (x5 : Int) (x6 : Int) (x7 : Int) (x8 : Int) (x9 : NL) (r : List R6 × NL) : Ex × XSt := match r with
 | (z0, z1) => (.exit 4, (sT 72 [(0, (i6 x1)), (1, (sN 0 0 1 1)), (5, (slR z0 1 6)), (6, (Value.slice none 0 0)), (7, (i6 (0 : Int))), (8, (i6 (0 : Int))), (9, (i6 x3)), (10, (pN 2 0)), (11, (nlV z1))], [], ⟨sB [(0, (cB [(wlV x0)] 23)), (1, (nblkR rw_iuuuuL z0 37)), (2, (cB [(i6 x4), (Value.int .u64 x5), (Value.int .u64 x6), (Value.int .u64 x7), (Value.int .u64 x8), (nlV x9)] 37))], 3, 1⟩))
abbrev qke_ (rnd : Option Nat) (x0 : WL rw_iuuuuL) (x1 : Int) (x3 : Int) (x4 : Int) (x5 : Int) (x6 : Int) (x7 : Int) (x8 : Int) (x9 : NL) (st : List R6 × List Int × Int) (c : Ex × XSt) : Prop := CG P rnd (fnN P 9) 1 (qbl_ P 9 [false, false, true, false, true, true, false, false, true, false, false, true, false, true, false, false, true, false, false, true, false, true, true, true]) (qc3_ x0 x1 x3 x4 x5 x6 x7 x8 x9 st) c
abbrev qkf_ (rd : Option Nat) (x0 : WL rw_iuuuuL) (x1 : Int) (x3 : Int) (x4 : Int) (x5 : Int) (x6 : Int) (x7 : Int) (x8 : Int) (x9 : NL) (st : List R6 × List Int × Int) (r : List R6 × NL) : Prop := CG P rd (fnN P 9) 1 (qbl_ P 9 [false, true, false, true, true, false, false, true, false, false, true, false, true, false, false, true, false, false, true, false, true, true, true]) (qc3_ x0 x1 x3 x4 x5 x6 x7 x8 x9 st) (qp_ x0 x1 x3 x4 x5 x6 x7 x8 x9 r)
def q1_ (n : Nat) (x0 : WL rw_iuuuuL) (x1 : Int) (x3 : Int) (x4 : Int) (x5 : Int) (x6 : Int) (x7 : Int) (x8 : Int) (x9 : NL) (st : List R6 × List Int × Int) : Option ((List R6 × List Int × Int) ⊕ (List R6 × NL)) := match st with
 | (x2, x10, x11) =>
  match x2 with
  | [] =>
   match x10 with
   | [] =>
    if x11 < (((x9).l.length : Nat) : Int) then
     if 0 ≤ x11 ∧ x11 < (((x9).l.length : Nat) : Int) then
      if (x11).toNat < ((x9).l).length then
       ((some (((x9).l).getD (x11).toNat 0))).bind fun y4_ =>
       some (.inl (([] : List R6), [(w64 (y4_ + 0))], (w64 (x11 + 1))))
      else none
     else none
    else
     some (.inr (([] : List R6), nl0))
   | x10a :: x10t =>
    if x11 < (((x9).l.length : Nat) : Int) then
     if 0 ≤ x11 ∧ x11 < (((x9).l.length : Nat) : Int) then
      if (x11).toNat < ((x9).l).length then
       ((some (((x9).l).getD (x11).toNat 0))).bind fun y4_ =>
       if (((x10a :: x10t)).length + 1) * 8 ≤ 140737488355328 then
        some (.inl (([] : List R6), ((x10a :: x10t) ++ [(w64 (y4_ + 0))]), (w64 (x11 + 1))))
       else none
      else none
     else none
    else
     if hy2 : (x10a :: x10t).length ≤ 140737488355328 then
      some (.inr (([] : List R6), (frzL (x10a :: x10t) hy2)))
     else none
  | x2a :: x2t =>
   match x10 with
   | [] =>
    if x11 < (((x9).l.length : Nat) : Int) then
     if 0 ≤ x11 ∧ x11 < (((x9).l.length : Nat) : Int) then
      if (x11).toNat < ((x9).l).length then
       ((some (((x9).l).getD (x11).toNat 0))).bind fun y4_ =>
       some (.inl ((x2a :: x2t), [(w64 (y4_ + 0))], (w64 (x11 + 1))))
      else none
     else none
    else
     some (.inr ((x2a :: x2t), nl0))
   | x10a :: x10t =>
    if x11 < (((x9).l.length : Nat) : Int) then
     if 0 ≤ x11 ∧ x11 < (((x9).l.length : Nat) : Int) then
      if (x11).toNat < ((x9).l).length then
       ((some (((x9).l).getD (x11).toNat 0))).bind fun y4_ =>
       if (((x10a :: x10t)).length + 1) * 8 ≤ 140737488355328 then
        some (.inl ((x2a :: x2t), ((x10a :: x10t) ++ [(w64 (y4_ + 0))]), (w64 (x11 + 1))))
       else none
      else none
     else none
    else
     if hy2 : (x10a :: x10t).length ≤ 140737488355328 then
      some (.inr ((x2a :: x2t), (frzL (x10a :: x10t) hy2)))
     else none
def qc4_ (n : Nat) (x0 : WL rw_iuuuuL) (x1 : Int) (x3 : Int) (x4 : Int) (x5 : Int) (x6 : Int) (x7 : Int) (x8 : Int) (x9 : NL) (st : List R6 × List Int × Int) : Option (List R6 × NL) := iterM (q1_ n x0 x1 x3 x4 x5 x6 x7 x8 x9) n st
theorem qf8_ (n : Nat) {rnd : Option Nat} (x0 : WL rw_iuuuuL) (x1 : Int) (x3 : Int) (x4 : Int) (x5 : Int) (x6 : Int) (x7 : Int) (x8 : Int) (x9 : NL) (st : List R6 × List Int × Int) (o : (List R6 × List Int × Int) ⊕ (List R6 × NL)) (h : q1_ n x0 x1 x3 x4 x5 x6 x7 x8 x9 st = some o) : qke_ rnd x0 x1 x3 x4 x5 x6 x7 x8 x9 st (Sum.elim (fun s => (.normal, qc3_ x0 x1 x3 x4 x5 x6 x7 x8 x9 s)) (fun r => qp_ x0 x1 x3 x4 x5 x6 x7 x8 x9 r) o) := by
 obtain ⟨x2, x10, x11⟩ := st
 unfold q1_ at h
 dsimp only at h
 cases x2 with
 | nil =>
  dsimp only at h
  cases x10 with
  | nil =>
   dsimp only at h
   by_cases hy1 : x11 < (((x9).l.length : Nat) : Int)
   ·rw [if_pos hy1] at h
    obtain ⟨hy2, h⟩ := gd h
    obtain ⟨hy3, h⟩ := gd h
    obtain ⟨y4_, hy4, h⟩ := oB h
    obtain rfl := oI h
    exact runC2 hm (kW [0, 1, 5, 6, 7, 8, 9, 10, 11, 12] [(0, 0, false), (2, 2, false), (3, 5, false)] 4 1) (zz 6 (xdT hy1) <|
     zz 14 (xk5 (Nat.add (x9).num 64) (x9).off (x9).cap hy2) <|
     zz 15 (nk6 hy4 hy3) <|
     ee) (by kernel_rfl)
   ·rw [if_neg hy1] at h
    obtain rfl := oI h
    exact runC2 hm ⟨[0, 1, 5, 6, 7, 8, 9, 10, 11], [(0, 0, false), (2, 2, false)], 3, 1, [], true, [], [], [11]⟩ (zz 6 (xdF hy1) <|
     ee) (by kernel_rfl)
  | cons x10a x10t =>
   dsimp only at h
   by_cases hy1 : x11 < (((x9).l.length : Nat) : Int)
   ·rw [if_pos hy1] at h
    obtain ⟨hy2, h⟩ := gd h
    obtain ⟨hy3, h⟩ := gd h
    obtain ⟨y4_, hy4, h⟩ := oB h
    obtain ⟨hy5, h⟩ := gd h
    obtain rfl := oI h
    exact runC2 hm (kW [0, 1, 5, 6, 7, 8, 9, 10, 11, 12] [(0, 0, false), (2, 2, false), (3, 5, true)] 4 1) (zz 6 (xdT hy1) <|
     zz 14 (xk5 (Nat.add (x9).num 64) (x9).off (x9).cap hy2) <|
     zz 15 (nk6 hy4 hy3) <|
     yy 19 (.app ⟨none, iv (x10a :: x10t), (iv ((x10a :: x10t) ++ [(w64 (y4_ + 0))])), (((x10a :: x10t) ++ [(w64 (y4_ + 0))])).length, false⟩) <|
     ww (p := 0 < 1) ((by decide)) <|
     ww (p := rdT (layT (iv (x10a :: x10t))) (Nat.mul ((x10a :: x10t)).length 1) 0 = some (iv (x10a :: x10t))) (iv_rd _) <|
     ww (p := fits (Nat.add ((x10a :: x10t)).length 1) 8 = true) (fits_ok hy5 (by have := hy5; show (_ : Nat) + _ ≤ _; omega)) <|
     ww (p := qq_ [(i6 (w64 (y4_ + 0)))] = true) (rfl) <|
     ww (p := qq_ (iv (x10a :: x10t)) = true) (qjd_ _) <|
     ww (p := iv (x10a :: x10t) ++ [(i6 (w64 (y4_ + 0)))] = (iv ((x10a :: x10t) ++ [(w64 (y4_ + 0))]))) (by simp [iv]) <|
     ww (p := Nat.add ((x10a :: x10t)).length 1 = (((x10a :: x10t) ++ [(w64 (y4_ + 0))])).length) (by simp) <|
     ww (qdt_ ((x10a :: x10t) ++ [(w64 (y4_ + 0))]) 3) <|
     ee) (by kernel_rfl)
   ·rw [if_neg hy1] at h
    obtain ⟨hy2, h⟩ := gdD h
    obtain rfl := oI h
    exact runC2 hm ⟨[0, 1, 5, 6, 7, 8, 9, 10, 11], [(0, 0, false), (2, 2, false)], 3, 1, [(3, Nat.add (2 * cod (x10a :: x10t) + 1) 64)], true, [], [], []⟩ (zz 6 (xdF hy1) <|
     ww (qou_ qcs_ qfd_ (x10a :: x10t)) <|
     ee) (by kernel_rfl)
 | cons x2a x2t =>
  dsimp only at h
  cases x10 with
  | nil =>
   dsimp only at h
   by_cases hy1 : x11 < (((x9).l.length : Nat) : Int)
   ·rw [if_pos hy1] at h
    obtain ⟨hy2, h⟩ := gd h
    obtain ⟨hy3, h⟩ := gd h
    obtain ⟨y4_, hy4, h⟩ := oB h
    obtain rfl := oI h
    exact runC2 hm (kW [0, 1, 5, 6, 7, 8, 9, 10, 11, 12] [(0, 0, false), (1, 1, true), (2, 2, false), (3, 5, false)] 4 1) (zz 6 (xdT hy1) <|
     zz 14 (xk5 (Nat.add (x9).num 64) (x9).off (x9).cap hy2) <|
     zz 15 (nk6 hy4 hy3) <|
     ww (qa_ rwf_iuuuuL (x2a :: x2t) 37) <|
     ee) (by kernel_rfl)
   ·rw [if_neg hy1] at h
    obtain rfl := oI h
    exact runC2 hm ⟨[0, 1, 5, 6, 7, 8, 9, 10, 11], [(0, 0, false), (1, 1, true), (2, 2, false)], 3, 1, [], true, [], [], [11]⟩ (zz 6 (xdF hy1) <|
     ww (qa_ rwf_iuuuuL (x2a :: x2t) 37) <|
     ww (qa_ rwf_iuuuuL (x2a :: x2t) 37) <|
     ee) (by kernel_rfl)
  | cons x10a x10t =>
   dsimp only at h
   by_cases hy1 : x11 < (((x9).l.length : Nat) : Int)
   ·rw [if_pos hy1] at h
    obtain ⟨hy2, h⟩ := gd h
    obtain ⟨hy3, h⟩ := gd h
    obtain ⟨y4_, hy4, h⟩ := oB h
    obtain ⟨hy5, h⟩ := gd h
    obtain rfl := oI h
    exact runC2 hm (kW [0, 1, 5, 6, 7, 8, 9, 10, 11, 12] [(0, 0, false), (1, 1, true), (2, 2, false), (3, 5, true)] 4 1) (zz 6 (xdT hy1) <|
     zz 14 (xk5 (Nat.add (x9).num 64) (x9).off (x9).cap hy2) <|
     zz 15 (nk6 hy4 hy3) <|
     yy 19 (.app ⟨none, iv (x10a :: x10t), (iv ((x10a :: x10t) ++ [(w64 (y4_ + 0))])), (((x10a :: x10t) ++ [(w64 (y4_ + 0))])).length, false⟩) <|
     ww (p := 0 < 1) ((by decide)) <|
     ww (p := rdT (layT (iv (x10a :: x10t))) (Nat.mul ((x10a :: x10t)).length 1) 0 = some (iv (x10a :: x10t))) (iv_rd _) <|
     ww (p := fits (Nat.add ((x10a :: x10t)).length 1) 8 = true) (fits_ok hy5 (by have := hy5; show (_ : Nat) + _ ≤ _; omega)) <|
     ww (p := qq_ [(i6 (w64 (y4_ + 0)))] = true) (rfl) <|
     ww (p := qq_ (iv (x10a :: x10t)) = true) (qjd_ _) <|
     ww (p := iv (x10a :: x10t) ++ [(i6 (w64 (y4_ + 0)))] = (iv ((x10a :: x10t) ++ [(w64 (y4_ + 0))]))) (by simp [iv]) <|
     ww (p := Nat.add ((x10a :: x10t)).length 1 = (((x10a :: x10t) ++ [(w64 (y4_ + 0))])).length) (by simp) <|
     ww (qa_ rwf_iuuuuL (x2a :: x2t) 37) <|
     ww (qdt_ ((x10a :: x10t) ++ [(w64 (y4_ + 0))]) 3) <|
     ee) (by kernel_rfl)
   ·rw [if_neg hy1] at h
    obtain ⟨hy2, h⟩ := gdD h
    obtain rfl := oI h
    exact runC2 hm ⟨[0, 1, 5, 6, 7, 8, 9, 10, 11], [(0, 0, false), (1, 1, true), (2, 2, false)], 3, 1, [(3, Nat.add (2 * cod (x10a :: x10t) + 1) 64)], true, [], [], []⟩ (zz 6 (xdF hy1) <|
     ww (qa_ rwf_iuuuuL (x2a :: x2t) 37) <|
     ww (qou_ qcs_ qfd_ (x10a :: x10t)) <|
     ww (qa_ rwf_iuuuuL (x2a :: x2t) 37) <|
     ee) (by kernel_rfl)
theorem qb8_ (n : Nat) {rnd : Option Nat} (x0 : WL rw_iuuuuL) (x1 : Int) (x3 : Int) (x4 : Int) (x5 : Int) (x6 : Int) (x7 : Int) (x8 : Int) (x9 : NL) (st : List R6 × List Int × Int) (r : List R6 × NL) (h : qc4_ n x0 x1 x3 x4 x5 x6 x7 x8 x9 st = some r) : qkf_ rnd x0 x1 x3 x4 x5 x6 x7 x8 x9 st r :=
 CG.iter (b := qbl_ P 9 [false, false, true, false, true, true, false, false, true, false, false, true, false, true, false, false, true, false, false, true, false, true, true, true]) (by kernel_rfl) (body := q1_ n x0 x1 x3 x4 x5 x6 x7 x8 x9) (S := qc3_ x0 x1 x3 x4 x5 x6 x7 x8 x9) (X := qp_ x0 x1 x3 x4 x5 x6 x7 x8 x9)
  (fun s s' h => qf8_ n x0 x1 x3 x4 x5 x6 x7 x8 x9 s (.inl s') h)
  (fun s r h => qf8_ n x0 x1 x3 x4 x5 x6 x7 x8 x9 s (.inr r) h)
  (fun r => by intro hx; cases hx) h
def qc5_ (x0 : WL rw_iuuuuL) (x1 : Int) (st : List R6 × Int) : XSt := match st with
 | (x2, x3) => (sT 72 [(0, (i6 x1)), (1, (sN 0 0 1 1)), (5, (slR x2 1 6)), (6, (Value.slice none 0 0)), (7, (i6 (0 : Int))), (8, (i6 (0 : Int))), (9, (i6 x3))], [], ⟨sB [(0, (cB [(wlV x0)] 23)), (1, (nblkR rw_iuuuuL x2 37))], 2, 1⟩)
def qbg_ (x0 : WL rw_iuuuuL) (x1 : Int) (r : List R6) : Ex × XSt := match r with
 | z0 => (.exit 2, (sT 72 [(0, (i6 x1)), (1, (sN 0 0 1 1)), (5, (slR z0 1 6)), (6, (Value.slice none 0 0)), (7, (i6 (0 : Int)))], [], ⟨sB [(0, (cB [(wlV x0)] 23)), (1, (nblkR rw_iuuuuL z0 37))], 2, 1⟩))
abbrev qkg_ (rnd : Option Nat) (x0 : WL rw_iuuuuL) (x1 : Int) (st : List R6 × Int) (c : Ex × XSt) : Prop := CG P rnd (fnN P 9) 1 (qbl_ P 9 [false, false, true, false, true, false, false, true, false, false, true, false, true, true, true]) (qc5_ x0 x1 st) c
abbrev qkh_ (rd : Option Nat) (x0 : WL rw_iuuuuL) (x1 : Int) (st : List R6 × Int) (r : List R6) : Prop := CG P rd (fnN P 9) 1 (qbl_ P 9 [false, true, false, true, false, false, true, false, false, true, false, true, true, true]) (qc5_ x0 x1 st) (qbg_ x0 x1 r)
def qbh_ (n : Nat) (x0 : WL rw_iuuuuL) (x1 : Int) (st : List R6 × Int) : Option ((List R6 × Int) ⊕ (List R6)) := match st with
 | (x2, x3) =>
  match x2 with
  | [] =>
   if x3 < (((x0).l.length : Nat) : Int) then
    if 0 ≤ x3 ∧ x3 < (((x0).l.length : Nat) : Int) then
     ((some (((x0).l).getD (x3).toNat (0, 0, 0, 0, 0, nl0)))).bind fun y3_ =>
     (qc4_ n x0 x1 x3 (y3_.1) (y3_.2.1) (y3_.2.2.1) (y3_.2.2.2.1) (y3_.2.2.2.2.1) (y3_.2.2.2.2.2) (([] : List R6), ([] : List Int), 0)).bind fun t => match t with
     | (y4_0, y4_1) =>
      match y4_0 with
      | [] =>
       some (.inl ([((y3_.1), (y3_.2.1), (y3_.2.2.1), (y3_.2.2.2.1), (y3_.2.2.2.2.1), y4_1)], (w64 (x3 + 1))))
      | y4_0a :: y4_0t =>
       if (((y4_0a :: y4_0t)).length + 1) * 64 ≤ 140737488355328 then
        some (.inl (((y4_0a :: y4_0t) ++ [((y3_.1), (y3_.2.1), (y3_.2.2.1), (y3_.2.2.2.1), (y3_.2.2.2.2.1), y4_1)]), (w64 (x3 + 1))))
       else none
    else none
   else
    some (.inr ([] : List R6))
  | x2a :: x2t =>
   if x3 < (((x0).l.length : Nat) : Int) then
    if 0 ≤ x3 ∧ x3 < (((x0).l.length : Nat) : Int) then
     ((some (((x0).l).getD (x3).toNat (0, 0, 0, 0, 0, nl0)))).bind fun y3_ =>
     (qc4_ n x0 x1 x3 (y3_.1) (y3_.2.1) (y3_.2.2.1) (y3_.2.2.2.1) (y3_.2.2.2.2.1) (y3_.2.2.2.2.2) ((x2a :: x2t), ([] : List Int), 0)).bind fun t => match t with
     | (y4_0, y4_1) =>
      match y4_0 with
      | [] =>
       some (.inl ([((y3_.1), (y3_.2.1), (y3_.2.2.1), (y3_.2.2.2.1), (y3_.2.2.2.2.1), y4_1)], (w64 (x3 + 1))))
      | y4_0a :: y4_0t =>
       if (((y4_0a :: y4_0t)).length + 1) * 64 ≤ 140737488355328 then
        some (.inl (((y4_0a :: y4_0t) ++ [((y3_.1), (y3_.2.1), (y3_.2.2.1), (y3_.2.2.2.1), (y3_.2.2.2.2.1), y4_1)]), (w64 (x3 + 1))))
       else none
    else none
   else
    some (.inr (x2a :: x2t))
def qd2_ (n : Nat) (x0 : WL rw_iuuuuL) (x1 : Int) (st : List R6 × Int) : Option (List R6) := iterM (qbh_ n x0 x1) n st
theorem qf9_ (n : Nat) {rnd : Option Nat} (x0 : WL rw_iuuuuL) (x1 : Int) (st : List R6 × Int) (o : (List R6 × Int) ⊕ (List R6)) (h : qbh_ n x0 x1 st = some o) : qkg_ rnd x0 x1 st (Sum.elim (fun s => (.normal, qc5_ x0 x1 s)) (fun r => qbg_ x0 x1 r) o) := by
 obtain ⟨x2, x3⟩ := st
 unfold qbh_ at h
 dsimp only at h
 cases x2 with
 | nil =>
  dsimp only at h
  by_cases hy1 : x3 < (((x0).l.length : Nat) : Int)
  ·rw [if_pos hy1] at h
   obtain ⟨hy2, h⟩ := gd h
   obtain ⟨y3_, hy3, h⟩ := oB h
   obtain ⟨⟨y4_0, y4_1⟩, hy4, h⟩ := oB h
   dsimp only at h
   have k0 := fun {A L l} (k : PL A L l) => zz 8 (xdT hy1) <|
    zz 18 (xk1 (x0).num (x0).off (x0).cap hy2) <|
    zz 19 (lk4 hy3 (qlm_ hy2)) <|
    k
   cases y4_0 with
   | nil =>
    dsimp only at h
    obtain rfl := oI h
    exact runC2 hm (kW [0, 1, 5, 6, 7, 8, 9] [(0, 0, false), (1, 4, false)] 2 1) (k0 <|
     ww (qb8_ n (rnd := rnd) x0 x1 x3 (y3_.1) (y3_.2.1) (y3_.2.2.1) (y3_.2.2.2.1) (y3_.2.2.2.2.1) (y3_.2.2.2.2.2) (([] : List R6), ([] : List Int), 0) (([] : List R6), y4_1) hy4) <|
     ll 28 ⟨(kW [0, 1, 5, 6, 7, 8, 9, 10, 11, 12] [(0, 0, false), (2, 2, false)] 4 1), (qp_ x0 x1 x3 (y3_.1) (y3_.2.1) (y3_.2.2.1) (y3_.2.2.2.1) (y3_.2.2.2.2.1) (y3_.2.2.2.2.2) (([] : List R6), y4_1)).1, (qp_ x0 x1 x3 (y3_.1) (y3_.2.1) (y3_.2.2.1) (y3_.2.2.2.1) (y3_.2.2.2.2.1) (y3_.2.2.2.2.2) (([] : List R6), y4_1)).2⟩ <|
     ee) (by kernel_rfl)
   | cons y4_0a y4_0t =>
    dsimp only at h
    obtain ⟨hy5, h⟩ := gd h
    obtain rfl := oI h
    exact runC2 hm (kW [0, 1, 5, 6, 7, 8, 9] [(0, 0, false), (1, 4, true)] 2 1) (k0 <|
     ww (qb8_ n (rnd := rnd) x0 x1 x3 (y3_.1) (y3_.2.1) (y3_.2.2.1) (y3_.2.2.2.1) (y3_.2.2.2.2.1) (y3_.2.2.2.2.2) (([] : List R6), ([] : List Int), 0) ((y4_0a :: y4_0t), y4_1) hy4) <|
     ll 28 ⟨(kW [0, 1, 5, 6, 7, 8, 9, 10, 11, 12] [(0, 0, false), (2, 2, false)] 4 1), (qp_ x0 x1 x3 (y3_.1) (y3_.2.1) (y3_.2.2.1) (y3_.2.2.2.1) (y3_.2.2.2.2.1) (y3_.2.2.2.2.2) ((y4_0a :: y4_0t), y4_1)).1, (qp_ x0 x1 x3 (y3_.1) (y3_.2.1) (y3_.2.2.1) (y3_.2.2.2.1) (y3_.2.2.2.2.1) (y3_.2.2.2.2.2) ((y4_0a :: y4_0t), y4_1)).2⟩ <|
     yy 36 (.app ⟨none, rows rw_iuuuuL (y4_0a :: y4_0t), (rows rw_iuuuuL ((y4_0a :: y4_0t) ++ [((y3_.1), (y3_.2.1), (y3_.2.2.1), (y3_.2.2.2.1), (y3_.2.2.2.2.1), y4_1)])), (((y4_0a :: y4_0t) ++ [((y3_.1), (y3_.2.1), (y3_.2.2.1), (y3_.2.2.2.1), (y3_.2.2.2.2.1), y4_1)])).length, false⟩) <|
     ww (p := 0 < 1) ((by decide)) <|
     ww (p := rdT (layT (rows rw_iuuuuL (y4_0a :: y4_0t))) (Nat.mul ((y4_0a :: y4_0t)).length 6) 0 = some (rows rw_iuuuuL (y4_0a :: y4_0t))) (qok_ rwf_iuuuuL _ _ rfl) <|
     ww (p := fits (Nat.add ((y4_0a :: y4_0t)).length 1) 64 = true) (fits_ok hy5 (by have := hy5; show (_ : Nat) + _ ≤ _; omega)) <|
     ww (p := qq_ [(i6 (y3_.1)), (Value.int .u64 (y3_.2.1)), (Value.int .u64 (y3_.2.2.1)), (Value.int .u64 (y3_.2.2.2.1)), (Value.int .u64 (y3_.2.2.2.2.1)), (nlV y4_1)] = true) (rfl) <|
     ww (p := qq_ (rows rw_iuuuuL (y4_0a :: y4_0t)) = true) (qge_ rwf_iuuuuL _) <|
     ww (p := rows rw_iuuuuL (y4_0a :: y4_0t) ++ [(i6 (y3_.1)), (Value.int .u64 (y3_.2.1)), (Value.int .u64 (y3_.2.2.1)), (Value.int .u64 (y3_.2.2.2.1)), (Value.int .u64 (y3_.2.2.2.2.1)), (nlV y4_1)] = (rows rw_iuuuuL ((y4_0a :: y4_0t) ++ [((y3_.1), (y3_.2.1), (y3_.2.2.1), (y3_.2.2.2.1), (y3_.2.2.2.2.1), y4_1)]))) (qln_ rw_iuuuuL (y4_0a :: y4_0t) [((y3_.1), (y3_.2.1), (y3_.2.2.1), (y3_.2.2.2.1), (y3_.2.2.2.2.1), y4_1)]) <|
     ww (p := Nat.add ((y4_0a :: y4_0t)).length 1 = (((y4_0a :: y4_0t) ++ [((y3_.1), (y3_.2.1), (y3_.2.2.1), (y3_.2.2.2.1), (y3_.2.2.2.2.1), y4_1)])).length) (by simp) <|
     ww (qa_ rwf_iuuuuL ((y4_0a :: y4_0t) ++ [((y3_.1), (y3_.2.1), (y3_.2.2.1), (y3_.2.2.2.1), (y3_.2.2.2.2.1), y4_1)]) 37) <|
     ee) (by kernel_rfl)
  ·rw [if_neg hy1] at h
   obtain rfl := oI h
   exact runC2 hm (kW [0, 1, 5, 6, 7] [(0, 0, false)] 2 1) (zz 8 (xdF hy1) <|
    ee) (by kernel_rfl)
 | cons x2a x2t =>
  dsimp only at h
  by_cases hy1 : x3 < (((x0).l.length : Nat) : Int)
  ·rw [if_pos hy1] at h
   obtain ⟨hy2, h⟩ := gd h
   obtain ⟨y3_, hy3, h⟩ := oB h
   obtain ⟨⟨y4_0, y4_1⟩, hy4, h⟩ := oB h
   dsimp only at h
   have k0 := fun {A L l} (k : PL A L l) => zz 8 (xdT hy1) <|
    zz 18 (xk1 (x0).num (x0).off (x0).cap hy2) <|
    zz 19 (lk4 hy3 (qlm_ hy2)) <|
    k
   cases y4_0 with
   | nil =>
    dsimp only at h
    obtain rfl := oI h
    exact runC2 hm (kW [0, 1, 5, 6, 7, 8, 9] [(0, 0, false), (1, 4, false)] 2 1) (k0 <|
     ww (qb8_ n (rnd := rnd) x0 x1 x3 (y3_.1) (y3_.2.1) (y3_.2.2.1) (y3_.2.2.2.1) (y3_.2.2.2.2.1) (y3_.2.2.2.2.2) ((x2a :: x2t), ([] : List Int), 0) (([] : List R6), y4_1) hy4) <|
     ww (qa_ rwf_iuuuuL (x2a :: x2t) 37) <|
     ll 28 ⟨(kW [0, 1, 5, 6, 7, 8, 9, 10, 11, 12] [(0, 0, false), (1, 1, true), (2, 2, false)] 4 1), (qp_ x0 x1 x3 (y3_.1) (y3_.2.1) (y3_.2.2.1) (y3_.2.2.2.1) (y3_.2.2.2.2.1) (y3_.2.2.2.2.2) (([] : List R6), y4_1)).1, (qp_ x0 x1 x3 (y3_.1) (y3_.2.1) (y3_.2.2.1) (y3_.2.2.2.1) (y3_.2.2.2.2.1) (y3_.2.2.2.2.2) (([] : List R6), y4_1)).2⟩ <|
     ee) (by kernel_rfl)
   | cons y4_0a y4_0t =>
    dsimp only at h
    obtain ⟨hy5, h⟩ := gd h
    obtain rfl := oI h
    exact runC2 hm (kW [0, 1, 5, 6, 7, 8, 9] [(0, 0, false), (1, 4, true)] 2 1) (k0 <|
     ww (qb8_ n (rnd := rnd) x0 x1 x3 (y3_.1) (y3_.2.1) (y3_.2.2.1) (y3_.2.2.2.1) (y3_.2.2.2.2.1) (y3_.2.2.2.2.2) ((x2a :: x2t), ([] : List Int), 0) ((y4_0a :: y4_0t), y4_1) hy4) <|
     ww (qa_ rwf_iuuuuL (x2a :: x2t) 37) <|
     ll 28 ⟨(kW [0, 1, 5, 6, 7, 8, 9, 10, 11, 12] [(0, 0, false), (1, 1, true), (2, 2, false)] 4 1), (qp_ x0 x1 x3 (y3_.1) (y3_.2.1) (y3_.2.2.1) (y3_.2.2.2.1) (y3_.2.2.2.2.1) (y3_.2.2.2.2.2) ((y4_0a :: y4_0t), y4_1)).1, (qp_ x0 x1 x3 (y3_.1) (y3_.2.1) (y3_.2.2.1) (y3_.2.2.2.1) (y3_.2.2.2.2.1) (y3_.2.2.2.2.2) ((y4_0a :: y4_0t), y4_1)).2⟩ <|
     yy 36 (.app ⟨none, rows rw_iuuuuL (y4_0a :: y4_0t), (rows rw_iuuuuL ((y4_0a :: y4_0t) ++ [((y3_.1), (y3_.2.1), (y3_.2.2.1), (y3_.2.2.2.1), (y3_.2.2.2.2.1), y4_1)])), (((y4_0a :: y4_0t) ++ [((y3_.1), (y3_.2.1), (y3_.2.2.1), (y3_.2.2.2.1), (y3_.2.2.2.2.1), y4_1)])).length, false⟩) <|
     ww (p := 0 < 1) ((by decide)) <|
     ww (p := rdT (layT (rows rw_iuuuuL (y4_0a :: y4_0t))) (Nat.mul ((y4_0a :: y4_0t)).length 6) 0 = some (rows rw_iuuuuL (y4_0a :: y4_0t))) (qok_ rwf_iuuuuL _ _ rfl) <|
     ww (p := fits (Nat.add ((y4_0a :: y4_0t)).length 1) 64 = true) (fits_ok hy5 (by have := hy5; show (_ : Nat) + _ ≤ _; omega)) <|
     ww (p := qq_ [(i6 (y3_.1)), (Value.int .u64 (y3_.2.1)), (Value.int .u64 (y3_.2.2.1)), (Value.int .u64 (y3_.2.2.2.1)), (Value.int .u64 (y3_.2.2.2.2.1)), (nlV y4_1)] = true) (rfl) <|
     ww (p := qq_ (rows rw_iuuuuL (y4_0a :: y4_0t)) = true) (qge_ rwf_iuuuuL _) <|
     ww (p := rows rw_iuuuuL (y4_0a :: y4_0t) ++ [(i6 (y3_.1)), (Value.int .u64 (y3_.2.1)), (Value.int .u64 (y3_.2.2.1)), (Value.int .u64 (y3_.2.2.2.1)), (Value.int .u64 (y3_.2.2.2.2.1)), (nlV y4_1)] = (rows rw_iuuuuL ((y4_0a :: y4_0t) ++ [((y3_.1), (y3_.2.1), (y3_.2.2.1), (y3_.2.2.2.1), (y3_.2.2.2.2.1), y4_1)]))) (qln_ rw_iuuuuL (y4_0a :: y4_0t) [((y3_.1), (y3_.2.1), (y3_.2.2.1), (y3_.2.2.2.1), (y3_.2.2.2.2.1), y4_1)]) <|
     ww (p := Nat.add ((y4_0a :: y4_0t)).length 1 = (((y4_0a :: y4_0t) ++ [((y3_.1), (y3_.2.1), (y3_.2.2.1), (y3_.2.2.2.1), (y3_.2.2.2.2.1), y4_1)])).length) (by simp) <|
     ww (qa_ rwf_iuuuuL ((y4_0a :: y4_0t) ++ [((y3_.1), (y3_.2.1), (y3_.2.2.1), (y3_.2.2.2.1), (y3_.2.2.2.2.1), y4_1)]) 37) <|
     ee) (by kernel_rfl)
  ·rw [if_neg hy1] at h
   obtain rfl := oI h
   exact runC2 hm (kW [0, 1, 5, 6, 7] [(0, 0, false), (1, 1, true)] 2 1) (zz 8 (xdF hy1) <|
    ww (qa_ rwf_iuuuuL (x2a :: x2t) 37) <|
    ee) (by kernel_rfl)
theorem qez_ (n : Nat) {rnd : Option Nat} (x0 : WL rw_iuuuuL) (x1 : Int) (st : List R6 × Int) (r : List R6) (h : qd2_ n x0 x1 st = some r) : qkh_ rnd x0 x1 st r :=
 CG.iter (b := qbl_ P 9 [false, false, true, false, true, false, false, true, false, false, true, false, true, true, true]) (by kernel_rfl) (body := qbh_ n x0 x1) (S := qc5_ x0 x1) (X := qbg_ x0 x1)
  (fun s s' h => qf9_ n x0 x1 s (.inl s') h)
  (fun s r h => qf9_ n x0 x1 s (.inr r) h)
  (fun r => by intro hx; cases hx) h
def qki_ (x0 : WL rw_iuuuuL) (x1 : Int) (x2 : List R6) (x3 : NL) (st : Unit) : XSt := (sT 72 [(0, (i6 x1)), (5, (slR x2 1 6)), (6, (nlV x3))], [], ⟨sB [(0, (cB [(wlV x0)] 23)), (1, (nblkR rw_iuuuuL x2 37))], 2, 1⟩)
def qby_ (x0 : WL rw_iuuuuL) (x1 : Int) (x2 : List R6) (x3 : NL) (r : WL rw_iuuuuL) : Ex × XSt := match r with
 | z0 => (.ret, (sT 72 [(4, (wlV z0))], [], ⟨sB [(0, (cB [(wlV x0)] 23))], 1, 1⟩))
abbrev qkj_ (rd : Option Nat) (x0 : WL rw_iuuuuL) (x1 : Int) (x2 : List R6) (x3 : NL) (st : Unit) (r : WL rw_iuuuuL) : Prop := CG P rd (fnN P 9) 1 (qbl_ P 9 [true, true, true, true]) (qki_ x0 x1 x2 x3 st) (qby_ x0 x1 x2 x3 r)
def qbz_ (n : Nat) (x0 : WL rw_iuuuuL) (x1 : Int) (x2 : List R6) (x3 : NL) (st : Unit) : Option (WL rw_iuuuuL) :=
 match x2 with
 | [] =>
  if hy1 : [(x1, (0 : Int), (0 : Int), (0 : Int), (0 : Int), x3)].length ≤ 9223372036854775807 then
   some (frzR qfg_ [(x1, (0 : Int), (0 : Int), (0 : Int), (0 : Int), x3)] hy1)
  else none
 | x2a :: x2t =>
  if (((x2a :: x2t)).length + 1) * 64 ≤ 140737488355328 then
   if hy2 : ((x2a :: x2t) ++ [(x1, (0 : Int), (0 : Int), (0 : Int), (0 : Int), x3)]).length ≤ 9223372036854775807 then
    some (frzR qfg_ ((x2a :: x2t) ++ [(x1, (0 : Int), (0 : Int), (0 : Int), (0 : Int), x3)]) hy2)
   else none
  else none
theorem qe0_ (n : Nat) {rnd : Option Nat} (x0 : WL rw_iuuuuL) (x1 : Int) (x2 : List R6) (x3 : NL) (st : Unit) (r : WL rw_iuuuuL) (h : qbz_ n x0 x1 x2 x3 st = some r) : qkj_ rnd x0 x1 x2 x3 st r := by
 unfold qbz_ at h
 cases x2 with
 | nil =>
  dsimp only at h
  obtain ⟨hy1, h⟩ := gdD h
  obtain rfl := oI h
  exact runC2 hm ⟨[4], [(0, 0, false)], 1, 1, [], true, [], [(3, Nat.add (2 * codL (rows rw_iuuuuL [(x1, (0 : Int), (0 : Int), (0 : Int), (0 : Int), x3)]) + 1) 64)], []⟩ (ww (frz_okR qcs_ qfd_ qfg_ [(x1, (0 : Int), (0 : Int), (0 : Int), (0 : Int), x3)]) <|
   ee) (by kernel_rfl)
 | cons x2a x2t =>
  dsimp only at h
  obtain ⟨hy1, h⟩ := gd h
  obtain ⟨hy2, h⟩ := gdD h
  obtain rfl := oI h
  exact runC2 hm ⟨[4], [(0, 0, false)], 1, 1, [(3, Nat.add (2 * codL (rows rw_iuuuuL ((x2a :: x2t) ++ [(x1, (0 : Int), (0 : Int), (0 : Int), (0 : Int), x3)])) + 1) 64)], true, [], [], []⟩ (yy 6 (.app ⟨none, rows rw_iuuuuL (x2a :: x2t), (rows rw_iuuuuL ((x2a :: x2t) ++ [(x1, (0 : Int), (0 : Int), (0 : Int), (0 : Int), x3)])), (((x2a :: x2t) ++ [(x1, (0 : Int), (0 : Int), (0 : Int), (0 : Int), x3)])).length, false⟩) <|
   ww (p := 0 < 1) ((by decide)) <|
   ww (p := rdT (layT (rows rw_iuuuuL (x2a :: x2t))) (Nat.mul ((x2a :: x2t)).length 6) 0 = some (rows rw_iuuuuL (x2a :: x2t))) (qok_ rwf_iuuuuL _ _ rfl) <|
   ww (p := fits (Nat.add ((x2a :: x2t)).length 1) 64 = true) (fits_ok hy1 (by have := hy1; show (_ : Nat) + _ ≤ _; omega)) <|
   ww (p := qq_ [(i6 x1), (Value.int .u64 (0 : Int)), (Value.int .u64 (0 : Int)), (Value.int .u64 (0 : Int)), (Value.int .u64 (0 : Int)), (nlV x3)] = true) (rfl) <|
   ww (p := qq_ (rows rw_iuuuuL (x2a :: x2t)) = true) (qge_ rwf_iuuuuL _) <|
   ww (p := rows rw_iuuuuL (x2a :: x2t) ++ [(i6 x1), (Value.int .u64 (0 : Int)), (Value.int .u64 (0 : Int)), (Value.int .u64 (0 : Int)), (Value.int .u64 (0 : Int)), (nlV x3)] = (rows rw_iuuuuL ((x2a :: x2t) ++ [(x1, (0 : Int), (0 : Int), (0 : Int), (0 : Int), x3)]))) (qln_ rw_iuuuuL (x2a :: x2t) [(x1, (0 : Int), (0 : Int), (0 : Int), (0 : Int), x3)]) <|
   ww (p := Nat.add ((x2a :: x2t)).length 1 = (((x2a :: x2t) ++ [(x1, (0 : Int), (0 : Int), (0 : Int), (0 : Int), x3)])).length) (by simp) <|
   ww (frz_okR qcs_ qfd_ qfg_ ((x2a :: x2t) ++ [(x1, (0 : Int), (0 : Int), (0 : Int), (0 : Int), x3)])) <|
   ee) (by kernel_rfl)
def qf_ (n : Nat) (a0 : Int) (a1 : WL rw_iuuuuL) : Option (WL rw_iuuuuL) :=
 (qd2_ n a1 a0 (([] : List R6), 0)).bind fun c1_ =>
 match c1_ with
 | [] =>
  if hc2 : [(-1 : Int)].length ≤ 140737488355328 then
   (qbz_ n a1 a0 ([] : List R6) (frzL [(-1 : Int)] hc2) ()).bind fun c3_ =>
   some c3_
  else none
 | c1_a :: c1_t =>
  ((some (w64 (((((c1_a :: c1_t)).length : Nat) : Int) - 1)))).bind fun c2_ =>
  if hc3 : [c2_].length ≤ 140737488355328 then
   (qbz_ n a1 a0 (c1_a :: c1_t) (frzL [c2_] hc3) ()).bind fun c4_ =>
   some c4_
  else none
theorem qk_ (n : Nat) (a0 : Int) (a1 : WL rw_iuuuuL) (r : WL rw_iuuuuL) (h : qf_ n a0 a1 = some r) : qk5_ a0 a1 r := by
 unfold qf_ at h
 obtain ⟨c1_, hc1, h⟩ := oB h
 cases c1_ with
 | nil =>
  dsimp only at h
  obtain ⟨hc2, h⟩ := gdD h
  replace h := oB h
  obtain ⟨c3_, hc3, h⟩ := h
  obtain rfl := oI h
  exact runF2 hm (kW [4] [] 1 1) (ww (qez_ n (rnd := none) a1 a0 (([] : List R6), 0) ([] : List R6) hc1) <|
   ll 28 ⟨(kW [0, 1, 5, 6, 7, 8, 9] [(0, 0, false)] 2 1), (qbg_ a1 a0 ([] : List R6)).1, (qbg_ a1 a0 ([] : List R6)).2⟩ <|
   ww (qe0_ n (rnd := none) a1 a0 ([] : List R6) (frzL [(-1 : Int)] hc2) () c3_ hc3) <|
   ww (qou_ qcs_ qfd_ [(-1 : Int)]) <|
   ll 47 ⟨⟨[0, 5, 6], [(0, 0, false)], 2, 1, [(3, Nat.add (2 * cod [(-1 : Int)] + 1) 64)], true, [], [], []⟩, (qby_ a1 a0 ([] : List R6) (frzL [(-1 : Int)] hc2) c3_).1, (qby_ a1 a0 ([] : List R6) (frzL [(-1 : Int)] hc2) c3_).2⟩ <|
   ee) (by kernel_rfl)
 | cons c1_a c1_t =>
  dsimp only at h
  obtain ⟨c2_, hc2, h⟩ := oB h
  obtain ⟨hc3, h⟩ := gdD h
  replace h := oB h
  obtain ⟨c4_, hc4, h⟩ := h
  obtain rfl := oI h
  exact runF2 hm (kW [4] [] 1 1) (ww (qez_ n (rnd := none) a1 a0 (([] : List R6), 0) (c1_a :: c1_t) hc1) <|
   ll 28 ⟨(kW [0, 1, 5, 6, 7, 8, 9] [(0, 0, false)] 2 1), (qbg_ a1 a0 (c1_a :: c1_t)).1, (qbg_ a1 a0 (c1_a :: c1_t)).2⟩ <|
   zz 32 (xnm hc2) <|
   ww (qe0_ n (rnd := none) a1 a0 (c1_a :: c1_t) (frzL [c2_] hc3) () c4_ hc4) <|
   ww (qa_ rwf_iuuuuL (c1_a :: c1_t) 37) <|
   ww (qou_ qcs_ qfd_ [c2_]) <|
   ww (qa_ rwf_iuuuuL (c1_a :: c1_t) 37) <|
   ll 47 ⟨⟨[0, 5, 6], [(0, 0, false), (1, 1, true)], 2, 1, [(3, Nat.add (2 * cod [c2_] + 1) 64)], true, [], [], []⟩, (qby_ a1 a0 (c1_a :: c1_t) (frzL [c2_] hc3) c4_).1, (qby_ a1 a0 (c1_a :: c1_t) (frzL [c2_] hc3) c4_).2⟩ <|
   ee) (by kernel_rfl)

def qkx_ (a0 : WL rw_iuuuuL) (r : Bool) : Value := match r with
 | o0 => (bO o0)
def qky_ (a0 : WL rw_iuuuuL) (r : Bool) : AH := match r with
 | o0 => ⟨sB [], 0, 0⟩
abbrev qox_ (a0 : WL rw_iuuuuL) (r : Bool) : Prop := Gv P (.func 10) [(wlV a0)] ⟨sB [], 0, 0⟩ (qkx_ a0 r) (qky_ a0 r)
abbrev qcb_ (a0 : WL rw_iuuuuL) (r : Bool) (ins outs : BL) : CallA := ⟨0, ins, qkx_ a0 r, qky_ a0 r, outs⟩
def q9_ (n : Nat) (a0 : WL rw_iuuuuL) : Option (Bool) :=
 (qdr_ n a0).bind fun c1_ =>
 if c1_ = 0 then
  (qdd_ n a0).bind fun c3_ =>
  ((some (w64 ((((a0).l.length : Nat) : Int) - 1)))).bind fun c4_ =>
  if 0 ≤ c4_ ∧ c4_ < (((((((a0).l.length : Nat) : Int)).toNat) : Nat) : Int) then
   if (c4_).toNat < (c3_).length then
    ((some ((c3_).getD (c4_).toNat (false)))).bind fun c7_ =>
    some c7_
   else none
  else none
 else
  some false
theorem qbq_ (n : Nat) (a0 : WL rw_iuuuuL) (r : Bool) (h : q9_ n a0 = some r) : qox_ a0 r := by
 unfold q9_ at h
 obtain ⟨c1_, hc1, h⟩ := oB h
 have k0 := fun {A L l} (k : PL A L l) => yy 4 (.call (qhf_ a0 c1_ [] [])) <|
  ww (qfo_ n a0 c1_ hc1) <|
  k
 by_cases hc2 : c1_ = 0
 ·rw [if_pos hc2] at h
  obtain ⟨c3_, hc3, h⟩ := oB h
  obtain ⟨c4_, hc4, h⟩ := oB h
  obtain ⟨hc5, h⟩ := gd h
  obtain ⟨hc6, h⟩ := gd h
  obtain ⟨c7_, hc7, h⟩ := oB h
  obtain rfl := oI h
  exact runF2 hm (kW [2] [] 0 0) (k0 <|
   zz 5 (xeT hc2) <|
   yy 8 (.call (qjz_ a0 c3_ [] [(0, 0, true)])) <|
   ww (qhb_ n a0 c3_ hc3) <|
   ww (qa_ rwf_b c3_ 4) <|
   zz 11 (xnm hc4) <|
   zz 12 (xk7 0 (((((a0).l.length : Nat) : Int)).toNat) hc5) <|
   zz 13 (ok8 hc7 (hc6)) <|
   ee) (by kernel_rfl)
 ·rw [if_neg hc2] at h
  obtain rfl := oI h
  exact runF2 hm (kW [2] [] 0 0) (k0 <|
   zz 5 (xeF hc2) <|
   ee) (by kernel_rfl)

def qga_ (g2 : ByteArray) : List Value := [(wlV wA), (wlV wB), (Value.string g2)]
def qkk_ (g2 : ByteArray) (r : Unit) : Value := match r with
 | _ => (bO true)
def qkl_ (g2 : ByteArray) (r : Unit) : AH := match r with
 | _ => ⟨sB [], 0, 0⟩
abbrev qkm_ (g2 : ByteArray) (r : Unit) : Prop := Gv P (.func 3) (qga_ g2) ⟨sB [], 0, 0⟩ (qkk_ g2 r) (qkl_ g2 r)
def qih_ (x0 : WL rw_iuuuuL) (x1 : WL rw_iuuuuL) (x2 : ByteArray) (x3 : Bool) (x4 : Bool) (x5 : Bool) (x6 : Bool) (x7 : Int) (st : Unit) : XSt := (sT 157 [(0, (wlV x0)), (1, (wlV x1)), (2, (Value.string x2)), (7, (bO x3)), (8, (bO x4)), (9, (bO x5)), (10, (bO x6)), (11, (i6 x7))], [], ⟨sB [], 0, 0⟩)
def qdk_ (x0 : WL rw_iuuuuL) (x1 : WL rw_iuuuuL) (x2 : ByteArray) (x3 : Bool) (x4 : Bool) (x5 : Bool) (x6 : Bool) (x7 : Int) (r : Bool × Bool) : Ex × XSt := match r with
 | (z0, z1) => (.normal, (sT 157 [(0, (wlV x0)), (1, (wlV x1)), (2, (Value.string x2)), (7, (bO x3)), (8, (bO x4)), (9, (bO z0)), (10, (bO z1)), (11, (i6 (w64 (x7 + 1))))], [], ⟨sB [], 0, 0⟩))
abbrev qii_ (rd : Option Nat) (x0 : WL rw_iuuuuL) (x1 : WL rw_iuuuuL) (x2 : ByteArray) (x3 : Bool) (x4 : Bool) (x5 : Bool) (x6 : Bool) (x7 : Int) (st : Unit) (r : Bool × Bool) : Prop := CG P rd (fnN P 3) 0 (qbl_ P 3 [true, false, false, true, false, true, true, true, true, true]) (qih_ x0 x1 x2 x3 x4 x5 x6 x7 st) (qdk_ x0 x1 x2 x3 x4 x5 x6 x7 r)
def qbs_ (n : Nat) (x0 : WL rw_iuuuuL) (x1 : WL rw_iuuuuL) (x2 : ByteArray) (x3 : Bool) (x4 : Bool) (x5 : Bool) (x6 : Bool) (x7 : Int) (st : Unit) : Option (Bool × Bool) :=
 if x5 = true then
  if x6 = true then
   some (true, true)
  else
   if x7 > 0 then
    if 0 ≤ x7 ∧ x7 ≤ (((x2).size : Nat) : Int) then
     (qd_ n x0 (ByteArray.extract x2 0 (x7).toNat)).bind fun y5_ =>
     if y5_ = true then
      (qf_ n 5 x0).bind fun y7_ =>
      (qd_ n y7_ (ByteArray.extract x2 (x7).toNat (x2).size)).bind fun y8_ =>
      some (true, y8_)
     else
      some (true, false)
    else none
   else
    some (true, false)
 else
  if 0 ≤ x7 ∧ x7 ≤ (((x2).size : Nat) : Int) then
   (qd_ n x0 (ByteArray.extract x2 0 (x7).toNat)).bind fun y3_ =>
   if y3_ = true then
    (qd_ n x1 (ByteArray.extract x2 (x7).toNat (x2).size)).bind fun y5_ =>
    if x6 = true then
     some (y5_, true)
    else
     if x7 > 0 then
      (qd_ n x0 (ByteArray.extract x2 0 (x7).toNat)).bind fun y8_ =>
      if y8_ = true then
       (qf_ n 5 x0).bind fun y10_ =>
       (qd_ n y10_ (ByteArray.extract x2 (x7).toNat (x2).size)).bind fun y11_ =>
       some (y5_, y11_)
      else
       some (y5_, false)
     else
      some (y5_, false)
   else
    if x6 = true then
     some (false, true)
    else
     if x7 > 0 then
      (qd_ n x0 (ByteArray.extract x2 0 (x7).toNat)).bind fun y7_ =>
      if y7_ = true then
       (qf_ n 5 x0).bind fun y9_ =>
       (qd_ n y9_ (ByteArray.extract x2 (x7).toNat (x2).size)).bind fun y10_ =>
       some (false, y10_)
      else
       some (false, false)
     else
      some (false, false)
  else none
theorem qg7_ (n : Nat) {rnd : Option Nat} (x0 : WL rw_iuuuuL) (x1 : WL rw_iuuuuL) (x2 : ByteArray) (x3 : Bool) (x4 : Bool) (x5 : Bool) (x6 : Bool) (x7 : Int) (st : Unit) (r : Bool × Bool) (h : qbs_ n x0 x1 x2 x3 x4 x5 x6 x7 st = some r) : qii_ rnd x0 x1 x2 x3 x4 x5 x6 x7 st r := by
 unfold qbs_ at h
 by_cases hy1 : x5 = true
 ·rw [if_pos hy1] at h
  have k0 := fun {A L l} (k : PL A L l) => zz 4 (xbT hy1) <|
   k
  by_cases hy2 : x6 = true
  ·rw [if_pos hy2] at h
   obtain rfl := oI h
   exact runC2 hm (kW [0, 1, 2, 7, 8, 9, 10, 11] [] 0 0) (k0 <|
    zz 20 (xbT hy2) <|
    ee) (by kernel_rfl)
  ·rw [if_neg hy2] at h
   have k1 := fun {A L l} (k : PL A L l) => zz 20 (xbF hy2) <|
    k
   by_cases hy3 : x7 > 0
   ·rw [if_pos hy3] at h
    obtain ⟨hy4, h⟩ := gd h
    obtain ⟨y5_, hy5, h⟩ := oB h
    have k2 := fun {A L l} (k : PL A L l) => zz 22 (xdT hy3) <|
     yy 27 (.pur (Value.string (ByteArray.extract x2 0 (x7).toNat))) <|
     ww (p := qe5_ P 9 (Value.string x2) none (some (i6 x7)) none Ax.h0 = some ((Value.string (ByteArray.extract x2 0 (x7).toNat)), Ax.h0)) (slStrLo (by kernel_rfl) hy4) <|
     yy 28 (.call (qh_ x0 (ByteArray.extract x2 0 (x7).toNat) y5_ [] [])) <|
     ww (qe_ n x0 (ByteArray.extract x2 0 (x7).toNat) y5_ hy5) <|
     k
    by_cases hy6 : y5_ = true
    ·rw [if_pos hy6] at h
     obtain ⟨y7_, hy7, h⟩ := oB h
     obtain ⟨y8_, hy8, h⟩ := oB h
     obtain rfl := oI h
     exact runC2 hm (kW [0, 1, 2, 7, 8, 9, 10, 11] [] 0 0) (k0 <|
      k1 <|
      k2 <|
      zz 30 (xbT hy6) <|
      yy 33 (.call (qs_ 5 x0 y7_ [(0, 13, false)] [])) <|
      ww (qk_ n 5 x0 y7_ hy7) <|
      yy 36 (.pur (Value.string (ByteArray.extract x2 (x7).toNat (x2).size))) <|
      ww (p := qe5_ P 9 (Value.string x2) (some (i6 x7)) none none Ax.h0 = some ((Value.string (ByteArray.extract x2 (x7).toNat (x2).size)), Ax.h0)) (slStrHi (by kernel_rfl) hy4) <|
      yy 37 (.call (qh_ y7_ (ByteArray.extract x2 (x7).toNat (x2).size) y8_ [] [])) <|
      ww (qe_ n y7_ (ByteArray.extract x2 (x7).toNat (x2).size) y8_ hy8) <|
      ee) (by kernel_rfl)
    ·rw [if_neg hy6] at h
     obtain rfl := oI h
     exact runC2 hm (kW [0, 1, 2, 7, 8, 9, 10, 11] [] 0 0) (k0 <|
      k1 <|
      k2 <|
      zz 30 (xbF hy6) <|
      ee) (by kernel_rfl)
   ·rw [if_neg hy3] at h
    obtain rfl := oI h
    exact runC2 hm (kW [0, 1, 2, 7, 8, 9, 10, 11] [] 0 0) (k0 <|
     k1 <|
     zz 22 (xdF hy3) <|
     ee) (by kernel_rfl)
 ·rw [if_neg hy1] at h
  obtain ⟨hy2, h⟩ := gd h
  obtain ⟨y3_, hy3, h⟩ := oB h
  have k0 := fun {A L l} (k : PL A L l) => zz 4 (xbF hy1) <|
   yy 8 (.pur (Value.string (ByteArray.extract x2 0 (x7).toNat))) <|
   ww (p := qe5_ P 9 (Value.string x2) none (some (i6 x7)) none Ax.h0 = some ((Value.string (ByteArray.extract x2 0 (x7).toNat)), Ax.h0)) (slStrLo (by kernel_rfl) hy2) <|
   yy 9 (.call (qh_ x0 (ByteArray.extract x2 0 (x7).toNat) y3_ [] [])) <|
   ww (qe_ n x0 (ByteArray.extract x2 0 (x7).toNat) y3_ hy3) <|
   k
  by_cases hy4 : y3_ = true
  ·rw [if_pos hy4] at h
   obtain ⟨y5_, hy5, h⟩ := oB h
   have k5 := fun {A L l} (k : PL A L l) => zz 10 (xbT hy4) <|
    yy 14 (.pur (Value.string (ByteArray.extract x2 (x7).toNat (x2).size))) <|
    ww (p := qe5_ P 9 (Value.string x2) (some (i6 x7)) none none Ax.h0 = some ((Value.string (ByteArray.extract x2 (x7).toNat (x2).size)), Ax.h0)) (slStrHi (by kernel_rfl) hy2) <|
    yy 15 (.call (qh_ x1 (ByteArray.extract x2 (x7).toNat (x2).size) y5_ [] [])) <|
    ww (qe_ n x1 (ByteArray.extract x2 (x7).toNat (x2).size) y5_ hy5) <|
    k
   by_cases hy6 : x6 = true
   ·rw [if_pos hy6] at h
    obtain rfl := oI h
    exact runC2 hm (kW [0, 1, 2, 7, 8, 9, 10, 11] [] 0 0) (k0 <|
     k5 <|
     zz 20 (xbT hy6) <|
     ee) (by kernel_rfl)
   ·rw [if_neg hy6] at h
    have k10 := fun {A L l} (k : PL A L l) => zz 20 (xbF hy6) <|
     k
    by_cases hy7 : x7 > 0
    ·rw [if_pos hy7] at h
     obtain ⟨y8_, hy8, h⟩ := oB h
     have k11 := fun {A L l} (k : PL A L l) => zz 22 (xdT hy7) <|
      yy 27 (.pur (Value.string (ByteArray.extract x2 0 (x7).toNat))) <|
      ww (p := qe5_ P 9 (Value.string x2) none (some (i6 x7)) none Ax.h0 = some ((Value.string (ByteArray.extract x2 0 (x7).toNat)), Ax.h0)) (slStrLo (by kernel_rfl) hy2) <|
      yy 28 (.call (qh_ x0 (ByteArray.extract x2 0 (x7).toNat) y8_ [] [])) <|
      ww (qe_ n x0 (ByteArray.extract x2 0 (x7).toNat) y8_ hy8) <|
      k
     by_cases hy9 : y8_ = true
     ·rw [if_pos hy9] at h
      obtain ⟨y10_, hy10, h⟩ := oB h
      obtain ⟨y11_, hy11, h⟩ := oB h
      obtain rfl := oI h
      exact runC2 hm (kW [0, 1, 2, 7, 8, 9, 10, 11] [] 0 0) (k0 <|
       k5 <|
       k10 <|
       k11 <|
       zz 30 (xbT hy9) <|
       yy 33 (.call (qs_ 5 x0 y10_ [(0, 13, false)] [])) <|
       ww (qk_ n 5 x0 y10_ hy10) <|
       yy 36 (.pur (Value.string (ByteArray.extract x2 (x7).toNat (x2).size))) <|
       ww (p := qe5_ P 9 (Value.string x2) (some (i6 x7)) none none Ax.h0 = some ((Value.string (ByteArray.extract x2 (x7).toNat (x2).size)), Ax.h0)) (slStrHi (by kernel_rfl) hy2) <|
       yy 37 (.call (qh_ y10_ (ByteArray.extract x2 (x7).toNat (x2).size) y11_ [] [])) <|
       ww (qe_ n y10_ (ByteArray.extract x2 (x7).toNat (x2).size) y11_ hy11) <|
       ee) (by kernel_rfl)
     ·rw [if_neg hy9] at h
      obtain rfl := oI h
      exact runC2 hm (kW [0, 1, 2, 7, 8, 9, 10, 11] [] 0 0) (k0 <|
       k5 <|
       k10 <|
       k11 <|
       zz 30 (xbF hy9) <|
       ee) (by kernel_rfl)
    ·rw [if_neg hy7] at h
     obtain rfl := oI h
     exact runC2 hm (kW [0, 1, 2, 7, 8, 9, 10, 11] [] 0 0) (k0 <|
      k5 <|
      k10 <|
      zz 22 (xdF hy7) <|
      ee) (by kernel_rfl)
  ·rw [if_neg hy4] at h
   have k5 := fun {A L l} (k : PL A L l) => zz 10 (xbF hy4) <|
    k
   by_cases hy5 : x6 = true
   ·rw [if_pos hy5] at h
    obtain rfl := oI h
    exact runC2 hm (kW [0, 1, 2, 7, 8, 9, 10, 11] [] 0 0) (k0 <|
     k5 <|
     zz 20 (xbT hy5) <|
     ee) (by kernel_rfl)
   ·rw [if_neg hy5] at h
    have k6 := fun {A L l} (k : PL A L l) => zz 20 (xbF hy5) <|
     k
    by_cases hy6 : x7 > 0
    ·rw [if_pos hy6] at h
     obtain ⟨y7_, hy7, h⟩ := oB h
     have k7 := fun {A L l} (k : PL A L l) => zz 22 (xdT hy6) <|
      yy 27 (.pur (Value.string (ByteArray.extract x2 0 (x7).toNat))) <|
      ww (p := qe5_ P 9 (Value.string x2) none (some (i6 x7)) none Ax.h0 = some ((Value.string (ByteArray.extract x2 0 (x7).toNat)), Ax.h0)) (slStrLo (by kernel_rfl) hy2) <|
      yy 28 (.call (qh_ x0 (ByteArray.extract x2 0 (x7).toNat) y7_ [] [])) <|
      ww (qe_ n x0 (ByteArray.extract x2 0 (x7).toNat) y7_ hy7) <|
      k
     by_cases hy8 : y7_ = true
     ·rw [if_pos hy8] at h
      obtain ⟨y9_, hy9, h⟩ := oB h
      obtain ⟨y10_, hy10, h⟩ := oB h
      obtain rfl := oI h
      exact runC2 hm (kW [0, 1, 2, 7, 8, 9, 10, 11] [] 0 0) (k0 <|
       k5 <|
       k6 <|
       k7 <|
       zz 30 (xbT hy8) <|
       yy 33 (.call (qs_ 5 x0 y9_ [(0, 13, false)] [])) <|
       ww (qk_ n 5 x0 y9_ hy9) <|
       yy 36 (.pur (Value.string (ByteArray.extract x2 (x7).toNat (x2).size))) <|
       ww (p := qe5_ P 9 (Value.string x2) (some (i6 x7)) none none Ax.h0 = some ((Value.string (ByteArray.extract x2 (x7).toNat (x2).size)), Ax.h0)) (slStrHi (by kernel_rfl) hy2) <|
       yy 37 (.call (qh_ y9_ (ByteArray.extract x2 (x7).toNat (x2).size) y10_ [] [])) <|
       ww (qe_ n y9_ (ByteArray.extract x2 (x7).toNat (x2).size) y10_ hy10) <|
       ee) (by kernel_rfl)
     ·rw [if_neg hy8] at h
      obtain rfl := oI h
      exact runC2 hm (kW [0, 1, 2, 7, 8, 9, 10, 11] [] 0 0) (k0 <|
       k5 <|
       k6 <|
       k7 <|
       zz 30 (xbF hy8) <|
       ee) (by kernel_rfl)
    ·rw [if_neg hy6] at h
     obtain rfl := oI h
     exact runC2 hm (kW [0, 1, 2, 7, 8, 9, 10, 11] [] 0 0) (k0 <|
      k5 <|
      k6 <|
      zz 22 (xdF hy6) <|
      ee) (by kernel_rfl)
def qci_ (x0 : WL rw_iuuuuL) (x1 : WL rw_iuuuuL) (x2 : ByteArray) (x3 : Bool) (x4 : Bool) (st : Bool × Bool × Int) : XSt := match st with
 | (x5, x6, x7) => (sT 157 [(0, (wlV x0)), (1, (wlV x1)), (2, (Value.string x2)), (7, (bO x3)), (8, (bO x4)), (9, (bO x5)), (10, (bO x6)), (11, (i6 x7))], [], ⟨sB [], 0, 0⟩)
def q5_ (x0 : WL rw_iuuuuL) (x1 : WL rw_iuuuuL) (x2 : ByteArray) (x3 : Bool) (x4 : Bool) (r : Bool × Bool) : Ex × XSt := match r with
 | (z0, z1) => (.exit 0, (sT 157 [(0, (wlV x0)), (1, (wlV x1)), (2, (Value.string x2)), (7, (bO x3)), (8, (bO x4)), (9, (bO z0)), (10, (bO z1))], [], ⟨sB [], 0, 0⟩))
abbrev qij_ (rnd : Option Nat) (x0 : WL rw_iuuuuL) (x1 : WL rw_iuuuuL) (x2 : ByteArray) (x3 : Bool) (x4 : Bool) (st : Bool × Bool × Int) (c : Ex × XSt) : Prop := CG P rnd (fnN P 3) 0 (qbl_ P 3 [false, false, true, false, true, true, true, true, true]) (qci_ x0 x1 x2 x3 x4 st) c
abbrev qik_ (rd : Option Nat) (x0 : WL rw_iuuuuL) (x1 : WL rw_iuuuuL) (x2 : ByteArray) (x3 : Bool) (x4 : Bool) (st : Bool × Bool × Int) (r : Bool × Bool) : Prop := CG P rd (fnN P 3) 0 (qbl_ P 3 [false, true, false, true, true, true, true, true]) (qci_ x0 x1 x2 x3 x4 st) (q5_ x0 x1 x2 x3 x4 r)
def q6_ (n : Nat) (x0 : WL rw_iuuuuL) (x1 : WL rw_iuuuuL) (x2 : ByteArray) (x3 : Bool) (x4 : Bool) (st : Bool × Bool × Int) : Option ((Bool × Bool × Int) ⊕ (Bool × Bool)) := match st with
 | (x5, x6, x7) =>
  if x7 ≤ (((x2).size : Nat) : Int) then
   (qbs_ n x0 x1 x2 x3 x4 x5 x6 x7 ()).bind fun t => match t with
   | (y2_0, y2_1) =>
    some (.inl (y2_0, y2_1, (w64 (x7 + 1))))
  else
   some (.inr (x5, x6))
def qbt_ (n : Nat) (x0 : WL rw_iuuuuL) (x1 : WL rw_iuuuuL) (x2 : ByteArray) (x3 : Bool) (x4 : Bool) (st : Bool × Bool × Int) : Option (Bool × Bool) := iterM (q6_ n x0 x1 x2 x3 x4) n st
theorem qfc_ (n : Nat) {rnd : Option Nat} (x0 : WL rw_iuuuuL) (x1 : WL rw_iuuuuL) (x2 : ByteArray) (x3 : Bool) (x4 : Bool) (st : Bool × Bool × Int) (o : (Bool × Bool × Int) ⊕ (Bool × Bool)) (h : q6_ n x0 x1 x2 x3 x4 st = some o) : qij_ rnd x0 x1 x2 x3 x4 st (Sum.elim (fun s => (.normal, qci_ x0 x1 x2 x3 x4 s)) (fun r => q5_ x0 x1 x2 x3 x4 r) o) := by
 obtain ⟨x5, x6, x7⟩ := st
 unfold q6_ at h
 dsimp only at h
 by_cases hy1 : x7 ≤ (((x2).size : Nat) : Int)
 ·rw [if_pos hy1] at h
  obtain ⟨⟨y2_0, y2_1⟩, hy2, h⟩ := oB h
  dsimp only at h
  obtain rfl := oI h
  exact runC2 hm (kW [0, 1, 2, 7, 8, 9, 10, 11] [] 0 0) (zz 5 (xdT hy1) <|
   ww (qg7_ n (rnd := rnd) x0 x1 x2 x3 x4 x5 x6 x7 () (y2_0, y2_1) hy2) <|
   ll 7 ⟨(kW [0, 1, 2, 7, 8, 9, 10, 11] [] 0 0), (qdk_ x0 x1 x2 x3 x4 x5 x6 x7 (y2_0, y2_1)).1, (qdk_ x0 x1 x2 x3 x4 x5 x6 x7 (y2_0, y2_1)).2⟩ <|
   ee) (by kernel_rfl)
 ·rw [if_neg hy1] at h
  obtain rfl := oI h
  exact runC2 hm (kW [0, 1, 2, 7, 8, 9, 10] [] 0 0) (zz 5 (xdF hy1) <|
   ee) (by kernel_rfl)
theorem qeg_ (n : Nat) {rnd : Option Nat} (x0 : WL rw_iuuuuL) (x1 : WL rw_iuuuuL) (x2 : ByteArray) (x3 : Bool) (x4 : Bool) (st : Bool × Bool × Int) (r : Bool × Bool) (h : qbt_ n x0 x1 x2 x3 x4 st = some r) : qik_ rnd x0 x1 x2 x3 x4 st r :=
 CG.iter (b := qbl_ P 3 [false, false, true, false, true, true, true, true, true]) (by kernel_rfl) (body := q6_ n x0 x1 x2 x3 x4) (S := qci_ x0 x1 x2 x3 x4) (X := q5_ x0 x1 x2 x3 x4)
  (fun s s' h => qfc_ n x0 x1 x2 x3 x4 s (.inl s') h)
  (fun s r h => qfc_ n x0 x1 x2 x3 x4 s (.inr r) h)
  (fun r => by intro hx; cases hx) h
def qil_ (x0 : WL rw_iuuuuL) (x1 : WL rw_iuuuuL) (x2 : ByteArray) (x3 : Bool) (x4 : Bool) (x5 : Bool) (x6 : Bool) (st : Unit) : XSt := (sT 157 [(0, (wlV x0)), (1, (wlV x1)), (2, (Value.string x2)), (7, (bO x3)), (8, (bO x4)), (9, (bO x5)), (10, (bO x6))], [], ⟨sB [], 0, 0⟩)
def qbu_ (x0 : WL rw_iuuuuL) (x1 : WL rw_iuuuuL) (x2 : ByteArray) (x3 : Bool) (x4 : Bool) (x5 : Bool) (x6 : Bool) (r : Unit) : Ex × XSt := match r with
 | _ => (.ret, (sT 157 [(6, (bO true))], [], ⟨sB [], 0, 0⟩))
abbrev qim_ (rd : Option Nat) (x0 : WL rw_iuuuuL) (x1 : WL rw_iuuuuL) (x2 : ByteArray) (x3 : Bool) (x4 : Bool) (x5 : Bool) (x6 : Bool) (st : Unit) (r : Unit) : Prop := CG P rd (fnN P 3) 0 (qbl_ P 3 [true, true, true, true, true, true]) (qil_ x0 x1 x2 x3 x4 x5 x6 st) (qbu_ x0 x1 x2 x3 x4 x5 x6 r)
def q7_ (n : Nat) (x0 : WL rw_iuuuuL) (x1 : WL rw_iuuuuL) (x2 : ByteArray) (x3 : Bool) (x4 : Bool) (x5 : Bool) (x6 : Bool) (st : Unit) : Option (Unit) :=
 (qr_ n 4 x0 x1).bind fun y1_ =>
 (qd_ n y1_ x2).bind fun y2_ =>
 if x3 = true then
  if y2_ = true then
   (qr_ n 3 x0 x1).bind fun y5_ =>
   (qd_ n y5_ x2).bind fun y6_ =>
   if y6_ = x5 then
    (qf_ n 7 x0).bind fun y8_ =>
    (qd_ n y8_ x2).bind fun y9_ =>
    if y9_ = true then
     (qf_ n 5 x0).bind fun y11_ =>
     (qd_ n y11_ x2).bind fun y12_ =>
     if y12_ = x6 then
      (qf_ n 6 x0).bind fun y14_ =>
      (qd_ n y14_ x2).bind fun y15_ =>
      if x6 = true then
       if (x2).data.toList = ((ByteArray.mk #[])).data.toList then
        if y15_ = true then
         (q9_ n x0).bind fun y19_ =>
         (qd_ n x0 (ByteArray.mk #[])).bind fun y20_ =>
         if y19_ = y20_ then
          some ()
         else
          none
        else
         none
       else
        if y15_ = true then
         (q9_ n x0).bind fun y19_ =>
         (qd_ n x0 (ByteArray.mk #[])).bind fun y20_ =>
         if y19_ = y20_ then
          some ()
         else
          none
        else
         none
      else
       if (x2).data.toList = ((ByteArray.mk #[])).data.toList then
        if y15_ = true then
         (q9_ n x0).bind fun y19_ =>
         (qd_ n x0 (ByteArray.mk #[])).bind fun y20_ =>
         if y19_ = y20_ then
          some ()
         else
          none
        else
         none
       else
        if y15_ = true then
         none
        else
         (q9_ n x0).bind fun y19_ =>
         (qd_ n x0 (ByteArray.mk #[])).bind fun y20_ =>
         if y19_ = y20_ then
          some ()
         else
          none
     else
      none
    else
     none
   else
    none
  else
   none
 else
  if y2_ = x4 then
   (qr_ n 3 x0 x1).bind fun y5_ =>
   (qd_ n y5_ x2).bind fun y6_ =>
   if y6_ = x5 then
    (qf_ n 7 x0).bind fun y8_ =>
    (qd_ n y8_ x2).bind fun y9_ =>
    if (x2).data.toList = ((ByteArray.mk #[])).data.toList then
     if y9_ = true then
      (qf_ n 5 x0).bind fun y12_ =>
      (qd_ n y12_ x2).bind fun y13_ =>
      if y13_ = x6 then
       (qf_ n 6 x0).bind fun y15_ =>
       (qd_ n y15_ x2).bind fun y16_ =>
       if x6 = true then
        if y16_ = true then
         none
        else
         (q9_ n x0).bind fun y19_ =>
         (qd_ n x0 (ByteArray.mk #[])).bind fun y20_ =>
         if y19_ = y20_ then
          some ()
         else
          none
       else
        if y16_ = true then
         none
        else
         (q9_ n x0).bind fun y19_ =>
         (qd_ n x0 (ByteArray.mk #[])).bind fun y20_ =>
         if y19_ = y20_ then
          some ()
         else
          none
      else
       none
     else
      none
    else
     if y9_ = true then
      none
     else
      (qf_ n 5 x0).bind fun y12_ =>
      (qd_ n y12_ x2).bind fun y13_ =>
      if y13_ = x6 then
       (qf_ n 6 x0).bind fun y15_ =>
       (qd_ n y15_ x2).bind fun y16_ =>
       if x6 = true then
        if y16_ = true then
         (q9_ n x0).bind fun y19_ =>
         (qd_ n x0 (ByteArray.mk #[])).bind fun y20_ =>
         if y19_ = y20_ then
          some ()
         else
          none
        else
         none
       else
        if y16_ = true then
         none
        else
         (q9_ n x0).bind fun y19_ =>
         (qd_ n x0 (ByteArray.mk #[])).bind fun y20_ =>
         if y19_ = y20_ then
          some ()
         else
          none
      else
       none
   else
    none
  else
   none
theorem qeh_ (n : Nat) {rnd : Option Nat} (x0 : WL rw_iuuuuL) (x1 : WL rw_iuuuuL) (x2 : ByteArray) (x3 : Bool) (x4 : Bool) (x5 : Bool) (x6 : Bool) (st : Unit) (r : Unit) (h : q7_ n x0 x1 x2 x3 x4 x5 x6 st = some r) : qim_ rnd x0 x1 x2 x3 x4 x5 x6 st r := by
 unfold q7_ at h
 obtain ⟨y1_, hy1, h⟩ := oB h
 obtain ⟨y2_, hy2, h⟩ := oB h
 have k0 := fun {A L l} (k : PL A L l) => yy 4 (.call (qek_ 4 x0 x1 y1_ [(0, 0, false)] [])) <|
  ww (qds_ n 4 x0 x1 y1_ hy1) <|
  yy 6 (.call (qh_ y1_ x2 y2_ [] [])) <|
  ww (qe_ n y1_ x2 y2_ hy2) <|
  k
 by_cases hy3 : x3 = true
 ·rw [if_pos hy3] at h
  have k4 := fun {A L l} (k : PL A L l) => zz 8 (xbT hy3) <|
   k
  by_cases hy4 : y2_ = true
  ·rw [if_pos hy4] at h
   obtain ⟨y5_, hy5, h⟩ := oB h
   obtain ⟨y6_, hy6, h⟩ := oB h
   have k5 := fun {A L l} (k : PL A L l) => yy 11 (vt) <|
    ww (p := (Value.bool (y2_ == true)) = (Value.bool true)) (vEqB hy4 rfl) <|
    yy 16 (.call (qek_ 3 x0 x1 y5_ [(0, 1, false)] [])) <|
    ww (qds_ n 3 x0 x1 y5_ hy5) <|
    yy 18 (.call (qh_ y5_ x2 y6_ [] [])) <|
    ww (qe_ n y5_ x2 y6_ hy6) <|
    k
   by_cases hy7 : y6_ = x5
   ·rw [if_pos hy7] at h
    obtain ⟨y8_, hy8, h⟩ := oB h
    obtain ⟨y9_, hy9, h⟩ := oB h
    have k11 := fun {A L l} (k : PL A L l) => yy 20 (vt) <|
     ww (p := (Value.bool (y6_ == x5)) = (Value.bool true)) (congrArg Value.bool (beq_iff_eq.2 hy7)) <|
     yy 25 (.call (qs_ 7 x0 y8_ [(0, 2, false)] [])) <|
     ww (qk_ n 7 x0 y8_ hy8) <|
     yy 27 (.call (qh_ y8_ x2 y9_ [] [])) <|
     ww (qe_ n y8_ x2 y9_ hy9) <|
     zz 29 (xbT hy3) <|
     k
    by_cases hy10 : y9_ = true
    ·rw [if_pos hy10] at h
     obtain ⟨y11_, hy11, h⟩ := oB h
     obtain ⟨y12_, hy12, h⟩ := oB h
     have k18 := fun {A L l} (k : PL A L l) => yy 33 (vt) <|
      ww (p := (Value.bool (y9_ == true)) = (Value.bool true)) (vEqB hy10 rfl) <|
      yy 38 (.call (qs_ 5 x0 y11_ [(0, 3, false)] [])) <|
      ww (qk_ n 5 x0 y11_ hy11) <|
      yy 40 (.call (qh_ y11_ x2 y12_ [] [])) <|
      ww (qe_ n y11_ x2 y12_ hy12) <|
      k
     by_cases hy13 : y12_ = x6
     ·rw [if_pos hy13] at h
      obtain ⟨y14_, hy14, h⟩ := oB h
      obtain ⟨y15_, hy15, h⟩ := oB h
      have k24 := fun {A L l} (k : PL A L l) => yy 42 (vt) <|
       ww (p := (Value.bool (y12_ == x6)) = (Value.bool true)) (congrArg Value.bool (beq_iff_eq.2 hy13)) <|
       yy 47 (.call (qs_ 6 x0 y14_ [(0, 4, false)] [])) <|
       ww (qk_ n 6 x0 y14_ hy14) <|
       yy 49 (.call (qh_ y14_ x2 y15_ [] [])) <|
       ww (qe_ n y14_ x2 y15_ hy15) <|
       k
      by_cases hy16 : x6 = true
      ·rw [if_pos hy16] at h
       have k30 := fun {A L l} (k : PL A L l) => zz 51 (xbT hy16) <|
        k
       by_cases hy17 : (x2).data.toList = ((ByteArray.mk #[])).data.toList
       ·rw [if_pos hy17] at h
        have k31 := fun {A L l} (k : PL A L l) => yy 53 (vf) <|
         ww (p := (Value.bool (!((x2).toList == ((ByteArray.mk #[])).toList))) = (Value.bool false)) (by rw [vsEqT hy17] <;> rfl) <|
         yy 57 (vt) <|
         ww (p := (Value.bool ((x2).toList == ((ByteArray.mk #[])).toList)) = (Value.bool true)) (by rw [vsEqT hy17] <;> rfl) <|
         k
        by_cases hy18 : y15_ = true
        ·rw [if_pos hy18] at h
         obtain ⟨y19_, hy19, h⟩ := oB h
         obtain ⟨y20_, hy20, h⟩ := oB h
         have k35 := fun {A L l} (k : PL A L l) => yy 62 (vt) <|
          ww (p := (Value.bool (y15_ == x3)) = (Value.bool true)) (vEqB hy18 hy3) <|
          yy 66 (.call (qcb_ x0 y19_ [] [])) <|
          ww (qbq_ n x0 y19_ hy19) <|
          yy 68 (.call (qh_ x0 (ByteArray.mk #[]) y20_ [] [])) <|
          ww (qe_ n x0 (ByteArray.mk #[]) y20_ hy20) <|
          k
         by_cases hy21 : y19_ = y20_
         ·rw [if_pos hy21] at h
          obtain rfl := oI h
          exact runC2 hm (kW [6] [] 0 0) (k0 <|
           k4 <|
           k5 <|
           k11 <|
           k18 <|
           k24 <|
           k30 <|
           k31 <|
           k35 <|
           yy 69 (vt) <|
           ww (p := (Value.bool (y19_ == y20_)) = (Value.bool true)) (congrArg Value.bool (beq_iff_eq.2 hy21)) <|
           ee) (by kernel_rfl)
         ·rw [if_neg hy21] at h
          cases h
        ·rw [if_neg hy18] at h
         cases h
       ·rw [if_neg hy17] at h
        have k31 := fun {A L l} (k : PL A L l) => yy 53 (vt) <|
         ww (p := (Value.bool (!((x2).toList == ((ByteArray.mk #[])).toList))) = (Value.bool true)) (by rw [vsEqF hy17] <;> rfl) <|
         k
        by_cases hy18 : y15_ = true
        ·rw [if_pos hy18] at h
         obtain ⟨y19_, hy19, h⟩ := oB h
         obtain ⟨y20_, hy20, h⟩ := oB h
         have k33 := fun {A L l} (k : PL A L l) => yy 62 (vt) <|
          ww (p := (Value.bool (y15_ == true)) = (Value.bool true)) (vEqB hy18 rfl) <|
          yy 66 (.call (qcb_ x0 y19_ [] [])) <|
          ww (qbq_ n x0 y19_ hy19) <|
          yy 68 (.call (qh_ x0 (ByteArray.mk #[]) y20_ [] [])) <|
          ww (qe_ n x0 (ByteArray.mk #[]) y20_ hy20) <|
          k
         by_cases hy21 : y19_ = y20_
         ·rw [if_pos hy21] at h
          obtain rfl := oI h
          exact runC2 hm (kW [6] [] 0 0) (k0 <|
           k4 <|
           k5 <|
           k11 <|
           k18 <|
           k24 <|
           k30 <|
           k31 <|
           k33 <|
           yy 69 (vt) <|
           ww (p := (Value.bool (y19_ == y20_)) = (Value.bool true)) (congrArg Value.bool (beq_iff_eq.2 hy21)) <|
           ee) (by kernel_rfl)
         ·rw [if_neg hy21] at h
          cases h
        ·rw [if_neg hy18] at h
         cases h
      ·rw [if_neg hy16] at h
       have k30 := fun {A L l} (k : PL A L l) => zz 51 (xbF hy16) <|
        k
       by_cases hy17 : (x2).data.toList = ((ByteArray.mk #[])).data.toList
       ·rw [if_pos hy17] at h
        have k31 := fun {A L l} (k : PL A L l) => yy 57 (vt) <|
         ww (p := (Value.bool ((x2).toList == ((ByteArray.mk #[])).toList)) = (Value.bool true)) (by rw [vsEqT hy17] <;> rfl) <|
         k
        by_cases hy18 : y15_ = true
        ·rw [if_pos hy18] at h
         obtain ⟨y19_, hy19, h⟩ := oB h
         obtain ⟨y20_, hy20, h⟩ := oB h
         have k33 := fun {A L l} (k : PL A L l) => yy 62 (vt) <|
          ww (p := (Value.bool (y15_ == x3)) = (Value.bool true)) (vEqB hy18 hy3) <|
          yy 66 (.call (qcb_ x0 y19_ [] [])) <|
          ww (qbq_ n x0 y19_ hy19) <|
          yy 68 (.call (qh_ x0 (ByteArray.mk #[]) y20_ [] [])) <|
          ww (qe_ n x0 (ByteArray.mk #[]) y20_ hy20) <|
          k
         by_cases hy21 : y19_ = y20_
         ·rw [if_pos hy21] at h
          obtain rfl := oI h
          exact runC2 hm (kW [6] [] 0 0) (k0 <|
           k4 <|
           k5 <|
           k11 <|
           k18 <|
           k24 <|
           k30 <|
           k31 <|
           k33 <|
           yy 69 (vt) <|
           ww (p := (Value.bool (y19_ == y20_)) = (Value.bool true)) (congrArg Value.bool (beq_iff_eq.2 hy21)) <|
           ee) (by kernel_rfl)
         ·rw [if_neg hy21] at h
          cases h
        ·rw [if_neg hy18] at h
         cases h
       ·rw [if_neg hy17] at h
        have k31 := fun {A L l} (k : PL A L l) => yy 57 (vf) <|
         ww (p := (Value.bool ((x2).toList == ((ByteArray.mk #[])).toList)) = (Value.bool false)) (by rw [vsEqF hy17] <;> rfl) <|
         k
        by_cases hy18 : y15_ = true
        ·rw [if_pos hy18] at h
         cases h
        ·rw [if_neg hy18] at h
         obtain ⟨y19_, hy19, h⟩ := oB h
         obtain ⟨y20_, hy20, h⟩ := oB h
         have k33 := fun {A L l} (k : PL A L l) => yy 62 (vt) <|
          ww (p := (Value.bool (y15_ == false)) = (Value.bool true)) (vEqB (Bool.eq_false_iff.2 hy18) rfl) <|
          yy 66 (.call (qcb_ x0 y19_ [] [])) <|
          ww (qbq_ n x0 y19_ hy19) <|
          yy 68 (.call (qh_ x0 (ByteArray.mk #[]) y20_ [] [])) <|
          ww (qe_ n x0 (ByteArray.mk #[]) y20_ hy20) <|
          k
         by_cases hy21 : y19_ = y20_
         ·rw [if_pos hy21] at h
          obtain rfl := oI h
          exact runC2 hm (kW [6] [] 0 0) (k0 <|
           k4 <|
           k5 <|
           k11 <|
           k18 <|
           k24 <|
           k30 <|
           k31 <|
           k33 <|
           yy 69 (vt) <|
           ww (p := (Value.bool (y19_ == y20_)) = (Value.bool true)) (congrArg Value.bool (beq_iff_eq.2 hy21)) <|
           ee) (by kernel_rfl)
         ·rw [if_neg hy21] at h
          cases h
     ·rw [if_neg hy13] at h
      cases h
    ·rw [if_neg hy10] at h
     cases h
   ·rw [if_neg hy7] at h
    cases h
  ·rw [if_neg hy4] at h
   cases h
 ·rw [if_neg hy3] at h
  have k4 := fun {A L l} (k : PL A L l) => zz 8 (xbF hy3) <|
   k
  by_cases hy4 : y2_ = x4
  ·rw [if_pos hy4] at h
   obtain ⟨y5_, hy5, h⟩ := oB h
   obtain ⟨y6_, hy6, h⟩ := oB h
   have k5 := fun {A L l} (k : PL A L l) => yy 11 (vt) <|
    ww (p := (Value.bool (y2_ == x4)) = (Value.bool true)) (congrArg Value.bool (beq_iff_eq.2 hy4)) <|
    yy 16 (.call (qek_ 3 x0 x1 y5_ [(0, 1, false)] [])) <|
    ww (qds_ n 3 x0 x1 y5_ hy5) <|
    yy 18 (.call (qh_ y5_ x2 y6_ [] [])) <|
    ww (qe_ n y5_ x2 y6_ hy6) <|
    k
   by_cases hy7 : y6_ = x5
   ·rw [if_pos hy7] at h
    obtain ⟨y8_, hy8, h⟩ := oB h
    obtain ⟨y9_, hy9, h⟩ := oB h
    have k11 := fun {A L l} (k : PL A L l) => yy 20 (vt) <|
     ww (p := (Value.bool (y6_ == x5)) = (Value.bool true)) (congrArg Value.bool (beq_iff_eq.2 hy7)) <|
     yy 25 (.call (qs_ 7 x0 y8_ [(0, 2, false)] [])) <|
     ww (qk_ n 7 x0 y8_ hy8) <|
     yy 27 (.call (qh_ y8_ x2 y9_ [] [])) <|
     ww (qe_ n y8_ x2 y9_ hy9) <|
     zz 29 (xbF hy3) <|
     k
    by_cases hy10 : (x2).data.toList = ((ByteArray.mk #[])).data.toList
    ·rw [if_pos hy10] at h
     have k18 := fun {A L l} (k : PL A L l) => yy 31 (vt) <|
      ww (p := (Value.bool ((x2).toList == ((ByteArray.mk #[])).toList)) = (Value.bool true)) (by rw [vsEqT hy10] <;> rfl) <|
      k
     by_cases hy11 : y9_ = true
     ·rw [if_pos hy11] at h
      obtain ⟨y12_, hy12, h⟩ := oB h
      obtain ⟨y13_, hy13, h⟩ := oB h
      have k20 := fun {A L l} (k : PL A L l) => yy 33 (vt) <|
       ww (p := (Value.bool (y9_ == true)) = (Value.bool true)) (vEqB hy11 rfl) <|
       yy 38 (.call (qs_ 5 x0 y12_ [(0, 3, false)] [])) <|
       ww (qk_ n 5 x0 y12_ hy12) <|
       yy 40 (.call (qh_ y12_ x2 y13_ [] [])) <|
       ww (qe_ n y12_ x2 y13_ hy13) <|
       k
      by_cases hy14 : y13_ = x6
      ·rw [if_pos hy14] at h
       obtain ⟨y15_, hy15, h⟩ := oB h
       obtain ⟨y16_, hy16, h⟩ := oB h
       have k26 := fun {A L l} (k : PL A L l) => yy 42 (vt) <|
        ww (p := (Value.bool (y13_ == x6)) = (Value.bool true)) (congrArg Value.bool (beq_iff_eq.2 hy14)) <|
        yy 47 (.call (qs_ 6 x0 y15_ [(0, 4, false)] [])) <|
        ww (qk_ n 6 x0 y15_ hy15) <|
        yy 49 (.call (qh_ y15_ x2 y16_ [] [])) <|
        ww (qe_ n y15_ x2 y16_ hy16) <|
        k
       by_cases hy17 : x6 = true
       ·rw [if_pos hy17] at h
        have k32 := fun {A L l} (k : PL A L l) => zz 51 (xbT hy17) <|
         yy 53 (vf) <|
         ww (p := (Value.bool (!((x2).toList == ((ByteArray.mk #[])).toList))) = (Value.bool false)) (by rw [vsEqT hy10] <;> rfl) <|
         yy 57 (vt) <|
         ww (p := (Value.bool ((x2).toList == ((ByteArray.mk #[])).toList)) = (Value.bool true)) (by rw [vsEqT hy10] <;> rfl) <|
         k
        by_cases hy18 : y16_ = true
        ·rw [if_pos hy18] at h
         cases h
        ·rw [if_neg hy18] at h
         obtain ⟨y19_, hy19, h⟩ := oB h
         obtain ⟨y20_, hy20, h⟩ := oB h
         have k37 := fun {A L l} (k : PL A L l) => yy 62 (vt) <|
          ww (p := (Value.bool (y16_ == x3)) = (Value.bool true)) (vEqB (Bool.eq_false_iff.2 hy18) (Bool.eq_false_iff.2 hy3)) <|
          yy 66 (.call (qcb_ x0 y19_ [] [])) <|
          ww (qbq_ n x0 y19_ hy19) <|
          yy 68 (.call (qh_ x0 (ByteArray.mk #[]) y20_ [] [])) <|
          ww (qe_ n x0 (ByteArray.mk #[]) y20_ hy20) <|
          k
         by_cases hy21 : y19_ = y20_
         ·rw [if_pos hy21] at h
          obtain rfl := oI h
          exact runC2 hm (kW [6] [] 0 0) (k0 <|
           k4 <|
           k5 <|
           k11 <|
           k18 <|
           k20 <|
           k26 <|
           k32 <|
           k37 <|
           yy 69 (vt) <|
           ww (p := (Value.bool (y19_ == y20_)) = (Value.bool true)) (congrArg Value.bool (beq_iff_eq.2 hy21)) <|
           ee) (by kernel_rfl)
         ·rw [if_neg hy21] at h
          cases h
       ·rw [if_neg hy17] at h
        have k32 := fun {A L l} (k : PL A L l) => zz 51 (xbF hy17) <|
         yy 57 (vt) <|
         ww (p := (Value.bool ((x2).toList == ((ByteArray.mk #[])).toList)) = (Value.bool true)) (by rw [vsEqT hy10] <;> rfl) <|
         k
        by_cases hy18 : y16_ = true
        ·rw [if_pos hy18] at h
         cases h
        ·rw [if_neg hy18] at h
         obtain ⟨y19_, hy19, h⟩ := oB h
         obtain ⟨y20_, hy20, h⟩ := oB h
         have k35 := fun {A L l} (k : PL A L l) => yy 62 (vt) <|
          ww (p := (Value.bool (y16_ == x3)) = (Value.bool true)) (vEqB (Bool.eq_false_iff.2 hy18) (Bool.eq_false_iff.2 hy3)) <|
          yy 66 (.call (qcb_ x0 y19_ [] [])) <|
          ww (qbq_ n x0 y19_ hy19) <|
          yy 68 (.call (qh_ x0 (ByteArray.mk #[]) y20_ [] [])) <|
          ww (qe_ n x0 (ByteArray.mk #[]) y20_ hy20) <|
          k
         by_cases hy21 : y19_ = y20_
         ·rw [if_pos hy21] at h
          obtain rfl := oI h
          exact runC2 hm (kW [6] [] 0 0) (k0 <|
           k4 <|
           k5 <|
           k11 <|
           k18 <|
           k20 <|
           k26 <|
           k32 <|
           k35 <|
           yy 69 (vt) <|
           ww (p := (Value.bool (y19_ == y20_)) = (Value.bool true)) (congrArg Value.bool (beq_iff_eq.2 hy21)) <|
           ee) (by kernel_rfl)
         ·rw [if_neg hy21] at h
          cases h
      ·rw [if_neg hy14] at h
       cases h
     ·rw [if_neg hy11] at h
      cases h
    ·rw [if_neg hy10] at h
     have k18 := fun {A L l} (k : PL A L l) => yy 31 (vf) <|
      ww (p := (Value.bool ((x2).toList == ((ByteArray.mk #[])).toList)) = (Value.bool false)) (by rw [vsEqF hy10] <;> rfl) <|
      k
     by_cases hy11 : y9_ = true
     ·rw [if_pos hy11] at h
      cases h
     ·rw [if_neg hy11] at h
      obtain ⟨y12_, hy12, h⟩ := oB h
      obtain ⟨y13_, hy13, h⟩ := oB h
      have k20 := fun {A L l} (k : PL A L l) => yy 33 (vt) <|
       ww (p := (Value.bool (y9_ == false)) = (Value.bool true)) (vEqB (Bool.eq_false_iff.2 hy11) rfl) <|
       yy 38 (.call (qs_ 5 x0 y12_ [(0, 3, false)] [])) <|
       ww (qk_ n 5 x0 y12_ hy12) <|
       yy 40 (.call (qh_ y12_ x2 y13_ [] [])) <|
       ww (qe_ n y12_ x2 y13_ hy13) <|
       k
      by_cases hy14 : y13_ = x6
      ·rw [if_pos hy14] at h
       obtain ⟨y15_, hy15, h⟩ := oB h
       obtain ⟨y16_, hy16, h⟩ := oB h
       have k26 := fun {A L l} (k : PL A L l) => yy 42 (vt) <|
        ww (p := (Value.bool (y13_ == x6)) = (Value.bool true)) (congrArg Value.bool (beq_iff_eq.2 hy14)) <|
        yy 47 (.call (qs_ 6 x0 y15_ [(0, 4, false)] [])) <|
        ww (qk_ n 6 x0 y15_ hy15) <|
        yy 49 (.call (qh_ y15_ x2 y16_ [] [])) <|
        ww (qe_ n y15_ x2 y16_ hy16) <|
        k
       by_cases hy17 : x6 = true
       ·rw [if_pos hy17] at h
        have k32 := fun {A L l} (k : PL A L l) => zz 51 (xbT hy17) <|
         yy 53 (vt) <|
         ww (p := (Value.bool (!((x2).toList == ((ByteArray.mk #[])).toList))) = (Value.bool true)) (by rw [vsEqF hy10] <;> rfl) <|
         k
        by_cases hy18 : y16_ = true
        ·rw [if_pos hy18] at h
         obtain ⟨y19_, hy19, h⟩ := oB h
         obtain ⟨y20_, hy20, h⟩ := oB h
         have k35 := fun {A L l} (k : PL A L l) => yy 62 (vt) <|
          ww (p := (Value.bool (y16_ == true)) = (Value.bool true)) (vEqB hy18 rfl) <|
          yy 66 (.call (qcb_ x0 y19_ [] [])) <|
          ww (qbq_ n x0 y19_ hy19) <|
          yy 68 (.call (qh_ x0 (ByteArray.mk #[]) y20_ [] [])) <|
          ww (qe_ n x0 (ByteArray.mk #[]) y20_ hy20) <|
          k
         by_cases hy21 : y19_ = y20_
         ·rw [if_pos hy21] at h
          obtain rfl := oI h
          exact runC2 hm (kW [6] [] 0 0) (k0 <|
           k4 <|
           k5 <|
           k11 <|
           k18 <|
           k20 <|
           k26 <|
           k32 <|
           k35 <|
           yy 69 (vt) <|
           ww (p := (Value.bool (y19_ == y20_)) = (Value.bool true)) (congrArg Value.bool (beq_iff_eq.2 hy21)) <|
           ee) (by kernel_rfl)
         ·rw [if_neg hy21] at h
          cases h
        ·rw [if_neg hy18] at h
         cases h
       ·rw [if_neg hy17] at h
        have k32 := fun {A L l} (k : PL A L l) => zz 51 (xbF hy17) <|
         yy 57 (vf) <|
         ww (p := (Value.bool ((x2).toList == ((ByteArray.mk #[])).toList)) = (Value.bool false)) (by rw [vsEqF hy10] <;> rfl) <|
         k
        by_cases hy18 : y16_ = true
        ·rw [if_pos hy18] at h
         cases h
        ·rw [if_neg hy18] at h
         obtain ⟨y19_, hy19, h⟩ := oB h
         obtain ⟨y20_, hy20, h⟩ := oB h
         have k35 := fun {A L l} (k : PL A L l) => yy 62 (vt) <|
          ww (p := (Value.bool (y16_ == false)) = (Value.bool true)) (vEqB (Bool.eq_false_iff.2 hy18) rfl) <|
          yy 66 (.call (qcb_ x0 y19_ [] [])) <|
          ww (qbq_ n x0 y19_ hy19) <|
          yy 68 (.call (qh_ x0 (ByteArray.mk #[]) y20_ [] [])) <|
          ww (qe_ n x0 (ByteArray.mk #[]) y20_ hy20) <|
          k
         by_cases hy21 : y19_ = y20_
         ·rw [if_pos hy21] at h
          obtain rfl := oI h
          exact runC2 hm (kW [6] [] 0 0) (k0 <|
           k4 <|
           k5 <|
           k11 <|
           k18 <|
           k20 <|
           k26 <|
           k32 <|
           k35 <|
           yy 69 (vt) <|
           ww (p := (Value.bool (y19_ == y20_)) = (Value.bool true)) (congrArg Value.bool (beq_iff_eq.2 hy21)) <|
           ee) (by kernel_rfl)
         ·rw [if_neg hy21] at h
          cases h
      ·rw [if_neg hy14] at h
       cases h
   ·rw [if_neg hy7] at h
    cases h
  ·rw [if_neg hy4] at h
   cases h
def qin_ (x0 : WL rw_iuuuuL) (x1 : WL rw_iuuuuL) (x2 : ByteArray) (x3 : Bool) (st : Unit) : XSt := (sT 157 [(0, (wlV x0)), (1, (wlV x1)), (2, (Value.string x2)), (36, (bO x3))], [], ⟨sB [], 0, 0⟩)
def qc_ (x0 : WL rw_iuuuuL) (x1 : WL rw_iuuuuL) (x2 : ByteArray) (x3 : Bool) (r : (Unit) ⊕ (Unit)) : Ex × XSt := match r with
 | .inl _ => (.ret, (sT 157 [(6, (bO true))], [], ⟨sB [], 0, 0⟩))
 | .inr _ => (.normal, (sT 157 [(0, (wlV x0)), (1, (wlV x1)), (2, (Value.string x2))], [], ⟨sB [], 0, 0⟩))
abbrev qio_ (rd : Option Nat) (x0 : WL rw_iuuuuL) (x1 : WL rw_iuuuuL) (x2 : ByteArray) (x3 : Bool) (st : Unit) (r : (Unit) ⊕ (Unit)) : Prop := CG P rd (fnN P 3) 0 (qbl_ P 3 [true, false, true, true]) (qin_ x0 x1 x2 x3 st) (qc_ x0 x1 x2 x3 r)
def qg_ (n : Nat) (x0 : WL rw_iuuuuL) (x1 : WL rw_iuuuuL) (x2 : ByteArray) (x3 : Bool) (st : Unit) : Option ((Unit) ⊕ (Unit)) :=
 if x3 = true then
  some (.inl ())
 else
  some (.inr ())
theorem qi_ (n : Nat) {rnd : Option Nat} (x0 : WL rw_iuuuuL) (x1 : WL rw_iuuuuL) (x2 : ByteArray) (x3 : Bool) (st : Unit) (r : (Unit) ⊕ (Unit)) (h : qg_ n x0 x1 x2 x3 st = some r) : qio_ rnd x0 x1 x2 x3 st r := by
 unfold qg_ at h
 by_cases hy1 : x3 = true
 ·rw [if_pos hy1] at h
  obtain rfl := oI h
  exact runC2 hm (kW [6] [] 0 0) (zz 0 (xbT hy1) <|
   ee) (by kernel_rfl)
 ·rw [if_neg hy1] at h
  obtain rfl := oI h
  exact runC2 hm (kW [0, 1, 2] [] 0 0) (zz 0 (xbF hy1) <|
   ee) (by kernel_rfl)
def qip_ (x0 : WL rw_iuuuuL) (x1 : WL rw_iuuuuL) (x2 : ByteArray) (x3 : Bool) (x4 : Bool) (st : Unit) : XSt := (sT 157 [(0, (wlV x0)), (1, (wlV x1)), (2, (Value.string x2)), (7, (bO x3)), (8, (bO x4))], [], ⟨sB [], 0, 0⟩)
def qdl_ (x0 : WL rw_iuuuuL) (x1 : WL rw_iuuuuL) (x2 : ByteArray) (x3 : Bool) (x4 : Bool) (r : Unit) : Ex × XSt := match r with
 | _ => (.ret, (sT 157 [(6, (bO true))], [], ⟨sB [], 0, 0⟩))
abbrev qiq_ (rd : Option Nat) (x0 : WL rw_iuuuuL) (x1 : WL rw_iuuuuL) (x2 : ByteArray) (x3 : Bool) (x4 : Bool) (st : Unit) (r : Unit) : Prop := CG P rd (fnN P 3) 0 (qbl_ P 3 [true, true, true, true]) (qip_ x0 x1 x2 x3 x4 st) (qdl_ x0 x1 x2 x3 x4 r)
def qbv_ (n : Nat) (x0 : WL rw_iuuuuL) (x1 : WL rw_iuuuuL) (x2 : ByteArray) (x3 : Bool) (x4 : Bool) (st : Unit) : Option (Unit) :=
 if (x2).data.toList = ((ByteArray.mk #[])).data.toList then
  (qbt_ n x0 x1 x2 x3 x4 (false, true, 0)).bind fun t => match t with
  | (y2_0, y2_1) =>
   (q7_ n x0 x1 x2 x3 x4 y2_0 y2_1 ()).bind fun _ =>
   some ()
 else
  (qbt_ n x0 x1 x2 x3 x4 (false, false, 0)).bind fun t => match t with
  | (y2_0, y2_1) =>
   (q7_ n x0 x1 x2 x3 x4 y2_0 y2_1 ()).bind fun _ =>
   some ()
theorem qg8_ (n : Nat) {rnd : Option Nat} (x0 : WL rw_iuuuuL) (x1 : WL rw_iuuuuL) (x2 : ByteArray) (x3 : Bool) (x4 : Bool) (st : Unit) (r : Unit) (h : qbv_ n x0 x1 x2 x3 x4 st = some r) : qiq_ rnd x0 x1 x2 x3 x4 st r := by
 unfold qbv_ at h
 by_cases hy1 : (x2).data.toList = ((ByteArray.mk #[])).data.toList
 ·rw [if_pos hy1] at h
  obtain ⟨⟨y2_0, y2_1⟩, hy2, h⟩ := oB h
  dsimp only at h
  obtain ⟨_, hy3, h⟩ := oB h
  obtain rfl := oI h
  exact runC2 hm (kW [6] [] 0 0) (yy 2 (vt) <|
   ww (p := (Value.bool ((x2).toList == ((ByteArray.mk #[])).toList)) = (Value.bool true)) (by rw [vsEqT hy1] <;> rfl) <|
   ww (qeg_ n (rnd := rnd) x0 x1 x2 x3 x4 (false, true, 0) (y2_0, y2_1) hy2) <|
   ll 9 ⟨(kW [0, 1, 2, 7, 8, 9, 10, 11] [] 0 0), (q5_ x0 x1 x2 x3 x4 (y2_0, y2_1)).1, (q5_ x0 x1 x2 x3 x4 (y2_0, y2_1)).2⟩ <|
   ww (qeh_ n (rnd := rnd) x0 x1 x2 x3 x4 y2_0 y2_1 () () hy3) <|
   ll 10 ⟨(kW [0, 1, 2, 7, 8, 9, 10] [] 0 0), (qbu_ x0 x1 x2 x3 x4 y2_0 y2_1 ()).1, (qbu_ x0 x1 x2 x3 x4 y2_0 y2_1 ()).2⟩ <|
   ee) (by kernel_rfl)
 ·rw [if_neg hy1] at h
  obtain ⟨⟨y2_0, y2_1⟩, hy2, h⟩ := oB h
  dsimp only at h
  obtain ⟨_, hy3, h⟩ := oB h
  obtain rfl := oI h
  exact runC2 hm (kW [6] [] 0 0) (yy 2 (vf) <|
   ww (p := (Value.bool ((x2).toList == ((ByteArray.mk #[])).toList)) = (Value.bool false)) (by rw [vsEqF hy1] <;> rfl) <|
   ww (qeg_ n (rnd := rnd) x0 x1 x2 x3 x4 (false, false, 0) (y2_0, y2_1) hy2) <|
   ll 9 ⟨(kW [0, 1, 2, 7, 8, 9, 10, 11] [] 0 0), (q5_ x0 x1 x2 x3 x4 (y2_0, y2_1)).1, (q5_ x0 x1 x2 x3 x4 (y2_0, y2_1)).2⟩ <|
   ww (qeh_ n (rnd := rnd) x0 x1 x2 x3 x4 y2_0 y2_1 () () hy3) <|
   ll 10 ⟨(kW [0, 1, 2, 7, 8, 9, 10] [] 0 0), (qbu_ x0 x1 x2 x3 x4 y2_0 y2_1 ()).1, (qbu_ x0 x1 x2 x3 x4 y2_0 y2_1 ()).2⟩ <|
   ee) (by kernel_rfl)
def qir_ (x0 : WL rw_iuuuuL) (x1 : WL rw_iuuuuL) (x2 : ByteArray) (st : Unit) : XSt := (sT 157 [(0, (wlV x0)), (1, (wlV x1)), (2, (Value.string x2)), (13, (bO false))], [], ⟨sB [], 0, 0⟩)
def qdm_ (x0 : WL rw_iuuuuL) (x1 : WL rw_iuuuuL) (x2 : ByteArray) (r : Unit) : Ex × XSt := match r with
 | _ => (.normal, (sT 157 [(0, (wlV x0)), (1, (wlV x1)), (2, (Value.string x2))], [], ⟨sB [], 0, 0⟩))
abbrev qis_ (rd : Option Nat) (x0 : WL rw_iuuuuL) (x1 : WL rw_iuuuuL) (x2 : ByteArray) (st : Unit) (r : Unit) : Prop := CG P rd (fnN P 3) 0 (qbl_ P 3 [true, false, true]) (qir_ x0 x1 x2 st) (qdm_ x0 x1 x2 r)
def qcj_ (n : Nat) (x0 : WL rw_iuuuuL) (x1 : WL rw_iuuuuL) (x2 : ByteArray) (st : Unit) : Option (Unit) :=
 some ()
theorem qg9_ (n : Nat) {rnd : Option Nat} (x0 : WL rw_iuuuuL) (x1 : WL rw_iuuuuL) (x2 : ByteArray) (st : Unit) (r : Unit) (h : qcj_ n x0 x1 x2 st = some r) : qis_ rnd x0 x1 x2 st r := by
 unfold qcj_ at h
 obtain rfl := oI h
 exact runC2 hm (kW [0, 1, 2] [] 0 0) (ee) (by kernel_rfl)
def qit_ (x0 : WL rw_iuuuuL) (x1 : WL rw_iuuuuL) (x2 : ByteArray) (st : Unit) : XSt := (sT 157 [(0, (wlV x0)), (1, (wlV x1)), (2, (Value.string x2))], [], ⟨sB [], 0, 0⟩)
def qj_ (x0 : WL rw_iuuuuL) (x1 : WL rw_iuuuuL) (x2 : ByteArray) (r : Unit) : Ex × XSt := match r with
 | _ => (.ret, (sT 157 [(6, (bO true))], [], ⟨sB [], 0, 0⟩))
abbrev qiu_ (rd : Option Nat) (x0 : WL rw_iuuuuL) (x1 : WL rw_iuuuuL) (x2 : ByteArray) (st : Unit) (r : Unit) : Prop := CG P rd (fnN P 3) 0 (qbl_ P 3 [true, true, true]) (qit_ x0 x1 x2 st) (qj_ x0 x1 x2 r)
def ql_ (n : Nat) (x0 : WL rw_iuuuuL) (x1 : WL rw_iuuuuL) (x2 : ByteArray) (st : Unit) : Option (Unit) :=
 (qd_ n x0 x2).bind fun y1_ =>
 (qd_ n x1 x2).bind fun y2_ =>
 (qbv_ n x0 x1 x2 y1_ y2_ ()).bind fun _ =>
 some ()
theorem qba_ (n : Nat) {rnd : Option Nat} (x0 : WL rw_iuuuuL) (x1 : WL rw_iuuuuL) (x2 : ByteArray) (st : Unit) (r : Unit) (h : ql_ n x0 x1 x2 st = some r) : qiu_ rnd x0 x1 x2 st r := by
 unfold ql_ at h
 obtain ⟨y1_, hy1, h⟩ := oB h
 obtain ⟨y2_, hy2, h⟩ := oB h
 obtain ⟨_, hy3, h⟩ := oB h
 obtain rfl := oI h
 exact runC2 hm (kW [6] [] 0 0) (yy 3 (.call (qh_ x0 x2 y1_ [] [])) <|
  ww (qe_ n x0 x2 y1_ hy1) <|
  yy 6 (.call (qh_ x1 x2 y2_ [] [])) <|
  ww (qe_ n x1 x2 y2_ hy2) <|
  ww (qg8_ n (rnd := rnd) x0 x1 x2 y1_ y2_ () () hy3) <|
  ll 9 ⟨(kW [0, 1, 2, 7, 8] [] 0 0), (qdl_ x0 x1 x2 y1_ y2_ ()).1, (qdl_ x0 x1 x2 y1_ y2_ ()).2⟩ <|
  ee) (by kernel_rfl)
def qiv_ (x0 : WL rw_iuuuuL) (x1 : WL rw_iuuuuL) (x2 : ByteArray) (st : Unit) : XSt := (sT 157 [(0, (wlV x0)), (1, (wlV x1)), (2, (Value.string x2))], [], ⟨sB [], 0, 0⟩)
def qdn_ (x0 : WL rw_iuuuuL) (x1 : WL rw_iuuuuL) (x2 : ByteArray) (r : Unit) : Ex × XSt := match r with
 | _ => (.ret, (sT 157 [(6, (bO true))], [], ⟨sB [], 0, 0⟩))
abbrev qiw_ (rd : Option Nat) (x0 : WL rw_iuuuuL) (x1 : WL rw_iuuuuL) (x2 : ByteArray) (st : Unit) (r : Unit) : Prop := CG P rd (fnN P 3) 0 (qbl_ P 3 [true, true]) (qiv_ x0 x1 x2 st) (qdn_ x0 x1 x2 r)
def qbw_ (n : Nat) (x0 : WL rw_iuuuuL) (x1 : WL rw_iuuuuL) (x2 : ByteArray) (st : Unit) : Option (Unit) :=
 (qbm_ n x0 25).bind fun y1_ =>
 if y1_ = true then
  (qbm_ n x1 25).bind fun y3_ =>
  if y3_ = true then
   if (((x2).size : Nat) : Int) > 8 then
    match qg_ n x0 x1 x2 true () with
    | none => none
    | some (.inl _) =>
     some ()
    | some (.inr _) =>
     (ql_ n x0 x1 x2 ()).bind fun _ =>
     some ()
   else
    (qdr_ n x0).bind fun y6_ =>
    if y6_ = 0 then
     (qdr_ n x1).bind fun y8_ =>
     if y8_ = 0 then
      match qg_ n x0 x1 x2 false () with
      | none => none
      | some (.inl _) =>
       some ()
      | some (.inr _) =>
       (ql_ n x0 x1 x2 ()).bind fun _ =>
       some ()
     else
      match qg_ n x0 x1 x2 true () with
      | none => none
      | some (.inl _) =>
       some ()
      | some (.inr _) =>
       (ql_ n x0 x1 x2 ()).bind fun _ =>
       some ()
    else
     match qg_ n x0 x1 x2 true () with
     | none => none
     | some (.inl _) =>
      some ()
     | some (.inr _) =>
      (ql_ n x0 x1 x2 ()).bind fun _ =>
      some ()
  else
   match qg_ n x0 x1 x2 true () with
   | none => none
   | some (.inl _) =>
    some ()
   | some (.inr _) =>
    (ql_ n x0 x1 x2 ()).bind fun _ =>
    some ()
 else
  match qg_ n x0 x1 x2 true () with
  | none => none
  | some (.inl _) =>
   some ()
  | some (.inr _) =>
   (ql_ n x0 x1 x2 ()).bind fun _ =>
   some ()
theorem qha_ (n : Nat) {rnd : Option Nat} (x0 : WL rw_iuuuuL) (x1 : WL rw_iuuuuL) (x2 : ByteArray) (st : Unit) (r : Unit) (h : qbw_ n x0 x1 x2 st = some r) : qiw_ rnd x0 x1 x2 st r := by
 unfold qbw_ at h
 obtain ⟨y1_, hy1, h⟩ := oB h
 have k0 := fun {A L l} (k : PL A L l) => yy 3 (.call (qfw_ x0 25 y1_ [] [])) <|
  ww (qer_ n x0 25 y1_ hy1) <|
  k
 by_cases hy2 : y1_ = true
 ·rw [if_pos hy2] at h
  obtain ⟨y3_, hy3, h⟩ := oB h
  have k2 := fun {A L l} (k : PL A L l) => yy 4 (vf) <|
   ww (p := (Value.bool (!y1_)) = (Value.bool false)) (vBn hy2) <|
   yy 7 (.call (qfw_ x1 25 y3_ [] [])) <|
   ww (qer_ n x1 25 y3_ hy3) <|
   k
  by_cases hy4 : y3_ = true
  ·rw [if_pos hy4] at h
   have k6 := fun {A L l} (k : PL A L l) => yy 8 (vf) <|
    ww (p := (Value.bool (!y3_)) = (Value.bool false)) (vBn hy4) <|
    k
   by_cases hy5 : (((x2).size : Nat) : Int) > 8
   ·rw [if_pos hy5] at h
    have k8 := fun {A L l} (k : PL A L l) => zz 13 (xdT hy5) <|
     k
    rcases hy6 : qg_ n x0 x1 x2 true () with _ | (⟨⟩ | ⟨⟩)
    ·rw [hy6] at h; cases h
    ·rw [hy6] at h
     dsimp only at h
     obtain rfl := oI h
     exact runC2 hm (kW [6] [] 0 0) (k0 <|
      k2 <|
      k6 <|
      k8 <|
      ww (qi_ n (rnd := rnd) x0 x1 x2 true () (.inl ()) hy6) <|
      ll 25 ⟨(kW [0, 1, 2, 36] [] 0 0), (qc_ x0 x1 x2 true (.inl ())).1, (qc_ x0 x1 x2 true (.inl ())).2⟩ <|
      ee) (by kernel_rfl)
    ·rw [hy6] at h
     dsimp only at h
     obtain ⟨_, hy7, h⟩ := oB h
     obtain rfl := oI h
     exact runC2 hm (kW [6] [] 0 0) (k0 <|
      k2 <|
      k6 <|
      k8 <|
      ww (qi_ n (rnd := rnd) x0 x1 x2 true () (.inr ()) hy6) <|
      ll 25 ⟨(kW [0, 1, 2, 36] [] 0 0), (qc_ x0 x1 x2 true (.inr ())).1, (qc_ x0 x1 x2 true (.inr ())).2⟩ <|
      ww (qba_ n (rnd := rnd) x0 x1 x2 () () hy7) <|
      ll 26 ⟨(kW [0, 1, 2] [] 0 0), (qj_ x0 x1 x2 ()).1, (qj_ x0 x1 x2 ()).2⟩ <|
      ee) (by kernel_rfl)
   ·rw [if_neg hy5] at h
    obtain ⟨y6_, hy6, h⟩ := oB h
    have k8 := fun {A L l} (k : PL A L l) => zz 13 (xdF hy5) <|
     yy 17 (.call (qhf_ x0 y6_ [] [])) <|
     ww (qfo_ n x0 y6_ hy6) <|
     k
    by_cases hy7 : y6_ = 0
    ·rw [if_pos hy7] at h
     obtain ⟨y8_, hy8, h⟩ := oB h
     have k11 := fun {A L l} (k : PL A L l) => zz 18 (xnF hy7) <|
      yy 22 (.call (qhf_ x1 y8_ [] [])) <|
      ww (qfo_ n x1 y8_ hy8) <|
      k
     by_cases hy9 : y8_ = 0
     ·rw [if_pos hy9] at h
      have k14 := fun {A L l} (k : PL A L l) => zz 23 (xnF hy9) <|
       k
      rcases hy10 : qg_ n x0 x1 x2 false () with _ | (⟨⟩ | ⟨⟩)
      ·rw [hy10] at h; cases h
      ·rw [hy10] at h
       dsimp only at h
       obtain rfl := oI h
       exact runC2 hm (kW [6] [] 0 0) (k0 <|
        k2 <|
        k6 <|
        k8 <|
        k11 <|
        k14 <|
        ww (qi_ n (rnd := rnd) x0 x1 x2 false () (.inl ()) hy10) <|
        ll 25 ⟨(kW [0, 1, 2, 36] [] 0 0), (qc_ x0 x1 x2 false (.inl ())).1, (qc_ x0 x1 x2 false (.inl ())).2⟩ <|
        ee) (by kernel_rfl)
      ·rw [hy10] at h
       dsimp only at h
       obtain ⟨_, hy11, h⟩ := oB h
       obtain rfl := oI h
       exact runC2 hm (kW [6] [] 0 0) (k0 <|
        k2 <|
        k6 <|
        k8 <|
        k11 <|
        k14 <|
        ww (qi_ n (rnd := rnd) x0 x1 x2 false () (.inr ()) hy10) <|
        ll 25 ⟨(kW [0, 1, 2, 36] [] 0 0), (qc_ x0 x1 x2 false (.inr ())).1, (qc_ x0 x1 x2 false (.inr ())).2⟩ <|
        ww (qba_ n (rnd := rnd) x0 x1 x2 () () hy11) <|
        ll 26 ⟨(kW [0, 1, 2] [] 0 0), (qj_ x0 x1 x2 ()).1, (qj_ x0 x1 x2 ()).2⟩ <|
        ee) (by kernel_rfl)
     ·rw [if_neg hy9] at h
      have k14 := fun {A L l} (k : PL A L l) => zz 23 (xnT hy9) <|
       k
      rcases hy10 : qg_ n x0 x1 x2 true () with _ | (⟨⟩ | ⟨⟩)
      ·rw [hy10] at h; cases h
      ·rw [hy10] at h
       dsimp only at h
       obtain rfl := oI h
       exact runC2 hm (kW [6] [] 0 0) (k0 <|
        k2 <|
        k6 <|
        k8 <|
        k11 <|
        k14 <|
        ww (qi_ n (rnd := rnd) x0 x1 x2 true () (.inl ()) hy10) <|
        ll 25 ⟨(kW [0, 1, 2, 36] [] 0 0), (qc_ x0 x1 x2 true (.inl ())).1, (qc_ x0 x1 x2 true (.inl ())).2⟩ <|
        ee) (by kernel_rfl)
      ·rw [hy10] at h
       dsimp only at h
       obtain ⟨_, hy11, h⟩ := oB h
       obtain rfl := oI h
       exact runC2 hm (kW [6] [] 0 0) (k0 <|
        k2 <|
        k6 <|
        k8 <|
        k11 <|
        k14 <|
        ww (qi_ n (rnd := rnd) x0 x1 x2 true () (.inr ()) hy10) <|
        ll 25 ⟨(kW [0, 1, 2, 36] [] 0 0), (qc_ x0 x1 x2 true (.inr ())).1, (qc_ x0 x1 x2 true (.inr ())).2⟩ <|
        ww (qba_ n (rnd := rnd) x0 x1 x2 () () hy11) <|
        ll 26 ⟨(kW [0, 1, 2] [] 0 0), (qj_ x0 x1 x2 ()).1, (qj_ x0 x1 x2 ()).2⟩ <|
        ee) (by kernel_rfl)
    ·rw [if_neg hy7] at h
     have k11 := fun {A L l} (k : PL A L l) => zz 18 (xnT hy7) <|
      k
     rcases hy8 : qg_ n x0 x1 x2 true () with _ | (⟨⟩ | ⟨⟩)
     ·rw [hy8] at h; cases h
     ·rw [hy8] at h
      dsimp only at h
      obtain rfl := oI h
      exact runC2 hm (kW [6] [] 0 0) (k0 <|
       k2 <|
       k6 <|
       k8 <|
       k11 <|
       ww (qi_ n (rnd := rnd) x0 x1 x2 true () (.inl ()) hy8) <|
       ll 25 ⟨(kW [0, 1, 2, 36] [] 0 0), (qc_ x0 x1 x2 true (.inl ())).1, (qc_ x0 x1 x2 true (.inl ())).2⟩ <|
       ee) (by kernel_rfl)
     ·rw [hy8] at h
      dsimp only at h
      obtain ⟨_, hy9, h⟩ := oB h
      obtain rfl := oI h
      exact runC2 hm (kW [6] [] 0 0) (k0 <|
       k2 <|
       k6 <|
       k8 <|
       k11 <|
       ww (qi_ n (rnd := rnd) x0 x1 x2 true () (.inr ()) hy8) <|
       ll 25 ⟨(kW [0, 1, 2, 36] [] 0 0), (qc_ x0 x1 x2 true (.inr ())).1, (qc_ x0 x1 x2 true (.inr ())).2⟩ <|
       ww (qba_ n (rnd := rnd) x0 x1 x2 () () hy9) <|
       ll 26 ⟨(kW [0, 1, 2] [] 0 0), (qj_ x0 x1 x2 ()).1, (qj_ x0 x1 x2 ()).2⟩ <|
       ee) (by kernel_rfl)
  ·rw [if_neg hy4] at h
   have k6 := fun {A L l} (k : PL A L l) => yy 8 (vt) <|
    ww (p := (Value.bool (!y3_)) = (Value.bool true)) (vBn (Bool.eq_false_iff.2 hy4)) <|
    k
   rcases hy5 : qg_ n x0 x1 x2 true () with _ | (⟨⟩ | ⟨⟩)
   ·rw [hy5] at h; cases h
   ·rw [hy5] at h
    dsimp only at h
    obtain rfl := oI h
    exact runC2 hm (kW [6] [] 0 0) (k0 <|
     k2 <|
     k6 <|
     ww (qi_ n (rnd := rnd) x0 x1 x2 true () (.inl ()) hy5) <|
     ll 25 ⟨(kW [0, 1, 2, 36] [] 0 0), (qc_ x0 x1 x2 true (.inl ())).1, (qc_ x0 x1 x2 true (.inl ())).2⟩ <|
     ee) (by kernel_rfl)
   ·rw [hy5] at h
    dsimp only at h
    obtain ⟨_, hy6, h⟩ := oB h
    obtain rfl := oI h
    exact runC2 hm (kW [6] [] 0 0) (k0 <|
     k2 <|
     k6 <|
     ww (qi_ n (rnd := rnd) x0 x1 x2 true () (.inr ()) hy5) <|
     ll 25 ⟨(kW [0, 1, 2, 36] [] 0 0), (qc_ x0 x1 x2 true (.inr ())).1, (qc_ x0 x1 x2 true (.inr ())).2⟩ <|
     ww (qba_ n (rnd := rnd) x0 x1 x2 () () hy6) <|
     ll 26 ⟨(kW [0, 1, 2] [] 0 0), (qj_ x0 x1 x2 ()).1, (qj_ x0 x1 x2 ()).2⟩ <|
     ee) (by kernel_rfl)
 ·rw [if_neg hy2] at h
  have k2 := fun {A L l} (k : PL A L l) => yy 4 (vt) <|
   ww (p := (Value.bool (!y1_)) = (Value.bool true)) (vBn (Bool.eq_false_iff.2 hy2)) <|
   k
  rcases hy3 : qg_ n x0 x1 x2 true () with _ | (⟨⟩ | ⟨⟩)
  ·rw [hy3] at h; cases h
  ·rw [hy3] at h
   dsimp only at h
   obtain rfl := oI h
   exact runC2 hm (kW [6] [] 0 0) (k0 <|
    k2 <|
    ww (qi_ n (rnd := rnd) x0 x1 x2 true () (.inl ()) hy3) <|
    ll 25 ⟨(kW [0, 1, 2, 36] [] 0 0), (qc_ x0 x1 x2 true (.inl ())).1, (qc_ x0 x1 x2 true (.inl ())).2⟩ <|
    ee) (by kernel_rfl)
  ·rw [hy3] at h
   dsimp only at h
   obtain ⟨_, hy4, h⟩ := oB h
   obtain rfl := oI h
   exact runC2 hm (kW [6] [] 0 0) (k0 <|
    k2 <|
    ww (qi_ n (rnd := rnd) x0 x1 x2 true () (.inr ()) hy3) <|
    ll 25 ⟨(kW [0, 1, 2, 36] [] 0 0), (qc_ x0 x1 x2 true (.inr ())).1, (qc_ x0 x1 x2 true (.inr ())).2⟩ <|
    ww (qba_ n (rnd := rnd) x0 x1 x2 () () hy4) <|
    ll 26 ⟨(kW [0, 1, 2] [] 0 0), (qj_ x0 x1 x2 ()).1, (qj_ x0 x1 x2 ()).2⟩ <|
    ee) (by kernel_rfl)
def qc6_ (n : Nat) (g2 : ByteArray) : Option (Unit) :=
 (qfq_ n).bind fun _ =>
 (qcj_ n wA wB g2 ()).bind fun _ =>
 (qbw_ n wA wB g2 ()).bind fun _ =>
 some ()
theorem qh8_ (n : Nat) (g2 : ByteArray) (r : Unit) (h : qc6_ n g2 = some r) : qkm_ g2 r := by
 unfold qc6_ at h
 obtain ⟨_, hc1, h⟩ := oB h
 obtain ⟨_, hc2, h⟩ := oB h
 obtain ⟨_, hc3, h⟩ := oB h
 obtain rfl := oI h
 exact runF2 hm (kW [6] [] 0 0) (yy 4 (.call ⟨0, [], (Value.bool true), Ax.h0, []⟩) <|
  ww (qk0_ n  () hc1) <|
  ww (qg9_ n (rnd := none) wA wB g2 () () hc2) <|
  ll 6 ⟨(kW [0, 1, 2, 13] [] 0 0), (qdm_ wA wB g2 ()).1, (qdm_ wA wB g2 ()).2⟩ <|
  ww (qha_ n (rnd := none) wA wB g2 () () hc3) <|
  ll 7 ⟨(kW [0, 1, 2] [] 0 0), (qdn_ wA wB g2 ()).1, (qdn_ wA wB g2 ()).2⟩ <|
  ee) (by kernel_rfl)

end Go.Proofs.YtgiceoflfmmlcaaDoor.rkx02
