/-
  What functions do, told by pure functions. No condition.
-/
import Derived.Test.YtdjkjpmcmpihgaaDoorClpBTold
set_option linter.unusedSimpArgs false
set_option linter.unusedVariables false
set_option linter.unusedSectionVars false
set_option linter.unnecessarySimpa false
set_option maxRecDepth 100000
noncomputable section
namespace Go.Proofs.YtdjkjpmcmpihgaaDoor.clp01
open Go Go.Proofs.YtdjkjpmcmpihgaaDoor Ax
variable [Args]
def qg_ (a0 : List (Int × Int × Int × Int)) (a1 : Nat) (a2 : Nat) (a3 : Int) (a4 : Int) (a5 : Int) : List Value := [(sN 0 0 a1 a2), (i6 a3), (i6 a4), (i6 a5), (Value.func (.func 38) #[] #[])]
def qh_ (a0 : List (Int × Int × Int × Int)) (a1 : Nat) (a2 : Nat) (a3 : Int) (a4 : Int) (a5 : Int) : AH := ⟨sB [(0, (some (.cells (layT (rows rw_uuuu a0)) 24)))], 1, 1⟩
def qe_ (a0 : List (Int × Int × Int × Int)) (a1 : Nat) (a2 : Nat) (a3 : Int) (a4 : Int) (a5 : Int) (r : List (Int × Int × Int × Int)) : Value := match r with
 | o0 => (Value.tuple #[])
def qf_ (a0 : List (Int × Int × Int × Int)) (a1 : Nat) (a2 : Nat) (a3 : Int) (a4 : Int) (a5 : Int) (r : List (Int × Int × Int × Int)) : AH := match r with
 | o0 => ⟨sB [(0, (some (.cells (layT (rows rw_uuuu o0)) 24)))], 1, 0⟩
abbrev qsz_ (a0 : List (Int × Int × Int × Int)) (a1 : Nat) (a2 : Nat) (a3 : Int) (a4 : Int) (a5 : Int) (r : List (Int × Int × Int × Int)) : Prop := Gv P (.func 43) (qg_ a0 a1 a2 a3 a4 a5) (qh_ a0 a1 a2 a3 a4 a5) (qe_ a0 a1 a2 a3 a4 a5 r) (qf_ a0 a1 a2 a3 a4 a5 r)
abbrev qdv_ (a0 : List (Int × Int × Int × Int)) (a1 : Nat) (a2 : Nat) (a3 : Int) (a4 : Int) (a5 : Int) (r : List (Int × Int × Int × Int)) (ins outs : BL) : CallA := ⟨1, ins, qe_ a0 a1 a2 a3 a4 a5 r, qf_ a0 a1 a2 a3 a4 a5 r, outs⟩
def qhx_ (x0 : List (Int × Int × Int × Int)) (x1 : Nat) (x2 : Nat) (x3 : Int) (x4 : Int) (x5 : Int) (x6 : Bool) (x7 : Bool) (x8 : Int) (x9 : Int) (x10 : Bool) (st : Unit) : XSt := (sT 148 [(0, (sN 0 0 x1 x2)), (1, (i6 x3)), (2, (i6 x4)), (3, (i6 x5)), (4, (Value.func (.func 38) #[] #[])), (10, (bO x6)), (11, (bO x7)), (12, (i6 x8)), (13, (i6 x9)), (80, (bO x10))], [], ⟨sB [(0, (some (.cells (layT (rows rw_uuuu x0)) 24)))], 1, 0⟩)
def qc6_ (x0 : List (Int × Int × Int × Int)) (x1 : Nat) (x2 : Nat) (x3 : Int) (x4 : Int) (x5 : Int) (x6 : Bool) (x7 : Bool) (x8 : Int) (x9 : Int) (x10 : Bool) (r : (Unit) ⊕ (Unit)) : Ex × XSt := match r with
 | .inl _ => (.ret, (sT 148 [], [], ⟨sB [(0, (some (.cells (layT (rows rw_uuuu x0)) 24)))], 1, 0⟩))
 | .inr _ => (.normal, (sT 148 [(0, (sN 0 0 x1 x2)), (1, (i6 x3)), (2, (i6 x4)), (3, (i6 x5)), (4, (Value.func (.func 38) #[] #[])), (10, (bO x6)), (11, (bO x7)), (12, (i6 x8)), (13, (i6 x9))], [], ⟨sB [(0, (some (.cells (layT (rows rw_uuuu x0)) 24)))], 1, 0⟩))
abbrev qhy_ (rd : Option Nat) (x0 : List (Int × Int × Int × Int)) (x1 : Nat) (x2 : Nat) (x3 : Int) (x4 : Int) (x5 : Int) (x6 : Bool) (x7 : Bool) (x8 : Int) (x9 : Int) (x10 : Bool) (st : Unit) (r : (Unit) ⊕ (Unit)) : Prop := CG P rd (fnN P 43) 1 (qt_ P 43 [true, false, true, false, true, true, true, true, true, true, false, false, false, true, true]) (qhx_ x0 x1 x2 x3 x4 x5 x6 x7 x8 x9 x10 st) (qc6_ x0 x1 x2 x3 x4 x5 x6 x7 x8 x9 x10 r)
def qdp_ (rec_slicespdqsortCmpFuncapiClassq1 : (List (Int × Int × Int × Int)) → (Nat) → (Nat) → (Int) → (Int) → (Int) → Option (List (Int × Int × Int × Int))) (n : Nat) (x0 : List (Int × Int × Int × Int)) (x1 : Nat) (x2 : Nat) (x3 : Int) (x4 : Int) (x5 : Int) (x6 : Bool) (x7 : Bool) (x8 : Int) (x9 : Int) (x10 : Bool) (st : Unit) : Option ((Unit) ⊕ (Unit)) :=
 if x10 = true then
  some (.inl ())
 else
  some (.inr ())
theorem qg1_ (rec_slicespdqsortCmpFuncapiClassq1 : (List (Int × Int × Int × Int)) → (Nat) → (Nat) → (Int) → (Int) → (Int) → Option (List (Int × Int × Int × Int))) (hrec_slicespdqsortCmpFuncapiClassq1 : ∀ (a0 : List (Int × Int × Int × Int)) (a1 : Nat) (a2 : Nat) (a3 : Int) (a4 : Int) (a5 : Int) (r : List (Int × Int × Int × Int)), rec_slicespdqsortCmpFuncapiClassq1 a0 a1 a2 a3 a4 a5 = some r → Gv P (.func 43) (qg_ a0 a1 a2 a3 a4 a5) (qh_ a0 a1 a2 a3 a4 a5) (qe_ a0 a1 a2 a3 a4 a5 r) (qf_ a0 a1 a2 a3 a4 a5 r)) (n : Nat) {rnd : Option Nat} (x0 : List (Int × Int × Int × Int)) (x1 : Nat) (x2 : Nat) (x3 : Int) (x4 : Int) (x5 : Int) (x6 : Bool) (x7 : Bool) (x8 : Int) (x9 : Int) (x10 : Bool) (st : Unit) (r : (Unit) ⊕ (Unit)) (h : qdp_ rec_slicespdqsortCmpFuncapiClassq1 n x0 x1 x2 x3 x4 x5 x6 x7 x8 x9 x10 st = some r) : CG P rnd (fnN P 43) 1 (qt_ P 43 [true, false, true, false, true, true, true, true, true, true, false, false, false, true, true]) (qhx_ x0 x1 x2 x3 x4 x5 x6 x7 x8 x9 x10 st) (qc6_ x0 x1 x2 x3 x4 x5 x6 x7 x8 x9 x10 r) := by
 unfold qdp_ at h
 by_cases hy1 : x10 = true
 ·rw [if_pos hy1] at h
  obtain rfl := oI h
  exact runC2 hm ⟨[], [(0, 0, true)], 1, 0, [], false, [], [], []⟩ (zz 0 (xbT hy1) <|
   ww (qa_ rwf_uuuu x0 24) <|
   ee) (by kernel_rfl)
 ·rw [if_neg hy1] at h
  obtain rfl := oI h
  exact runC2 hm ⟨[0, 1, 2, 3, 4, 10, 11, 12, 13], [(0, 0, true)], 1, 0, [], false, [], [], []⟩ (zz 0 (xbF hy1) <|
   ww (qa_ rwf_uuuu x0 24) <|
   ee) (by kernel_rfl)
def qhz_ (x0 : List (Int × Int × Int × Int)) (x1 : Nat) (x2 : Nat) (x3 : Int) (x4 : Int) (x5 : Int) (x6 : Bool) (x7 : Bool) (x8 : Int) (x9 : Int) (x10 : Bool) (st : Unit) : XSt := (sT 148 [(0, (sN 0 0 x1 x2)), (1, (i6 x3)), (2, (i6 x4)), (3, (i6 x5)), (4, (Value.func (.func 38) #[] #[])), (10, (bO x6)), (11, (bO x7)), (12, (i6 x8)), (13, (i6 x9)), (97, (bO x10))], [], ⟨sB [(0, (some (.cells (layT (rows rw_uuuu x0)) 24)))], 1, 0⟩)
def qi_ (x0 : List (Int × Int × Int × Int)) (x1 : Nat) (x2 : Nat) (x3 : Int) (x4 : Int) (x5 : Int) (x6 : Bool) (x7 : Bool) (x8 : Int) (x9 : Int) (x10 : Bool) (r : (List (Int × Int × Int × Int) × Int) ⊕ (Unit)) : Ex × XSt := match r with
 | .inl (z0, z1) => (.exit 1, (sT 148 [(0, (sN 0 0 x1 x2)), (1, (i6 z1)), (2, (i6 x4)), (3, (i6 x5)), (4, (Value.func (.func 38) #[] #[])), (10, (bO x6)), (11, (bO x7))], [], ⟨sB [(0, (some (.cells (layT (rows rw_uuuu z0)) 24)))], 1, 0⟩))
 | .inr _ => (.normal, (sT 148 [(0, (sN 0 0 x1 x2)), (1, (i6 x3)), (2, (i6 x4)), (3, (i6 x5)), (4, (Value.func (.func 38) #[] #[])), (12, (i6 x8)), (13, (i6 x9))], [], ⟨sB [(0, (some (.cells (layT (rows rw_uuuu x0)) 24)))], 1, 0⟩))
abbrev qc7_ (rd : Option Nat) (x0 : List (Int × Int × Int × Int)) (x1 : Nat) (x2 : Nat) (x3 : Int) (x4 : Int) (x5 : Int) (x6 : Bool) (x7 : Bool) (x8 : Int) (x9 : Int) (x10 : Bool) (st : Unit) (r : (List (Int × Int × Int × Int) × Int) ⊕ (Unit)) : Prop := CG P rd (fnN P 43) 1 (qt_ P 43 [true, false, true, true, true, true, true, true, true, false, false, false, true, true]) (qhz_ x0 x1 x2 x3 x4 x5 x6 x7 x8 x9 x10 st) (qi_ x0 x1 x2 x3 x4 x5 x6 x7 x8 x9 x10 r)
def qr_ (rec_slicespdqsortCmpFuncapiClassq1 : (List (Int × Int × Int × Int)) → (Nat) → (Nat) → (Int) → (Int) → (Int) → Option (List (Int × Int × Int × Int))) (n : Nat) (x0 : List (Int × Int × Int × Int)) (x1 : Nat) (x2 : Nat) (x3 : Int) (x4 : Int) (x5 : Int) (x6 : Bool) (x7 : Bool) (x8 : Int) (x9 : Int) (x10 : Bool) (st : Unit) : Option ((List (Int × Int × Int × Int) × Int) ⊕ (Unit)) :=
 if x10 = true then
  (qc5_ n x0 x1 x2 x3 x4 x9).bind fun t => match t with
  | (y2_0, y2_1) =>
   some (.inl (y2_0, y2_1))
 else
  some (.inr ())
theorem qcg_ (rec_slicespdqsortCmpFuncapiClassq1 : (List (Int × Int × Int × Int)) → (Nat) → (Nat) → (Int) → (Int) → (Int) → Option (List (Int × Int × Int × Int))) (hrec_slicespdqsortCmpFuncapiClassq1 : ∀ (a0 : List (Int × Int × Int × Int)) (a1 : Nat) (a2 : Nat) (a3 : Int) (a4 : Int) (a5 : Int) (r : List (Int × Int × Int × Int)), rec_slicespdqsortCmpFuncapiClassq1 a0 a1 a2 a3 a4 a5 = some r → Gv P (.func 43) (qg_ a0 a1 a2 a3 a4 a5) (qh_ a0 a1 a2 a3 a4 a5) (qe_ a0 a1 a2 a3 a4 a5 r) (qf_ a0 a1 a2 a3 a4 a5 r)) (n : Nat) {rnd : Option Nat} (x0 : List (Int × Int × Int × Int)) (x1 : Nat) (x2 : Nat) (x3 : Int) (x4 : Int) (x5 : Int) (x6 : Bool) (x7 : Bool) (x8 : Int) (x9 : Int) (x10 : Bool) (st : Unit) (r : (List (Int × Int × Int × Int) × Int) ⊕ (Unit)) (h : qr_ rec_slicespdqsortCmpFuncapiClassq1 n x0 x1 x2 x3 x4 x5 x6 x7 x8 x9 x10 st = some r) : CG P rnd (fnN P 43) 1 (qt_ P 43 [true, false, true, true, true, true, true, true, true, false, false, false, true, true]) (qhz_ x0 x1 x2 x3 x4 x5 x6 x7 x8 x9 x10 st) (qi_ x0 x1 x2 x3 x4 x5 x6 x7 x8 x9 x10 r) := by
 unfold qr_ at h
 by_cases hy1 : x10 = true
 ·rw [if_pos hy1] at h
  obtain ⟨⟨y2_0, y2_1⟩, hy2, h⟩ := oB h
  dsimp only at h
  obtain rfl := oI h
  exact runC2 hm ⟨[0, 1, 2, 3, 4, 10, 11], [(0, 0, true)], 1, 0, [], false, [], [], []⟩ (zz 0 (xbT hy1) <|
   yy 7 (.call (qkf_ x0 x1 x2 x3 x4 x9 (y2_0, y2_1) [(0, 0, true)] [(0, 0, true)])) <|
   ww (qjj_ n x0 x1 x2 x3 x4 x9 (y2_0, y2_1) hy2) <|
   ww (qa_ rwf_uuuu x0 24) <|
   ww (qa_ rwf_uuuu y2_0 24) <|
   ww (qa_ rwf_uuuu y2_0 24) <|
   ee) (by kernel_rfl)
 ·rw [if_neg hy1] at h
  obtain rfl := oI h
  exact runC2 hm ⟨[0, 1, 2, 3, 4, 12, 13], [(0, 0, true)], 1, 0, [], false, [], [], []⟩ (zz 0 (xbF hy1) <|
   ww (qa_ rwf_uuuu x0 24) <|
   ee) (by kernel_rfl)
def qhf_ (x11_0 : List (Int × Int × Int × Int)) (x11_1 : Nat) (x11_2 : Nat) (x11_3 : Int) (x11_4 : Int) (x11_5 : Int) (x11_6 : Int) (x11_7 : Int) (x11_8 : Bool) (st : Unit) : XSt := (sT 148 [(0, (sN 0 0 x11_1 x11_2)), (1, (i6 x11_3)), (2, (i6 x11_4)), (3, (i6 x11_5)), (4, (Value.func (.func 38) #[] #[])), (12, (i6 x11_6)), (16, (i6 x11_7)), (17, (bO x11_8))], [], ⟨sB [(0, (some (.cells (layT (rows rw_uuuu x11_0)) 24)))], 1, 0⟩)
def qd2_ (x11_0 : List (Int × Int × Int × Int)) (x11_1 : Nat) (x11_2 : Nat) (x11_3 : Int) (x11_4 : Int) (x11_5 : Int) (x11_6 : Int) (x11_7 : Int) (x11_8 : Bool) (r : List (Int × Int × Int × Int) × Int × Int × Bool) : Ex × XSt := match r with
 | (z11_0, z11_1, z11_2, z11_3) => (.normal, (sT 148 [(0, (sN 0 0 x11_1 x11_2)), (1, (i6 z11_1)), (2, (i6 z11_2)), (3, (i6 x11_5)), (4, (Value.func (.func 38) #[] #[])), (10, (bO z11_3)), (11, (bO x11_8))], [], ⟨sB [(0, (some (.cells (layT (rows rw_uuuu z11_0)) 24)))], 1, 0⟩))
abbrev qle_ (rd : Option Nat) (x11_0 : List (Int × Int × Int × Int)) (x11_1 : Nat) (x11_2 : Nat) (x11_3 : Int) (x11_4 : Int) (x11_5 : Int) (x11_6 : Int) (x11_7 : Int) (x11_8 : Bool) (st : Unit) (r : List (Int × Int × Int × Int) × Int × Int × Bool) : Prop := CG P rd (fnN P 43) 1 (qt_ P 43 [true, true, true, true, true, true, true, true, true, false, false, false, true, true]) (qhf_ x11_0 x11_1 x11_2 x11_3 x11_4 x11_5 x11_6 x11_7 x11_8 st) (qd2_ x11_0 x11_1 x11_2 x11_3 x11_4 x11_5 x11_6 x11_7 x11_8 r)
def qd3_ (rec_slicespdqsortCmpFuncapiClassq1 : (List (Int × Int × Int × Int)) → (Nat) → (Nat) → (Int) → (Int) → (Int) → Option (List (Int × Int × Int × Int))) (n : Nat) (x11_0 : List (Int × Int × Int × Int)) (x11_1 : Nat) (x11_2 : Nat) (x11_3 : Int) (x11_4 : Int) (x11_5 : Int) (x11_6 : Int) (x11_7 : Int) (x11_8 : Bool) (st : Unit) : Option (List (Int × Int × Int × Int) × Int × Int × Bool) :=
 if ¬ ((8 : Int) = 0) then
  if (w64 (x11_7 - x11_3)) < (w64 (x11_4 - x11_7)) then
   if (w64 (x11_7 - x11_3)) ≥ (IntKind.i64.wrap (Int.tdiv x11_6 (8 : Int))) then
    (rec_slicespdqsortCmpFuncapiClassq1 x11_0 x11_1 x11_2 x11_3 x11_7 x11_5).bind fun y11_4_ =>
    some (y11_4_, (w64 (x11_7 + 1)), x11_4, true)
   else
    (rec_slicespdqsortCmpFuncapiClassq1 x11_0 x11_1 x11_2 x11_3 x11_7 x11_5).bind fun y11_4_ =>
    some (y11_4_, (w64 (x11_7 + 1)), x11_4, false)
  else
   if (w64 (x11_4 - x11_7)) ≥ (IntKind.i64.wrap (Int.tdiv x11_6 (8 : Int))) then
    (rec_slicespdqsortCmpFuncapiClassq1 x11_0 x11_1 x11_2 (w64 (x11_7 + 1)) x11_4 x11_5).bind fun y11_4_ =>
    some (y11_4_, x11_3, x11_7, true)
   else
    (rec_slicespdqsortCmpFuncapiClassq1 x11_0 x11_1 x11_2 (w64 (x11_7 + 1)) x11_4 x11_5).bind fun y11_4_ =>
    some (y11_4_, x11_3, x11_7, false)
 else none
theorem qko_ (rec_slicespdqsortCmpFuncapiClassq1 : (List (Int × Int × Int × Int)) → (Nat) → (Nat) → (Int) → (Int) → (Int) → Option (List (Int × Int × Int × Int))) (hrec_slicespdqsortCmpFuncapiClassq1 : ∀ (a0 : List (Int × Int × Int × Int)) (a1 : Nat) (a2 : Nat) (a3 : Int) (a4 : Int) (a5 : Int) (r : List (Int × Int × Int × Int)), rec_slicespdqsortCmpFuncapiClassq1 a0 a1 a2 a3 a4 a5 = some r → Gv P (.func 43) (qg_ a0 a1 a2 a3 a4 a5) (qh_ a0 a1 a2 a3 a4 a5) (qe_ a0 a1 a2 a3 a4 a5 r) (qf_ a0 a1 a2 a3 a4 a5 r)) (n : Nat) {rnd : Option Nat} (x11_0 : List (Int × Int × Int × Int)) (x11_1 : Nat) (x11_2 : Nat) (x11_3 : Int) (x11_4 : Int) (x11_5 : Int) (x11_6 : Int) (x11_7 : Int) (x11_8 : Bool) (st : Unit) (r : List (Int × Int × Int × Int) × Int × Int × Bool) (h : qd3_ rec_slicespdqsortCmpFuncapiClassq1 n x11_0 x11_1 x11_2 x11_3 x11_4 x11_5 x11_6 x11_7 x11_8 st = some r) : CG P rnd (fnN P 43) 1 (qt_ P 43 [true, true, true, true, true, true, true, true, true, false, false, false, true, true]) (qhf_ x11_0 x11_1 x11_2 x11_3 x11_4 x11_5 x11_6 x11_7 x11_8 st) (qd2_ x11_0 x11_1 x11_2 x11_3 x11_4 x11_5 x11_6 x11_7 x11_8 r) := by
 unfold qd3_ at h
 obtain ⟨hy11_1, h⟩ := gd h
 have k0 := fun {A L l} (k : PL A L l) => yy 14 (.pur (i6 (IntKind.i64.wrap (Int.tdiv x11_6 (8 : Int))))) <|
  ww (p := opBin P .quo 3 (.tmp 121) (.const (i6 (8 : Int))) (i6 x11_6) (i6 (8 : Int)) Ax.h0 = some ((i6 (IntKind.i64.wrap (Int.tdiv x11_6 (8 : Int)))), Ax.h0)) (qve_ hy11_1) <|
  k
 by_cases hy11_2 : (w64 (x11_7 - x11_3)) < (w64 (x11_4 - x11_7))
 ·rw [if_pos hy11_2] at h
  have k2 := fun {A L l} (k : PL A L l) => zz 19 (xdT hy11_2) <|
   k
  by_cases hy11_3 : (w64 (x11_7 - x11_3)) ≥ (IntKind.i64.wrap (Int.tdiv x11_6 (8 : Int)))
  ·rw [if_pos hy11_3] at h
   obtain ⟨y11_4_, hy11_4, h⟩ := oB h
   obtain rfl := oI h
   exact runC2 hm ⟨[0, 1, 2, 3, 4, 10, 11], [(0, 0, true)], 1, 0, [], false, [], [], []⟩ (k0 <|
    k2 <|
    zz 24 (xdT hy11_3) <|
    yy 32 (.call (qdv_ x11_0 x11_1 x11_2 x11_3 x11_7 x11_5 y11_4_ [(0, 0, true)] [(0, 0, true)])) <|
    ww (hrec_slicespdqsortCmpFuncapiClassq1 x11_0 x11_1 x11_2 x11_3 x11_7 x11_5 y11_4_ hy11_4) <|
    ww (qa_ rwf_uuuu x11_0 24) <|
    ww (qa_ rwf_uuuu y11_4_ 24) <|
    ww (qa_ rwf_uuuu y11_4_ 24) <|
    ee) (by kernel_rfl)
  ·rw [if_neg hy11_3] at h
   obtain ⟨y11_4_, hy11_4, h⟩ := oB h
   obtain rfl := oI h
   exact runC2 hm ⟨[0, 1, 2, 3, 4, 10, 11], [(0, 0, true)], 1, 0, [], false, [], [], []⟩ (k0 <|
    k2 <|
    zz 24 (xdF hy11_3) <|
    yy 32 (.call (qdv_ x11_0 x11_1 x11_2 x11_3 x11_7 x11_5 y11_4_ [(0, 0, true)] [(0, 0, true)])) <|
    ww (hrec_slicespdqsortCmpFuncapiClassq1 x11_0 x11_1 x11_2 x11_3 x11_7 x11_5 y11_4_ hy11_4) <|
    ww (qa_ rwf_uuuu x11_0 24) <|
    ww (qa_ rwf_uuuu y11_4_ 24) <|
    ww (qa_ rwf_uuuu y11_4_ 24) <|
    ee) (by kernel_rfl)
 ·rw [if_neg hy11_2] at h
  have k2 := fun {A L l} (k : PL A L l) => zz 19 (xdF hy11_2) <|
   k
  by_cases hy11_3 : (w64 (x11_4 - x11_7)) ≥ (IntKind.i64.wrap (Int.tdiv x11_6 (8 : Int)))
  ·rw [if_pos hy11_3] at h
   obtain ⟨y11_4_, hy11_4, h⟩ := oB h
   obtain rfl := oI h
   exact runC2 hm ⟨[0, 1, 2, 3, 4, 10, 11], [(0, 0, true)], 1, 0, [], false, [], [], []⟩ (k0 <|
    k2 <|
    zz 24 (xdT hy11_3) <|
    yy 33 (.call (qdv_ x11_0 x11_1 x11_2 (w64 (x11_7 + 1)) x11_4 x11_5 y11_4_ [(0, 0, true)] [(0, 0, true)])) <|
    ww (hrec_slicespdqsortCmpFuncapiClassq1 x11_0 x11_1 x11_2 (w64 (x11_7 + 1)) x11_4 x11_5 y11_4_ hy11_4) <|
    ww (qa_ rwf_uuuu x11_0 24) <|
    ww (qa_ rwf_uuuu y11_4_ 24) <|
    ww (qa_ rwf_uuuu y11_4_ 24) <|
    ee) (by kernel_rfl)
  ·rw [if_neg hy11_3] at h
   obtain ⟨y11_4_, hy11_4, h⟩ := oB h
   obtain rfl := oI h
   exact runC2 hm ⟨[0, 1, 2, 3, 4, 10, 11], [(0, 0, true)], 1, 0, [], false, [], [], []⟩ (k0 <|
    k2 <|
    zz 24 (xdF hy11_3) <|
    yy 33 (.call (qdv_ x11_0 x11_1 x11_2 (w64 (x11_7 + 1)) x11_4 x11_5 y11_4_ [(0, 0, true)] [(0, 0, true)])) <|
    ww (hrec_slicespdqsortCmpFuncapiClassq1 x11_0 x11_1 x11_2 (w64 (x11_7 + 1)) x11_4 x11_5 y11_4_ hy11_4) <|
    ww (qa_ rwf_uuuu x11_0 24) <|
    ww (qa_ rwf_uuuu y11_4_ 24) <|
    ww (qa_ rwf_uuuu y11_4_ 24) <|
    ee) (by kernel_rfl)
def qhg_ (x10_0 : List (Int × Int × Int × Int)) (x10_1 : Nat) (x10_2 : Nat) (x10_3 : Int) (x10_4 : Int) (x10_5 : Int) (x10_6 : Int) (x10_7 : Int) (st : Unit) : XSt := (sT 148 [(0, (sN 0 0 x10_1 x10_2)), (1, (i6 x10_3)), (2, (i6 x10_4)), (3, (i6 x10_5)), (4, (Value.func (.func 38) #[] #[])), (12, (i6 x10_6)), (13, (i6 x10_7))], [], ⟨sB [(0, (some (.cells (layT (rows rw_uuuu x10_0)) 24)))], 1, 0⟩)
def qbf_ (x10_0 : List (Int × Int × Int × Int)) (x10_1 : Nat) (x10_2 : Nat) (x10_3 : Int) (x10_4 : Int) (x10_5 : Int) (x10_6 : Int) (x10_7 : Int) (r : List (Int × Int × Int × Int) × Int × Int × Bool × Bool) : Ex × XSt := match r with
 | (z10_0, z10_1, z10_2, z10_3, z10_4) => (.normal, (sT 148 [(0, (sN 0 0 x10_1 x10_2)), (1, (i6 z10_1)), (2, (i6 z10_2)), (3, (i6 x10_5)), (4, (Value.func (.func 38) #[] #[])), (10, (bO z10_3)), (11, (bO z10_4))], [], ⟨sB [(0, (some (.cells (layT (rows rw_uuuu z10_0)) 24)))], 1, 0⟩))
abbrev qfm_ (rd : Option Nat) (x10_0 : List (Int × Int × Int × Int)) (x10_1 : Nat) (x10_2 : Nat) (x10_3 : Int) (x10_4 : Int) (x10_5 : Int) (x10_6 : Int) (x10_7 : Int) (st : Unit) (r : List (Int × Int × Int × Int) × Int × Int × Bool × Bool) : Prop := CG P rd (fnN P 43) 1 (qt_ P 43 [true, true, true, true, true, true, true, true, false, false, false, true, true]) (qhg_ x10_0 x10_1 x10_2 x10_3 x10_4 x10_5 x10_6 x10_7 st) (qbf_ x10_0 x10_1 x10_2 x10_3 x10_4 x10_5 x10_6 x10_7 r)
def qb6_ (rec_slicespdqsortCmpFuncapiClassq1 : (List (Int × Int × Int × Int)) → (Nat) → (Nat) → (Int) → (Int) → (Int) → Option (List (Int × Int × Int × Int))) (n : Nat) (x10_0 : List (Int × Int × Int × Int)) (x10_1 : Nat) (x10_2 : Nat) (x10_3 : Int) (x10_4 : Int) (x10_5 : Int) (x10_6 : Int) (x10_7 : Int) (st : Unit) : Option (List (Int × Int × Int × Int) × Int × Int × Bool × Bool) :=
 (qdo_ n x10_0 x10_1 x10_2 x10_3 x10_4 x10_7).bind fun t => match t with
 | (y10_1_0, y10_1_1, y10_1_2) =>
  (qd3_ rec_slicespdqsortCmpFuncapiClassq1 n y10_1_0 x10_1 x10_2 x10_3 x10_4 x10_5 x10_6 y10_1_1 y10_1_2 ()).bind fun t => match t with
  | (y10_2_0, y10_2_1, y10_2_2, y10_2_3) =>
   some (y10_2_0, y10_2_1, y10_2_2, y10_2_3, y10_1_2)
theorem qey_ (rec_slicespdqsortCmpFuncapiClassq1 : (List (Int × Int × Int × Int)) → (Nat) → (Nat) → (Int) → (Int) → (Int) → Option (List (Int × Int × Int × Int))) (hrec_slicespdqsortCmpFuncapiClassq1 : ∀ (a0 : List (Int × Int × Int × Int)) (a1 : Nat) (a2 : Nat) (a3 : Int) (a4 : Int) (a5 : Int) (r : List (Int × Int × Int × Int)), rec_slicespdqsortCmpFuncapiClassq1 a0 a1 a2 a3 a4 a5 = some r → Gv P (.func 43) (qg_ a0 a1 a2 a3 a4 a5) (qh_ a0 a1 a2 a3 a4 a5) (qe_ a0 a1 a2 a3 a4 a5 r) (qf_ a0 a1 a2 a3 a4 a5 r)) (n : Nat) {rnd : Option Nat} (x10_0 : List (Int × Int × Int × Int)) (x10_1 : Nat) (x10_2 : Nat) (x10_3 : Int) (x10_4 : Int) (x10_5 : Int) (x10_6 : Int) (x10_7 : Int) (st : Unit) (r : List (Int × Int × Int × Int) × Int × Int × Bool × Bool) (h : qb6_ rec_slicespdqsortCmpFuncapiClassq1 n x10_0 x10_1 x10_2 x10_3 x10_4 x10_5 x10_6 x10_7 st = some r) : CG P rnd (fnN P 43) 1 (qt_ P 43 [true, true, true, true, true, true, true, true, false, false, false, true, true]) (qhg_ x10_0 x10_1 x10_2 x10_3 x10_4 x10_5 x10_6 x10_7 st) (qbf_ x10_0 x10_1 x10_2 x10_3 x10_4 x10_5 x10_6 x10_7 r) := by
 unfold qb6_ at h
 obtain ⟨⟨y10_1_0, y10_1_1, y10_1_2⟩, hy10_1, h⟩ := oB h
 dsimp only at h
 obtain ⟨⟨y10_2_0, y10_2_1, y10_2_2, y10_2_3⟩, hy10_2, h⟩ := oB h
 dsimp only at h
 obtain rfl := oI h
 exact runC2 hm ⟨[0, 1, 2, 3, 4, 10, 11], [(0, 0, true)], 1, 0, [], false, [], [], []⟩ (yy 6 (.call (qly_ x10_0 x10_1 x10_2 x10_3 x10_4 x10_7 (y10_1_0, y10_1_1, y10_1_2) [(0, 0, true)] [(0, 0, true)])) <|
  ww (qkt_ n x10_0 x10_1 x10_2 x10_3 x10_4 x10_7 (y10_1_0, y10_1_1, y10_1_2) hy10_1) <|
  ww (qa_ rwf_uuuu x10_0 24) <|
  ww (qa_ rwf_uuuu y10_1_0 24) <|
  ww (p := qle_ rnd y10_1_0 x10_1 x10_2 x10_3 x10_4 x10_5 x10_6 y10_1_1 y10_1_2 () (y10_2_0, y10_2_1, y10_2_2, y10_2_3)) (qko_ rec_slicespdqsortCmpFuncapiClassq1 hrec_slicespdqsortCmpFuncapiClassq1 n y10_1_0 x10_1 x10_2 x10_3 x10_4 x10_5 x10_6 y10_1_1 y10_1_2 () (y10_2_0, y10_2_1, y10_2_2, y10_2_3) hy10_2) <|
  ww (qa_ rwf_uuuu y10_1_0 24) <|
  ll 12 ⟨⟨[0, 1, 2, 3, 4, 12, 16, 17], [(0, 0, true)], 1, 0, [], false, [], [], []⟩, (qd2_ y10_1_0 x10_1 x10_2 x10_3 x10_4 x10_5 x10_6 y10_1_1 y10_1_2 (y10_2_0, y10_2_1, y10_2_2, y10_2_3)).1, (qd2_ y10_1_0 x10_1 x10_2 x10_3 x10_4 x10_5 x10_6 y10_1_1 y10_1_2 (y10_2_0, y10_2_1, y10_2_2, y10_2_3)).2⟩ <|
  ww (qa_ rwf_uuuu y10_2_0 24) <|
  ee) (by kernel_rfl)
def qh0_ (x0 : List (Int × Int × Int × Int)) (x1 : Nat) (x2 : Nat) (x3 : Int) (x4 : Int) (x5 : Int) (x6 : Bool) (x7 : Bool) (x8 : Int) (x9 : Int) (st : Unit) : XSt := (sT 148 [(0, (sN 0 0 x1 x2)), (1, (i6 x3)), (2, (i6 x4)), (3, (i6 x5)), (4, (Value.func (.func 38) #[] #[])), (10, (bO x6)), (11, (bO x7)), (12, (i6 x8)), (13, (i6 x9))], [], ⟨sB [(0, (some (.cells (layT (rows rw_uuuu x0)) 24)))], 1, 0⟩)
def qc_ (x0 : List (Int × Int × Int × Int)) (x1 : Nat) (x2 : Nat) (x3 : Int) (x4 : Int) (x5 : Int) (x6 : Bool) (x7 : Bool) (x8 : Int) (x9 : Int) (r : (List (Int × Int × Int × Int) × Int) ⊕ (List (Int × Int × Int × Int) × Int × Int × Bool × Bool)) : Ex × XSt := match r with
 | .inl (z0, z1) => (.exit 1, (sT 148 [(0, (sN 0 0 x1 x2)), (1, (i6 z1)), (2, (i6 x4)), (3, (i6 x5)), (4, (Value.func (.func 38) #[] #[])), (10, (bO x6)), (11, (bO x7))], [], ⟨sB [(0, (some (.cells (layT (rows rw_uuuu z0)) 24)))], 1, 0⟩))
 | .inr (z0, z1, z2, z3, z4) => (.normal, (sT 148 [(0, (sN 0 0 x1 x2)), (1, (i6 z1)), (2, (i6 z2)), (3, (i6 x5)), (4, (Value.func (.func 38) #[] #[])), (10, (bO z3)), (11, (bO z4))], [], ⟨sB [(0, (some (.cells (layT (rows rw_uuuu z0)) 24)))], 1, 0⟩))
abbrev qbi_ (rd : Option Nat) (x0 : List (Int × Int × Int × Int)) (x1 : Nat) (x2 : Nat) (x3 : Int) (x4 : Int) (x5 : Int) (x6 : Bool) (x7 : Bool) (x8 : Int) (x9 : Int) (st : Unit) (r : (List (Int × Int × Int × Int) × Int) ⊕ (List (Int × Int × Int × Int) × Int × Int × Bool × Bool)) : Prop := CG P rd (fnN P 43) 1 (qt_ P 43 [true, true, true, true, true, true, true, false, false, false, true, true]) (qh0_ x0 x1 x2 x3 x4 x5 x6 x7 x8 x9 st) (qc_ x0 x1 x2 x3 x4 x5 x6 x7 x8 x9 r)
def qj_ (rec_slicespdqsortCmpFuncapiClassq1 : (List (Int × Int × Int × Int)) → (Nat) → (Nat) → (Int) → (Int) → (Int) → Option (List (Int × Int × Int × Int))) (n : Nat) (x0 : List (Int × Int × Int × Int)) (x1 : Nat) (x2 : Nat) (x3 : Int) (x4 : Int) (x5 : Int) (x6 : Bool) (x7 : Bool) (x8 : Int) (x9 : Int) (st : Unit) : Option ((List (Int × Int × Int × Int) × Int) ⊕ (List (Int × Int × Int × Int) × Int × Int × Bool × Bool)) :=
 if x3 > 0 then
  if 0 ≤ (w64 (x3 - 1)) ∧ (w64 (x3 - 1)) < ((x1 : Nat) : Int) then
   if ((w64 (x3 - 1))).toNat < (x0).length then
    ((some ((x0).getD ((w64 (x3 - 1))).toNat (0, 0, 0, 0)))).bind fun y4_ =>
    if 0 ≤ x9 ∧ x9 < ((x1 : Nat) : Int) then
     if (x9).toNat < (x0).length then
      ((some ((x0).getD (x9).toNat (0, 0, 0, 0)))).bind fun y7_ =>
      (qd_ n (y4_.1) (y4_.2.1) (y4_.2.2.1) (y4_.2.2.2) (y7_.1) (y7_.2.1) (y7_.2.2.1) (y7_.2.2.2)).bind fun y8_ =>
      if y8_ < 0 then
       match qr_ rec_slicespdqsortCmpFuncapiClassq1 n x0 x1 x2 x3 x4 x5 x6 x7 x8 x9 false () with
       | none => none
       | some (.inl (y10_0, y10_1)) =>
        some (.inl (y10_0, y10_1))
       | some (.inr _) =>
        (qb6_ rec_slicespdqsortCmpFuncapiClassq1 n x0 x1 x2 x3 x4 x5 x8 x9 ()).bind fun t => match t with
        | (y11_0, y11_1, y11_2, y11_3, y11_4) =>
         some (.inr (y11_0, y11_1, y11_2, y11_3, y11_4))
      else
       match qr_ rec_slicespdqsortCmpFuncapiClassq1 n x0 x1 x2 x3 x4 x5 x6 x7 x8 x9 true () with
       | none => none
       | some (.inl (y10_0, y10_1)) =>
        some (.inl (y10_0, y10_1))
       | some (.inr _) =>
        (qb6_ rec_slicespdqsortCmpFuncapiClassq1 n x0 x1 x2 x3 x4 x5 x8 x9 ()).bind fun t => match t with
        | (y11_0, y11_1, y11_2, y11_3, y11_4) =>
         some (.inr (y11_0, y11_1, y11_2, y11_3, y11_4))
     else none
    else none
   else none
  else none
 else
  match qr_ rec_slicespdqsortCmpFuncapiClassq1 n x0 x1 x2 x3 x4 x5 x6 x7 x8 x9 false () with
  | none => none
  | some (.inl (y2_0, y2_1)) =>
   some (.inl (y2_0, y2_1))
  | some (.inr _) =>
   (qb6_ rec_slicespdqsortCmpFuncapiClassq1 n x0 x1 x2 x3 x4 x5 x8 x9 ()).bind fun t => match t with
   | (y3_0, y3_1, y3_2, y3_3, y3_4) =>
    some (.inr (y3_0, y3_1, y3_2, y3_3, y3_4))
theorem q8_ (rec_slicespdqsortCmpFuncapiClassq1 : (List (Int × Int × Int × Int)) → (Nat) → (Nat) → (Int) → (Int) → (Int) → Option (List (Int × Int × Int × Int))) (hrec_slicespdqsortCmpFuncapiClassq1 : ∀ (a0 : List (Int × Int × Int × Int)) (a1 : Nat) (a2 : Nat) (a3 : Int) (a4 : Int) (a5 : Int) (r : List (Int × Int × Int × Int)), rec_slicespdqsortCmpFuncapiClassq1 a0 a1 a2 a3 a4 a5 = some r → Gv P (.func 43) (qg_ a0 a1 a2 a3 a4 a5) (qh_ a0 a1 a2 a3 a4 a5) (qe_ a0 a1 a2 a3 a4 a5 r) (qf_ a0 a1 a2 a3 a4 a5 r)) (n : Nat) {rnd : Option Nat} (x0 : List (Int × Int × Int × Int)) (x1 : Nat) (x2 : Nat) (x3 : Int) (x4 : Int) (x5 : Int) (x6 : Bool) (x7 : Bool) (x8 : Int) (x9 : Int) (st : Unit) (r : (List (Int × Int × Int × Int) × Int) ⊕ (List (Int × Int × Int × Int) × Int × Int × Bool × Bool)) (h : qj_ rec_slicespdqsortCmpFuncapiClassq1 n x0 x1 x2 x3 x4 x5 x6 x7 x8 x9 st = some r) : CG P rnd (fnN P 43) 1 (qt_ P 43 [true, true, true, true, true, true, true, false, false, false, true, true]) (qh0_ x0 x1 x2 x3 x4 x5 x6 x7 x8 x9 st) (qc_ x0 x1 x2 x3 x4 x5 x6 x7 x8 x9 r) := by
 unfold qj_ at h
 by_cases hy1 : x3 > 0
 ·rw [if_pos hy1] at h
  obtain ⟨hy2, h⟩ := gd h
  obtain ⟨hy3, h⟩ := gd h
  obtain ⟨y4_, hy4, h⟩ := oB h
  obtain ⟨hy5, h⟩ := gd h
  obtain ⟨hy6, h⟩ := gd h
  obtain ⟨y7_, hy7, h⟩ := oB h
  obtain ⟨y8_, hy8, h⟩ := oB h
  have k0 := fun {A L l} (k : PL A L l) => zz 3 (xdT hy1) <|
   zz 9 (xk3 0 x2 hy2) <|
   yy 10 (.ld (Value.agg #[(Value.int .u64 (y4_.1)), (Value.int .u64 (y4_.2.1)), (Value.int .u64 (y4_.2.2.1)), (Value.int .u64 (y4_.2.2.2))])) <|
   ww (p := rdT (layT (rows rw_uuuu x0)) 4 (((w64 (x3 - 1))).toNat * 4) = some [(Value.int .u64 (y4_.1)), (Value.int .u64 (y4_.2.1)), (Value.int .u64 (y4_.2.2.1)), (Value.int .u64 (y4_.2.2.2))]) (qn_ rwf_uuuu (0, 0, 0, 0) (hr := hy4) (i := ((w64 (x3 - 1))).toNat) (j := 0) (((w64 (x3 - 1))).toNat * 4) rfl (hy3) (by decide) rfl) <|
   zz 13 (xk3 0 x2 hy5) <|
   yy 14 (.ld (Value.agg #[(Value.int .u64 (y7_.1)), (Value.int .u64 (y7_.2.1)), (Value.int .u64 (y7_.2.2.1)), (Value.int .u64 (y7_.2.2.2))])) <|
   ww (p := rdT (layT (rows rw_uuuu x0)) 4 ((x9).toNat * 4) = some [(Value.int .u64 (y7_.1)), (Value.int .u64 (y7_.2.1)), (Value.int .u64 (y7_.2.2.1)), (Value.int .u64 (y7_.2.2.2))]) (qn_ rwf_uuuu (0, 0, 0, 0) (hr := hy7) (i := (x9).toNat) (j := 0) ((x9).toNat * 4) rfl (hy6) (by decide) rfl) <|
   yy 15 (.call (qbg_ (y4_.1) (y4_.2.1) (y4_.2.2.1) (y4_.2.2.2) (y7_.1) (y7_.2.1) (y7_.2.2.1) (y7_.2.2.2) y8_ [] [])) <|
   ww (qw_ n (y4_.1) (y4_.2.1) (y4_.2.2.1) (y4_.2.2.2) (y7_.1) (y7_.2.1) (y7_.2.2.1) (y7_.2.2.2) y8_ hy8) <|
   k
  by_cases hy9 : y8_ < 0
  ·rw [if_pos hy9] at h
   have k9 := fun {A L l} (k : PL A L l) => zz 16 (xdT hy9) <|
    k
   rcases hy10 : qr_ rec_slicespdqsortCmpFuncapiClassq1 n x0 x1 x2 x3 x4 x5 x6 x7 x8 x9 false () with _ | (⟨y10_0, y10_1⟩ | ⟨⟩)
   ·rw [hy10] at h; cases h
   ·rw [hy10] at h
    dsimp only at h
    obtain rfl := oI h
    exact runC2 hm ⟨[0, 1, 2, 3, 4, 10, 11], [(0, 0, true)], 1, 0, [], false, [], [], []⟩ (k0 <|
     k9 <|
     ww (p := qc7_ rnd x0 x1 x2 x3 x4 x5 x6 x7 x8 x9 false () (.inl (y10_0, y10_1))) (qcg_ rec_slicespdqsortCmpFuncapiClassq1 hrec_slicespdqsortCmpFuncapiClassq1 n x0 x1 x2 x3 x4 x5 x6 x7 x8 x9 false () (.inl (y10_0, y10_1)) hy10) <|
     ww (qa_ rwf_uuuu x0 24) <|
     ll 19 ⟨⟨[0, 1, 2, 3, 4, 10, 11, 12, 13, 97], [(0, 0, true)], 1, 0, [], false, [], [], []⟩, (qi_ x0 x1 x2 x3 x4 x5 x6 x7 x8 x9 false (.inl (y10_0, y10_1))).1, (qi_ x0 x1 x2 x3 x4 x5 x6 x7 x8 x9 false (.inl (y10_0, y10_1))).2⟩ <|
     ww (qa_ rwf_uuuu y10_0 24) <|
     ee) (by kernel_rfl)
   ·rw [hy10] at h
    dsimp only at h
    obtain ⟨⟨y11_0, y11_1, y11_2, y11_3, y11_4⟩, hy11, h⟩ := oB h
    dsimp only at h
    obtain rfl := oI h
    exact runC2 hm ⟨[0, 1, 2, 3, 4, 10, 11], [(0, 0, true)], 1, 0, [], false, [], [], []⟩ (k0 <|
     k9 <|
     ww (p := qc7_ rnd x0 x1 x2 x3 x4 x5 x6 x7 x8 x9 false () (.inr ())) (qcg_ rec_slicespdqsortCmpFuncapiClassq1 hrec_slicespdqsortCmpFuncapiClassq1 n x0 x1 x2 x3 x4 x5 x6 x7 x8 x9 false () (.inr ()) hy10) <|
     ww (qa_ rwf_uuuu x0 24) <|
     ll 19 ⟨⟨[0, 1, 2, 3, 4, 10, 11, 12, 13, 97], [(0, 0, true)], 1, 0, [], false, [], [], []⟩, (qi_ x0 x1 x2 x3 x4 x5 x6 x7 x8 x9 false (.inr ())).1, (qi_ x0 x1 x2 x3 x4 x5 x6 x7 x8 x9 false (.inr ())).2⟩ <|
     ww (p := qfm_ rnd x0 x1 x2 x3 x4 x5 x8 x9 () (y11_0, y11_1, y11_2, y11_3, y11_4)) (qey_ rec_slicespdqsortCmpFuncapiClassq1 hrec_slicespdqsortCmpFuncapiClassq1 n x0 x1 x2 x3 x4 x5 x8 x9 () (y11_0, y11_1, y11_2, y11_3, y11_4) hy11) <|
     ww (qa_ rwf_uuuu x0 24) <|
     ll 20 ⟨⟨[0, 1, 2, 3, 4, 12, 13], [(0, 0, true)], 1, 0, [], false, [], [], []⟩, (qbf_ x0 x1 x2 x3 x4 x5 x8 x9 (y11_0, y11_1, y11_2, y11_3, y11_4)).1, (qbf_ x0 x1 x2 x3 x4 x5 x8 x9 (y11_0, y11_1, y11_2, y11_3, y11_4)).2⟩ <|
     ww (qa_ rwf_uuuu y11_0 24) <|
     ee) (by kernel_rfl)
  ·rw [if_neg hy9] at h
   have k9 := fun {A L l} (k : PL A L l) => zz 16 (xdF hy9) <|
    k
   rcases hy10 : qr_ rec_slicespdqsortCmpFuncapiClassq1 n x0 x1 x2 x3 x4 x5 x6 x7 x8 x9 true () with _ | (⟨y10_0, y10_1⟩ | ⟨⟩)
   ·rw [hy10] at h; cases h
   ·rw [hy10] at h
    dsimp only at h
    obtain rfl := oI h
    exact runC2 hm ⟨[0, 1, 2, 3, 4, 10, 11], [(0, 0, true)], 1, 0, [], false, [], [], []⟩ (k0 <|
     k9 <|
     ww (p := qc7_ rnd x0 x1 x2 x3 x4 x5 x6 x7 x8 x9 true () (.inl (y10_0, y10_1))) (qcg_ rec_slicespdqsortCmpFuncapiClassq1 hrec_slicespdqsortCmpFuncapiClassq1 n x0 x1 x2 x3 x4 x5 x6 x7 x8 x9 true () (.inl (y10_0, y10_1)) hy10) <|
     ww (qa_ rwf_uuuu x0 24) <|
     ll 19 ⟨⟨[0, 1, 2, 3, 4, 10, 11, 12, 13, 97], [(0, 0, true)], 1, 0, [], false, [], [], []⟩, (qi_ x0 x1 x2 x3 x4 x5 x6 x7 x8 x9 true (.inl (y10_0, y10_1))).1, (qi_ x0 x1 x2 x3 x4 x5 x6 x7 x8 x9 true (.inl (y10_0, y10_1))).2⟩ <|
     ww (qa_ rwf_uuuu y10_0 24) <|
     ee) (by kernel_rfl)
   ·rw [hy10] at h
    dsimp only at h
    obtain ⟨⟨y11_0, y11_1, y11_2, y11_3, y11_4⟩, hy11, h⟩ := oB h
    dsimp only at h
    obtain rfl := oI h
    exact runC2 hm ⟨[0, 1, 2, 3, 4, 10, 11], [(0, 0, true)], 1, 0, [], false, [], [], []⟩ (k0 <|
     k9 <|
     ww (p := qc7_ rnd x0 x1 x2 x3 x4 x5 x6 x7 x8 x9 true () (.inr ())) (qcg_ rec_slicespdqsortCmpFuncapiClassq1 hrec_slicespdqsortCmpFuncapiClassq1 n x0 x1 x2 x3 x4 x5 x6 x7 x8 x9 true () (.inr ()) hy10) <|
     ww (qa_ rwf_uuuu x0 24) <|
     ll 19 ⟨⟨[0, 1, 2, 3, 4, 10, 11, 12, 13, 97], [(0, 0, true)], 1, 0, [], false, [], [], []⟩, (qi_ x0 x1 x2 x3 x4 x5 x6 x7 x8 x9 true (.inr ())).1, (qi_ x0 x1 x2 x3 x4 x5 x6 x7 x8 x9 true (.inr ())).2⟩ <|
     ww (p := qfm_ rnd x0 x1 x2 x3 x4 x5 x8 x9 () (y11_0, y11_1, y11_2, y11_3, y11_4)) (qey_ rec_slicespdqsortCmpFuncapiClassq1 hrec_slicespdqsortCmpFuncapiClassq1 n x0 x1 x2 x3 x4 x5 x8 x9 () (y11_0, y11_1, y11_2, y11_3, y11_4) hy11) <|
     ww (qa_ rwf_uuuu x0 24) <|
     ll 20 ⟨⟨[0, 1, 2, 3, 4, 12, 13], [(0, 0, true)], 1, 0, [], false, [], [], []⟩, (qbf_ x0 x1 x2 x3 x4 x5 x8 x9 (y11_0, y11_1, y11_2, y11_3, y11_4)).1, (qbf_ x0 x1 x2 x3 x4 x5 x8 x9 (y11_0, y11_1, y11_2, y11_3, y11_4)).2⟩ <|
     ww (qa_ rwf_uuuu y11_0 24) <|
     ee) (by kernel_rfl)
 ·rw [if_neg hy1] at h
  have k0 := fun {A L l} (k : PL A L l) => zz 3 (xdF hy1) <|
   k
  rcases hy2 : qr_ rec_slicespdqsortCmpFuncapiClassq1 n x0 x1 x2 x3 x4 x5 x6 x7 x8 x9 false () with _ | (⟨y2_0, y2_1⟩ | ⟨⟩)
  ·rw [hy2] at h; cases h
  ·rw [hy2] at h
   dsimp only at h
   obtain rfl := oI h
   exact runC2 hm ⟨[0, 1, 2, 3, 4, 10, 11], [(0, 0, true)], 1, 0, [], false, [], [], []⟩ (k0 <|
    ww (p := qc7_ rnd x0 x1 x2 x3 x4 x5 x6 x7 x8 x9 false () (.inl (y2_0, y2_1))) (qcg_ rec_slicespdqsortCmpFuncapiClassq1 hrec_slicespdqsortCmpFuncapiClassq1 n x0 x1 x2 x3 x4 x5 x6 x7 x8 x9 false () (.inl (y2_0, y2_1)) hy2) <|
    ww (qa_ rwf_uuuu x0 24) <|
    ll 19 ⟨⟨[0, 1, 2, 3, 4, 10, 11, 12, 13, 97], [(0, 0, true)], 1, 0, [], false, [], [], []⟩, (qi_ x0 x1 x2 x3 x4 x5 x6 x7 x8 x9 false (.inl (y2_0, y2_1))).1, (qi_ x0 x1 x2 x3 x4 x5 x6 x7 x8 x9 false (.inl (y2_0, y2_1))).2⟩ <|
    ww (qa_ rwf_uuuu y2_0 24) <|
    ee) (by kernel_rfl)
  ·rw [hy2] at h
   dsimp only at h
   obtain ⟨⟨y3_0, y3_1, y3_2, y3_3, y3_4⟩, hy3, h⟩ := oB h
   dsimp only at h
   obtain rfl := oI h
   exact runC2 hm ⟨[0, 1, 2, 3, 4, 10, 11], [(0, 0, true)], 1, 0, [], false, [], [], []⟩ (k0 <|
    ww (p := qc7_ rnd x0 x1 x2 x3 x4 x5 x6 x7 x8 x9 false () (.inr ())) (qcg_ rec_slicespdqsortCmpFuncapiClassq1 hrec_slicespdqsortCmpFuncapiClassq1 n x0 x1 x2 x3 x4 x5 x6 x7 x8 x9 false () (.inr ()) hy2) <|
    ww (qa_ rwf_uuuu x0 24) <|
    ll 19 ⟨⟨[0, 1, 2, 3, 4, 10, 11, 12, 13, 97], [(0, 0, true)], 1, 0, [], false, [], [], []⟩, (qi_ x0 x1 x2 x3 x4 x5 x6 x7 x8 x9 false (.inr ())).1, (qi_ x0 x1 x2 x3 x4 x5 x6 x7 x8 x9 false (.inr ())).2⟩ <|
    ww (p := qfm_ rnd x0 x1 x2 x3 x4 x5 x8 x9 () (y3_0, y3_1, y3_2, y3_3, y3_4)) (qey_ rec_slicespdqsortCmpFuncapiClassq1 hrec_slicespdqsortCmpFuncapiClassq1 n x0 x1 x2 x3 x4 x5 x8 x9 () (y3_0, y3_1, y3_2, y3_3, y3_4) hy3) <|
    ww (qa_ rwf_uuuu x0 24) <|
    ll 20 ⟨⟨[0, 1, 2, 3, 4, 12, 13], [(0, 0, true)], 1, 0, [], false, [], [], []⟩, (qbf_ x0 x1 x2 x3 x4 x5 x8 x9 (y3_0, y3_1, y3_2, y3_3, y3_4)).1, (qbf_ x0 x1 x2 x3 x4 x5 x8 x9 (y3_0, y3_1, y3_2, y3_3, y3_4)).2⟩ <|
    ww (qa_ rwf_uuuu y3_0 24) <|
    ee) (by kernel_rfl)
def qh1_ (x0 : List (Int × Int × Int × Int)) (x1 : Nat) (x2 : Nat) (x3 : Int) (x4 : Int) (x5 : Int) (x6 : Bool) (x7 : Bool) (x8 : Int) (x9 : Int) (x10 : Int) (st : Unit) : XSt := (sT 148 [(0, (sN 0 0 x1 x2)), (1, (i6 x3)), (2, (i6 x4)), (3, (i6 x5)), (4, (Value.func (.func 38) #[] #[])), (10, (bO x6)), (11, (bO x7)), (12, (i6 x8)), (13, (i6 x9)), (14, (i6 x10))], [], ⟨sB [(0, (some (.cells (layT (rows rw_uuuu x0)) 24)))], 1, 0⟩)
def qk_ (x0 : List (Int × Int × Int × Int)) (x1 : Nat) (x2 : Nat) (x3 : Int) (x4 : Int) (x5 : Int) (x6 : Bool) (x7 : Bool) (x8 : Int) (x9 : Int) (x10 : Int) (r : (List (Int × Int × Int × Int)) ⊕ ((List (Int × Int × Int × Int) × Int) ⊕ (List (Int × Int × Int × Int) × Int × Int × Bool × Bool))) : Ex × XSt := match r with
 | .inl z0 => (.ret, (sT 148 [], [], ⟨sB [(0, (some (.cells (layT (rows rw_uuuu z0)) 24)))], 1, 0⟩))
 | .inr (.inl (z0, z1)) => (.exit 1, (sT 148 [(0, (sN 0 0 x1 x2)), (1, (i6 z1)), (2, (i6 x4)), (3, (i6 x5)), (4, (Value.func (.func 38) #[] #[])), (10, (bO x6)), (11, (bO x7))], [], ⟨sB [(0, (some (.cells (layT (rows rw_uuuu z0)) 24)))], 1, 0⟩))
 | .inr (.inr (z0, z1, z2, z3, z4)) => (.normal, (sT 148 [(0, (sN 0 0 x1 x2)), (1, (i6 z1)), (2, (i6 z2)), (3, (i6 x5)), (4, (Value.func (.func 38) #[] #[])), (10, (bO z3)), (11, (bO z4))], [], ⟨sB [(0, (some (.cells (layT (rows rw_uuuu z0)) 24)))], 1, 0⟩))
abbrev qc8_ (rd : Option Nat) (x0 : List (Int × Int × Int × Int)) (x1 : Nat) (x2 : Nat) (x3 : Int) (x4 : Int) (x5 : Int) (x6 : Bool) (x7 : Bool) (x8 : Int) (x9 : Int) (x10 : Int) (st : Unit) (r : (List (Int × Int × Int × Int)) ⊕ ((List (Int × Int × Int × Int) × Int) ⊕ (List (Int × Int × Int × Int) × Int × Int × Bool × Bool))) : Prop := CG P rd (fnN P 43) 1 (qt_ P 43 [true, true, true, true, true, true, false, false, false, true, true]) (qh1_ x0 x1 x2 x3 x4 x5 x6 x7 x8 x9 x10 st) (qk_ x0 x1 x2 x3 x4 x5 x6 x7 x8 x9 x10 r)
def qbj_ (rec_slicespdqsortCmpFuncapiClassq1 : (List (Int × Int × Int × Int)) → (Nat) → (Nat) → (Int) → (Int) → (Int) → Option (List (Int × Int × Int × Int))) (n : Nat) (x0 : List (Int × Int × Int × Int)) (x1 : Nat) (x2 : Nat) (x3 : Int) (x4 : Int) (x5 : Int) (x6 : Bool) (x7 : Bool) (x8 : Int) (x9 : Int) (x10 : Int) (st : Unit) : Option ((List (Int × Int × Int × Int)) ⊕ ((List (Int × Int × Int × Int) × Int) ⊕ (List (Int × Int × Int × Int) × Int × Int × Bool × Bool))) :=
 if x6 = true then
  if x7 = true then
   if x10 = 1 then
    (qb8_ n x0 x1 x2 x3 x4).bind fun t => match t with
    | (y4_0, y4_1) =>
     match qdp_ rec_slicespdqsortCmpFuncapiClassq1 n y4_0 x1 x2 x3 x4 x5 x6 x7 x8 x9 y4_1 () with
     | none => none
     | some (.inl _) =>
      some (.inl y4_0)
     | some (.inr _) =>
      match qj_ rec_slicespdqsortCmpFuncapiClassq1 n y4_0 x1 x2 x3 x4 x5 x6 x7 x8 x9 () with
      | none => none
      | some (.inl (y6_0, y6_1)) =>
       some (.inr (.inl (y6_0, y6_1)))
      | some (.inr (y6_0, y6_1, y6_2, y6_3, y6_4)) =>
       some (.inr (.inr (y6_0, y6_1, y6_2, y6_3, y6_4)))
   else
    match qj_ rec_slicespdqsortCmpFuncapiClassq1 n x0 x1 x2 x3 x4 x5 x6 x7 x8 x9 () with
    | none => none
    | some (.inl (y4_0, y4_1)) =>
     some (.inr (.inl (y4_0, y4_1)))
    | some (.inr (y4_0, y4_1, y4_2, y4_3, y4_4)) =>
     some (.inr (.inr (y4_0, y4_1, y4_2, y4_3, y4_4)))
  else
   match qj_ rec_slicespdqsortCmpFuncapiClassq1 n x0 x1 x2 x3 x4 x5 x6 x7 x8 x9 () with
   | none => none
   | some (.inl (y3_0, y3_1)) =>
    some (.inr (.inl (y3_0, y3_1)))
   | some (.inr (y3_0, y3_1, y3_2, y3_3, y3_4)) =>
    some (.inr (.inr (y3_0, y3_1, y3_2, y3_3, y3_4)))
 else
  match qj_ rec_slicespdqsortCmpFuncapiClassq1 n x0 x1 x2 x3 x4 x5 x6 x7 x8 x9 () with
  | none => none
  | some (.inl (y2_0, y2_1)) =>
   some (.inr (.inl (y2_0, y2_1)))
  | some (.inr (y2_0, y2_1, y2_2, y2_3, y2_4)) =>
   some (.inr (.inr (y2_0, y2_1, y2_2, y2_3, y2_4)))
theorem qch_ (rec_slicespdqsortCmpFuncapiClassq1 : (List (Int × Int × Int × Int)) → (Nat) → (Nat) → (Int) → (Int) → (Int) → Option (List (Int × Int × Int × Int))) (hrec_slicespdqsortCmpFuncapiClassq1 : ∀ (a0 : List (Int × Int × Int × Int)) (a1 : Nat) (a2 : Nat) (a3 : Int) (a4 : Int) (a5 : Int) (r : List (Int × Int × Int × Int)), rec_slicespdqsortCmpFuncapiClassq1 a0 a1 a2 a3 a4 a5 = some r → Gv P (.func 43) (qg_ a0 a1 a2 a3 a4 a5) (qh_ a0 a1 a2 a3 a4 a5) (qe_ a0 a1 a2 a3 a4 a5 r) (qf_ a0 a1 a2 a3 a4 a5 r)) (n : Nat) {rnd : Option Nat} (x0 : List (Int × Int × Int × Int)) (x1 : Nat) (x2 : Nat) (x3 : Int) (x4 : Int) (x5 : Int) (x6 : Bool) (x7 : Bool) (x8 : Int) (x9 : Int) (x10 : Int) (st : Unit) (r : (List (Int × Int × Int × Int)) ⊕ ((List (Int × Int × Int × Int) × Int) ⊕ (List (Int × Int × Int × Int) × Int × Int × Bool × Bool))) (h : qbj_ rec_slicespdqsortCmpFuncapiClassq1 n x0 x1 x2 x3 x4 x5 x6 x7 x8 x9 x10 st = some r) : CG P rnd (fnN P 43) 1 (qt_ P 43 [true, true, true, true, true, true, false, false, false, true, true]) (qh1_ x0 x1 x2 x3 x4 x5 x6 x7 x8 x9 x10 st) (qk_ x0 x1 x2 x3 x4 x5 x6 x7 x8 x9 x10 r) := by
 unfold qbj_ at h
 by_cases hy1 : x6 = true
 ·rw [if_pos hy1] at h
  have k0 := fun {A L l} (k : PL A L l) => zz 3 (xbT hy1) <|
   k
  by_cases hy2 : x7 = true
  ·rw [if_pos hy2] at h
   have k1 := fun {A L l} (k : PL A L l) => zz 6 (xbT hy2) <|
    k
   by_cases hy3 : x10 = 1
   ·rw [if_pos hy3] at h
    obtain ⟨⟨y4_0, y4_1⟩, hy4, h⟩ := oB h
    dsimp only at h
    have k2 := fun {A L l} (k : PL A L l) => zz 8 (xeT hy3) <|
     yy 16 (.call (qip_ x0 x1 x2 x3 x4 (y4_0, y4_1) [(0, 0, true)] [(0, 0, true)])) <|
     ww (qh9_ n x0 x1 x2 x3 x4 (y4_0, y4_1) hy4) <|
     ww (qa_ rwf_uuuu x0 24) <|
     ww (qa_ rwf_uuuu y4_0 24) <|
     k
    rcases hy5 : qdp_ rec_slicespdqsortCmpFuncapiClassq1 n y4_0 x1 x2 x3 x4 x5 x6 x7 x8 x9 y4_1 () with _ | (⟨⟩ | ⟨⟩)
    ·rw [hy5] at h; cases h
    ·rw [hy5] at h
     dsimp only at h
     obtain rfl := oI h
     exact runC2 hm ⟨[], [(0, 0, true)], 1, 0, [], false, [], [], []⟩ (k0 <|
      k1 <|
      k2 <|
      ww (p := qhy_ rnd y4_0 x1 x2 x3 x4 x5 x6 x7 x8 x9 y4_1 () (.inl ())) (qg1_ rec_slicespdqsortCmpFuncapiClassq1 hrec_slicespdqsortCmpFuncapiClassq1 n y4_0 x1 x2 x3 x4 x5 x6 x7 x8 x9 y4_1 () (.inl ()) hy5) <|
      ww (qa_ rwf_uuuu y4_0 24) <|
      ll 17 ⟨⟨[0, 1, 2, 3, 4, 10, 11, 12, 13, 80], [(0, 0, true)], 1, 0, [], false, [], [], []⟩, (qc6_ y4_0 x1 x2 x3 x4 x5 x6 x7 x8 x9 y4_1 (.inl ())).1, (qc6_ y4_0 x1 x2 x3 x4 x5 x6 x7 x8 x9 y4_1 (.inl ())).2⟩ <|
      ww (qa_ rwf_uuuu y4_0 24) <|
      ee) (by kernel_rfl)
    ·rw [hy5] at h
     dsimp only at h
     have k7 := fun {A L l} (k : PL A L l) => ww (p := qhy_ rnd y4_0 x1 x2 x3 x4 x5 x6 x7 x8 x9 y4_1 () (.inr ())) (qg1_ rec_slicespdqsortCmpFuncapiClassq1 hrec_slicespdqsortCmpFuncapiClassq1 n y4_0 x1 x2 x3 x4 x5 x6 x7 x8 x9 y4_1 () (.inr ()) hy5) <|
      ww (qa_ rwf_uuuu y4_0 24) <|
      ll 17 ⟨⟨[0, 1, 2, 3, 4, 10, 11, 12, 13, 80], [(0, 0, true)], 1, 0, [], false, [], [], []⟩, (qc6_ y4_0 x1 x2 x3 x4 x5 x6 x7 x8 x9 y4_1 (.inr ())).1, (qc6_ y4_0 x1 x2 x3 x4 x5 x6 x7 x8 x9 y4_1 (.inr ())).2⟩ <|
      k
     rcases hy6 : qj_ rec_slicespdqsortCmpFuncapiClassq1 n y4_0 x1 x2 x3 x4 x5 x6 x7 x8 x9 () with _ | (⟨y6_0, y6_1⟩ | ⟨y6_0, y6_1, y6_2, y6_3, y6_4⟩)
     ·rw [hy6] at h; cases h
     ·rw [hy6] at h
      dsimp only at h
      obtain rfl := oI h
      exact runC2 hm ⟨[0, 1, 2, 3, 4, 10, 11], [(0, 0, true)], 1, 0, [], false, [], [], []⟩ (k0 <|
       k1 <|
       k2 <|
       k7 <|
       ww (p := qbi_ rnd y4_0 x1 x2 x3 x4 x5 x6 x7 x8 x9 () (.inl (y6_0, y6_1))) (q8_ rec_slicespdqsortCmpFuncapiClassq1 hrec_slicespdqsortCmpFuncapiClassq1 n y4_0 x1 x2 x3 x4 x5 x6 x7 x8 x9 () (.inl (y6_0, y6_1)) hy6) <|
       ww (qa_ rwf_uuuu y4_0 24) <|
       ll 18 ⟨⟨[0, 1, 2, 3, 4, 10, 11, 12, 13], [(0, 0, true)], 1, 0, [], false, [], [], []⟩, (qc_ y4_0 x1 x2 x3 x4 x5 x6 x7 x8 x9 (.inl (y6_0, y6_1))).1, (qc_ y4_0 x1 x2 x3 x4 x5 x6 x7 x8 x9 (.inl (y6_0, y6_1))).2⟩ <|
       ww (qa_ rwf_uuuu y6_0 24) <|
       ee) (by kernel_rfl)
     ·rw [hy6] at h
      dsimp only at h
      obtain rfl := oI h
      exact runC2 hm ⟨[0, 1, 2, 3, 4, 10, 11], [(0, 0, true)], 1, 0, [], false, [], [], []⟩ (k0 <|
       k1 <|
       k2 <|
       k7 <|
       ww (p := qbi_ rnd y4_0 x1 x2 x3 x4 x5 x6 x7 x8 x9 () (.inr (y6_0, y6_1, y6_2, y6_3, y6_4))) (q8_ rec_slicespdqsortCmpFuncapiClassq1 hrec_slicespdqsortCmpFuncapiClassq1 n y4_0 x1 x2 x3 x4 x5 x6 x7 x8 x9 () (.inr (y6_0, y6_1, y6_2, y6_3, y6_4)) hy6) <|
       ww (qa_ rwf_uuuu y4_0 24) <|
       ll 18 ⟨⟨[0, 1, 2, 3, 4, 10, 11, 12, 13], [(0, 0, true)], 1, 0, [], false, [], [], []⟩, (qc_ y4_0 x1 x2 x3 x4 x5 x6 x7 x8 x9 (.inr (y6_0, y6_1, y6_2, y6_3, y6_4))).1, (qc_ y4_0 x1 x2 x3 x4 x5 x6 x7 x8 x9 (.inr (y6_0, y6_1, y6_2, y6_3, y6_4))).2⟩ <|
       ww (qa_ rwf_uuuu y6_0 24) <|
       ee) (by kernel_rfl)
   ·rw [if_neg hy3] at h
    have k2 := fun {A L l} (k : PL A L l) => zz 8 (xeF hy3) <|
     k
    rcases hy4 : qj_ rec_slicespdqsortCmpFuncapiClassq1 n x0 x1 x2 x3 x4 x5 x6 x7 x8 x9 () with _ | (⟨y4_0, y4_1⟩ | ⟨y4_0, y4_1, y4_2, y4_3, y4_4⟩)
    ·rw [hy4] at h; cases h
    ·rw [hy4] at h
     dsimp only at h
     obtain rfl := oI h
     exact runC2 hm ⟨[0, 1, 2, 3, 4, 10, 11], [(0, 0, true)], 1, 0, [], false, [], [], []⟩ (k0 <|
      k1 <|
      k2 <|
      ww (p := qbi_ rnd x0 x1 x2 x3 x4 x5 x6 x7 x8 x9 () (.inl (y4_0, y4_1))) (q8_ rec_slicespdqsortCmpFuncapiClassq1 hrec_slicespdqsortCmpFuncapiClassq1 n x0 x1 x2 x3 x4 x5 x6 x7 x8 x9 () (.inl (y4_0, y4_1)) hy4) <|
      ww (qa_ rwf_uuuu x0 24) <|
      ll 11 ⟨⟨[0, 1, 2, 3, 4, 10, 11, 12, 13], [(0, 0, true)], 1, 0, [], false, [], [], []⟩, (qc_ x0 x1 x2 x3 x4 x5 x6 x7 x8 x9 (.inl (y4_0, y4_1))).1, (qc_ x0 x1 x2 x3 x4 x5 x6 x7 x8 x9 (.inl (y4_0, y4_1))).2⟩ <|
      ww (qa_ rwf_uuuu y4_0 24) <|
      ee) (by kernel_rfl)
    ·rw [hy4] at h
     dsimp only at h
     obtain rfl := oI h
     exact runC2 hm ⟨[0, 1, 2, 3, 4, 10, 11], [(0, 0, true)], 1, 0, [], false, [], [], []⟩ (k0 <|
      k1 <|
      k2 <|
      ww (p := qbi_ rnd x0 x1 x2 x3 x4 x5 x6 x7 x8 x9 () (.inr (y4_0, y4_1, y4_2, y4_3, y4_4))) (q8_ rec_slicespdqsortCmpFuncapiClassq1 hrec_slicespdqsortCmpFuncapiClassq1 n x0 x1 x2 x3 x4 x5 x6 x7 x8 x9 () (.inr (y4_0, y4_1, y4_2, y4_3, y4_4)) hy4) <|
      ww (qa_ rwf_uuuu x0 24) <|
      ll 11 ⟨⟨[0, 1, 2, 3, 4, 10, 11, 12, 13], [(0, 0, true)], 1, 0, [], false, [], [], []⟩, (qc_ x0 x1 x2 x3 x4 x5 x6 x7 x8 x9 (.inr (y4_0, y4_1, y4_2, y4_3, y4_4))).1, (qc_ x0 x1 x2 x3 x4 x5 x6 x7 x8 x9 (.inr (y4_0, y4_1, y4_2, y4_3, y4_4))).2⟩ <|
      ww (qa_ rwf_uuuu y4_0 24) <|
      ee) (by kernel_rfl)
  ·rw [if_neg hy2] at h
   have k1 := fun {A L l} (k : PL A L l) => zz 6 (xbF hy2) <|
    k
   rcases hy3 : qj_ rec_slicespdqsortCmpFuncapiClassq1 n x0 x1 x2 x3 x4 x5 x6 x7 x8 x9 () with _ | (⟨y3_0, y3_1⟩ | ⟨y3_0, y3_1, y3_2, y3_3, y3_4⟩)
   ·rw [hy3] at h; cases h
   ·rw [hy3] at h
    dsimp only at h
    obtain rfl := oI h
    exact runC2 hm ⟨[0, 1, 2, 3, 4, 10, 11], [(0, 0, true)], 1, 0, [], false, [], [], []⟩ (k0 <|
     k1 <|
     ww (p := qbi_ rnd x0 x1 x2 x3 x4 x5 x6 x7 x8 x9 () (.inl (y3_0, y3_1))) (q8_ rec_slicespdqsortCmpFuncapiClassq1 hrec_slicespdqsortCmpFuncapiClassq1 n x0 x1 x2 x3 x4 x5 x6 x7 x8 x9 () (.inl (y3_0, y3_1)) hy3) <|
     ww (qa_ rwf_uuuu x0 24) <|
     ll 11 ⟨⟨[0, 1, 2, 3, 4, 10, 11, 12, 13], [(0, 0, true)], 1, 0, [], false, [], [], []⟩, (qc_ x0 x1 x2 x3 x4 x5 x6 x7 x8 x9 (.inl (y3_0, y3_1))).1, (qc_ x0 x1 x2 x3 x4 x5 x6 x7 x8 x9 (.inl (y3_0, y3_1))).2⟩ <|
     ww (qa_ rwf_uuuu y3_0 24) <|
     ee) (by kernel_rfl)
   ·rw [hy3] at h
    dsimp only at h
    obtain rfl := oI h
    exact runC2 hm ⟨[0, 1, 2, 3, 4, 10, 11], [(0, 0, true)], 1, 0, [], false, [], [], []⟩ (k0 <|
     k1 <|
     ww (p := qbi_ rnd x0 x1 x2 x3 x4 x5 x6 x7 x8 x9 () (.inr (y3_0, y3_1, y3_2, y3_3, y3_4))) (q8_ rec_slicespdqsortCmpFuncapiClassq1 hrec_slicespdqsortCmpFuncapiClassq1 n x0 x1 x2 x3 x4 x5 x6 x7 x8 x9 () (.inr (y3_0, y3_1, y3_2, y3_3, y3_4)) hy3) <|
     ww (qa_ rwf_uuuu x0 24) <|
     ll 11 ⟨⟨[0, 1, 2, 3, 4, 10, 11, 12, 13], [(0, 0, true)], 1, 0, [], false, [], [], []⟩, (qc_ x0 x1 x2 x3 x4 x5 x6 x7 x8 x9 (.inr (y3_0, y3_1, y3_2, y3_3, y3_4))).1, (qc_ x0 x1 x2 x3 x4 x5 x6 x7 x8 x9 (.inr (y3_0, y3_1, y3_2, y3_3, y3_4))).2⟩ <|
     ww (qa_ rwf_uuuu y3_0 24) <|
     ee) (by kernel_rfl)
 ·rw [if_neg hy1] at h
  have k0 := fun {A L l} (k : PL A L l) => zz 3 (xbF hy1) <|
   k
  rcases hy2 : qj_ rec_slicespdqsortCmpFuncapiClassq1 n x0 x1 x2 x3 x4 x5 x6 x7 x8 x9 () with _ | (⟨y2_0, y2_1⟩ | ⟨y2_0, y2_1, y2_2, y2_3, y2_4⟩)
  ·rw [hy2] at h; cases h
  ·rw [hy2] at h
   dsimp only at h
   obtain rfl := oI h
   exact runC2 hm ⟨[0, 1, 2, 3, 4, 10, 11], [(0, 0, true)], 1, 0, [], false, [], [], []⟩ (k0 <|
    ww (p := qbi_ rnd x0 x1 x2 x3 x4 x5 x6 x7 x8 x9 () (.inl (y2_0, y2_1))) (q8_ rec_slicespdqsortCmpFuncapiClassq1 hrec_slicespdqsortCmpFuncapiClassq1 n x0 x1 x2 x3 x4 x5 x6 x7 x8 x9 () (.inl (y2_0, y2_1)) hy2) <|
    ww (qa_ rwf_uuuu x0 24) <|
    ll 11 ⟨⟨[0, 1, 2, 3, 4, 10, 11, 12, 13], [(0, 0, true)], 1, 0, [], false, [], [], []⟩, (qc_ x0 x1 x2 x3 x4 x5 x6 x7 x8 x9 (.inl (y2_0, y2_1))).1, (qc_ x0 x1 x2 x3 x4 x5 x6 x7 x8 x9 (.inl (y2_0, y2_1))).2⟩ <|
    ww (qa_ rwf_uuuu y2_0 24) <|
    ee) (by kernel_rfl)
  ·rw [hy2] at h
   dsimp only at h
   obtain rfl := oI h
   exact runC2 hm ⟨[0, 1, 2, 3, 4, 10, 11], [(0, 0, true)], 1, 0, [], false, [], [], []⟩ (k0 <|
    ww (p := qbi_ rnd x0 x1 x2 x3 x4 x5 x6 x7 x8 x9 () (.inr (y2_0, y2_1, y2_2, y2_3, y2_4))) (q8_ rec_slicespdqsortCmpFuncapiClassq1 hrec_slicespdqsortCmpFuncapiClassq1 n x0 x1 x2 x3 x4 x5 x6 x7 x8 x9 () (.inr (y2_0, y2_1, y2_2, y2_3, y2_4)) hy2) <|
    ww (qa_ rwf_uuuu x0 24) <|
    ll 11 ⟨⟨[0, 1, 2, 3, 4, 10, 11, 12, 13], [(0, 0, true)], 1, 0, [], false, [], [], []⟩, (qc_ x0 x1 x2 x3 x4 x5 x6 x7 x8 x9 (.inr (y2_0, y2_1, y2_2, y2_3, y2_4))).1, (qc_ x0 x1 x2 x3 x4 x5 x6 x7 x8 x9 (.inr (y2_0, y2_1, y2_2, y2_3, y2_4))).2⟩ <|
    ww (qa_ rwf_uuuu y2_0 24) <|
    ee) (by kernel_rfl)
def qh2_ (x0 : List (Int × Int × Int × Int)) (x1 : Nat) (x2 : Nat) (x3 : Int) (x4 : Int) (x5 : Int) (x6 : Bool) (x7 : Bool) (x8 : Int) (x9 : Int) (x10 : Int) (st : Unit) : XSt := (sT 148 [(0, (sN 0 0 x1 x2)), (1, (i6 x3)), (2, (i6 x4)), (3, (i6 x5)), (4, (Value.func (.func 38) #[] #[])), (10, (bO x6)), (11, (bO x7)), (12, (i6 x8)), (13, (i6 x9)), (14, (i6 x10))], [], ⟨sB [(0, (some (.cells (layT (rows rw_uuuu x0)) 24)))], 1, 0⟩)
def qbk_ (x0 : List (Int × Int × Int × Int)) (x1 : Nat) (x2 : Nat) (x3 : Int) (x4 : Int) (x5 : Int) (x6 : Bool) (x7 : Bool) (x8 : Int) (x9 : Int) (x10 : Int) (r : (List (Int × Int × Int × Int)) ⊕ ((List (Int × Int × Int × Int) × Int) ⊕ (List (Int × Int × Int × Int) × Int × Int × Bool × Bool))) : Ex × XSt := match r with
 | .inl z0 => (.ret, (sT 148 [], [], ⟨sB [(0, (some (.cells (layT (rows rw_uuuu z0)) 24)))], 1, 0⟩))
 | .inr (.inl (z0, z1)) => (.exit 1, (sT 148 [(0, (sN 0 0 x1 x2)), (1, (i6 z1)), (2, (i6 x4)), (3, (i6 x5)), (4, (Value.func (.func 38) #[] #[])), (10, (bO x6)), (11, (bO x7))], [], ⟨sB [(0, (some (.cells (layT (rows rw_uuuu z0)) 24)))], 1, 0⟩))
 | .inr (.inr (z0, z1, z2, z3, z4)) => (.normal, (sT 148 [(0, (sN 0 0 x1 x2)), (1, (i6 z1)), (2, (i6 z2)), (3, (i6 x5)), (4, (Value.func (.func 38) #[] #[])), (10, (bO z3)), (11, (bO z4))], [], ⟨sB [(0, (some (.cells (layT (rows rw_uuuu z0)) 24)))], 1, 0⟩))
abbrev qfs_ (rd : Option Nat) (x0 : List (Int × Int × Int × Int)) (x1 : Nat) (x2 : Nat) (x3 : Int) (x4 : Int) (x5 : Int) (x6 : Bool) (x7 : Bool) (x8 : Int) (x9 : Int) (x10 : Int) (st : Unit) (r : (List (Int × Int × Int × Int)) ⊕ ((List (Int × Int × Int × Int) × Int) ⊕ (List (Int × Int × Int × Int) × Int × Int × Bool × Bool))) : Prop := CG P rd (fnN P 43) 1 (qt_ P 43 [true, true, true, true, true, false, false, false, true, true]) (qh2_ x0 x1 x2 x3 x4 x5 x6 x7 x8 x9 x10 st) (qbk_ x0 x1 x2 x3 x4 x5 x6 x7 x8 x9 x10 r)
def qc9_ (rec_slicespdqsortCmpFuncapiClassq1 : (List (Int × Int × Int × Int)) → (Nat) → (Nat) → (Int) → (Int) → (Int) → Option (List (Int × Int × Int × Int))) (n : Nat) (x0 : List (Int × Int × Int × Int)) (x1 : Nat) (x2 : Nat) (x3 : Int) (x4 : Int) (x5 : Int) (x6 : Bool) (x7 : Bool) (x8 : Int) (x9 : Int) (x10 : Int) (st : Unit) : Option ((List (Int × Int × Int × Int)) ⊕ ((List (Int × Int × Int × Int) × Int) ⊕ (List (Int × Int × Int × Int) × Int × Int × Bool × Bool))) :=
 if x10 = 2 then
  (qdj_ n x0 x1 x2 x3 x4).bind fun y2_ =>
  ((some (w64 ((w64 (x4 - 1)) - (w64 (x9 - x3)))))).bind fun y3_ =>
  match qbj_ rec_slicespdqsortCmpFuncapiClassq1 n y2_ x1 x2 x3 x4 x5 x6 x7 x8 y3_ 1 () with
  | none => none
  | some (.inl y4_) =>
   some (.inl y4_)
  | some (.inr (.inl (y4_0, y4_1))) =>
   some (.inr (.inl (y4_0, y4_1)))
  | some (.inr (.inr (y4_0, y4_1, y4_2, y4_3, y4_4))) =>
   some (.inr (.inr (y4_0, y4_1, y4_2, y4_3, y4_4)))
 else
  match qbj_ rec_slicespdqsortCmpFuncapiClassq1 n x0 x1 x2 x3 x4 x5 x6 x7 x8 x9 x10 () with
  | none => none
  | some (.inl y2_) =>
   some (.inl y2_)
  | some (.inr (.inl (y2_0, y2_1))) =>
   some (.inr (.inl (y2_0, y2_1)))
  | some (.inr (.inr (y2_0, y2_1, y2_2, y2_3, y2_4))) =>
   some (.inr (.inr (y2_0, y2_1, y2_2, y2_3, y2_4)))
theorem qe2_ (rec_slicespdqsortCmpFuncapiClassq1 : (List (Int × Int × Int × Int)) → (Nat) → (Nat) → (Int) → (Int) → (Int) → Option (List (Int × Int × Int × Int))) (hrec_slicespdqsortCmpFuncapiClassq1 : ∀ (a0 : List (Int × Int × Int × Int)) (a1 : Nat) (a2 : Nat) (a3 : Int) (a4 : Int) (a5 : Int) (r : List (Int × Int × Int × Int)), rec_slicespdqsortCmpFuncapiClassq1 a0 a1 a2 a3 a4 a5 = some r → Gv P (.func 43) (qg_ a0 a1 a2 a3 a4 a5) (qh_ a0 a1 a2 a3 a4 a5) (qe_ a0 a1 a2 a3 a4 a5 r) (qf_ a0 a1 a2 a3 a4 a5 r)) (n : Nat) {rnd : Option Nat} (x0 : List (Int × Int × Int × Int)) (x1 : Nat) (x2 : Nat) (x3 : Int) (x4 : Int) (x5 : Int) (x6 : Bool) (x7 : Bool) (x8 : Int) (x9 : Int) (x10 : Int) (st : Unit) (r : (List (Int × Int × Int × Int)) ⊕ ((List (Int × Int × Int × Int) × Int) ⊕ (List (Int × Int × Int × Int) × Int × Int × Bool × Bool))) (h : qc9_ rec_slicespdqsortCmpFuncapiClassq1 n x0 x1 x2 x3 x4 x5 x6 x7 x8 x9 x10 st = some r) : CG P rnd (fnN P 43) 1 (qt_ P 43 [true, true, true, true, true, false, false, false, true, true]) (qh2_ x0 x1 x2 x3 x4 x5 x6 x7 x8 x9 x10 st) (qbk_ x0 x1 x2 x3 x4 x5 x6 x7 x8 x9 x10 r) := by
 unfold qc9_ at h
 by_cases hy1 : x10 = 2
 ·rw [if_pos hy1] at h
  obtain ⟨y2_, hy2, h⟩ := oB h
  obtain ⟨y3_, hy3, h⟩ := oB h
  have k0 := fun {A L l} (k : PL A L l) => zz 3 (xeT hy1) <|
   yy 10 (.call (qks_ x0 x1 x2 x3 x4 y2_ [(0, 0, true)] [(0, 0, true)])) <|
   ww (qjy_ n x0 x1 x2 x3 x4 y2_ hy2) <|
   ww (qa_ rwf_uuuu x0 24) <|
   ww (qa_ rwf_uuuu y2_ 24) <|
   zz 17 (xnm hy3) <|
   k
  rcases hy4 : qbj_ rec_slicespdqsortCmpFuncapiClassq1 n y2_ x1 x2 x3 x4 x5 x6 x7 x8 y3_ 1 () with _ | (y4_ | ⟨y4_0, y4_1⟩ | ⟨y4_0, y4_1, y4_2, y4_3, y4_4⟩)
  ·rw [hy4] at h; cases h
  ·rw [hy4] at h
   dsimp only at h
   obtain rfl := oI h
   exact runC2 hm ⟨[], [(0, 0, true)], 1, 0, [], false, [], [], []⟩ (k0 <|
    ww (p := qc8_ rnd y2_ x1 x2 x3 x4 x5 x6 x7 x8 y3_ 1 () (.inl y4_)) (qch_ rec_slicespdqsortCmpFuncapiClassq1 hrec_slicespdqsortCmpFuncapiClassq1 n y2_ x1 x2 x3 x4 x5 x6 x7 x8 y3_ 1 () (.inl y4_) hy4) <|
    ww (qa_ rwf_uuuu y2_ 24) <|
    ll 20 ⟨⟨[0, 1, 2, 3, 4, 10, 11, 12, 13, 14], [(0, 0, true)], 1, 0, [], false, [], [], []⟩, (qk_ y2_ x1 x2 x3 x4 x5 x6 x7 x8 y3_ 1 (.inl y4_)).1, (qk_ y2_ x1 x2 x3 x4 x5 x6 x7 x8 y3_ 1 (.inl y4_)).2⟩ <|
    ww (qa_ rwf_uuuu y4_ 24) <|
    ee) (by kernel_rfl)
  ·rw [hy4] at h
   dsimp only at h
   obtain rfl := oI h
   exact runC2 hm ⟨[0, 1, 2, 3, 4, 10, 11], [(0, 0, true)], 1, 0, [], false, [], [], []⟩ (k0 <|
    ww (p := qc8_ rnd y2_ x1 x2 x3 x4 x5 x6 x7 x8 y3_ 1 () (.inr (.inl (y4_0, y4_1)))) (qch_ rec_slicespdqsortCmpFuncapiClassq1 hrec_slicespdqsortCmpFuncapiClassq1 n y2_ x1 x2 x3 x4 x5 x6 x7 x8 y3_ 1 () (.inr (.inl (y4_0, y4_1))) hy4) <|
    ww (qa_ rwf_uuuu y2_ 24) <|
    ll 20 ⟨⟨[0, 1, 2, 3, 4, 10, 11, 12, 13, 14], [(0, 0, true)], 1, 0, [], false, [], [], []⟩, (qk_ y2_ x1 x2 x3 x4 x5 x6 x7 x8 y3_ 1 (.inr (.inl (y4_0, y4_1)))).1, (qk_ y2_ x1 x2 x3 x4 x5 x6 x7 x8 y3_ 1 (.inr (.inl (y4_0, y4_1)))).2⟩ <|
    ww (qa_ rwf_uuuu y4_0 24) <|
    ee) (by kernel_rfl)
  ·rw [hy4] at h
   dsimp only at h
   obtain rfl := oI h
   exact runC2 hm ⟨[0, 1, 2, 3, 4, 10, 11], [(0, 0, true)], 1, 0, [], false, [], [], []⟩ (k0 <|
    ww (p := qc8_ rnd y2_ x1 x2 x3 x4 x5 x6 x7 x8 y3_ 1 () (.inr (.inr (y4_0, y4_1, y4_2, y4_3, y4_4)))) (qch_ rec_slicespdqsortCmpFuncapiClassq1 hrec_slicespdqsortCmpFuncapiClassq1 n y2_ x1 x2 x3 x4 x5 x6 x7 x8 y3_ 1 () (.inr (.inr (y4_0, y4_1, y4_2, y4_3, y4_4))) hy4) <|
    ww (qa_ rwf_uuuu y2_ 24) <|
    ll 20 ⟨⟨[0, 1, 2, 3, 4, 10, 11, 12, 13, 14], [(0, 0, true)], 1, 0, [], false, [], [], []⟩, (qk_ y2_ x1 x2 x3 x4 x5 x6 x7 x8 y3_ 1 (.inr (.inr (y4_0, y4_1, y4_2, y4_3, y4_4)))).1, (qk_ y2_ x1 x2 x3 x4 x5 x6 x7 x8 y3_ 1 (.inr (.inr (y4_0, y4_1, y4_2, y4_3, y4_4)))).2⟩ <|
    ww (qa_ rwf_uuuu y4_0 24) <|
    ee) (by kernel_rfl)
 ·rw [if_neg hy1] at h
  have k0 := fun {A L l} (k : PL A L l) => zz 3 (xeF hy1) <|
   k
  rcases hy2 : qbj_ rec_slicespdqsortCmpFuncapiClassq1 n x0 x1 x2 x3 x4 x5 x6 x7 x8 x9 x10 () with _ | (y2_ | ⟨y2_0, y2_1⟩ | ⟨y2_0, y2_1, y2_2, y2_3, y2_4⟩)
  ·rw [hy2] at h; cases h
  ·rw [hy2] at h
   dsimp only at h
   obtain rfl := oI h
   exact runC2 hm ⟨[], [(0, 0, true)], 1, 0, [], false, [], [], []⟩ (k0 <|
    ww (p := qc8_ rnd x0 x1 x2 x3 x4 x5 x6 x7 x8 x9 x10 () (.inl y2_)) (qch_ rec_slicespdqsortCmpFuncapiClassq1 hrec_slicespdqsortCmpFuncapiClassq1 n x0 x1 x2 x3 x4 x5 x6 x7 x8 x9 x10 () (.inl y2_) hy2) <|
    ww (qa_ rwf_uuuu x0 24) <|
    ll 5 ⟨⟨[0, 1, 2, 3, 4, 10, 11, 12, 13, 14], [(0, 0, true)], 1, 0, [], false, [], [], []⟩, (qk_ x0 x1 x2 x3 x4 x5 x6 x7 x8 x9 x10 (.inl y2_)).1, (qk_ x0 x1 x2 x3 x4 x5 x6 x7 x8 x9 x10 (.inl y2_)).2⟩ <|
    ww (qa_ rwf_uuuu y2_ 24) <|
    ee) (by kernel_rfl)
  ·rw [hy2] at h
   dsimp only at h
   obtain rfl := oI h
   exact runC2 hm ⟨[0, 1, 2, 3, 4, 10, 11], [(0, 0, true)], 1, 0, [], false, [], [], []⟩ (k0 <|
    ww (p := qc8_ rnd x0 x1 x2 x3 x4 x5 x6 x7 x8 x9 x10 () (.inr (.inl (y2_0, y2_1)))) (qch_ rec_slicespdqsortCmpFuncapiClassq1 hrec_slicespdqsortCmpFuncapiClassq1 n x0 x1 x2 x3 x4 x5 x6 x7 x8 x9 x10 () (.inr (.inl (y2_0, y2_1))) hy2) <|
    ww (qa_ rwf_uuuu x0 24) <|
    ll 5 ⟨⟨[0, 1, 2, 3, 4, 10, 11, 12, 13, 14], [(0, 0, true)], 1, 0, [], false, [], [], []⟩, (qk_ x0 x1 x2 x3 x4 x5 x6 x7 x8 x9 x10 (.inr (.inl (y2_0, y2_1)))).1, (qk_ x0 x1 x2 x3 x4 x5 x6 x7 x8 x9 x10 (.inr (.inl (y2_0, y2_1)))).2⟩ <|
    ww (qa_ rwf_uuuu y2_0 24) <|
    ee) (by kernel_rfl)
  ·rw [hy2] at h
   dsimp only at h
   obtain rfl := oI h
   exact runC2 hm ⟨[0, 1, 2, 3, 4, 10, 11], [(0, 0, true)], 1, 0, [], false, [], [], []⟩ (k0 <|
    ww (p := qc8_ rnd x0 x1 x2 x3 x4 x5 x6 x7 x8 x9 x10 () (.inr (.inr (y2_0, y2_1, y2_2, y2_3, y2_4)))) (qch_ rec_slicespdqsortCmpFuncapiClassq1 hrec_slicespdqsortCmpFuncapiClassq1 n x0 x1 x2 x3 x4 x5 x6 x7 x8 x9 x10 () (.inr (.inr (y2_0, y2_1, y2_2, y2_3, y2_4))) hy2) <|
    ww (qa_ rwf_uuuu x0 24) <|
    ll 5 ⟨⟨[0, 1, 2, 3, 4, 10, 11, 12, 13, 14], [(0, 0, true)], 1, 0, [], false, [], [], []⟩, (qk_ x0 x1 x2 x3 x4 x5 x6 x7 x8 x9 x10 (.inr (.inr (y2_0, y2_1, y2_2, y2_3, y2_4)))).1, (qk_ x0 x1 x2 x3 x4 x5 x6 x7 x8 x9 x10 (.inr (.inr (y2_0, y2_1, y2_2, y2_3, y2_4)))).2⟩ <|
    ww (qa_ rwf_uuuu y2_0 24) <|
    ee) (by kernel_rfl)
def qh3_ (x0 : List (Int × Int × Int × Int)) (x1 : Nat) (x2 : Nat) (x3 : Int) (x4 : Int) (x5 : Int) (x6 : Bool) (x7 : Bool) (x8 : Int) (st : Unit) : XSt := (sT 148 [(0, (sN 0 0 x1 x2)), (1, (i6 x3)), (2, (i6 x4)), (3, (i6 x5)), (4, (Value.func (.func 38) #[] #[])), (10, (bO x6)), (11, (bO x7)), (12, (i6 x8))], [], ⟨sB [(0, (some (.cells (layT (rows rw_uuuu x0)) 24)))], 1, 0⟩)
def ql_ (x0 : List (Int × Int × Int × Int)) (x1 : Nat) (x2 : Nat) (x3 : Int) (x4 : Int) (x5 : Int) (x6 : Bool) (x7 : Bool) (x8 : Int) (r : (List (Int × Int × Int × Int)) ⊕ ((List (Int × Int × Int × Int) × Int) ⊕ (List (Int × Int × Int × Int) × Int × Int × Bool × Bool))) : Ex × XSt := match r with
 | .inl z0 => (.ret, (sT 148 [], [], ⟨sB [(0, (some (.cells (layT (rows rw_uuuu z0)) 24)))], 1, 0⟩))
 | .inr (.inl (z0, z1)) => (.exit 1, (sT 148 [(0, (sN 0 0 x1 x2)), (1, (i6 z1)), (2, (i6 x4)), (3, (i6 x5)), (4, (Value.func (.func 38) #[] #[])), (10, (bO x6)), (11, (bO x7))], [], ⟨sB [(0, (some (.cells (layT (rows rw_uuuu z0)) 24)))], 1, 0⟩))
 | .inr (.inr (z0, z1, z2, z3, z4)) => (.normal, (sT 148 [(0, (sN 0 0 x1 x2)), (1, (i6 z1)), (2, (i6 z2)), (3, (i6 x5)), (4, (Value.func (.func 38) #[] #[])), (10, (bO z3)), (11, (bO z4))], [], ⟨sB [(0, (some (.cells (layT (rows rw_uuuu z0)) 24)))], 1, 0⟩))
abbrev qda_ (rd : Option Nat) (x0 : List (Int × Int × Int × Int)) (x1 : Nat) (x2 : Nat) (x3 : Int) (x4 : Int) (x5 : Int) (x6 : Bool) (x7 : Bool) (x8 : Int) (st : Unit) (r : (List (Int × Int × Int × Int)) ⊕ ((List (Int × Int × Int × Int) × Int) ⊕ (List (Int × Int × Int × Int) × Int × Int × Bool × Bool))) : Prop := CG P rd (fnN P 43) 1 (qt_ P 43 [true, true, true, true, false, false, false, true, true]) (qh3_ x0 x1 x2 x3 x4 x5 x6 x7 x8 st) (ql_ x0 x1 x2 x3 x4 x5 x6 x7 x8 r)
def qbl_ (rec_slicespdqsortCmpFuncapiClassq1 : (List (Int × Int × Int × Int)) → (Nat) → (Nat) → (Int) → (Int) → (Int) → Option (List (Int × Int × Int × Int))) (n : Nat) (x0 : List (Int × Int × Int × Int)) (x1 : Nat) (x2 : Nat) (x3 : Int) (x4 : Int) (x5 : Int) (x6 : Bool) (x7 : Bool) (x8 : Int) (st : Unit) : Option ((List (Int × Int × Int × Int)) ⊕ ((List (Int × Int × Int × Int) × Int) ⊕ (List (Int × Int × Int × Int) × Int × Int × Bool × Bool))) :=
 (qdk_ n x0 x1 x2 x3 x4).bind fun t => match t with
 | (y1_0, y1_1) =>
  match qc9_ rec_slicespdqsortCmpFuncapiClassq1 n x0 x1 x2 x3 x4 x5 x6 x7 x8 y1_0 y1_1 () with
  | none => none
  | some (.inl y2_) =>
   some (.inl y2_)
  | some (.inr (.inl (y2_0, y2_1))) =>
   some (.inr (.inl (y2_0, y2_1)))
  | some (.inr (.inr (y2_0, y2_1, y2_2, y2_3, y2_4))) =>
   some (.inr (.inr (y2_0, y2_1, y2_2, y2_3, y2_4)))
theorem qci_ (rec_slicespdqsortCmpFuncapiClassq1 : (List (Int × Int × Int × Int)) → (Nat) → (Nat) → (Int) → (Int) → (Int) → Option (List (Int × Int × Int × Int))) (hrec_slicespdqsortCmpFuncapiClassq1 : ∀ (a0 : List (Int × Int × Int × Int)) (a1 : Nat) (a2 : Nat) (a3 : Int) (a4 : Int) (a5 : Int) (r : List (Int × Int × Int × Int)), rec_slicespdqsortCmpFuncapiClassq1 a0 a1 a2 a3 a4 a5 = some r → Gv P (.func 43) (qg_ a0 a1 a2 a3 a4 a5) (qh_ a0 a1 a2 a3 a4 a5) (qe_ a0 a1 a2 a3 a4 a5 r) (qf_ a0 a1 a2 a3 a4 a5 r)) (n : Nat) {rnd : Option Nat} (x0 : List (Int × Int × Int × Int)) (x1 : Nat) (x2 : Nat) (x3 : Int) (x4 : Int) (x5 : Int) (x6 : Bool) (x7 : Bool) (x8 : Int) (st : Unit) (r : (List (Int × Int × Int × Int)) ⊕ ((List (Int × Int × Int × Int) × Int) ⊕ (List (Int × Int × Int × Int) × Int × Int × Bool × Bool))) (h : qbl_ rec_slicespdqsortCmpFuncapiClassq1 n x0 x1 x2 x3 x4 x5 x6 x7 x8 st = some r) : CG P rnd (fnN P 43) 1 (qt_ P 43 [true, true, true, true, false, false, false, true, true]) (qh3_ x0 x1 x2 x3 x4 x5 x6 x7 x8 st) (ql_ x0 x1 x2 x3 x4 x5 x6 x7 x8 r) := by
 unfold qbl_ at h
 obtain ⟨⟨y1_0, y1_1⟩, hy1, h⟩ := oB h
 dsimp only at h
 have k0 := fun {A L l} (k : PL A L l) => yy 5 (.call (qk1_ x0 x1 x2 x3 x4 (y1_0, y1_1) [(0, 0, true)] [])) <|
  ww (qj8_ n x0 x1 x2 x3 x4 (y1_0, y1_1) hy1) <|
  ww (qa_ rwf_uuuu x0 24) <|
  k
 rcases hy2 : qc9_ rec_slicespdqsortCmpFuncapiClassq1 n x0 x1 x2 x3 x4 x5 x6 x7 x8 y1_0 y1_1 () with _ | (y2_ | ⟨y2_0, y2_1⟩ | ⟨y2_0, y2_1, y2_2, y2_3, y2_4⟩)
 ·rw [hy2] at h; cases h
 ·rw [hy2] at h
  dsimp only at h
  obtain rfl := oI h
  exact runC2 hm ⟨[], [(0, 0, true)], 1, 0, [], false, [], [], []⟩ (k0 <|
   ww (p := qfs_ rnd x0 x1 x2 x3 x4 x5 x6 x7 x8 y1_0 y1_1 () (.inl y2_)) (qe2_ rec_slicespdqsortCmpFuncapiClassq1 hrec_slicespdqsortCmpFuncapiClassq1 n x0 x1 x2 x3 x4 x5 x6 x7 x8 y1_0 y1_1 () (.inl y2_) hy2) <|
   ww (qa_ rwf_uuuu x0 24) <|
   ll 11 ⟨⟨[0, 1, 2, 3, 4, 10, 11, 12, 13, 14], [(0, 0, true)], 1, 0, [], false, [], [], []⟩, (qbk_ x0 x1 x2 x3 x4 x5 x6 x7 x8 y1_0 y1_1 (.inl y2_)).1, (qbk_ x0 x1 x2 x3 x4 x5 x6 x7 x8 y1_0 y1_1 (.inl y2_)).2⟩ <|
   ww (qa_ rwf_uuuu y2_ 24) <|
   ee) (by kernel_rfl)
 ·rw [hy2] at h
  dsimp only at h
  obtain rfl := oI h
  exact runC2 hm ⟨[0, 1, 2, 3, 4, 10, 11], [(0, 0, true)], 1, 0, [], false, [], [], []⟩ (k0 <|
   ww (p := qfs_ rnd x0 x1 x2 x3 x4 x5 x6 x7 x8 y1_0 y1_1 () (.inr (.inl (y2_0, y2_1)))) (qe2_ rec_slicespdqsortCmpFuncapiClassq1 hrec_slicespdqsortCmpFuncapiClassq1 n x0 x1 x2 x3 x4 x5 x6 x7 x8 y1_0 y1_1 () (.inr (.inl (y2_0, y2_1))) hy2) <|
   ww (qa_ rwf_uuuu x0 24) <|
   ll 11 ⟨⟨[0, 1, 2, 3, 4, 10, 11, 12, 13, 14], [(0, 0, true)], 1, 0, [], false, [], [], []⟩, (qbk_ x0 x1 x2 x3 x4 x5 x6 x7 x8 y1_0 y1_1 (.inr (.inl (y2_0, y2_1)))).1, (qbk_ x0 x1 x2 x3 x4 x5 x6 x7 x8 y1_0 y1_1 (.inr (.inl (y2_0, y2_1)))).2⟩ <|
   ww (qa_ rwf_uuuu y2_0 24) <|
   ee) (by kernel_rfl)
 ·rw [hy2] at h
  dsimp only at h
  obtain rfl := oI h
  exact runC2 hm ⟨[0, 1, 2, 3, 4, 10, 11], [(0, 0, true)], 1, 0, [], false, [], [], []⟩ (k0 <|
   ww (p := qfs_ rnd x0 x1 x2 x3 x4 x5 x6 x7 x8 y1_0 y1_1 () (.inr (.inr (y2_0, y2_1, y2_2, y2_3, y2_4)))) (qe2_ rec_slicespdqsortCmpFuncapiClassq1 hrec_slicespdqsortCmpFuncapiClassq1 n x0 x1 x2 x3 x4 x5 x6 x7 x8 y1_0 y1_1 () (.inr (.inr (y2_0, y2_1, y2_2, y2_3, y2_4))) hy2) <|
   ww (qa_ rwf_uuuu x0 24) <|
   ll 11 ⟨⟨[0, 1, 2, 3, 4, 10, 11, 12, 13, 14], [(0, 0, true)], 1, 0, [], false, [], [], []⟩, (qbk_ x0 x1 x2 x3 x4 x5 x6 x7 x8 y1_0 y1_1 (.inr (.inr (y2_0, y2_1, y2_2, y2_3, y2_4)))).1, (qbk_ x0 x1 x2 x3 x4 x5 x6 x7 x8 y1_0 y1_1 (.inr (.inr (y2_0, y2_1, y2_2, y2_3, y2_4)))).2⟩ <|
   ww (qa_ rwf_uuuu y2_0 24) <|
   ee) (by kernel_rfl)
def qh4_ (x0 : List (Int × Int × Int × Int)) (x1 : Nat) (x2 : Nat) (x3 : Int) (x4 : Int) (x5 : Int) (x6 : Bool) (x7 : Bool) (x8 : Int) (st : Unit) : XSt := (sT 148 [(0, (sN 0 0 x1 x2)), (1, (i6 x3)), (2, (i6 x4)), (3, (i6 x5)), (4, (Value.func (.func 38) #[] #[])), (10, (bO x6)), (11, (bO x7)), (12, (i6 x8))], [], ⟨sB [(0, (some (.cells (layT (rows rw_uuuu x0)) 24)))], 1, 0⟩)
def qbm_ (x0 : List (Int × Int × Int × Int)) (x1 : Nat) (x2 : Nat) (x3 : Int) (x4 : Int) (x5 : Int) (x6 : Bool) (x7 : Bool) (x8 : Int) (r : (List (Int × Int × Int × Int)) ⊕ ((List (Int × Int × Int × Int) × Int × Int) ⊕ (List (Int × Int × Int × Int) × Int × Int × Int × Bool × Bool))) : Ex × XSt := match r with
 | .inl z0 => (.ret, (sT 148 [], [], ⟨sB [(0, (some (.cells (layT (rows rw_uuuu z0)) 24)))], 1, 0⟩))
 | .inr (.inl (z0, z1, z2)) => (.exit 1, (sT 148 [(0, (sN 0 0 x1 x2)), (1, (i6 z1)), (2, (i6 x4)), (3, (i6 z2)), (4, (Value.func (.func 38) #[] #[])), (10, (bO x6)), (11, (bO x7))], [], ⟨sB [(0, (some (.cells (layT (rows rw_uuuu z0)) 24)))], 1, 0⟩))
 | .inr (.inr (z0, z1, z2, z3, z4, z5)) => (.normal, (sT 148 [(0, (sN 0 0 x1 x2)), (1, (i6 z1)), (2, (i6 z2)), (3, (i6 z3)), (4, (Value.func (.func 38) #[] #[])), (10, (bO z4)), (11, (bO z5))], [], ⟨sB [(0, (some (.cells (layT (rows rw_uuuu z0)) 24)))], 1, 0⟩))
abbrev qft_ (rd : Option Nat) (x0 : List (Int × Int × Int × Int)) (x1 : Nat) (x2 : Nat) (x3 : Int) (x4 : Int) (x5 : Int) (x6 : Bool) (x7 : Bool) (x8 : Int) (st : Unit) (r : (List (Int × Int × Int × Int)) ⊕ ((List (Int × Int × Int × Int) × Int × Int) ⊕ (List (Int × Int × Int × Int) × Int × Int × Int × Bool × Bool))) : Prop := CG P rd (fnN P 43) 1 (qt_ P 43 [true, true, true, false, false, false, true, true]) (qh4_ x0 x1 x2 x3 x4 x5 x6 x7 x8 st) (qbm_ x0 x1 x2 x3 x4 x5 x6 x7 x8 r)
def qdq_ (rec_slicespdqsortCmpFuncapiClassq1 : (List (Int × Int × Int × Int)) → (Nat) → (Nat) → (Int) → (Int) → (Int) → Option (List (Int × Int × Int × Int))) (n : Nat) (x0 : List (Int × Int × Int × Int)) (x1 : Nat) (x2 : Nat) (x3 : Int) (x4 : Int) (x5 : Int) (x6 : Bool) (x7 : Bool) (x8 : Int) (st : Unit) : Option ((List (Int × Int × Int × Int)) ⊕ ((List (Int × Int × Int × Int) × Int × Int) ⊕ (List (Int × Int × Int × Int) × Int × Int × Int × Bool × Bool))) :=
 if x6 = true then
  match qbl_ rec_slicespdqsortCmpFuncapiClassq1 n x0 x1 x2 x3 x4 x5 x6 x7 x8 () with
  | none => none
  | some (.inl y2_) =>
   some (.inl y2_)
  | some (.inr (.inl (y2_0, y2_1))) =>
   some (.inr (.inl (y2_0, y2_1, x5)))
  | some (.inr (.inr (y2_0, y2_1, y2_2, y2_3, y2_4))) =>
   some (.inr (.inr (y2_0, y2_1, y2_2, x5, y2_3, y2_4)))
 else
  (qdi_ n x0 x1 x2 x3 x4).bind fun y2_ =>
  match qbl_ rec_slicespdqsortCmpFuncapiClassq1 n y2_ x1 x2 x3 x4 (w64 (x5 - 1)) x6 x7 x8 () with
  | none => none
  | some (.inl y3_) =>
   some (.inl y3_)
  | some (.inr (.inl (y3_0, y3_1))) =>
   some (.inr (.inl (y3_0, y3_1, (w64 (x5 - 1)))))
  | some (.inr (.inr (y3_0, y3_1, y3_2, y3_3, y3_4))) =>
   some (.inr (.inr (y3_0, y3_1, y3_2, (w64 (x5 - 1)), y3_3, y3_4)))
theorem qe3_ (rec_slicespdqsortCmpFuncapiClassq1 : (List (Int × Int × Int × Int)) → (Nat) → (Nat) → (Int) → (Int) → (Int) → Option (List (Int × Int × Int × Int))) (hrec_slicespdqsortCmpFuncapiClassq1 : ∀ (a0 : List (Int × Int × Int × Int)) (a1 : Nat) (a2 : Nat) (a3 : Int) (a4 : Int) (a5 : Int) (r : List (Int × Int × Int × Int)), rec_slicespdqsortCmpFuncapiClassq1 a0 a1 a2 a3 a4 a5 = some r → Gv P (.func 43) (qg_ a0 a1 a2 a3 a4 a5) (qh_ a0 a1 a2 a3 a4 a5) (qe_ a0 a1 a2 a3 a4 a5 r) (qf_ a0 a1 a2 a3 a4 a5 r)) (n : Nat) {rnd : Option Nat} (x0 : List (Int × Int × Int × Int)) (x1 : Nat) (x2 : Nat) (x3 : Int) (x4 : Int) (x5 : Int) (x6 : Bool) (x7 : Bool) (x8 : Int) (st : Unit) (r : (List (Int × Int × Int × Int)) ⊕ ((List (Int × Int × Int × Int) × Int × Int) ⊕ (List (Int × Int × Int × Int) × Int × Int × Int × Bool × Bool))) (h : qdq_ rec_slicespdqsortCmpFuncapiClassq1 n x0 x1 x2 x3 x4 x5 x6 x7 x8 st = some r) : CG P rnd (fnN P 43) 1 (qt_ P 43 [true, true, true, false, false, false, true, true]) (qh4_ x0 x1 x2 x3 x4 x5 x6 x7 x8 st) (qbm_ x0 x1 x2 x3 x4 x5 x6 x7 x8 r) := by
 unfold qdq_ at h
 by_cases hy1 : x6 = true
 ·rw [if_pos hy1] at h
  have k0 := fun {A L l} (k : PL A L l) => yy 3 (vf) <|
   ww (p := (Value.bool (!x6)) = (Value.bool false)) (vBn hy1) <|
   k
  rcases hy2 : qbl_ rec_slicespdqsortCmpFuncapiClassq1 n x0 x1 x2 x3 x4 x5 x6 x7 x8 () with _ | (y2_ | ⟨y2_0, y2_1⟩ | ⟨y2_0, y2_1, y2_2, y2_3, y2_4⟩)
  ·rw [hy2] at h; cases h
  ·rw [hy2] at h
   dsimp only at h
   obtain rfl := oI h
   exact runC2 hm ⟨[], [(0, 0, true)], 1, 0, [], false, [], [], []⟩ (k0 <|
    ww (p := qda_ rnd x0 x1 x2 x3 x4 x5 x6 x7 x8 () (.inl y2_)) (qci_ rec_slicespdqsortCmpFuncapiClassq1 hrec_slicespdqsortCmpFuncapiClassq1 n x0 x1 x2 x3 x4 x5 x6 x7 x8 () (.inl y2_) hy2) <|
    ww (qa_ rwf_uuuu x0 24) <|
    ll 5 ⟨⟨[0, 1, 2, 3, 4, 10, 11, 12], [(0, 0, true)], 1, 0, [], false, [], [], []⟩, (ql_ x0 x1 x2 x3 x4 x5 x6 x7 x8 (.inl y2_)).1, (ql_ x0 x1 x2 x3 x4 x5 x6 x7 x8 (.inl y2_)).2⟩ <|
    ww (qa_ rwf_uuuu y2_ 24) <|
    ee) (by kernel_rfl)
  ·rw [hy2] at h
   dsimp only at h
   obtain rfl := oI h
   exact runC2 hm ⟨[0, 1, 2, 3, 4, 10, 11], [(0, 0, true)], 1, 0, [], false, [], [], []⟩ (k0 <|
    ww (p := qda_ rnd x0 x1 x2 x3 x4 x5 x6 x7 x8 () (.inr (.inl (y2_0, y2_1)))) (qci_ rec_slicespdqsortCmpFuncapiClassq1 hrec_slicespdqsortCmpFuncapiClassq1 n x0 x1 x2 x3 x4 x5 x6 x7 x8 () (.inr (.inl (y2_0, y2_1))) hy2) <|
    ww (qa_ rwf_uuuu x0 24) <|
    ll 5 ⟨⟨[0, 1, 2, 3, 4, 10, 11, 12], [(0, 0, true)], 1, 0, [], false, [], [], []⟩, (ql_ x0 x1 x2 x3 x4 x5 x6 x7 x8 (.inr (.inl (y2_0, y2_1)))).1, (ql_ x0 x1 x2 x3 x4 x5 x6 x7 x8 (.inr (.inl (y2_0, y2_1)))).2⟩ <|
    ww (qa_ rwf_uuuu y2_0 24) <|
    ee) (by kernel_rfl)
  ·rw [hy2] at h
   dsimp only at h
   obtain rfl := oI h
   exact runC2 hm ⟨[0, 1, 2, 3, 4, 10, 11], [(0, 0, true)], 1, 0, [], false, [], [], []⟩ (k0 <|
    ww (p := qda_ rnd x0 x1 x2 x3 x4 x5 x6 x7 x8 () (.inr (.inr (y2_0, y2_1, y2_2, y2_3, y2_4)))) (qci_ rec_slicespdqsortCmpFuncapiClassq1 hrec_slicespdqsortCmpFuncapiClassq1 n x0 x1 x2 x3 x4 x5 x6 x7 x8 () (.inr (.inr (y2_0, y2_1, y2_2, y2_3, y2_4))) hy2) <|
    ww (qa_ rwf_uuuu x0 24) <|
    ll 5 ⟨⟨[0, 1, 2, 3, 4, 10, 11, 12], [(0, 0, true)], 1, 0, [], false, [], [], []⟩, (ql_ x0 x1 x2 x3 x4 x5 x6 x7 x8 (.inr (.inr (y2_0, y2_1, y2_2, y2_3, y2_4)))).1, (ql_ x0 x1 x2 x3 x4 x5 x6 x7 x8 (.inr (.inr (y2_0, y2_1, y2_2, y2_3, y2_4)))).2⟩ <|
    ww (qa_ rwf_uuuu y2_0 24) <|
    ee) (by kernel_rfl)
 ·rw [if_neg hy1] at h
  obtain ⟨y2_, hy2, h⟩ := oB h
  have k0 := fun {A L l} (k : PL A L l) => yy 3 (vt) <|
   ww (p := (Value.bool (!x6)) = (Value.bool true)) (vBn (Bool.eq_false_iff.2 hy1)) <|
   yy 10 (.call (qkn_ x0 x1 x2 x3 x4 y2_ [(0, 0, true)] [(0, 0, true)])) <|
   ww (qjq_ n x0 x1 x2 x3 x4 y2_ hy2) <|
   ww (qa_ rwf_uuuu x0 24) <|
   ww (qa_ rwf_uuuu y2_ 24) <|
   k
  rcases hy3 : qbl_ rec_slicespdqsortCmpFuncapiClassq1 n y2_ x1 x2 x3 x4 (w64 (x5 - 1)) x6 x7 x8 () with _ | (y3_ | ⟨y3_0, y3_1⟩ | ⟨y3_0, y3_1, y3_2, y3_3, y3_4⟩)
  ·rw [hy3] at h; cases h
  ·rw [hy3] at h
   dsimp only at h
   obtain rfl := oI h
   exact runC2 hm ⟨[], [(0, 0, true)], 1, 0, [], false, [], [], []⟩ (k0 <|
    ww (p := qda_ rnd y2_ x1 x2 x3 x4 (w64 (x5 - 1)) x6 x7 x8 () (.inl y3_)) (qci_ rec_slicespdqsortCmpFuncapiClassq1 hrec_slicespdqsortCmpFuncapiClassq1 n y2_ x1 x2 x3 x4 (w64 (x5 - 1)) x6 x7 x8 () (.inl y3_) hy3) <|
    ww (qa_ rwf_uuuu y2_ 24) <|
    ll 14 ⟨⟨[0, 1, 2, 3, 4, 10, 11, 12], [(0, 0, true)], 1, 0, [], false, [], [], []⟩, (ql_ y2_ x1 x2 x3 x4 (w64 (x5 - 1)) x6 x7 x8 (.inl y3_)).1, (ql_ y2_ x1 x2 x3 x4 (w64 (x5 - 1)) x6 x7 x8 (.inl y3_)).2⟩ <|
    ww (qa_ rwf_uuuu y3_ 24) <|
    ee) (by kernel_rfl)
  ·rw [hy3] at h
   dsimp only at h
   obtain rfl := oI h
   exact runC2 hm ⟨[0, 1, 2, 3, 4, 10, 11], [(0, 0, true)], 1, 0, [], false, [], [], []⟩ (k0 <|
    ww (p := qda_ rnd y2_ x1 x2 x3 x4 (w64 (x5 - 1)) x6 x7 x8 () (.inr (.inl (y3_0, y3_1)))) (qci_ rec_slicespdqsortCmpFuncapiClassq1 hrec_slicespdqsortCmpFuncapiClassq1 n y2_ x1 x2 x3 x4 (w64 (x5 - 1)) x6 x7 x8 () (.inr (.inl (y3_0, y3_1))) hy3) <|
    ww (qa_ rwf_uuuu y2_ 24) <|
    ll 14 ⟨⟨[0, 1, 2, 3, 4, 10, 11, 12], [(0, 0, true)], 1, 0, [], false, [], [], []⟩, (ql_ y2_ x1 x2 x3 x4 (w64 (x5 - 1)) x6 x7 x8 (.inr (.inl (y3_0, y3_1)))).1, (ql_ y2_ x1 x2 x3 x4 (w64 (x5 - 1)) x6 x7 x8 (.inr (.inl (y3_0, y3_1)))).2⟩ <|
    ww (qa_ rwf_uuuu y3_0 24) <|
    ee) (by kernel_rfl)
  ·rw [hy3] at h
   dsimp only at h
   obtain rfl := oI h
   exact runC2 hm ⟨[0, 1, 2, 3, 4, 10, 11], [(0, 0, true)], 1, 0, [], false, [], [], []⟩ (k0 <|
    ww (p := qda_ rnd y2_ x1 x2 x3 x4 (w64 (x5 - 1)) x6 x7 x8 () (.inr (.inr (y3_0, y3_1, y3_2, y3_3, y3_4)))) (qci_ rec_slicespdqsortCmpFuncapiClassq1 hrec_slicespdqsortCmpFuncapiClassq1 n y2_ x1 x2 x3 x4 (w64 (x5 - 1)) x6 x7 x8 () (.inr (.inr (y3_0, y3_1, y3_2, y3_3, y3_4))) hy3) <|
    ww (qa_ rwf_uuuu y2_ 24) <|
    ll 14 ⟨⟨[0, 1, 2, 3, 4, 10, 11, 12], [(0, 0, true)], 1, 0, [], false, [], [], []⟩, (ql_ y2_ x1 x2 x3 x4 (w64 (x5 - 1)) x6 x7 x8 (.inr (.inr (y3_0, y3_1, y3_2, y3_3, y3_4)))).1, (ql_ y2_ x1 x2 x3 x4 (w64 (x5 - 1)) x6 x7 x8 (.inr (.inr (y3_0, y3_1, y3_2, y3_3, y3_4)))).2⟩ <|
    ww (qa_ rwf_uuuu y3_0 24) <|
    ee) (by kernel_rfl)
def qh5_ (x0 : List (Int × Int × Int × Int)) (x1 : Nat) (x2 : Nat) (x3 : Int) (x4 : Int) (x5 : Int) (x6 : Bool) (x7 : Bool) (x8 : Int) (st : Unit) : XSt := (sT 148 [(0, (sN 0 0 x1 x2)), (1, (i6 x3)), (2, (i6 x4)), (3, (i6 x5)), (4, (Value.func (.func 38) #[] #[])), (10, (bO x6)), (11, (bO x7)), (12, (i6 x8))], [], ⟨sB [(0, (some (.cells (layT (rows rw_uuuu x0)) 24)))], 1, 0⟩)
def qbn_ (x0 : List (Int × Int × Int × Int)) (x1 : Nat) (x2 : Nat) (x3 : Int) (x4 : Int) (x5 : Int) (x6 : Bool) (x7 : Bool) (x8 : Int) (r : (List (Int × Int × Int × Int)) ⊕ ((List (Int × Int × Int × Int) × Int × Int) ⊕ (List (Int × Int × Int × Int) × Int × Int × Int × Bool × Bool))) : Ex × XSt := match r with
 | .inl z0 => (.ret, (sT 148 [], [], ⟨sB [(0, (some (.cells (layT (rows rw_uuuu z0)) 24)))], 1, 0⟩))
 | .inr (.inl (z0, z1, z2)) => (.exit 1, (sT 148 [(0, (sN 0 0 x1 x2)), (1, (i6 z1)), (2, (i6 x4)), (3, (i6 z2)), (4, (Value.func (.func 38) #[] #[])), (10, (bO x6)), (11, (bO x7))], [], ⟨sB [(0, (some (.cells (layT (rows rw_uuuu z0)) 24)))], 1, 0⟩))
 | .inr (.inr (z0, z1, z2, z3, z4, z5)) => (.normal, (sT 148 [(0, (sN 0 0 x1 x2)), (1, (i6 z1)), (2, (i6 z2)), (3, (i6 z3)), (4, (Value.func (.func 38) #[] #[])), (10, (bO z4)), (11, (bO z5))], [], ⟨sB [(0, (some (.cells (layT (rows rw_uuuu z0)) 24)))], 1, 0⟩))
abbrev qfu_ (rd : Option Nat) (x0 : List (Int × Int × Int × Int)) (x1 : Nat) (x2 : Nat) (x3 : Int) (x4 : Int) (x5 : Int) (x6 : Bool) (x7 : Bool) (x8 : Int) (st : Unit) (r : (List (Int × Int × Int × Int)) ⊕ ((List (Int × Int × Int × Int) × Int × Int) ⊕ (List (Int × Int × Int × Int) × Int × Int × Int × Bool × Bool))) : Prop := CG P rd (fnN P 43) 1 (qt_ P 43 [true, true, false, false, false, true, true]) (qh5_ x0 x1 x2 x3 x4 x5 x6 x7 x8 st) (qbn_ x0 x1 x2 x3 x4 x5 x6 x7 x8 r)
def qdr_ (rec_slicespdqsortCmpFuncapiClassq1 : (List (Int × Int × Int × Int)) → (Nat) → (Nat) → (Int) → (Int) → (Int) → Option (List (Int × Int × Int × Int))) (n : Nat) (x0 : List (Int × Int × Int × Int)) (x1 : Nat) (x2 : Nat) (x3 : Int) (x4 : Int) (x5 : Int) (x6 : Bool) (x7 : Bool) (x8 : Int) (st : Unit) : Option ((List (Int × Int × Int × Int)) ⊕ ((List (Int × Int × Int × Int) × Int × Int) ⊕ (List (Int × Int × Int × Int) × Int × Int × Int × Bool × Bool))) :=
 if x5 = 0 then
  (qdt_ n x0 x1 x2 x3 x4).bind fun y2_ =>
  some (.inl y2_)
 else
  match qdq_ rec_slicespdqsortCmpFuncapiClassq1 n x0 x1 x2 x3 x4 x5 x6 x7 x8 () with
  | none => none
  | some (.inl y2_) =>
   some (.inl y2_)
  | some (.inr (.inl (y2_0, y2_1, y2_2))) =>
   some (.inr (.inl (y2_0, y2_1, y2_2)))
  | some (.inr (.inr (y2_0, y2_1, y2_2, y2_3, y2_4, y2_5))) =>
   some (.inr (.inr (y2_0, y2_1, y2_2, y2_3, y2_4, y2_5)))
theorem qe4_ (rec_slicespdqsortCmpFuncapiClassq1 : (List (Int × Int × Int × Int)) → (Nat) → (Nat) → (Int) → (Int) → (Int) → Option (List (Int × Int × Int × Int))) (hrec_slicespdqsortCmpFuncapiClassq1 : ∀ (a0 : List (Int × Int × Int × Int)) (a1 : Nat) (a2 : Nat) (a3 : Int) (a4 : Int) (a5 : Int) (r : List (Int × Int × Int × Int)), rec_slicespdqsortCmpFuncapiClassq1 a0 a1 a2 a3 a4 a5 = some r → Gv P (.func 43) (qg_ a0 a1 a2 a3 a4 a5) (qh_ a0 a1 a2 a3 a4 a5) (qe_ a0 a1 a2 a3 a4 a5 r) (qf_ a0 a1 a2 a3 a4 a5 r)) (n : Nat) {rnd : Option Nat} (x0 : List (Int × Int × Int × Int)) (x1 : Nat) (x2 : Nat) (x3 : Int) (x4 : Int) (x5 : Int) (x6 : Bool) (x7 : Bool) (x8 : Int) (st : Unit) (r : (List (Int × Int × Int × Int)) ⊕ ((List (Int × Int × Int × Int) × Int × Int) ⊕ (List (Int × Int × Int × Int) × Int × Int × Int × Bool × Bool))) (h : qdr_ rec_slicespdqsortCmpFuncapiClassq1 n x0 x1 x2 x3 x4 x5 x6 x7 x8 st = some r) : CG P rnd (fnN P 43) 1 (qt_ P 43 [true, true, false, false, false, true, true]) (qh5_ x0 x1 x2 x3 x4 x5 x6 x7 x8 st) (qbn_ x0 x1 x2 x3 x4 x5 x6 x7 x8 r) := by
 unfold qdr_ at h
 by_cases hy1 : x5 = 0
 ·rw [if_pos hy1] at h
  obtain ⟨y2_, hy2, h⟩ := oB h
  obtain rfl := oI h
  exact runC2 hm ⟨[], [(0, 0, true)], 1, 0, [], false, [], [], []⟩ (zz 3 (xeT hy1) <|
   yy 10 (.call (ql8_ x0 x1 x2 x3 x4 y2_ [(0, 0, true)] [(0, 0, true)])) <|
   ww (qk0_ n x0 x1 x2 x3 x4 y2_ hy2) <|
   ww (qa_ rwf_uuuu x0 24) <|
   ww (qa_ rwf_uuuu y2_ 24) <|
   ww (qa_ rwf_uuuu y2_ 24) <|
   ee) (by kernel_rfl)
 ·rw [if_neg hy1] at h
  have k0 := fun {A L l} (k : PL A L l) => zz 3 (xeF hy1) <|
   k
  rcases hy2 : qdq_ rec_slicespdqsortCmpFuncapiClassq1 n x0 x1 x2 x3 x4 x5 x6 x7 x8 () with _ | (y2_ | ⟨y2_0, y2_1, y2_2⟩ | ⟨y2_0, y2_1, y2_2, y2_3, y2_4, y2_5⟩)
  ·rw [hy2] at h; cases h
  ·rw [hy2] at h
   dsimp only at h
   obtain rfl := oI h
   exact runC2 hm ⟨[], [(0, 0, true)], 1, 0, [], false, [], [], []⟩ (k0 <|
    ww (p := qft_ rnd x0 x1 x2 x3 x4 x5 x6 x7 x8 () (.inl y2_)) (qe3_ rec_slicespdqsortCmpFuncapiClassq1 hrec_slicespdqsortCmpFuncapiClassq1 n x0 x1 x2 x3 x4 x5 x6 x7 x8 () (.inl y2_) hy2) <|
    ww (qa_ rwf_uuuu x0 24) <|
    ll 5 ⟨⟨[0, 1, 2, 3, 4, 10, 11, 12], [(0, 0, true)], 1, 0, [], false, [], [], []⟩, (qbm_ x0 x1 x2 x3 x4 x5 x6 x7 x8 (.inl y2_)).1, (qbm_ x0 x1 x2 x3 x4 x5 x6 x7 x8 (.inl y2_)).2⟩ <|
    ww (qa_ rwf_uuuu y2_ 24) <|
    ee) (by kernel_rfl)
  ·rw [hy2] at h
   dsimp only at h
   obtain rfl := oI h
   exact runC2 hm ⟨[0, 1, 2, 3, 4, 10, 11], [(0, 0, true)], 1, 0, [], false, [], [], []⟩ (k0 <|
    ww (p := qft_ rnd x0 x1 x2 x3 x4 x5 x6 x7 x8 () (.inr (.inl (y2_0, y2_1, y2_2)))) (qe3_ rec_slicespdqsortCmpFuncapiClassq1 hrec_slicespdqsortCmpFuncapiClassq1 n x0 x1 x2 x3 x4 x5 x6 x7 x8 () (.inr (.inl (y2_0, y2_1, y2_2))) hy2) <|
    ww (qa_ rwf_uuuu x0 24) <|
    ll 5 ⟨⟨[0, 1, 2, 3, 4, 10, 11, 12], [(0, 0, true)], 1, 0, [], false, [], [], []⟩, (qbm_ x0 x1 x2 x3 x4 x5 x6 x7 x8 (.inr (.inl (y2_0, y2_1, y2_2)))).1, (qbm_ x0 x1 x2 x3 x4 x5 x6 x7 x8 (.inr (.inl (y2_0, y2_1, y2_2)))).2⟩ <|
    ww (qa_ rwf_uuuu y2_0 24) <|
    ee) (by kernel_rfl)
  ·rw [hy2] at h
   dsimp only at h
   obtain rfl := oI h
   exact runC2 hm ⟨[0, 1, 2, 3, 4, 10, 11], [(0, 0, true)], 1, 0, [], false, [], [], []⟩ (k0 <|
    ww (p := qft_ rnd x0 x1 x2 x3 x4 x5 x6 x7 x8 () (.inr (.inr (y2_0, y2_1, y2_2, y2_3, y2_4, y2_5)))) (qe3_ rec_slicespdqsortCmpFuncapiClassq1 hrec_slicespdqsortCmpFuncapiClassq1 n x0 x1 x2 x3 x4 x5 x6 x7 x8 () (.inr (.inr (y2_0, y2_1, y2_2, y2_3, y2_4, y2_5))) hy2) <|
    ww (qa_ rwf_uuuu x0 24) <|
    ll 5 ⟨⟨[0, 1, 2, 3, 4, 10, 11, 12], [(0, 0, true)], 1, 0, [], false, [], [], []⟩, (qbm_ x0 x1 x2 x3 x4 x5 x6 x7 x8 (.inr (.inr (y2_0, y2_1, y2_2, y2_3, y2_4, y2_5)))).1, (qbm_ x0 x1 x2 x3 x4 x5 x6 x7 x8 (.inr (.inr (y2_0, y2_1, y2_2, y2_3, y2_4, y2_5)))).2⟩ <|
    ww (qa_ rwf_uuuu y2_0 24) <|
    ee) (by kernel_rfl)
def qdb_ (x1 : Nat) (x2 : Nat) (st : List (Int × Int × Int × Int) × Int × Int × Int × Bool × Bool) : XSt := match st with
 | (x0, x3, x4, x5, x6, x7) => (sT 148 [(0, (sN 0 0 x1 x2)), (1, (i6 x3)), (2, (i6 x4)), (3, (i6 x5)), (4, (Value.func (.func 38) #[] #[])), (10, (bO x6)), (11, (bO x7))], [], ⟨sB [(0, (some (.cells (layT (rows rw_uuuu x0)) 24)))], 1, 0⟩)
def qdc_ (x1 : Nat) (x2 : Nat) (r : List (Int × Int × Int × Int)) : Ex × XSt := match r with
 | z0 => (.ret, (sT 148 [], [], ⟨sB [(0, (some (.cells (layT (rows rw_uuuu z0)) 24)))], 1, 0⟩))
abbrev qsc_ (rnd : Option Nat) (x1 : Nat) (x2 : Nat) (st : List (Int × Int × Int × Int) × Int × Int × Int × Bool × Bool) (c : Ex × XSt) : Prop := CG P rnd (fnN P 43) 1 (qt_ P 43 [false, false, true, true]) (qdb_ x1 x2 st) c
abbrev ql1_ (rd : Option Nat) (x1 : Nat) (x2 : Nat) (st : List (Int × Int × Int × Int) × Int × Int × Int × Bool × Bool) (r : List (Int × Int × Int × Int)) : Prop := CG P rd (fnN P 43) 1 (qt_ P 43 [false, true, true]) (qdb_ x1 x2 st) (qdc_ x1 x2 r)
def qbo_ (rec_slicespdqsortCmpFuncapiClassq1 : (List (Int × Int × Int × Int)) → (Nat) → (Nat) → (Int) → (Int) → (Int) → Option (List (Int × Int × Int × Int))) (n : Nat) (x1 : Nat) (x2 : Nat) (st : List (Int × Int × Int × Int) × Int × Int × Int × Bool × Bool) : Option ((List (Int × Int × Int × Int) × Int × Int × Int × Bool × Bool) ⊕ (List (Int × Int × Int × Int))) := match st with
 | (x0, x3, x4, x5, x6, x7) =>
  if (w64 (x4 - x3)) ≤ 12 then
   (qdh_ n x0 x1 x2 x3 x4).bind fun y2_ =>
   some (.inr y2_)
  else
   match qdr_ rec_slicespdqsortCmpFuncapiClassq1 n x0 x1 x2 x3 x4 x5 x6 x7 (w64 (x4 - x3)) () with
   | none => none
   | some (.inl y2_) =>
    some (.inr y2_)
   | some (.inr (.inl (y2_0, y2_1, y2_2))) =>
    some (.inl (y2_0, y2_1, x4, y2_2, x6, x7))
   | some (.inr (.inr (y2_0, y2_1, y2_2, y2_3, y2_4, y2_5))) =>
    some (.inl (y2_0, y2_1, y2_2, y2_3, y2_4, y2_5))
def qd6_ (rec_slicespdqsortCmpFuncapiClassq1 : (List (Int × Int × Int × Int)) → (Nat) → (Nat) → (Int) → (Int) → (Int) → Option (List (Int × Int × Int × Int))) (n : Nat) (x1 : Nat) (x2 : Nat) (st : List (Int × Int × Int × Int) × Int × Int × Int × Bool × Bool) : Option (List (Int × Int × Int × Int)) := iterM (qbo_ rec_slicespdqsortCmpFuncapiClassq1 n x1 x2) n st
theorem qh6_ (rec_slicespdqsortCmpFuncapiClassq1 : (List (Int × Int × Int × Int)) → (Nat) → (Nat) → (Int) → (Int) → (Int) → Option (List (Int × Int × Int × Int))) (hrec_slicespdqsortCmpFuncapiClassq1 : ∀ (a0 : List (Int × Int × Int × Int)) (a1 : Nat) (a2 : Nat) (a3 : Int) (a4 : Int) (a5 : Int) (r : List (Int × Int × Int × Int)), rec_slicespdqsortCmpFuncapiClassq1 a0 a1 a2 a3 a4 a5 = some r → Gv P (.func 43) (qg_ a0 a1 a2 a3 a4 a5) (qh_ a0 a1 a2 a3 a4 a5) (qe_ a0 a1 a2 a3 a4 a5 r) (qf_ a0 a1 a2 a3 a4 a5 r)) (n : Nat) {rnd : Option Nat} (x1 : Nat) (x2 : Nat) (st : List (Int × Int × Int × Int) × Int × Int × Int × Bool × Bool) (o : (List (Int × Int × Int × Int) × Int × Int × Int × Bool × Bool) ⊕ (List (Int × Int × Int × Int))) (h : qbo_ rec_slicespdqsortCmpFuncapiClassq1 n x1 x2 st = some o) : CG P rnd (fnN P 43) 1 (qt_ P 43 [false, false, true, true]) (qdb_ x1 x2 st) (Sum.elim (fun s => (.normal, qdb_ x1 x2 s)) (fun r => qdc_ x1 x2 r) o) := by
 obtain ⟨x0, x3, x4, x5, x6, x7⟩ := st
 unfold qbo_ at h
 dsimp only at h
 by_cases hy1 : (w64 (x4 - x3)) ≤ 12
 ·rw [if_pos hy1] at h
  obtain ⟨y2_, hy2, h⟩ := oB h
  obtain rfl := oI h
  exact runC2 hm ⟨[], [(0, 0, true)], 1, 0, [], false, [], [], []⟩ (zz 9 (xdT hy1) <|
   yy 16 (.call (qkk_ x0 x1 x2 x3 x4 y2_ [(0, 0, true)] [(0, 0, true)])) <|
   ww (qjm_ n x0 x1 x2 x3 x4 y2_ hy2) <|
   ww (qa_ rwf_uuuu x0 24) <|
   ww (qa_ rwf_uuuu y2_ 24) <|
   ww (qa_ rwf_uuuu y2_ 24) <|
   ee) (by kernel_rfl)
 ·rw [if_neg hy1] at h
  have k0 := fun {A L l} (k : PL A L l) => zz 9 (xdF hy1) <|
   k
  rcases hy2 : qdr_ rec_slicespdqsortCmpFuncapiClassq1 n x0 x1 x2 x3 x4 x5 x6 x7 (w64 (x4 - x3)) () with _ | (y2_ | ⟨y2_0, y2_1, y2_2⟩ | ⟨y2_0, y2_1, y2_2, y2_3, y2_4, y2_5⟩)
  ·rw [hy2] at h; cases h
  ·rw [hy2] at h
   dsimp only at h
   obtain rfl := oI h
   exact runC2 hm ⟨[], [(0, 0, true)], 1, 0, [], false, [], [], []⟩ (k0 <|
    ww (p := qfu_ rnd x0 x1 x2 x3 x4 x5 x6 x7 (w64 (x4 - x3)) () (.inl y2_)) (qe4_ rec_slicespdqsortCmpFuncapiClassq1 hrec_slicespdqsortCmpFuncapiClassq1 n x0 x1 x2 x3 x4 x5 x6 x7 (w64 (x4 - x3)) () (.inl y2_) hy2) <|
    ww (qa_ rwf_uuuu x0 24) <|
    ll 11 ⟨⟨[0, 1, 2, 3, 4, 10, 11, 12], [(0, 0, true)], 1, 0, [], false, [], [], []⟩, (qbn_ x0 x1 x2 x3 x4 x5 x6 x7 (w64 (x4 - x3)) (.inl y2_)).1, (qbn_ x0 x1 x2 x3 x4 x5 x6 x7 (w64 (x4 - x3)) (.inl y2_)).2⟩ <|
    ww (qa_ rwf_uuuu y2_ 24) <|
    ee) (by kernel_rfl)
  ·rw [hy2] at h
   dsimp only at h
   obtain rfl := oI h
   exact runC2 hm ⟨[0, 1, 2, 3, 4, 10, 11], [(0, 0, true)], 1, 0, [], false, [], [], []⟩ (k0 <|
    ww (p := qfu_ rnd x0 x1 x2 x3 x4 x5 x6 x7 (w64 (x4 - x3)) () (.inr (.inl (y2_0, y2_1, y2_2)))) (qe4_ rec_slicespdqsortCmpFuncapiClassq1 hrec_slicespdqsortCmpFuncapiClassq1 n x0 x1 x2 x3 x4 x5 x6 x7 (w64 (x4 - x3)) () (.inr (.inl (y2_0, y2_1, y2_2))) hy2) <|
    ww (qa_ rwf_uuuu x0 24) <|
    ll 11 ⟨⟨[0, 1, 2, 3, 4, 10, 11, 12], [(0, 0, true)], 1, 0, [], false, [], [], []⟩, (qbn_ x0 x1 x2 x3 x4 x5 x6 x7 (w64 (x4 - x3)) (.inr (.inl (y2_0, y2_1, y2_2)))).1, (qbn_ x0 x1 x2 x3 x4 x5 x6 x7 (w64 (x4 - x3)) (.inr (.inl (y2_0, y2_1, y2_2)))).2⟩ <|
    ww (qa_ rwf_uuuu y2_0 24) <|
    ee) (by kernel_rfl)
  ·rw [hy2] at h
   dsimp only at h
   obtain rfl := oI h
   exact runC2 hm ⟨[0, 1, 2, 3, 4, 10, 11], [(0, 0, true)], 1, 0, [], false, [], [], []⟩ (k0 <|
    ww (p := qfu_ rnd x0 x1 x2 x3 x4 x5 x6 x7 (w64 (x4 - x3)) () (.inr (.inr (y2_0, y2_1, y2_2, y2_3, y2_4, y2_5)))) (qe4_ rec_slicespdqsortCmpFuncapiClassq1 hrec_slicespdqsortCmpFuncapiClassq1 n x0 x1 x2 x3 x4 x5 x6 x7 (w64 (x4 - x3)) () (.inr (.inr (y2_0, y2_1, y2_2, y2_3, y2_4, y2_5))) hy2) <|
    ww (qa_ rwf_uuuu x0 24) <|
    ll 11 ⟨⟨[0, 1, 2, 3, 4, 10, 11, 12], [(0, 0, true)], 1, 0, [], false, [], [], []⟩, (qbn_ x0 x1 x2 x3 x4 x5 x6 x7 (w64 (x4 - x3)) (.inr (.inr (y2_0, y2_1, y2_2, y2_3, y2_4, y2_5)))).1, (qbn_ x0 x1 x2 x3 x4 x5 x6 x7 (w64 (x4 - x3)) (.inr (.inr (y2_0, y2_1, y2_2, y2_3, y2_4, y2_5)))).2⟩ <|
    ww (qa_ rwf_uuuu y2_0 24) <|
    ee) (by kernel_rfl)
theorem qku_ (rec_slicespdqsortCmpFuncapiClassq1 : (List (Int × Int × Int × Int)) → (Nat) → (Nat) → (Int) → (Int) → (Int) → Option (List (Int × Int × Int × Int))) (hrec_slicespdqsortCmpFuncapiClassq1 : ∀ (a0 : List (Int × Int × Int × Int)) (a1 : Nat) (a2 : Nat) (a3 : Int) (a4 : Int) (a5 : Int) (r : List (Int × Int × Int × Int)), rec_slicespdqsortCmpFuncapiClassq1 a0 a1 a2 a3 a4 a5 = some r → Gv P (.func 43) (qg_ a0 a1 a2 a3 a4 a5) (qh_ a0 a1 a2 a3 a4 a5) (qe_ a0 a1 a2 a3 a4 a5 r) (qf_ a0 a1 a2 a3 a4 a5 r)) (n : Nat) {rnd : Option Nat} (x1 : Nat) (x2 : Nat) (st : List (Int × Int × Int × Int) × Int × Int × Int × Bool × Bool) (r : List (Int × Int × Int × Int)) (h : qd6_ rec_slicespdqsortCmpFuncapiClassq1 n x1 x2 st = some r) : CG P rnd (fnN P 43) 1 (qt_ P 43 [false, true, true]) (qdb_ x1 x2 st) (qdc_ x1 x2 r) :=
 CG.iter (b := qt_ P 43 [false, false, true, true]) (by kernel_rfl) (body := qbo_ rec_slicespdqsortCmpFuncapiClassq1 n x1 x2) (S := qdb_ x1 x2) (X := qdc_ x1 x2)
  (fun s s' h => qh6_ rec_slicespdqsortCmpFuncapiClassq1 hrec_slicespdqsortCmpFuncapiClassq1 n x1 x2 s (.inl s') h)
  (fun s r h => qh6_ rec_slicespdqsortCmpFuncapiClassq1 hrec_slicespdqsortCmpFuncapiClassq1 n x1 x2 s (.inr r) h)
  (fun r => by intro hx; cases hx) h
def qcu_ (rec_slicespdqsortCmpFuncapiClassq1 : (List (Int × Int × Int × Int)) → (Nat) → (Nat) → (Int) → (Int) → (Int) → Option (List (Int × Int × Int × Int))) (n : Nat) (a0 : List (Int × Int × Int × Int)) (a1 : Nat) (a2 : Nat) (a3 : Int) (a4 : Int) (a5 : Int) : Option (List (Int × Int × Int × Int)) :=
 (qd6_ rec_slicespdqsortCmpFuncapiClassq1 n a1 a2 (a0, a3, a4, a5, true, true)).bind fun c1_ =>
 some c1_
theorem qlf_ (rec_slicespdqsortCmpFuncapiClassq1 : (List (Int × Int × Int × Int)) → (Nat) → (Nat) → (Int) → (Int) → (Int) → Option (List (Int × Int × Int × Int))) (hrec_slicespdqsortCmpFuncapiClassq1 : ∀ (a0 : List (Int × Int × Int × Int)) (a1 : Nat) (a2 : Nat) (a3 : Int) (a4 : Int) (a5 : Int) (r : List (Int × Int × Int × Int)), rec_slicespdqsortCmpFuncapiClassq1 a0 a1 a2 a3 a4 a5 = some r → Gv P (.func 43) (qg_ a0 a1 a2 a3 a4 a5) (qh_ a0 a1 a2 a3 a4 a5) (qe_ a0 a1 a2 a3 a4 a5 r) (qf_ a0 a1 a2 a3 a4 a5 r)) (n : Nat) (a0 : List (Int × Int × Int × Int)) (a1 : Nat) (a2 : Nat) (a3 : Int) (a4 : Int) (a5 : Int) (r : List (Int × Int × Int × Int)) (h : qcu_ rec_slicespdqsortCmpFuncapiClassq1 n a0 a1 a2 a3 a4 a5 = some r) : Gv P (.func 43) (qg_ a0 a1 a2 a3 a4 a5) (qh_ a0 a1 a2 a3 a4 a5) (qe_ a0 a1 a2 a3 a4 a5 r) (qf_ a0 a1 a2 a3 a4 a5 r) := by
 unfold qcu_ at h
 obtain ⟨c1_, hc1, h⟩ := oB h
 obtain rfl := oI h
 exact runF2 hm ⟨[], [(0, 0, true)], 1, 0, [], false, [], [], []⟩ (ww (p := ql1_ none a1 a2 (a0, a3, a4, a5, true, true) c1_) (qku_ rec_slicespdqsortCmpFuncapiClassq1 hrec_slicespdqsortCmpFuncapiClassq1 n a1 a2 (a0, a3, a4, a5, true, true) c1_ hc1) <|
  ww (qa_ rwf_uuuu a0 24) <|
  ll 5 ⟨⟨[0, 1, 2, 3, 4, 10, 11], [(0, 0, true)], 1, 0, [], false, [], [], []⟩, (qdc_ a1 a2 c1_).1, (qdc_ a1 a2 c1_).2⟩ <|
  ww (qa_ rwf_uuuu c1_ 24) <|
  ee) (by kernel_rfl)
def qo_ : Nat → (List (Int × Int × Int × Int)) → (Nat) → (Nat) → (Int) → (Int) → (Int) → Option (List (Int × Int × Int × Int))
 | 0 => fun _ _ _ _ _ _ => none
 | n + 1 => fun a0 a1 a2 a3 a4 a5 => qcu_ (qo_ n) n a0 a1 a2 a3 a4 a5
theorem qhh_ : ∀ (n : Nat) (a0 : List (Int × Int × Int × Int)) (a1 : Nat) (a2 : Nat) (a3 : Int) (a4 : Int) (a5 : Int) (r : List (Int × Int × Int × Int)) (h : qo_ n a0 a1 a2 a3 a4 a5 = some r), Gv P (.func 43) (qg_ a0 a1 a2 a3 a4 a5) (qh_ a0 a1 a2 a3 a4 a5) (qe_ a0 a1 a2 a3 a4 a5 r) (qf_ a0 a1 a2 a3 a4 a5 r)
 | 0, _, _, _, _, _, _, _, h => nomatch h
 | n + 1, a0, a1, a2, a3, a4, a5, r, h => qlf_ (qo_ n) (qhh_ n) n a0 a1 a2 a3 a4 a5 r h

def qkv_ (a0 : List (Int × Int × Int × Int)) (a1 : Nat) : List Value := [(sN 0 0 (a0).length a1), (Value.func (.func 38) #[] #[])]
def qkw_ (a0 : List (Int × Int × Int × Int)) (a1 : Nat) : AH := ⟨sB [(0, (some (.cells (layT (rows rw_uuuu a0)) 24)))], 1, 1⟩
def qia_ (a0 : List (Int × Int × Int × Int)) (a1 : Nat) (r : List (Int × Int × Int × Int)) : Value := match r with
 | o0 => (Value.tuple #[])
def qib_ (a0 : List (Int × Int × Int × Int)) (a1 : Nat) (r : List (Int × Int × Int × Int)) : AH := match r with
 | o0 => ⟨sB [(0, (some (.cells (layT (rows rw_uuuu o0)) 24)))], 1, 0⟩
abbrev qv3_ (a0 : List (Int × Int × Int × Int)) (a1 : Nat) (r : List (Int × Int × Int × Int)) : Prop := Gv P (.func 37) (qkv_ a0 a1) (qkw_ a0 a1) (qia_ a0 a1 r) (qib_ a0 a1 r)
abbrev qnz_ (a0 : List (Int × Int × Int × Int)) (a1 : Nat) (r : List (Int × Int × Int × Int)) (ins outs : BL) : CallA := ⟨1, ins, qia_ a0 a1 r, qib_ a0 a1 r, outs⟩
def qd5_ (n : Nat) (a0 : List (Int × Int × Int × Int)) (a1 : Nat) : Option (List (Int × Int × Int × Int)) :=
 (qj5_ n (IntKind.u64.wrap (((a0).length : Nat) : Int))).bind fun c1_ =>
 (qo_ n a0 ((a0).length) a1 0 (((a0).length : Nat) : Int) c1_).bind fun c2_ =>
 some c2_
theorem qm2_ (n : Nat) (a0 : List (Int × Int × Int × Int)) (a1 : Nat) (r : List (Int × Int × Int × Int)) (h : qd5_ n a0 a1 = some r) : Gv P (.func 37) (qkv_ a0 a1) (qkw_ a0 a1) (qia_ a0 a1 r) (qib_ a0 a1 r) := by
 unfold qd5_ at h
 obtain ⟨c1_, hc1, h⟩ := oB h
 obtain ⟨c2_, hc2, h⟩ := oB h
 obtain rfl := oI h
 exact runF2 hm ⟨[], [(0, 0, true)], 1, 0, [], false, [], [], []⟩ (yy 8 (.call (qwt_ (IntKind.u64.wrap (((a0).length : Nat) : Int)) c1_ [] [])) <|
  ww (qr4_ n (IntKind.u64.wrap (((a0).length : Nat) : Int)) c1_ hc1) <|
  yy 10 (.call (qdv_ a0 ((a0).length) a1 0 (((a0).length : Nat) : Int) c1_ c2_ [(0, 0, true)] [(0, 0, true)])) <|
  ww (qhh_ n a0 ((a0).length) a1 0 (((a0).length : Nat) : Int) c1_ c2_ hc2) <|
  ww (qa_ rwf_uuuu a0 24) <|
  ww (qa_ rwf_uuuu c2_ 24) <|
  ww (qa_ rwf_uuuu c2_ 24) <|
  ee) (by kernel_rfl)

def qsd_ (a0 : WL rw_uuuu) : List Value := [(wlV a0)]
def qse_ (a0 : WL rw_uuuu) : AH := ⟨sB [], 0, 0⟩
def qor_ (a0 : WL rw_uuuu) (r : List (Int × Int × Int × Int) × Nat × Nat) : Value := match r with
 | (o0, o1, o2) => (sN 0 0 o1 o2)
def qos_ (a0 : WL rw_uuuu) (r : List (Int × Int × Int × Int) × Nat × Nat) : AH := match r with
 | (o0, o1, o2) => ⟨sB [(0, (some (.cells (layT (rows rw_uuuu o0)) 24)))], 1, 0⟩
abbrev G_classSplitq1 (a0 : WL rw_uuuu) (r : List (Int × Int × Int × Int) × Nat × Nat) : Prop := Gv P (.func 28) (qsd_ a0) (qse_ a0) (qor_ a0 r) (qos_ a0 r)
abbrev qxo_ (a0 : WL rw_uuuu) (r : List (Int × Int × Int × Int) × Nat × Nat) (ins outs : BL) : CallA := ⟨0, ins, qor_ a0 r, qos_ a0 r, outs⟩
def qj2_ (x2 : WL rw_uuuu) (x3 : Int) (st : List (Int × Int × Int × Int) × Nat × Int) : XSt := match st with
 | (x0, x1, x4) => (sT 22 [(3, (sN 0 0 (x0).length x1)), (9, (wlV x2)), (10, (i6 x3)), (11, (i6 x4))], [], ⟨sB [(0, (some (.cells (layT (rows rw_uuuu x0)) 24)))], 1, 0⟩)
def qj3_ (x2 : WL rw_uuuu) (x3 : Int) (r : List (Int × Int × Int × Int) × Nat) : Ex × XSt := match r with
 | (z0, z1) => (.exit 0, (sT 22 [(3, (sN 0 0 (z0).length z1))], [], ⟨sB [(0, (some (.cells (layT (rows rw_uuuu z0)) 24)))], 1, 0⟩))
abbrev Q_classSplitq1_1 (rnd : Option Nat) (x2 : WL rw_uuuu) (x3 : Int) (st : List (Int × Int × Int × Int) × Nat × Int) (c : Ex × XSt) : Prop := CG P rnd (fnN P 28) 0 (qt_ P 28 [false, false, true, false, true, true]) (qj2_ x2 x3 st) c
def qgj_ (n : Nat) (x2 : WL rw_uuuu) (x3 : Int) (st : List (Int × Int × Int × Int) × Nat × Int) : Option ((List (Int × Int × Int × Int) × Nat × Int) ⊕ (List (Int × Int × Int × Int) × Nat)) := match st with
 | (x0, x1, x4) =>
  if x4 < x3 then
   if 0 ≤ x4 ∧ x4 < (((x2).l.length : Nat) : Int) then
    ((some (((x2).l).getD (x4).toNat (0, 0, 0, 0)))).bind fun y3_ =>
    (qmd_ n x0 x1 (y3_.1) (y3_.2.1) (y3_.2.2.1) (y3_.2.2.2)).bind fun y4_ =>
    some (.inl (y4_, (Nat.add big 4), (w64 (x4 + 1))))
   else none
  else
   some (.inr (x0, x1))
def ql2_ (n : Nat) (x2 : WL rw_uuuu) (x3 : Int) (st : List (Int × Int × Int × Int) × Nat × Int) : Option (List (Int × Int × Int × Int) × Nat) := iterM (qgj_ n x2 x3) n st
theorem qp2_ (n : Nat) {rnd : Option Nat} (x2 : WL rw_uuuu) (x3 : Int) (st : List (Int × Int × Int × Int) × Nat × Int) (o : (List (Int × Int × Int × Int) × Nat × Int) ⊕ (List (Int × Int × Int × Int) × Nat)) (h : qgj_ n x2 x3 st = some o) : CG P rnd (fnN P 28) 0 (qt_ P 28 [false, false, true, false, true, true]) (qj2_ x2 x3 st) (Sum.elim (fun s => (.normal, qj2_ x2 x3 s)) (fun r => qj3_ x2 x3 r) o) := by
 obtain ⟨x0, x1, x4⟩ := st
 unfold qgj_ at h
 dsimp only at h
 by_cases hy1 : x4 < x3
 ·rw [if_pos hy1] at h
  obtain ⟨hy2, h⟩ := gd h
  obtain ⟨y3_, hy3, h⟩ := oB h
  obtain ⟨y4_, hy4, h⟩ := oB h
  obtain rfl := oI h
  exact runC2 hm ⟨[3, 9, 10, 11], [(0, 2, true)], 1, 0, [], false, [], [], []⟩ (zz 1 (xdT hy1) <|
   zz 7 (xk1 (x2).num (x2).off (x2).cap hy2) <|
   zz 8 (lk2 hy3 (qvb_ hy2)) <|
   yy 13 (.call (C_classcutq2 x0 x1 (y3_.1) (y3_.2.1) (y3_.2.2.1) (y3_.2.2.2) y4_ [(0, 0, true)] [(2, 1, true)])) <|
   ww (qv0_ n x0 x1 (y3_.1) (y3_.2.1) (y3_.2.2.1) (y3_.2.2.2) y4_ hy4) <|
   ww (qa_ rwf_uuuu x0 24) <|
   ww (qa_ rwf_uuuu y4_ 24) <|
   ww (qa_ rwf_uuuu y4_ 24) <|
   ee) (by kernel_rfl)
 ·rw [if_neg hy1] at h
  obtain rfl := oI h
  exact runC2 hm ⟨[3], [(0, 0, true)], 1, 0, [], false, [], [], []⟩ (zz 1 (xdF hy1) <|
   ww (qa_ rwf_uuuu x0 24) <|
   ee) (by kernel_rfl)
theorem qsf_ (n : Nat) {rnd : Option Nat} (x2 : WL rw_uuuu) (x3 : Int) (st : List (Int × Int × Int × Int) × Nat × Int) (r : List (Int × Int × Int × Int) × Nat) (h : ql2_ n x2 x3 st = some r) : CG P rnd (fnN P 28) 0 (qt_ P 28 [false, true, false, true, true]) (qj2_ x2 x3 st) (qj3_ x2 x3 r) :=
 CG.iter (b := qt_ P 28 [false, false, true, false, true, true]) (by kernel_rfl) (body := qgj_ n x2 x3) (S := qj2_ x2 x3) (X := qj3_ x2 x3)
  (fun s s' h => qp2_ n x2 x3 s (.inl s') h)
  (fun s r h => qp2_ n x2 x3 s (.inr r) h)
  (fun r => by intro hx; cases hx) h
def ql3_ (n : Nat) (a0 : WL rw_uuuu) : Option (List (Int × Int × Int × Int) × Nat × Nat) :=
 (qh8_ n 0 0 0 0).bind fun t => match t with
 | (c1_0, c1_1, c1_2, c1_3) =>
  (ql2_ n a0 (((a0).l.length : Nat) : Int) ([(c1_0, c1_1, c1_2, c1_3)], 1, 0)).bind fun t => match t with
  | (c2_0, c2_1) =>
   (qd5_ n c2_0 c2_1).bind fun c3_ =>
   some (c3_, ((c2_0).length), c2_1)
theorem qtu_ (n : Nat) (a0 : WL rw_uuuu) (r : List (Int × Int × Int × Int) × Nat × Nat) (h : ql3_ n a0 = some r) : Gv P (.func 28) (qsd_ a0) (qse_ a0) (qor_ a0 r) (qos_ a0 r) := by
 unfold ql3_ at h
 obtain ⟨⟨c1_0, c1_1, c1_2, c1_3⟩, hc1, h⟩ := oB h
 dsimp only at h
 obtain ⟨⟨c2_0, c2_1⟩, hc2, h⟩ := oB h
 dsimp only at h
 obtain ⟨c3_, hc3, h⟩ := oB h
 obtain rfl := oI h
 exact runF2 hm ⟨[2], [(0, 0, true)], 1, 0, [], false, [], [], []⟩ (yy 4 (.call (qok_ 0 0 0 0 (c1_0, c1_1, c1_2, c1_3) [] [(0, 0, false)])) <|
  ww (qmj_ n 0 0 0 0 (c1_0, c1_1, c1_2, c1_3) hc1) <|
  ww (qsf_ n (rnd := none) a0 (((a0).l.length : Nat) : Int) ([(c1_0, c1_1, c1_2, c1_3)], 1, 0) (c2_0, c2_1) hc2) <|
  ll 13 ⟨⟨[3, 9, 10, 11], [(0, 1, false)], 1, 0, [], false, [], [], []⟩, (qj3_ a0 (((a0).l.length : Nat) : Int) (c2_0, c2_1)).1, (qj3_ a0 (((a0).l.length : Nat) : Int) (c2_0, c2_1)).2⟩ <|
  yy 16 (.call (qnz_ c2_0 c2_1 c3_ [(0, 0, true)] [(0, 0, true)])) <|
  ww (qm2_ n c2_0 c2_1 c3_ hc3) <|
  ww (qa_ rwf_uuuu c2_0 24) <|
  ww (qa_ rwf_uuuu c3_ 24) <|
  ww (qa_ rwf_uuuu c3_ 24) <|
  ee) (by kernel_rfl)

def qnt_ (a0 : Int) : List Value := [(Value.int .u64 a0)]
def qnu_ (a0 : Int) : AH := ⟨sB [], 0, 0⟩
def ql4_ (a0 : Int) (r : Int) : Value := match r with
 | o0 => (i6 o0)
def ql5_ (a0 : Int) (r : Int) : AH := match r with
 | o0 => ⟨sB [], 0, 0⟩
abbrev G_bitsOnesCount64q1 (a0 : Int) (r : Int) : Prop := Gv P (.func 34) (qnt_ a0) (qnu_ a0) (ql4_ a0 r) (ql5_ a0 r)
abbrev qjk_ (a0 : Int) (r : Int) (ins outs : BL) : CallA := ⟨0, ins, ql4_ a0 r, ql5_ a0 r, outs⟩
def qds_ (n : Nat) (a0 : Int) : Option (Int) :=
 ((some (IntKind.u64.wrap ((bAnd .u64 (Int.fdiv a0 2) (6148914691236517205 : Int)) + (bAnd .u64 a0 (6148914691236517205 : Int)))))).bind fun c1_ =>
 ((some (IntKind.u64.wrap ((bAnd .u64 (Int.fdiv c1_ 4) (3689348814741910323 : Int)) + (bAnd .u64 c1_ (3689348814741910323 : Int)))))).bind fun c2_ =>
 ((some (bAnd .u64 (IntKind.u64.wrap ((Int.fdiv c2_ 16) + c2_)) (1085102592571150095 : Int)))).bind fun c3_ =>
 ((some (IntKind.u64.wrap ((IntKind.u64.wrap (c3_ + (Int.fdiv c3_ 256))) + (Int.fdiv (IntKind.u64.wrap (c3_ + (Int.fdiv c3_ 256))) 65536))))).bind fun c4_ =>
 ((some (IntKind.u64.wrap (c4_ + (Int.fdiv c4_ 4294967296))))).bind fun c5_ =>
 some (bAnd .i64 (IntKind.i64.wrap c5_) (127 : Int))
theorem qh7_ (n : Nat) (a0 : Int) (r : Int) (h : qds_ n a0 = some r) : Gv P (.func 34) (qnt_ a0) (qnu_ a0) (ql4_ a0 r) (ql5_ a0 r) := by
 unfold qds_ at h
 obtain ⟨c1_, hc1, h⟩ := oB h
 obtain ⟨c2_, hc2, h⟩ := oB h
 obtain ⟨c3_, hc3, h⟩ := oB h
 obtain ⟨c4_, hc4, h⟩ := oB h
 obtain ⟨c5_, hc5, h⟩ := oB h
 obtain rfl := oI h
 exact runF2 hm ⟨[2], [], 0, 0, [], false, [], [], []⟩ (zz 8 (xnmK (k := .u64) hc1) <|
  zz 16 (xnmK (k := .u64) hc2) <|
  zz 23 (xnmK (k := .u64) hc3) <|
  zz 35 (xnmK (k := .u64) hc4) <|
  zz 41 (xnmK (k := .u64) hc5) <|
  ee) (by kernel_rfl)

def qvo_ (a0 : Int) (a1 : Int) (a2 : Int) (a3 : Int) : List Value := [(Value.agg #[(Value.int .u64 a0), (Value.int .u64 a1), (Value.int .u64 a2), (Value.int .u64 a3)])]
def qvp_ (a0 : Int) (a1 : Int) (a2 : Int) (a3 : Int) : AH := ⟨sB [], 0, 0⟩
def qq6_ (a0 : Int) (a1 : Int) (a2 : Int) (a3 : Int) (r : Int) : Value := match r with
 | o0 => (i6 o0)
def qq7_ (a0 : Int) (a1 : Int) (a2 : Int) (a3 : Int) (r : Int) : AH := match r with
 | o0 => ⟨sB [], 0, 0⟩
abbrev G_classLenq1 (a0 : Int) (a1 : Int) (a2 : Int) (a3 : Int) (r : Int) : Prop := Gv P (.func 22) (qvo_ a0 a1 a2 a3) (qvp_ a0 a1 a2 a3) (qq6_ a0 a1 a2 a3 r) (qq7_ a0 a1 a2 a3 r)
abbrev C_classLenq1 (a0 : Int) (a1 : Int) (a2 : Int) (a3 : Int) (r : Int) (ins outs : BL) : CallA := ⟨0, ins, qq6_ a0 a1 a2 a3 r, qq7_ a0 a1 a2 a3 r, outs⟩
def qnf_ (n : Nat) (a0 : Int) (a1 : Int) (a2 : Int) (a3 : Int) : Option (Int) :=
 (qds_ n a0).bind fun c1_ =>
 (qds_ n a1).bind fun c2_ =>
 (qds_ n a2).bind fun c3_ =>
 ((some (w64 ((w64 ((w64 ((0 : Int) + c1_)) + c2_)) + c3_)))).bind fun c4_ =>
 (qds_ n a3).bind fun c5_ =>
 some (w64 (c4_ + c5_))
theorem qv4_ (n : Nat) (a0 : Int) (a1 : Int) (a2 : Int) (a3 : Int) (r : Int) (h : qnf_ n a0 a1 a2 a3 = some r) : Gv P (.func 22) (qvo_ a0 a1 a2 a3) (qvp_ a0 a1 a2 a3) (qq6_ a0 a1 a2 a3 r) (qq7_ a0 a1 a2 a3 r) := by
 unfold qnf_ at h
 obtain ⟨c1_, hc1, h⟩ := oB h
 obtain ⟨c2_, hc2, h⟩ := oB h
 obtain ⟨c3_, hc3, h⟩ := oB h
 obtain ⟨c4_, hc4, h⟩ := oB h
 obtain ⟨c5_, hc5, h⟩ := oB h
 obtain rfl := oI h
 exact runF2 hm ⟨[2], [], 0, 0, [], false, [], [], []⟩ (yy 22 (.call (qjk_ a0 c1_ [] [])) <|
  ww (qh7_ n a0 c1_ hc1) <|
  yy 39 (.call (qjk_ a1 c2_ [] [])) <|
  ww (qh7_ n a1 c2_ hc2) <|
  yy 56 (.call (qjk_ a2 c3_ [] [])) <|
  ww (qh7_ n a2 c3_ hc3) <|
  zz 57 (xnm hc4) <|
  yy 73 (.call (qjk_ a3 c5_ [] [])) <|
  ww (qh7_ n a3 c5_ hc5) <|
  ee) (by kernel_rfl)

def qsg_ (a0 : Int) (a1 : Int) (a2 : Int) (a3 : Int) (a4 : Int) (a5 : Int) (a6 : Int) (a7 : Int) : List Value := [(Value.agg #[(Value.int .u64 a0), (Value.int .u64 a1), (Value.int .u64 a2), (Value.int .u64 a3)]), (Value.agg #[(Value.int .u64 a4), (Value.int .u64 a5), (Value.int .u64 a6), (Value.int .u64 a7)])]
def qsh_ (a0 : Int) (a1 : Int) (a2 : Int) (a3 : Int) (a4 : Int) (a5 : Int) (a6 : Int) (a7 : Int) : AH := ⟨sB [], 0, 0⟩
def qot_ (a0 : Int) (a1 : Int) (a2 : Int) (a3 : Int) (a4 : Int) (a5 : Int) (a6 : Int) (a7 : Int) (r : Int × Int × Int × Int) : Value := match r with
 | (o0, o1, o2, o3) => (Value.agg #[(Value.int .u64 o0), (Value.int .u64 o1), (Value.int .u64 o2), (Value.int .u64 o3)])
def qou_ (a0 : Int) (a1 : Int) (a2 : Int) (a3 : Int) (a4 : Int) (a5 : Int) (a6 : Int) (a7 : Int) (r : Int × Int × Int × Int) : AH := match r with
 | (o0, o1, o2, o3) => ⟨sB [(0, (some (.cells (layT [(Value.int .u64 o0), (Value.int .u64 o1), (Value.int .u64 o2), (Value.int .u64 o3)]) 24)))], 1, 0⟩
abbrev G_classUnionq1 (a0 : Int) (a1 : Int) (a2 : Int) (a3 : Int) (a4 : Int) (a5 : Int) (a6 : Int) (a7 : Int) (r : Int × Int × Int × Int) : Prop := Gv P (.func 16) (qsg_ a0 a1 a2 a3 a4 a5 a6 a7) (qsh_ a0 a1 a2 a3 a4 a5 a6 a7) (qot_ a0 a1 a2 a3 a4 a5 a6 a7 r) (qou_ a0 a1 a2 a3 a4 a5 a6 a7 r)
abbrev qxp_ (a0 : Int) (a1 : Int) (a2 : Int) (a3 : Int) (a4 : Int) (a5 : Int) (a6 : Int) (a7 : Int) (r : Int × Int × Int × Int) (ins outs : BL) : CallA := ⟨0, ins, qot_ a0 a1 a2 a3 a4 a5 a6 a7 r, qou_ a0 a1 a2 a3 a4 a5 a6 a7 r, outs⟩
def ql6_ (n : Nat) (a0 : Int) (a1 : Int) (a2 : Int) (a3 : Int) (a4 : Int) (a5 : Int) (a6 : Int) (a7 : Int) : Option (Int × Int × Int × Int) :=
 some ((bOr .u64 a0 a4), (bOr .u64 a1 a5), (bOr .u64 a2 a6), (bOr .u64 a3 a7))
theorem qtv_ (n : Nat) (a0 : Int) (a1 : Int) (a2 : Int) (a3 : Int) (a4 : Int) (a5 : Int) (a6 : Int) (a7 : Int) (r : Int × Int × Int × Int) (h : ql6_ n a0 a1 a2 a3 a4 a5 a6 a7 = some r) : Gv P (.func 16) (qsg_ a0 a1 a2 a3 a4 a5 a6 a7) (qsh_ a0 a1 a2 a3 a4 a5 a6 a7) (qot_ a0 a1 a2 a3 a4 a5 a6 a7 r) (qou_ a0 a1 a2 a3 a4 a5 a6 a7 r) := by
 unfold ql6_ at h
 obtain rfl := oI h
 exact runF2 hm ⟨[4], [(0, 2, false)], 1, 0, [], false, [], [], []⟩ (ee) (by kernel_rfl)

def qvq_ (a0 : Int) (a1 : Int) (a2 : Int) (a3 : Int) (a4 : Int) : List Value := [(Value.agg #[(Value.int .u64 a0), (Value.int .u64 a1), (Value.int .u64 a2), (Value.int .u64 a3)]), (Value.int .u8 a4)]
def qvr_ (a0 : Int) (a1 : Int) (a2 : Int) (a3 : Int) (a4 : Int) : AH := ⟨sB [], 0, 0⟩
def qq8_ (a0 : Int) (a1 : Int) (a2 : Int) (a3 : Int) (a4 : Int) (r : Bool) : Value := match r with
 | o0 => (bO o0)
def qq9_ (a0 : Int) (a1 : Int) (a2 : Int) (a3 : Int) (a4 : Int) (r : Bool) : AH := match r with
 | o0 => ⟨sB [], 0, 0⟩
abbrev G_classHasq1 (a0 : Int) (a1 : Int) (a2 : Int) (a3 : Int) (a4 : Int) (r : Bool) : Prop := Gv P (.func 14) (qvq_ a0 a1 a2 a3 a4) (qvr_ a0 a1 a2 a3 a4) (qq8_ a0 a1 a2 a3 a4 r) (qq9_ a0 a1 a2 a3 a4 r)
abbrev qvs_ (a0 : Int) (a1 : Int) (a2 : Int) (a3 : Int) (a4 : Int) (r : Bool) (ins outs : BL) : CallA := ⟨0, ins, qq8_ a0 a1 a2 a3 a4 r, qq9_ a0 a1 a2 a3 a4 r, outs⟩
def qmg_ (n : Nat) (a0 : Int) (a1 : Int) (a2 : Int) (a3 : Int) (a4 : Int) : Option (Bool) :=
 if ¬ ((64 : Int) = 0) then
  if 0 ≤ (IntKind.u8.wrap (Int.tdiv a4 (64 : Int))) ∧ (IntKind.u8.wrap (Int.tdiv a4 (64 : Int))) < ((4 : Nat) : Int) then
   if ((IntKind.u8.wrap (Int.tdiv a4 (64 : Int)))).toNat < ([a0, a1, a2, a3]).length then
    ((some (([a0, a1, a2, a3]).getD ((IntKind.u8.wrap (Int.tdiv a4 (64 : Int)))).toNat (0)))).bind fun c4_ =>
    if 0 ≤ (Int.tmod a4 (64 : Int)) then
     ((some (bAnd .u64 (shrV .u64 c4_ (Int.tmod a4 (64 : Int))) (1 : Int)))).bind fun c6_ =>
     if c6_ = 1 then
      some true
     else
      some false
    else none
   else none
  else none
 else none
theorem qqn_ (n : Nat) (a0 : Int) (a1 : Int) (a2 : Int) (a3 : Int) (a4 : Int) (r : Bool) (h : qmg_ n a0 a1 a2 a3 a4 = some r) : Gv P (.func 14) (qvq_ a0 a1 a2 a3 a4) (qvr_ a0 a1 a2 a3 a4) (qq8_ a0 a1 a2 a3 a4 r) (qq9_ a0 a1 a2 a3 a4 r) := by
 unfold qmg_ at h
 obtain ⟨hc1, h⟩ := gd h
 obtain ⟨hc2, h⟩ := gd h
 obtain ⟨hc3, h⟩ := gd h
 obtain ⟨c4_, hc4, h⟩ := oB h
 obtain ⟨hc5, h⟩ := gd h
 obtain ⟨c6_, hc6, h⟩ := oB h
 have k0 := fun {A L l} (k : PL A L l) => yy 5 (.pur (Value.int .u8 (IntKind.u8.wrap (Int.tdiv a4 (64 : Int))))) <|
  ww (p := opBin P .quo 5 (.tmp 5) (.const (Value.int .u8 (64 : Int))) (Value.int .u8 a4) (Value.int .u8 (64 : Int)) Ax.h0 = some ((Value.int .u8 (IntKind.u8.wrap (Int.tdiv a4 (64 : Int)))), Ax.h0)) (quo_u8 hc1) <|
  yy 6 (.pur (pN 0 (((IntKind.u8.wrap (Int.tdiv a4 (64 : Int)))).toNat * 1))) <|
  ww (p := qfv_ P 24 (pN 0 0) (Value.int .u8 (IntKind.u8.wrap (Int.tdiv a4 (64 : Int)))) Ax.h0 = some ((pN 0 (((IntKind.u8.wrap (Int.tdiv a4 (64 : Int)))).toNat * 1)), Ax.h0)) (ixArr (es := 1) (e := 22) (m := 4) (by kernel_rfl) (by kernel_rfl) hc2) <|
  zz 7 (ok4 hc4 (hc3)) <|
  yy 9 (.pur (Value.int .u8 (Int.tmod a4 (64 : Int)))) <|
  ww (p := opBin P .rem 5 (.tmp 9) (.const (Value.int .u8 (64 : Int))) (Value.int .u8 a4) (Value.int .u8 (64 : Int)) Ax.h0 = some ((Value.int .u8 (Int.tmod a4 (64 : Int))), Ax.h0)) (rem_u8 (by decide)) <|
  yy 10 (.pur (Value.int .u64 (shrV .u64 c4_ (Int.tmod a4 (64 : Int))))) <|
  ww (p := opBin P .shr 22 (.tmp 8) (.tmp 10) (Value.int .u64 c4_) (Value.int .u8 (Int.tmod a4 (64 : Int))) Ax.h0 = some ((Value.int .u64 (shrV .u64 c4_ (Int.tmod a4 (64 : Int)))), Ax.h0)) (shr_u64_u8 hc5) <|
  zz 11 (xnmK (k := .u64) hc6) <|
  k
 by_cases hc7 : c6_ = 1
 ·rw [if_pos hc7] at h
  obtain rfl := oI h
  exact runF2 hm ⟨[4], [], 0, 0, [], false, [], [], []⟩ (k0 <|
   zz 12 (xeT hc7) <|
   ee) (by kernel_rfl)
 ·rw [if_neg hc7] at h
  obtain rfl := oI h
  exact runF2 hm ⟨[4], [], 0, 0, [], false, [], [], []⟩ (k0 <|
   zz 12 (xeF hc7) <|
   ee) (by kernel_rfl)

def qim_ : List Value := [(wlV wA)]
def qlb_ : AH := ⟨sB [], 0, 0⟩
def qin_ (r : Bool) : Value := match r with
 | o0 => (bO o0)
def qio_ (r : Bool) : AH := match r with
 | o0 => ⟨sB [], 0, 0⟩
abbrev qwu_ (r : Bool) : Prop := Gv P (.func 4) qim_ qlb_ (qin_  r) (qio_  r)
abbrev qwv_ (r : Bool) (ins outs : BL) : CallA := ⟨0, ins, qin_  r, qio_  r, outs⟩
def qem_ (x0 : WL rw_uuuu) (x1 : List (Int × Int × Int × Int)) (x2 : Nat) (x3 : Nat) (x4 : Int) (x5 : Int) (x6 : Int) (x7 : Int) (x8 : Int) (x9 : Int) (x10 : Int) (x11 : Int) (x12 : Int) (st : Bool × Int) : XSt := match st with
 | (x13, x14) => (sT 143 [(0, (wlV x0)), (3, (sN 0 0 x2 x3)), (4, (pN 1 0)), (5, (i6 x8)), (6, (i6 x9)), (7, (i6 x10)), (8, (Value.int .u8 x11)), (12, (i6 x12)), (13, (bO x13)), (14, (i6 x14))], [], ⟨sB [(0, (some (.cells (layT (rows rw_uuuu x1)) 24))), (1, (some (.cells (layT [(Value.int .u64 x4), (Value.int .u64 x5), (Value.int .u64 x6), (Value.int .u64 x7)]) 24)))], 2, 0⟩)
def qen_ (x0 : WL rw_uuuu) (x1 : List (Int × Int × Int × Int)) (x2 : Nat) (x3 : Nat) (x4 : Int) (x5 : Int) (x6 : Int) (x7 : Int) (x8 : Int) (x9 : Int) (x10 : Int) (x11 : Int) (x12 : Int) (r : Bool) : Ex × XSt := match r with
 | z0 => (.exit 6, (sT 143 [(0, (wlV x0)), (3, (sN 0 0 x2 x3)), (4, (pN 1 0)), (5, (i6 x8)), (6, (i6 x9)), (7, (i6 x10)), (8, (Value.int .u8 x11)), (12, (i6 x12)), (13, (bO z0))], [], ⟨sB [(0, (some (.cells (layT (rows rw_uuuu x1)) 24))), (1, (some (.cells (layT [(Value.int .u64 x4), (Value.int .u64 x5), (Value.int .u64 x6), (Value.int .u64 x7)]) 24)))], 2, 0⟩))
abbrev qvt_ (rnd : Option Nat) (x0 : WL rw_uuuu) (x1 : List (Int × Int × Int × Int)) (x2 : Nat) (x3 : Nat) (x4 : Int) (x5 : Int) (x6 : Int) (x7 : Int) (x8 : Int) (x9 : Int) (x10 : Int) (x11 : Int) (x12 : Int) (st : Bool × Int) (c : Ex × XSt) : Prop := CG P rnd (fnN P 4) 0 (qt_ P 4 [false, false, true, false, true, false, false, true, false, false, true, true, true, true, true, true, false, false, true, false, false, true, false, true, true, true, true, true, true]) (qem_ x0 x1 x2 x3 x4 x5 x6 x7 x8 x9 x10 x11 x12 st) c
def qdd_ (n : Nat) (x0 : WL rw_uuuu) (x1 : List (Int × Int × Int × Int)) (x2 : Nat) (x3 : Nat) (x4 : Int) (x5 : Int) (x6 : Int) (x7 : Int) (x8 : Int) (x9 : Int) (x10 : Int) (x11 : Int) (x12 : Int) (st : Bool × Int) : Option ((Bool × Int) ⊕ (Bool)) := match st with
 | (x13, x14) =>
  if x14 < (((x0).l.length : Nat) : Int) then
   if 0 ≤ x12 ∧ x12 < ((x2 : Nat) : Int) then
    if (x12).toNat < (x1).length then
     ((some ((x1).getD (x12).toNat (0, 0, 0, 0)))).bind fun y4_ =>
     (qd0_ n (y4_.1) (y4_.2.1) (y4_.2.2.1) (y4_.2.2.2)).bind fun t => match t with
     | (y5_0, y5_1) =>
      if x13 = true then
       some (.inl (true, (w64 (x14 + 1))))
      else
       if 0 ≤ x14 ∧ x14 < (((x0).l.length : Nat) : Int) then
        ((some (((x0).l).getD (x14).toNat (0, 0, 0, 0)))).bind fun y8_ =>
        (qmg_ n (y8_.1) (y8_.2.1) (y8_.2.2.1) (y8_.2.2.2) x11).bind fun y9_ =>
        (qmg_ n (y8_.1) (y8_.2.1) (y8_.2.2.1) (y8_.2.2.2) y5_0).bind fun y10_ =>
        if y9_ = y10_ then
         some (.inl (false, (w64 (x14 + 1))))
        else
         some (.inl (true, (w64 (x14 + 1))))
       else none
    else none
   else none
  else
   some (.inr x13)
def qhk_ (n : Nat) (x0 : WL rw_uuuu) (x1 : List (Int × Int × Int × Int)) (x2 : Nat) (x3 : Nat) (x4 : Int) (x5 : Int) (x6 : Int) (x7 : Int) (x8 : Int) (x9 : Int) (x10 : Int) (x11 : Int) (x12 : Int) (st : Bool × Int) : Option (Bool) := iterM (qdd_ n x0 x1 x2 x3 x4 x5 x6 x7 x8 x9 x10 x11 x12) n st
theorem qkg_ (n : Nat) {rnd : Option Nat} (x0 : WL rw_uuuu) (x1 : List (Int × Int × Int × Int)) (x2 : Nat) (x3 : Nat) (x4 : Int) (x5 : Int) (x6 : Int) (x7 : Int) (x8 : Int) (x9 : Int) (x10 : Int) (x11 : Int) (x12 : Int) (st : Bool × Int) (o : (Bool × Int) ⊕ (Bool)) (h : qdd_ n x0 x1 x2 x3 x4 x5 x6 x7 x8 x9 x10 x11 x12 st = some o) : CG P rnd (fnN P 4) 0 (qt_ P 4 [false, false, true, false, true, false, false, true, false, false, true, true, true, true, true, true, false, false, true, false, false, true, false, true, true, true, true, true, true]) (qem_ x0 x1 x2 x3 x4 x5 x6 x7 x8 x9 x10 x11 x12 st) (Sum.elim (fun s => (.normal, qem_ x0 x1 x2 x3 x4 x5 x6 x7 x8 x9 x10 x11 x12 s)) (fun r => qen_ x0 x1 x2 x3 x4 x5 x6 x7 x8 x9 x10 x11 x12 r) o) := by
 obtain ⟨x13, x14⟩ := st
 unfold qdd_ at h
 dsimp only at h
 by_cases hy1 : x14 < (((x0).l.length : Nat) : Int)
 ·rw [if_pos hy1] at h
  obtain ⟨hy2, h⟩ := gd h
  obtain ⟨hy3, h⟩ := gd h
  obtain ⟨y4_, hy4, h⟩ := oB h
  obtain ⟨⟨y5_0, y5_1⟩, hy5, h⟩ := oB h
  dsimp only at h
  have k0 := fun {A L l} (k : PL A L l) => zz 5 (xdT hy1) <|
   zz 12 (xk3 0 x3 hy2) <|
   yy 13 (.ld (Value.agg #[(Value.int .u64 (y4_.1)), (Value.int .u64 (y4_.2.1)), (Value.int .u64 (y4_.2.2.1)), (Value.int .u64 (y4_.2.2.2))])) <|
   ww (p := rdT (layT (rows rw_uuuu x1)) 4 ((x12).toNat * 4) = some [(Value.int .u64 (y4_.1)), (Value.int .u64 (y4_.2.1)), (Value.int .u64 (y4_.2.2.1)), (Value.int .u64 (y4_.2.2.2))]) (qn_ rwf_uuuu (0, 0, 0, 0) (hr := hy4) (i := (x12).toNat) (j := 0) ((x12).toNat * 4) rfl (hy3) (by decide) rfl) <|
   yy 14 (.call (qm1_ (y4_.1) (y4_.2.1) (y4_.2.2.1) (y4_.2.2.2) (y5_0, y5_1) [] [(3, 1, false), (4, 2, false)])) <|
   ww (qky_ n (y4_.1) (y4_.2.1) (y4_.2.2.1) (y4_.2.2.2) (y5_0, y5_1) hy5) <|
   k
  by_cases hy6 : x13 = true
  ·rw [if_pos hy6] at h
   obtain rfl := oI h
   exact runC2 hm ⟨[0, 3, 4, 5, 6, 7, 8, 12, 13, 14], [(0, 0, true), (1, 1, false)], 2, 0, [], false, [], [], []⟩ (k0 <|
    zz 21 (xbT hy6) <|
    ww (qa_ rwf_uuuu x1 24) <|
    ee) (by kernel_rfl)
  ·rw [if_neg hy6] at h
   obtain ⟨hy7, h⟩ := gd h
   obtain ⟨y8_, hy8, h⟩ := oB h
   obtain ⟨y9_, hy9, h⟩ := oB h
   obtain ⟨y10_, hy10, h⟩ := oB h
   have k6 := fun {A L l} (k : PL A L l) => zz 21 (xbF hy6) <|
    zz 24 (xk1 (x0).num (x0).off (x0).cap hy7) <|
    zz 25 (lk2 hy8 (qvb_ hy7)) <|
    yy 27 (.call (qvs_ (y8_.1) (y8_.2.1) (y8_.2.2.1) (y8_.2.2.2) x11 y9_ [] [])) <|
    ww (qqn_ n (y8_.1) (y8_.2.1) (y8_.2.2.1) (y8_.2.2.2) x11 y9_ hy9) <|
    zz 30 (xk1 (x0).num (x0).off (x0).cap hy7) <|
    zz 31 (lk2 hy8 (qvb_ hy7)) <|
    yy 33 (.call (qvs_ (y8_.1) (y8_.2.1) (y8_.2.2.1) (y8_.2.2.2) y5_0 y10_ [] [])) <|
    ww (qqn_ n (y8_.1) (y8_.2.1) (y8_.2.2.1) (y8_.2.2.2) y5_0 y10_ hy10) <|
    k
   by_cases hy11 : y9_ = y10_
   ·rw [if_pos hy11] at h
    obtain rfl := oI h
    exact runC2 hm ⟨[0, 3, 4, 5, 6, 7, 8, 12, 13, 14], [(0, 0, true), (1, 1, false)], 2, 0, [], false, [], [], []⟩ (k0 <|
     k6 <|
     yy 34 (vf) <|
     ww (p := (Value.bool (!(y9_ == y10_))) = (Value.bool false)) (congrArg (fun x => Value.bool (!x)) (beq_iff_eq.2 hy11)) <|
     ww (qa_ rwf_uuuu x1 24) <|
     ee) (by kernel_rfl)
   ·rw [if_neg hy11] at h
    obtain rfl := oI h
    exact runC2 hm ⟨[0, 3, 4, 5, 6, 7, 8, 12, 13, 14], [(0, 0, true), (1, 1, false)], 2, 0, [], false, [], [], []⟩ (k0 <|
     k6 <|
     yy 34 (vt) <|
     ww (p := (Value.bool (!(y9_ == y10_))) = (Value.bool true)) (congrArg (fun x => Value.bool (!x)) (beq_eq_false_iff_ne.2 hy11)) <|
     ww (qa_ rwf_uuuu x1 24) <|
     ee) (by kernel_rfl)
 ·rw [if_neg hy1] at h
  obtain rfl := oI h
  exact runC2 hm ⟨[0, 3, 4, 5, 6, 7, 8, 12, 13], [(0, 0, true), (1, 1, false)], 2, 0, [], false, [], [], []⟩ (zz 5 (xdF hy1) <|
   ww (qa_ rwf_uuuu x1 24) <|
   ee) (by kernel_rfl)
theorem qms_ (n : Nat) {rnd : Option Nat} (x0 : WL rw_uuuu) (x1 : List (Int × Int × Int × Int)) (x2 : Nat) (x3 : Nat) (x4 : Int) (x5 : Int) (x6 : Int) (x7 : Int) (x8 : Int) (x9 : Int) (x10 : Int) (x11 : Int) (x12 : Int) (st : Bool × Int) (r : Bool) (h : qhk_ n x0 x1 x2 x3 x4 x5 x6 x7 x8 x9 x10 x11 x12 st = some r) : CG P rnd (fnN P 4) 0 (qt_ P 4 [false, true, false, true, false, false, true, false, false, true, true, true, true, true, true, false, false, true, false, false, true, false, true, true, true, true, true, true]) (qem_ x0 x1 x2 x3 x4 x5 x6 x7 x8 x9 x10 x11 x12 st) (qen_ x0 x1 x2 x3 x4 x5 x6 x7 x8 x9 x10 x11 x12 r) :=
 CG.iter (b := qt_ P 4 [false, false, true, false, true, false, false, true, false, false, true, true, true, true, true, true, false, false, true, false, false, true, false, true, true, true, true, true, true]) (by kernel_rfl) (body := qdd_ n x0 x1 x2 x3 x4 x5 x6 x7 x8 x9 x10 x11 x12) (S := qem_ x0 x1 x2 x3 x4 x5 x6 x7 x8 x9 x10 x11 x12) (X := qen_ x0 x1 x2 x3 x4 x5 x6 x7 x8 x9 x10 x11 x12)
  (fun s s' h => qkg_ n x0 x1 x2 x3 x4 x5 x6 x7 x8 x9 x10 x11 x12 s (.inl s') h)
  (fun s r h => qkg_ n x0 x1 x2 x3 x4 x5 x6 x7 x8 x9 x10 x11 x12 s (.inr r) h)
  (fun r => by intro hx; cases hx) h
def qeo_ (x0 : WL rw_uuuu) (x1 : List (Int × Int × Int × Int)) (x2 : Nat) (x3 : Nat) (x4 : Int) (x5 : Int) (x6 : Int) (x7 : Int) (x8 : Int) (x9 : Int) (x10 : Int) (x11 : Int) (st : Int) : XSt := match st with
 | x12 => (sT 143 [(0, (wlV x0)), (3, (sN 0 0 x2 x3)), (4, (pN 1 0)), (5, (i6 x8)), (6, (i6 x9)), (7, (i6 x10)), (8, (Value.int .u8 x11)), (10, (i6 x12))], [], ⟨sB [(0, (some (.cells (layT (rows rw_uuuu x1)) 24))), (1, (some (.cells (layT [(Value.int .u64 x4), (Value.int .u64 x5), (Value.int .u64 x6), (Value.int .u64 x7)]) 24)))], 2, 0⟩)
def qep_ (x0 : WL rw_uuuu) (x1 : List (Int × Int × Int × Int)) (x2 : Nat) (x3 : Nat) (x4 : Int) (x5 : Int) (x6 : Int) (x7 : Int) (x8 : Int) (x9 : Int) (x10 : Int) (x11 : Int) (r : Unit) : Ex × XSt := match r with
 | _ => (.exit 2, (sT 143 [(0, (wlV x0)), (3, (sN 0 0 x2 x3)), (4, (pN 1 0)), (5, (i6 x8)), (6, (i6 x9)), (7, (i6 x10)), (8, (Value.int .u8 x11))], [], ⟨sB [(0, (some (.cells (layT (rows rw_uuuu x1)) 24))), (1, (some (.cells (layT [(Value.int .u64 x4), (Value.int .u64 x5), (Value.int .u64 x6), (Value.int .u64 x7)]) 24)))], 2, 0⟩))
abbrev qvu_ (rnd : Option Nat) (x0 : WL rw_uuuu) (x1 : List (Int × Int × Int × Int)) (x2 : Nat) (x3 : Nat) (x4 : Int) (x5 : Int) (x6 : Int) (x7 : Int) (x8 : Int) (x9 : Int) (x10 : Int) (x11 : Int) (st : Int) (c : Ex × XSt) : Prop := CG P rnd (fnN P 4) 0 (qt_ P 4 [false, false, true, false, true, true, true, true, false, false, true, false, false, true, false, true, true, true, true, true, true]) (qeo_ x0 x1 x2 x3 x4 x5 x6 x7 x8 x9 x10 x11 st) c
def qde_ (n : Nat) (x0 : WL rw_uuuu) (x1 : List (Int × Int × Int × Int)) (x2 : Nat) (x3 : Nat) (x4 : Int) (x5 : Int) (x6 : Int) (x7 : Int) (x8 : Int) (x9 : Int) (x10 : Int) (x11 : Int) (st : Int) : Option ((Int) ⊕ (Unit)) := match st with
 | x12 =>
  if x12 < (((x0).l.length : Nat) : Int) then
   if 0 ≤ x12 ∧ x12 < (((x0).l.length : Nat) : Int) then
    ((some (((x0).l).getD (x12).toNat (0, 0, 0, 0)))).bind fun y3_ =>
    if 0 ≤ x10 ∧ x10 < ((x2 : Nat) : Int) then
     if (x10).toNat < (x1).length then
      ((some ((x1).getD (x10).toNat (0, 0, 0, 0)))).bind fun y6_ =>
      (qgy_ n (y3_.1) (y3_.2.1) (y3_.2.2.1) (y3_.2.2.2) (y6_.1) (y6_.2.1) (y6_.2.2.1) (y6_.2.2.2)).bind fun t => match t with
      | (y7_0, y7_1, y7_2, y7_3) =>
       if (!((y7_0 == 0) && ((y7_1 == 0) && ((y7_2 == 0) && ((y7_3 == 0) && true))))) = true then
        if (!((y7_0 == (y6_.1)) && ((y7_1 == (y6_.2.1)) && ((y7_2 == (y6_.2.2.1)) && ((y7_3 == (y6_.2.2.2)) && true))))) = true then
         none
        else
         some (.inl (w64 (x12 + 1)))
       else
        some (.inl (w64 (x12 + 1)))
     else none
    else none
   else none
  else
   some (.inr ())
def qhl_ (n : Nat) (x0 : WL rw_uuuu) (x1 : List (Int × Int × Int × Int)) (x2 : Nat) (x3 : Nat) (x4 : Int) (x5 : Int) (x6 : Int) (x7 : Int) (x8 : Int) (x9 : Int) (x10 : Int) (x11 : Int) (st : Int) : Option (Unit) := iterM (qde_ n x0 x1 x2 x3 x4 x5 x6 x7 x8 x9 x10 x11) n st
theorem qkh_ (n : Nat) {rnd : Option Nat} (x0 : WL rw_uuuu) (x1 : List (Int × Int × Int × Int)) (x2 : Nat) (x3 : Nat) (x4 : Int) (x5 : Int) (x6 : Int) (x7 : Int) (x8 : Int) (x9 : Int) (x10 : Int) (x11 : Int) (x12 : Int) (o : (Int) ⊕ (Unit)) (h : qde_ n x0 x1 x2 x3 x4 x5 x6 x7 x8 x9 x10 x11 x12 = some o) : CG P rnd (fnN P 4) 0 (qt_ P 4 [false, false, true, false, true, true, true, true, false, false, true, false, false, true, false, true, true, true, true, true, true]) (qeo_ x0 x1 x2 x3 x4 x5 x6 x7 x8 x9 x10 x11 x12) (Sum.elim (fun s => (.normal, qeo_ x0 x1 x2 x3 x4 x5 x6 x7 x8 x9 x10 x11 s)) (fun r => qep_ x0 x1 x2 x3 x4 x5 x6 x7 x8 x9 x10 x11 r) o) := by
 unfold qde_ at h
 dsimp only at h
 by_cases hy1 : x12 < (((x0).l.length : Nat) : Int)
 ·rw [if_pos hy1] at h
  obtain ⟨hy2, h⟩ := gd h
  obtain ⟨y3_, hy3, h⟩ := oB h
  obtain ⟨hy4, h⟩ := gd h
  obtain ⟨hy5, h⟩ := gd h
  obtain ⟨y6_, hy6, h⟩ := oB h
  obtain ⟨⟨y7_0, y7_1, y7_2, y7_3⟩, hy7, h⟩ := oB h
  dsimp only at h
  have k0 := fun {A L l} (k : PL A L l) => zz 5 (xdT hy1) <|
   zz 12 (xk1 (x0).num (x0).off (x0).cap hy2) <|
   zz 13 (lk2 hy3 (qvb_ hy2)) <|
   zz 16 (xk3 0 x3 hy4) <|
   yy 17 (.ld (Value.agg #[(Value.int .u64 (y6_.1)), (Value.int .u64 (y6_.2.1)), (Value.int .u64 (y6_.2.2.1)), (Value.int .u64 (y6_.2.2.2))])) <|
   ww (p := rdT (layT (rows rw_uuuu x1)) 4 ((x10).toNat * 4) = some [(Value.int .u64 (y6_.1)), (Value.int .u64 (y6_.2.1)), (Value.int .u64 (y6_.2.2.1)), (Value.int .u64 (y6_.2.2.2))]) (qn_ rwf_uuuu (0, 0, 0, 0) (hr := hy6) (i := (x10).toNat) (j := 0) ((x10).toNat * 4) rfl (hy5) (by decide) rfl) <|
   yy 18 (.call (qk9_ (y3_.1) (y3_.2.1) (y3_.2.2.1) (y3_.2.2.2) (y6_.1) (y6_.2.1) (y6_.2.2.1) (y6_.2.2.2) (y7_0, y7_1, y7_2, y7_3) [] [(12, 0, false)])) <|
   ww (qil_ n (y3_.1) (y3_.2.1) (y3_.2.2.1) (y3_.2.2.2) (y6_.1) (y6_.2.1) (y6_.2.2.1) (y6_.2.2.2) (y7_0, y7_1, y7_2, y7_3) hy7) <|
   k
  by_cases hy8 : (!((y7_0 == 0) && ((y7_1 == 0) && ((y7_2 == 0) && ((y7_3 == 0) && true))))) = true
  ·rw [if_pos hy8] at h
   have k8 := fun {A L l} (k : PL A L l) => zz 25 (xbT hy8) <|
    zz 29 (xk3 0 x3 hy4) <|
    yy 30 (.ld (Value.agg #[(Value.int .u64 (y6_.1)), (Value.int .u64 (y6_.2.1)), (Value.int .u64 (y6_.2.2.1)), (Value.int .u64 (y6_.2.2.2))])) <|
    ww (p := rdT (layT (rows rw_uuuu x1)) 4 ((x10).toNat * 4) = some [(Value.int .u64 (y6_.1)), (Value.int .u64 (y6_.2.1)), (Value.int .u64 (y6_.2.2.1)), (Value.int .u64 (y6_.2.2.2))]) (qn_ rwf_uuuu (0, 0, 0, 0) (hr := hy6) (i := (x10).toNat) (j := 0) ((x10).toNat * 4) rfl (hy5) (by decide) rfl) <|
    k
   by_cases hy9 : (!((y7_0 == (y6_.1)) && ((y7_1 == (y6_.2.1)) && ((y7_2 == (y6_.2.2.1)) && ((y7_3 == (y6_.2.2.2)) && true))))) = true
   ·rw [if_pos hy9] at h
    cases h
   ·rw [if_neg hy9] at h
    obtain rfl := oI h
    exact runC2 hm ⟨[0, 3, 4, 5, 6, 7, 8, 10], [(0, 0, true), (1, 1, false)], 2, 0, [], false, [], [], []⟩ (k0 <|
     k8 <|
     zz 33 (xbF hy9) <|
     ww (qa_ rwf_uuuu x1 24) <|
     ee) (by kernel_rfl)
  ·rw [if_neg hy8] at h
   obtain rfl := oI h
   exact runC2 hm ⟨[0, 3, 4, 5, 6, 7, 8, 10], [(0, 0, true), (1, 1, false)], 2, 0, [], false, [], [], []⟩ (k0 <|
    zz 25 (xbF hy8) <|
    ww (qa_ rwf_uuuu x1 24) <|
    ee) (by kernel_rfl)
 ·rw [if_neg hy1] at h
  obtain rfl := oI h
  exact runC2 hm ⟨[0, 3, 4, 5, 6, 7, 8], [(0, 0, true), (1, 1, false)], 2, 0, [], false, [], [], []⟩ (zz 5 (xdF hy1) <|
   ww (qa_ rwf_uuuu x1 24) <|
   ee) (by kernel_rfl)
theorem qmt_ (n : Nat) {rnd : Option Nat} (x0 : WL rw_uuuu) (x1 : List (Int × Int × Int × Int)) (x2 : Nat) (x3 : Nat) (x4 : Int) (x5 : Int) (x6 : Int) (x7 : Int) (x8 : Int) (x9 : Int) (x10 : Int) (x11 : Int) (st : Int) (r : Unit) (h : qhl_ n x0 x1 x2 x3 x4 x5 x6 x7 x8 x9 x10 x11 st = some r) : CG P rnd (fnN P 4) 0 (qt_ P 4 [false, true, false, true, true, true, true, false, false, true, false, false, true, false, true, true, true, true, true, true]) (qeo_ x0 x1 x2 x3 x4 x5 x6 x7 x8 x9 x10 x11 st) (qep_ x0 x1 x2 x3 x4 x5 x6 x7 x8 x9 x10 x11 r) :=
 CG.iter (b := qt_ P 4 [false, false, true, false, true, true, true, true, false, false, true, false, false, true, false, true, true, true, true, true, true]) (by kernel_rfl) (body := qde_ n x0 x1 x2 x3 x4 x5 x6 x7 x8 x9 x10 x11) (S := qeo_ x0 x1 x2 x3 x4 x5 x6 x7 x8 x9 x10 x11) (X := qep_ x0 x1 x2 x3 x4 x5 x6 x7 x8 x9 x10 x11)
  (fun s s' h => qkh_ n x0 x1 x2 x3 x4 x5 x6 x7 x8 x9 x10 x11 s (.inl s') h)
  (fun s r h => qkh_ n x0 x1 x2 x3 x4 x5 x6 x7 x8 x9 x10 x11 s (.inr r) h)
  (fun r => by intro hx; cases hx) h
def qeq_ (x0 : WL rw_uuuu) (x1 : List (Int × Int × Int × Int)) (x2 : Nat) (x3 : Nat) (x4 : Int) (x5 : Int) (x6 : Int) (x7 : Int) (x8 : Int) (x9 : Int) (x10 : Int) (x11 : Int) (st : Int) : XSt := match st with
 | x12 => (sT 143 [(0, (wlV x0)), (3, (sN 0 0 x2 x3)), (4, (pN 1 0)), (5, (i6 x8)), (6, (i6 x9)), (7, (i6 x10)), (8, (Value.int .u8 x11)), (12, (i6 x12))], [], ⟨sB [(0, (some (.cells (layT (rows rw_uuuu x1)) 24))), (1, (some (.cells (layT [(Value.int .u64 x4), (Value.int .u64 x5), (Value.int .u64 x6), (Value.int .u64 x7)]) 24)))], 2, 0⟩)
def qer_ (x0 : WL rw_uuuu) (x1 : List (Int × Int × Int × Int)) (x2 : Nat) (x3 : Nat) (x4 : Int) (x5 : Int) (x6 : Int) (x7 : Int) (x8 : Int) (x9 : Int) (x10 : Int) (x11 : Int) (r : Unit) : Ex × XSt := match r with
 | _ => (.exit 4, (sT 143 [(0, (wlV x0)), (3, (sN 0 0 x2 x3)), (4, (pN 1 0)), (5, (i6 x8)), (6, (i6 x9)), (7, (i6 x10))], [], ⟨sB [(0, (some (.cells (layT (rows rw_uuuu x1)) 24))), (1, (some (.cells (layT [(Value.int .u64 x4), (Value.int .u64 x5), (Value.int .u64 x6), (Value.int .u64 x7)]) 24)))], 2, 0⟩))
abbrev qvv_ (rnd : Option Nat) (x0 : WL rw_uuuu) (x1 : List (Int × Int × Int × Int)) (x2 : Nat) (x3 : Nat) (x4 : Int) (x5 : Int) (x6 : Int) (x7 : Int) (x8 : Int) (x9 : Int) (x10 : Int) (x11 : Int) (st : Int) (c : Ex × XSt) : Prop := CG P rnd (fnN P 4) 0 (qt_ P 4 [false, false, true, true, true, true, true, true, false, false, true, false, false, true, false, true, true, true, true, true, true]) (qeq_ x0 x1 x2 x3 x4 x5 x6 x7 x8 x9 x10 x11 st) c
def qdf_ (n : Nat) (x0 : WL rw_uuuu) (x1 : List (Int × Int × Int × Int)) (x2 : Nat) (x3 : Nat) (x4 : Int) (x5 : Int) (x6 : Int) (x7 : Int) (x8 : Int) (x9 : Int) (x10 : Int) (x11 : Int) (st : Int) : Option ((Int) ⊕ (Unit)) := match st with
 | x12 =>
  if x12 < x10 then
   (qhk_ n x0 x1 x2 x3 x4 x5 x6 x7 x8 x9 x10 x11 x12 (false, 0)).bind fun y2_ =>
   if y2_ = true then
    some (.inl (w64 (x12 + 1)))
   else
    none
  else
   some (.inr ())
def qhm_ (n : Nat) (x0 : WL rw_uuuu) (x1 : List (Int × Int × Int × Int)) (x2 : Nat) (x3 : Nat) (x4 : Int) (x5 : Int) (x6 : Int) (x7 : Int) (x8 : Int) (x9 : Int) (x10 : Int) (x11 : Int) (st : Int) : Option (Unit) := iterM (qdf_ n x0 x1 x2 x3 x4 x5 x6 x7 x8 x9 x10 x11) n st
theorem qki_ (n : Nat) {rnd : Option Nat} (x0 : WL rw_uuuu) (x1 : List (Int × Int × Int × Int)) (x2 : Nat) (x3 : Nat) (x4 : Int) (x5 : Int) (x6 : Int) (x7 : Int) (x8 : Int) (x9 : Int) (x10 : Int) (x11 : Int) (x12 : Int) (o : (Int) ⊕ (Unit)) (h : qdf_ n x0 x1 x2 x3 x4 x5 x6 x7 x8 x9 x10 x11 x12 = some o) : CG P rnd (fnN P 4) 0 (qt_ P 4 [false, false, true, true, true, true, true, true, false, false, true, false, false, true, false, true, true, true, true, true, true]) (qeq_ x0 x1 x2 x3 x4 x5 x6 x7 x8 x9 x10 x11 x12) (Sum.elim (fun s => (.normal, qeq_ x0 x1 x2 x3 x4 x5 x6 x7 x8 x9 x10 x11 s)) (fun r => qer_ x0 x1 x2 x3 x4 x5 x6 x7 x8 x9 x10 x11 r) o) := by
 unfold qdf_ at h
 dsimp only at h
 by_cases hy1 : x12 < x10
 ·rw [if_pos hy1] at h
  obtain ⟨y2_, hy2, h⟩ := oB h
  have k0 := fun {A L l} (k : PL A L l) => zz 4 (xdT hy1) <|
   ww (qms_ n (rnd := rnd) x0 x1 x2 x3 x4 x5 x6 x7 x8 x9 x10 x11 x12 (false, 0) y2_ hy2) <|
   ww (qa_ rwf_uuuu x1 24) <|
   ll 14 ⟨⟨[0, 3, 4, 5, 6, 7, 8, 12, 13, 14], [(0, 0, true), (1, 1, false)], 2, 0, [], false, [], [], []⟩, (qen_ x0 x1 x2 x3 x4 x5 x6 x7 x8 x9 x10 x11 x12 y2_).1, (qen_ x0 x1 x2 x3 x4 x5 x6 x7 x8 x9 x10 x11 x12 y2_).2⟩ <|
   k
  by_cases hy3 : y2_ = true
  ·rw [if_pos hy3] at h
   obtain rfl := oI h
   exact runC2 hm ⟨[0, 3, 4, 5, 6, 7, 8, 12], [(0, 0, true), (1, 1, false)], 2, 0, [], false, [], [], []⟩ (k0 <|
    yy 17 (vf) <|
    ww (p := (Value.bool (!y2_)) = (Value.bool false)) (vBn hy3) <|
    ww (qa_ rwf_uuuu x1 24) <|
    ee) (by kernel_rfl)
  ·rw [if_neg hy3] at h
   cases h
 ·rw [if_neg hy1] at h
  obtain rfl := oI h
  exact runC2 hm ⟨[0, 3, 4, 5, 6, 7], [(0, 0, true), (1, 1, false)], 2, 0, [], false, [], [], []⟩ (zz 4 (xdF hy1) <|
   ww (qa_ rwf_uuuu x1 24) <|
   ee) (by kernel_rfl)
theorem qmu_ (n : Nat) {rnd : Option Nat} (x0 : WL rw_uuuu) (x1 : List (Int × Int × Int × Int)) (x2 : Nat) (x3 : Nat) (x4 : Int) (x5 : Int) (x6 : Int) (x7 : Int) (x8 : Int) (x9 : Int) (x10 : Int) (x11 : Int) (st : Int) (r : Unit) (h : qhm_ n x0 x1 x2 x3 x4 x5 x6 x7 x8 x9 x10 x11 st = some r) : CG P rnd (fnN P 4) 0 (qt_ P 4 [false, true, true, true, true, true, true, false, false, true, false, false, true, false, true, true, true, true, true, true]) (qeq_ x0 x1 x2 x3 x4 x5 x6 x7 x8 x9 x10 x11 st) (qer_ x0 x1 x2 x3 x4 x5 x6 x7 x8 x9 x10 x11 r) :=
 CG.iter (b := qt_ P 4 [false, false, true, true, true, true, true, true, false, false, true, false, false, true, false, true, true, true, true, true, true]) (by kernel_rfl) (body := qdf_ n x0 x1 x2 x3 x4 x5 x6 x7 x8 x9 x10 x11) (S := qeq_ x0 x1 x2 x3 x4 x5 x6 x7 x8 x9 x10 x11) (X := qer_ x0 x1 x2 x3 x4 x5 x6 x7 x8 x9 x10 x11)
  (fun s s' h => qki_ n x0 x1 x2 x3 x4 x5 x6 x7 x8 x9 x10 x11 s (.inl s') h)
  (fun s r h => qki_ n x0 x1 x2 x3 x4 x5 x6 x7 x8 x9 x10 x11 s (.inr r) h)
  (fun r => by intro hx; cases hx) h
def qes_ (x0 : WL rw_uuuu) (x1 : List (Int × Int × Int × Int)) (x2 : Nat) (x3 : Nat) (st : Int × Int × Int × Int × Int × Int × Int) : XSt := match st with
 | (x4, x5, x6, x7, x8, x9, x10) => (sT 143 [(0, (wlV x0)), (3, (sN 0 0 x2 x3)), (4, (pN 1 0)), (5, (i6 x8)), (6, (i6 x9)), (7, (i6 x10))], [], ⟨sB [(0, (some (.cells (layT (rows rw_uuuu x1)) 24))), (1, (some (.cells (layT [(Value.int .u64 x4), (Value.int .u64 x5), (Value.int .u64 x6), (Value.int .u64 x7)]) 24)))], 2, 0⟩)
def qet_ (x0 : WL rw_uuuu) (x1 : List (Int × Int × Int × Int)) (x2 : Nat) (x3 : Nat) (r : Int × Int × Int × Int × Int) : Ex × XSt := match r with
 | (z0, z1, z2, z3, z4) => (.exit 0, (sT 143 [(4, (pN 0 0)), (6, (i6 z4))], [], ⟨sB [(0, (some (.cells (layT [(Value.int .u64 z0), (Value.int .u64 z1), (Value.int .u64 z2), (Value.int .u64 z3)]) 24)))], 1, 0⟩))
abbrev qvw_ (rnd : Option Nat) (x0 : WL rw_uuuu) (x1 : List (Int × Int × Int × Int)) (x2 : Nat) (x3 : Nat) (st : Int × Int × Int × Int × Int × Int × Int) (c : Ex × XSt) : Prop := CG P rnd (fnN P 4) 0 (qt_ P 4 [false, false, true, false, true, true, true, true, true, true]) (qes_ x0 x1 x2 x3 st) c
def qdg_ (n : Nat) (x0 : WL rw_uuuu) (x1 : List (Int × Int × Int × Int)) (x2 : Nat) (x3 : Nat) (st : Int × Int × Int × Int × Int × Int × Int) : Option ((Int × Int × Int × Int × Int × Int × Int) ⊕ (Int × Int × Int × Int × Int)) := match st with
 | (x4, x5, x6, x7, x8, x9, x10) =>
  if x10 < ((x2 : Nat) : Int) then
   if 0 ≤ x10 ∧ x10 < ((x2 : Nat) : Int) then
    if (x10).toNat < (x1).length then
     ((some ((x1).getD (x10).toNat (0, 0, 0, 0)))).bind fun y4_ =>
     (qd0_ n (y4_.1) (y4_.2.1) (y4_.2.2.1) (y4_.2.2.2)).bind fun t => match t with
     | (y5_0, y5_1) =>
      if y5_1 = true then
       if (IntKind.i64.wrap y5_0) ≤ x8 then
        none
       else
        (qgy_ n x4 x5 x6 x7 (y4_.1) (y4_.2.1) (y4_.2.2.1) (y4_.2.2.2)).bind fun t => match t with
        | (y8_0, y8_1, y8_2, y8_3) =>
         if (!((y8_0 == 0) && ((y8_1 == 0) && ((y8_2 == 0) && ((y8_3 == 0) && true))))) = true then
          none
         else
          (qnf_ n (y4_.1) (y4_.2.1) (y4_.2.2.1) (y4_.2.2.2)).bind fun y10_ =>
          (ql6_ n x4 x5 x6 x7 (y4_.1) (y4_.2.1) (y4_.2.2.1) (y4_.2.2.2)).bind fun t => match t with
          | (y11_0, y11_1, y11_2, y11_3) =>
           (qhl_ n x0 x1 x2 x3 y11_0 y11_1 y11_2 y11_3 (IntKind.i64.wrap y5_0) (w64 (x9 + y10_)) x10 y5_0 0).bind fun _ =>
           (qhm_ n x0 x1 x2 x3 y11_0 y11_1 y11_2 y11_3 (IntKind.i64.wrap y5_0) (w64 (x9 + y10_)) x10 y5_0 0).bind fun _ =>
           some (.inl (y11_0, y11_1, y11_2, y11_3, (IntKind.i64.wrap y5_0), (w64 (x9 + y10_)), (w64 (x10 + 1))))
      else
       none
    else none
   else none
  else
   some (.inr (x4, x5, x6, x7, x9))
def qhn_ (n : Nat) (x0 : WL rw_uuuu) (x1 : List (Int × Int × Int × Int)) (x2 : Nat) (x3 : Nat) (st : Int × Int × Int × Int × Int × Int × Int) : Option (Int × Int × Int × Int × Int) := iterM (qdg_ n x0 x1 x2 x3) n st
theorem qkj_ (n : Nat) {rnd : Option Nat} (x0 : WL rw_uuuu) (x1 : List (Int × Int × Int × Int)) (x2 : Nat) (x3 : Nat) (st : Int × Int × Int × Int × Int × Int × Int) (o : (Int × Int × Int × Int × Int × Int × Int) ⊕ (Int × Int × Int × Int × Int)) (h : qdg_ n x0 x1 x2 x3 st = some o) : CG P rnd (fnN P 4) 0 (qt_ P 4 [false, false, true, false, true, true, true, true, true, true]) (qes_ x0 x1 x2 x3 st) (Sum.elim (fun s => (.normal, qes_ x0 x1 x2 x3 s)) (fun r => qet_ x0 x1 x2 x3 r) o) := by
 obtain ⟨x4, x5, x6, x7, x8, x9, x10⟩ := st
 unfold qdg_ at h
 dsimp only at h
 by_cases hy1 : x10 < ((x2 : Nat) : Int)
 ·rw [if_pos hy1] at h
  obtain ⟨hy2, h⟩ := gd h
  obtain ⟨hy3, h⟩ := gd h
  obtain ⟨y4_, hy4, h⟩ := oB h
  obtain ⟨⟨y5_0, y5_1⟩, hy5, h⟩ := oB h
  dsimp only at h
  have k0 := fun {A L l} (k : PL A L l) => zz 5 (xdT hy1) <|
   zz 12 (xk3 0 x3 hy2) <|
   yy 13 (.ld (Value.agg #[(Value.int .u64 (y4_.1)), (Value.int .u64 (y4_.2.1)), (Value.int .u64 (y4_.2.2.1)), (Value.int .u64 (y4_.2.2.2))])) <|
   ww (p := rdT (layT (rows rw_uuuu x1)) 4 ((x10).toNat * 4) = some [(Value.int .u64 (y4_.1)), (Value.int .u64 (y4_.2.1)), (Value.int .u64 (y4_.2.2.1)), (Value.int .u64 (y4_.2.2.2))]) (qn_ rwf_uuuu (0, 0, 0, 0) (hr := hy4) (i := (x10).toNat) (j := 0) ((x10).toNat * 4) rfl (hy3) (by decide) rfl) <|
   yy 14 (.call (qm1_ (y4_.1) (y4_.2.1) (y4_.2.2.1) (y4_.2.2.2) (y5_0, y5_1) [] [(3, 1, false), (4, 2, false)])) <|
   ww (qky_ n (y4_.1) (y4_.2.1) (y4_.2.2.1) (y4_.2.2.2) (y5_0, y5_1) hy5) <|
   k
  by_cases hy6 : y5_1 = true
  ·rw [if_pos hy6] at h
   have k6 := fun {A L l} (k : PL A L l) => yy 23 (vf) <|
    ww (p := (Value.bool (!y5_1)) = (Value.bool false)) (vBn hy6) <|
    k
   by_cases hy7 : (IntKind.i64.wrap y5_0) ≤ x8
   ·rw [if_pos hy7] at h
    cases h
   ·rw [if_neg hy7] at h
    obtain ⟨⟨y8_0, y8_1, y8_2, y8_3⟩, hy8, h⟩ := oB h
    dsimp only at h
    have k8 := fun {A L l} (k : PL A L l) => zz 28 (xdF hy7) <|
     zz 34 (xk3 0 x3 hy2) <|
     yy 35 (.ld (Value.agg #[(Value.int .u64 (y4_.1)), (Value.int .u64 (y4_.2.1)), (Value.int .u64 (y4_.2.2.1)), (Value.int .u64 (y4_.2.2.2))])) <|
     ww (p := rdT (layT (rows rw_uuuu x1)) 4 ((x10).toNat * 4) = some [(Value.int .u64 (y4_.1)), (Value.int .u64 (y4_.2.1)), (Value.int .u64 (y4_.2.2.1)), (Value.int .u64 (y4_.2.2.2))]) (qn_ rwf_uuuu (0, 0, 0, 0) (hr := hy4) (i := (x10).toNat) (j := 0) ((x10).toNat * 4) rfl (hy3) (by decide) rfl) <|
     yy 36 (.call (qk9_ x4 x5 x6 x7 (y4_.1) (y4_.2.1) (y4_.2.2.1) (y4_.2.2.2) (y8_0, y8_1, y8_2, y8_3) [] [(5, 0, false)])) <|
     ww (qil_ n x4 x5 x6 x7 (y4_.1) (y4_.2.1) (y4_.2.2.1) (y4_.2.2.2) (y8_0, y8_1, y8_2, y8_3) hy8) <|
     k
    by_cases hy9 : (!((y8_0 == 0) && ((y8_1 == 0) && ((y8_2 == 0) && ((y8_3 == 0) && true))))) = true
    ·rw [if_pos hy9] at h
     cases h
    ·rw [if_neg hy9] at h
     obtain ⟨y10_, hy10, h⟩ := oB h
     obtain ⟨⟨y11_0, y11_1, y11_2, y11_3⟩, hy11, h⟩ := oB h
     dsimp only at h
     obtain ⟨_, hy12, h⟩ := oB h
     obtain ⟨_, hy13, h⟩ := oB h
     obtain rfl := oI h
     exact runC2 hm ⟨[0, 3, 4, 5, 6, 7], [(0, 0, true), (1, 1, false)], 2, 0, [], false, [], [], []⟩ (k0 <|
      k6 <|
      k8 <|
      zz 40 (xbF hy9) <|
      zz 47 (xk3 0 x3 hy2) <|
      yy 48 (.ld (Value.agg #[(Value.int .u64 (y4_.1)), (Value.int .u64 (y4_.2.1)), (Value.int .u64 (y4_.2.2.1)), (Value.int .u64 (y4_.2.2.2))])) <|
      ww (p := rdT (layT (rows rw_uuuu x1)) 4 ((x10).toNat * 4) = some [(Value.int .u64 (y4_.1)), (Value.int .u64 (y4_.2.1)), (Value.int .u64 (y4_.2.2.1)), (Value.int .u64 (y4_.2.2.2))]) (qn_ rwf_uuuu (0, 0, 0, 0) (hr := hy4) (i := (x10).toNat) (j := 0) ((x10).toNat * 4) rfl (hy3) (by decide) rfl) <|
      yy 49 (.call (C_classLenq1 (y4_.1) (y4_.2.1) (y4_.2.2.1) (y4_.2.2.2) y10_ [] [])) <|
      ww (qv4_ n (y4_.1) (y4_.2.1) (y4_.2.2.1) (y4_.2.2.2) y10_ hy10) <|
      zz 57 (xk3 0 x3 hy2) <|
      yy 58 (.ld (Value.agg #[(Value.int .u64 (y4_.1)), (Value.int .u64 (y4_.2.1)), (Value.int .u64 (y4_.2.2.1)), (Value.int .u64 (y4_.2.2.2))])) <|
      ww (p := rdT (layT (rows rw_uuuu x1)) 4 ((x10).toNat * 4) = some [(Value.int .u64 (y4_.1)), (Value.int .u64 (y4_.2.1)), (Value.int .u64 (y4_.2.2.1)), (Value.int .u64 (y4_.2.2.2))]) (qn_ rwf_uuuu (0, 0, 0, 0) (hr := hy4) (i := (x10).toNat) (j := 0) ((x10).toNat * 4) rfl (hy3) (by decide) rfl) <|
      yy 59 (.call (qxp_ x4 x5 x6 x7 (y4_.1) (y4_.2.1) (y4_.2.2.1) (y4_.2.2.2) (y11_0, y11_1, y11_2, y11_3) [] [(6, 0, false)])) <|
      ww (qtv_ n x4 x5 x6 x7 (y4_.1) (y4_.2.1) (y4_.2.2.1) (y4_.2.2.2) (y11_0, y11_1, y11_2, y11_3) hy11) <|
      ww (qmt_ n (rnd := rnd) x0 x1 x2 x3 y11_0 y11_1 y11_2 y11_3 (IntKind.i64.wrap y5_0) (w64 (x9 + y10_)) x10 y5_0 0 () hy12) <|
      ww (qa_ rwf_uuuu x1 24) <|
      ll 65 ⟨⟨[0, 3, 4, 5, 6, 7, 8, 10], [(0, 0, true), (1, 1, false)], 2, 0, [], false, [], [], []⟩, (qep_ x0 x1 x2 x3 y11_0 y11_1 y11_2 y11_3 (IntKind.i64.wrap y5_0) (w64 (x9 + y10_)) x10 y5_0 ()).1, (qep_ x0 x1 x2 x3 y11_0 y11_1 y11_2 y11_3 (IntKind.i64.wrap y5_0) (w64 (x9 + y10_)) x10 y5_0 ()).2⟩ <|
      ww (qmu_ n (rnd := rnd) x0 x1 x2 x3 y11_0 y11_1 y11_2 y11_3 (IntKind.i64.wrap y5_0) (w64 (x9 + y10_)) x10 y5_0 0 () hy13) <|
      ww (qa_ rwf_uuuu x1 24) <|
      ll 69 ⟨⟨[0, 3, 4, 5, 6, 7, 8, 12], [(0, 0, true), (1, 1, false)], 2, 0, [], false, [], [], []⟩, (qer_ x0 x1 x2 x3 y11_0 y11_1 y11_2 y11_3 (IntKind.i64.wrap y5_0) (w64 (x9 + y10_)) x10 y5_0 ()).1, (qer_ x0 x1 x2 x3 y11_0 y11_1 y11_2 y11_3 (IntKind.i64.wrap y5_0) (w64 (x9 + y10_)) x10 y5_0 ()).2⟩ <|
      ww (qa_ rwf_uuuu x1 24) <|
      ee) (by kernel_rfl)
  ·rw [if_neg hy6] at h
   cases h
 ·rw [if_neg hy1] at h
  obtain rfl := oI h
  exact runC2 hm ⟨[4, 6], [(0, 1, false)], 1, 0, [], false, [], [], []⟩ (zz 5 (xdF hy1) <|
   ee) (by kernel_rfl)
theorem qmv_ (n : Nat) {rnd : Option Nat} (x0 : WL rw_uuuu) (x1 : List (Int × Int × Int × Int)) (x2 : Nat) (x3 : Nat) (st : Int × Int × Int × Int × Int × Int × Int) (r : Int × Int × Int × Int × Int) (h : qhn_ n x0 x1 x2 x3 st = some r) : CG P rnd (fnN P 4) 0 (qt_ P 4 [false, true, false, true, true, true, true, true, true]) (qes_ x0 x1 x2 x3 st) (qet_ x0 x1 x2 x3 r) :=
 CG.iter (b := qt_ P 4 [false, false, true, false, true, true, true, true, true, true]) (by kernel_rfl) (body := qdg_ n x0 x1 x2 x3) (S := qes_ x0 x1 x2 x3) (X := qet_ x0 x1 x2 x3)
  (fun s s' h => qkj_ n x0 x1 x2 x3 s (.inl s') h)
  (fun s r h => qkj_ n x0 x1 x2 x3 s (.inr r) h)
  (fun r => by intro hx; cases hx) h
def qfi_ (n : Nat) : Option (Bool) :=
 (qkz_ n).bind fun _ =>
 if (((wA).l.length : Nat) : Int) > 8 then
  some true
 else
  (ql3_ n wA).bind fun t => match t with
  | (c3_0, c3_1, c3_2) =>
   (qhn_ n wA c3_0 c3_1 c3_2 (0, 0, 0, 0, (-1), 0, 0)).bind fun t => match t with
   | (c4_0, c4_1, c4_2, c4_3, c4_4) =>
    if c4_4 = 256 then
     (qh8_ n 0 0 0 0).bind fun t => match t with
     | (c6_0, c6_1, c6_2, c6_3) =>
      some ((c4_0 == c6_0) && ((c4_1 == c6_1) && ((c4_2 == c6_2) && ((c4_3 == c6_3) && true))))
    else
     none
theorem qng_ (n : Nat) (r : Bool) (h : qfi_ n = some r) : Gv P (.func 4) qim_ qlb_ (qin_  r) (qio_  r) := by
 unfold qfi_ at h
 obtain ⟨_, hc1, h⟩ := oB h
 have k0 := fun {A L l} (k : PL A L l) => yy 4 (.call ⟨0, [], (Value.bool true), Ax.h0, []⟩) <|
  ww (qo0_ n  () hc1) <|
  k
 by_cases hc2 : (((wA).l.length : Nat) : Int) > 8
 ·rw [if_pos hc2] at h
  obtain rfl := oI h
  exact runF2 hm ⟨[2], [], 0, 0, [], false, [], [], []⟩ (k0 <|
   zz 11 (xdT hc2) <|
   ee) (by kernel_rfl)
 ·rw [if_neg hc2] at h
  obtain ⟨⟨c3_0, c3_1, c3_2⟩, hc3, h⟩ := oB h
  dsimp only at h
  obtain ⟨⟨c4_0, c4_1, c4_2, c4_3, c4_4⟩, hc4, h⟩ := oB h
  dsimp only at h
  have k2 := fun {A L l} (k : PL A L l) => zz 11 (xdF hc2) <|
   yy 15 (.call (qxo_ wA (c3_0, c3_1, c3_2) [] [(0, 0, true)])) <|
   ww (qtu_ n wA (c3_0, c3_1, c3_2) hc3) <|
   ww (qa_ rwf_uuuu c3_0 24) <|
   ww (qmv_ n (rnd := none) wA c3_0 c3_1 c3_2 (0, 0, 0, 0, (-1), 0, 0) (c4_0, c4_1, c4_2, c4_3, c4_4) hc4) <|
   ww (qa_ rwf_uuuu c3_0 24) <|
   ll 28 ⟨⟨[0, 3, 4, 5, 6, 7], [(0, 0, true), (1, 1, false)], 2, 0, [], false, [], [], []⟩, (qet_ wA c3_0 c3_1 c3_2 (c4_0, c4_1, c4_2, c4_3, c4_4)).1, (qet_ wA c3_0 c3_1 c3_2 (c4_0, c4_1, c4_2, c4_3, c4_4)).2⟩ <|
   k
  by_cases hc5 : c4_4 = 256
  ·rw [if_pos hc5] at h
   obtain ⟨⟨c6_0, c6_1, c6_2, c6_3⟩, hc6, h⟩ := oB h
   dsimp only at h
   obtain rfl := oI h
   exact runF2 hm ⟨[2], [], 0, 0, [], false, [], [], []⟩ (k0 <|
    k2 <|
    zz 31 (xeT hc5) <|
    yy 35 (.call (qok_ 0 0 0 0 (c6_0, c6_1, c6_2, c6_3) [] [(1, 0, false)])) <|
    ww (qmj_ n 0 0 0 0 (c6_0, c6_1, c6_2, c6_3) hc6) <|
    ee) (by kernel_rfl)
  ·rw [if_neg hc5] at h
   cases h

end Go.Proofs.YtdjkjpmcmpihgaaDoor.clp01
